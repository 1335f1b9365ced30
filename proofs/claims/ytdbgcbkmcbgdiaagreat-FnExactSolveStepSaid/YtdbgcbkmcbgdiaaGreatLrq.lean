/-
  The program's moveOf, relaxedFrom, isStep. Conditions: as each states.
-/
import Derived.Test.YtdbgcbkmcbgdiaaGreatRows
import Derived.Test.YtdbgcbkmcbgdiaaGreatEnM
import Derived.Test.YtdbgcbkmcbgdiaaGreatLop
namespace Go.Proofs.YtdbgcbkmcbgdiaaGreat.mem
open Go.RowKit
set_option linter.unusedVariables false

/-- loads and stores of arrays and of flows with their network -/
theorem wpList_ldN {ops : Array Oper} {rest : List Oper} {o : Oper} {a : Act} {w : World} {Q : Exit → Act → World → Prop} (hg : o.guard = none) (x : Operand) (ho : o.op = .load 115 x) (b : Nat) (s0 s1 : Value) (z : Nat → Int) (hx : a.eval x = .pointer (some ⟨b, 0, none⟩)) (hc : w.rangeAt b 0 (nfL s0 s1 z))
    (h : wpList Tryz.prog ops Q rest (a.put o.dst (.agg (nfL s0 s1 z).toArray)) w) : wpList Tryz.prog ops Q (o :: rest) a w :=
  wpList_load_mid hg 115 x ho b 0 hx (nfL s0 s1 z) _ hc Tryz.underlying115 rfl (by rw [nfL_len]; exact nf_info) h
theorem wpList_stN {ops : Array Oper} {rest : List Oper} {o : Oper} {a : Act} {w : World} {Q : Exit → Act → World → Prop} (hg : o.guard = none) (x y : Operand) (ho : o.op = .store 115 x y) (b : Nat) (s0 s1 : Value) (z : Nat → Int) (hx : a.eval x = .pointer (some ⟨b, 0, none⟩)) (hy : a.eval y = .agg (nfL s0 s1 z).toArray) (h0 : s0.oneCell' = true) (h1 : s1.oneCell' = true) (ht : w.there b 0 42)
    (h : wpList Tryz.prog ops Q rest (a.put o.dst undef) (w.setCells b 0 (nfL s0 s1 z))) : wpList Tryz.prog ops Q (o :: rest) a w :=
  wpList_store_mid hg 115 x y ho b 0 (nfL s0 s1 z).toArray hx hy (by rw [List.size_toArray, nfL_len]; exact ht) (by rw [List.size_toArray, nfL_len]; exact nf_info) (all_oneCell_toArray (nfL_one h0 h1 z)) h
/-- an element of an array of numbers by value -/
theorem run_indexV (w : World) (t : TypeId) (len : Nat) (cs : Array Value) (k : IntKind) (i : Int) (v : Value) (hu : Tryz.prog.underlying t = some (.array len 2)) (h0 : 0 ≤ i) (h1 : i < len) (hv : cs[i.toNat]? = some v) : (Instr.index t (.agg cs) (.int k i)).run Tryz.prog w = .ok v w := by
  obtain ⟨i0, hi0, hz0, hz1, hz2⟩ := info_parts info_make_int64
  simp [Instr.index, run_underlying hu, run_underlying Tryz.underlying2, asIntOf, h0, h1, part, isAgg, sizeOf, typeInfo, hi0, hz1, hv]
theorem wpList_indexV {ops : Array Oper} {rest : List Oper} {o : Oper} {a : Act} {w : World} {Q : Exit → Act → World → Prop} (hg : o.guard = none) (t : TypeId) (len : Nat) (x y : Operand) (ho : o.op = .index t x y) (cs : Array Value) (k : IntKind) (i : Int) (v : Value) (hx : a.eval x = .agg cs) (hy : a.eval y = .int k i) (hu : Tryz.prog.underlying t = some (.array len 2)) (h0 : 0 ≤ i) (h1 : i < len) (hv : cs[i.toNat]? = some v)
    (h : wpList Tryz.prog ops Q rest (a.put o.dst v) w) : wpList Tryz.prog ops Q (o :: rest) a w := by
  refine wpList_plain hg fun K hK => ?_
  unfold Oper.wp execOp
  simp only [ho, Sem.run_bind, hx, hy, run_indexV w t len cs k i v hu h0 h1 hv, Result.andThen_ok]
  exact hK _ _ h
/-- the number of times that a move adds a cycle, as arrays -/
def mvT (m : Nat) (P : Nat → Pip) (x y : Nat → Int) (st : Int) : Int := if loA m P x y st = true then st else if loA m P x y (-st) = true then -st else 0
set_option maxRecDepth 100000 in
set_option maxHeartbeats 8000000 in
theorem moveOf_any (w : World) (p0 p1 : Option Addr) (c0 c1 : Nat) (n : Nat) (N : Nat → Nod) (m : Nat) (P : Nat → Pip) (lo hi : Nat) (h : NetAt w (.agg #[.slice p0 n c0, .slice p1 m c1]) n N m P lo hi) (hhi : hi ≤ w.heap.size) (hB : netB n N m P = true) (x : Nat → Int) (hx : ∀ k, k < 40 → -30000 ≤ x k ∧ x k ≤ 30000) (y : Nat → Int) (hy : ∀ k, k < 40 → -1 ≤ y k ∧ y k ≤ 1) (st : Int) (hst : 1 ≤ st ∧ st ≤ 32768) :
    Calls Tryz.prog 145 #[.agg (nfL (.slice p0 n c0) (.slice p1 m c1) x).toArray, .agg (arr y), .int .i64 st] w fun e w' => e = .returned (.int .i64 (mvT m P x y st)) ∧ Below w.heap.size w w' := by
  have HV := Lib.hid h
  have HX := Lib.hid hx
  have HYB := Lib.hid hy
  have HBN := Lib.hid hB
  have A0 := (Ob.newN w (.slice p0 n c0) (.slice p1 m c1) x 115).keep (Below.heap_alloc _ (.cells (arr y) 111) _ (by rw [szal]; omega))
  have A1 := Ob.newA (w.alloc (.cells (nfL (.slice p0 n c0) (.slice p1 m c1) x).toArray 115)) y 111
  simp only [szal] at A1
  have B0 := (below_new w (.cells (nfL (.slice p0 n c0) (.slice p1 m c1) x).toArray 115)).trans ((below_new _ (.cells (arr y) 111)).mono (by rw [szal]; omega))
  have hs0 : ((w.alloc (.cells (nfL (.slice p0 n c0) (.slice p1 m c1) x).toArray 115)).alloc (.cells (arr y) 111)).heap.size = w.heap.size + 2 := by simp
  have hng : IntKind.i64.wrap (-st) = -st := IntWalk.i64_in _ (by omega)
  clear h hB hx hy
  go_enter Tryz.func145, Tryz.ntmps145
  go_upto_region 1 with (fail)
  obtain ⟨w1, hw1⟩ : ∃ w1, (w.alloc (.cells (nfL (.slice p0 n c0) (.slice p1 m c1) x).toArray 115)).alloc (.cells (arr y) 111) = w1 := ⟨_, rfl⟩
  rw [hw1] at A0 A1 B0 hs0 ⊢
  clear hw1
  have HA := Lib.hid A0
  have HA1 := Lib.hid A1
  have HB := Lib.hid B0
  obtain ⟨Ly, hLy, eLy⟩ : ∃ L : List Value, arr y = List.toArray L ∧ L = arrL y := ⟨_, rfl, rfl⟩
  have nLy : Ly.length = 40 := by rw [eLy, arr_len]
  have HLy := Lib.hid hLy
  have HEy := Lib.hid eLy
  clear hLy eLy A0 A1 B0
  have hs1 := Nat.le_antisymm_iff.1 hs0
  clear hs0
  go_wp2_with fail
  go_loopw [13] (fun iv wr => ∃ k : Nat, iv = .int .i64 k ∧ k ≤ 2 ∧ (0 < k → loA m P x y st = false) ∧ (1 < k → loA m P x y (-st) = false) ∧ w1.heap.size ≤ wr.heap.size ∧ Below w1.heap.size w1 wr) (fun iv _ => 2 - (intOf iv).toNat)
  case atStart => exact ⟨0, rfl, by omega, fun h => by omega, fun h => by omega, Nat.le_refl _, Below.refl _ _⟩
  case round =>
    obtain ⟨k, rfl, hk, hf1, hf2, hsz, hb⟩ := hrel
    have HBB := Lib.hid hb
    have BW := Lib.hid (HB.out.trans (HBB.out.mono (by omega)))
    have g0 := (HA.out.below HBB.out (by omega)).nall
    have g1 : wr.rangeAt (w.heap.size + 1) 0 Ly := by rw [HEy.out]; exact (HA1.out.below HBB.out (by omega)).range
    clear hb
    rcases (by omega : k = 0 ∨ k = 1 ∨ k = 2) with rfl | rfl | rfl
    · cases ht : loA m P x y st
      · have HT := Lib.hid ht
        clear ht hf1 hf2
        go_wp2_with (first
          | (refine wpList_indexV rfl 166 2 _ _ rfl #[.int .i64 st, .int .i64 (-st)] _ _ (.int .i64 (st)) rfl rfl Tryz.underlying166 (by omega) (by omega) rfl ?_)
          | (refine wpList_ldN rfl _ rfl w.heap.size (.slice p0 n c0) (.slice p1 m c1) x rfl g0 ?_)
          | (refine wpList_ldF rfl _ rfl (w.heap.size + 1) 0 Ly rfl nLy g1 ?_)
          | (go_at_call 168; rw [← HLy.out]; refine (isImprovedBy_any wr p0 p1 c0 c1 n N m P lo hi (HV.out.below BW.out hhi) (by omega) HBN.out x HX.out y HYB.out (st) (by omega)).mono ?_; rintro e wX ⟨rfl, hbX⟩; rw [HT.out]; have zX := hbX.size))
        go_roundw
        case rel => exact ⟨1, by go_num, by omega, (fun _ => by first | exact HT.out | trivial), fun h => by omega, by omega, HBB.out.trans (hbX.mono (by omega))⟩
        case measure => simp [intOf]
      · have HT := Lib.hid ht
        have HR := Lib.hid (show mvT m P x y st = st by unfold mvT; rw [if_pos ht])
        clear ht hf1 hf2
        go_wp2_with (first
          | (refine wpList_indexV rfl 166 2 _ _ rfl #[.int .i64 st, .int .i64 (-st)] _ _ (.int .i64 (st)) rfl rfl Tryz.underlying166 (by omega) (by omega) rfl ?_)
          | (refine wpList_ldN rfl _ rfl w.heap.size (.slice p0 n c0) (.slice p1 m c1) x rfl g0 ?_)
          | (refine wpList_ldF rfl _ rfl (w.heap.size + 1) 0 Ly rfl nLy g1 ?_)
          | (go_at_call 168; rw [← HLy.out]; refine (isImprovedBy_any wr p0 p1 c0 c1 n N m P lo hi (HV.out.below BW.out hhi) (by omega) HBN.out x HX.out y HYB.out (st) (by omega)).mono ?_; rintro e wX ⟨rfl, hbX⟩; rw [HT.out]; have zX := hbX.size))
        go_ret
        exact ⟨ret_i HR.out.symm, BW.out.trans (hbX.mono (by omega))⟩
    · have hf := hf1 (by omega)
      cases ht : loA m P x y (-st)
      · have HT := Lib.hid ht
        have HT0 := Lib.hid hf
        clear ht hf1 hf2 hf
        go_wp2_with (first
          | (refine wpList_indexV rfl 166 2 _ _ rfl #[.int .i64 st, .int .i64 (-st)] _ _ (.int .i64 (-st)) rfl rfl Tryz.underlying166 (by omega) (by omega) rfl ?_)
          | (refine wpList_ldN rfl _ rfl w.heap.size (.slice p0 n c0) (.slice p1 m c1) x rfl g0 ?_)
          | (refine wpList_ldF rfl _ rfl (w.heap.size + 1) 0 Ly rfl nLy g1 ?_)
          | (go_at_call 168; rw [← HLy.out]; refine (isImprovedBy_any wr p0 p1 c0 c1 n N m P lo hi (HV.out.below BW.out hhi) (by omega) HBN.out x HX.out y HYB.out (-st) (by omega)).mono ?_; rintro e wX ⟨rfl, hbX⟩; rw [HT.out]; have zX := hbX.size))
        go_roundw
        case rel => exact ⟨2, by go_num, by omega, (fun _ => by first | exact HT0.out | trivial), (fun _ => by first | exact HT.out | trivial), by omega, HBB.out.trans (hbX.mono (by omega))⟩
        case measure => simp [intOf]
      · have HT := Lib.hid ht
        have HR := Lib.hid (show mvT m P x y st = -st by unfold mvT; rw [if_neg (by rw [hf]; simp), if_pos ht])
        clear ht hf1 hf2 hf
        go_wp2_with (first
          | (refine wpList_indexV rfl 166 2 _ _ rfl #[.int .i64 st, .int .i64 (-st)] _ _ (.int .i64 (-st)) rfl rfl Tryz.underlying166 (by omega) (by omega) rfl ?_)
          | (refine wpList_ldN rfl _ rfl w.heap.size (.slice p0 n c0) (.slice p1 m c1) x rfl g0 ?_)
          | (refine wpList_ldF rfl _ rfl (w.heap.size + 1) 0 Ly rfl nLy g1 ?_)
          | (go_at_call 168; rw [← HLy.out]; refine (isImprovedBy_any wr p0 p1 c0 c1 n N m P lo hi (HV.out.below BW.out hhi) (by omega) HBN.out x HX.out y HYB.out (-st) (by omega)).mono ?_; rintro e wX ⟨rfl, hbX⟩; rw [HT.out]; have zX := hbX.size))
        go_ret
        exact ⟨ret_i HR.out.symm, BW.out.trans (hbX.mono (by omega))⟩
    · have h1 := hf1 (by omega)
      have h2 := hf2 (by omega)
      have HR := Lib.hid (show mvT m P x y st = 0 by unfold mvT; rw [if_neg (by rw [h1]; simp), if_neg (by rw [h2]; simp)])
      clear h1 h2 hf1 hf2
      go_wp2_with fail
      go_ret
      exact ⟨ret_i HR.out.symm, BW.out⟩
end Go.Proofs.YtdbgcbkmcbgdiaaGreat.mem
