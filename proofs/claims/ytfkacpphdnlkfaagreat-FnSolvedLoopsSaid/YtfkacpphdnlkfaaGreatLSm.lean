/-
  Several texts in one: LikeI, Lrq, Lrr, Lrs, Lsv, Df3, LSlv.
-/
import Derived.Test.YtfkacpphdnlkfaaGreatRows
import Derived.Test.YtfkacpphdnlkfaaGreatI64
import Derived.Test.YtfkacpphdnlkfaaGreatCs
import Derived.WalkKit
import Derived.ProofKit
import Derived.Lib.Hide
import Derived.Deep.QuietTactic
import Derived.BigQuiet
import Derived.Test.YtfkacpphdnlkfaaGreatEnM
import Derived.Test.YtfkacpphdnlkfaaGreatLop
import Derived.Laws.ResultCell
import Derived.Deep.CutRange
import Derived.Test.YtfkacpphdnlkfaaGreatElM
import Derived.Test.YtfkacpphdnlkfaaGreatBsM
import Derived.Test.YtfkacpphdnlkfaaGreatLfm
import Derived.Test.YtfkacpphdnlkfaaGreatDyM
import Derived.OwnWalk
import Derived.Outline
import Derived.Test.YtfkacpphdnlkfaaGreatLaw
import Derived.Test.YtfkacpphdnlkfaaGreatCode
import Derived.OpenShut
import Derived.Deep.RegionHeld3
import Derived.Deep.RegionHeldLaw
import Derived.IntWalk
namespace Go.Proofs.YtfkacpphdnlkfaaGreat.mem
open Go.RowKit
set_option linter.unusedVariables false

theorem likeInts_any (w : World) (v u : Value) (n : Nat) (d : Nat → Int) (lo hi lo' hi' : Nat) (h : Cs w v n 1 (intC d) lo hi) (g : Cs w u n 1 (intC d) lo' hi') :
    Calls Tryz.prog 24 #[v, u] w fun e w' => e = .returned (.bool true) ∧ Below w.heap.size w w' := by
  obtain ⟨p, cap, rfl, _, _, hc⟩ := h
  obtain ⟨p', cap', rfl, _, _, hc'⟩ := g
  have HC := Lib.hid hc
  have HC' := Lib.hid hc'
  clear hc hc'
  have hbb : ((n : Int) != n) = false := by simp
  go_enter Tryz.func24, Tryz.ntmps24
  go_wp2_with fail
  go_loopw [5] (fun i wr => ∃ k m : Nat, i = .int .i64 k ∧ k ≤ n ∧ wr = w.drewN m) (fun i _ => n - (intOf i).toNat)
  case atStart => exact ⟨0, 0, rfl, Nat.zero_le _, rfl⟩
  case round =>
    obtain ⟨k, m, rfl, hk, hw⟩ := hrel
    have HWR := Lib.hid hw
    by_cases hlt : k < n
    · rcases HC.out with h0 | ⟨b, o, rfl, g1, g2, g3⟩
      · omega
      rcases HC'.out with h0 | ⟨b', o', rfl, g1', g2', g3'⟩
      · omega
      have c1 : wr.cell? ⟨b, o + k, none⟩ = some (.int .i64 (d k)) := by rw [hw]; exact g3.int k hlt
      have c2 : wr.cell? ⟨b', o' + k, none⟩ = some (.int .i64 (d k)) := by rw [hw]; exact g3'.int k hlt
      have hkn : (k : Int) < (n : Int) := by omega
      have hdd : (d k != d k) = false := by simp
      clear hw g3 g3'
      go_wp2_with fail
      go_quiet (fail)
      go_wp2_with fail
      go_roundw
      case rel => exact ⟨k + 1, m + nq, by go_num, hlt, by rw [HWR.out]; exact (World.drewN_drewN _ _ _)⟩
      case measure => simp [intOf]; omega
    · clear hw
      go_wp2_with fail
      go_ret
      exact ⟨rfl, by rw [HWR.out]; exact below_self _ _ _⟩

end Go.Proofs.YtfkacpphdnlkfaaGreat.mem

namespace Go.Proofs.YtfkacpphdnlkfaaGreat.mem
open Go.RowKit
set_option linter.unusedVariables false

/-- loads and stores of arrays and of flows with their network -/
theorem wpList_ldN {ops : Array Oper} {rest : List Oper} {o : Oper} {a : Act} {w : World} {Q : Exit → Act → World → Prop} (hg : o.guard = none) (x : Operand) (ho : o.op = .load 80 x) (b : Nat) (s0 s1 : Value) (z : Nat → Int) (hx : a.eval x = .pointer (some ⟨b, 0, none⟩)) (hc : w.rangeAt b 0 (nfL s0 s1 z))
    (h : wpList Tryz.prog ops Q rest (a.put o.dst (.agg (nfL s0 s1 z).toArray)) w) : wpList Tryz.prog ops Q (o :: rest) a w :=
  wpList_load_mid hg 80 x ho b 0 hx (nfL s0 s1 z) _ hc Tryz.underlying80 rfl (by rw [nfL_len]; exact nf_info) h
theorem wpList_stN {ops : Array Oper} {rest : List Oper} {o : Oper} {a : Act} {w : World} {Q : Exit → Act → World → Prop} (hg : o.guard = none) (x y : Operand) (ho : o.op = .store 80 x y) (b : Nat) (s0 s1 : Value) (z : Nat → Int) (hx : a.eval x = .pointer (some ⟨b, 0, none⟩)) (hy : a.eval y = .agg (nfL s0 s1 z).toArray) (h0 : s0.oneCell' = true) (h1 : s1.oneCell' = true) (ht : w.there b 0 42)
    (h : wpList Tryz.prog ops Q rest (a.put o.dst undef) (w.setCells b 0 (nfL s0 s1 z))) : wpList Tryz.prog ops Q (o :: rest) a w :=
  wpList_store_mid hg 80 x y ho b 0 (nfL s0 s1 z).toArray hx hy (by rw [List.size_toArray, nfL_len]; exact ht) (by rw [List.size_toArray, nfL_len]; exact nf_info) (all_oneCell_toArray (nfL_one h0 h1 z)) h
/-- an element of an array of numbers by value -/
theorem run_indexV (w : World) (t : TypeId) (len : Nat) (cs : Array Value) (k : IntKind) (i : Int) (v : Value) (hu : Tryz.prog.underlying t = some (.array len 2)) (h0 : 0 ≤ i) (h1 : i < len) (hv : cs[i.toNat]? = some v) : (Instr.index t (.agg cs) (.int k i)).run Tryz.prog w = .ok v w := by
  obtain ⟨i0, hi0, hz0, hz1, hz2⟩ := info_parts info_make_int64
  simp [Instr.index, run_underlying hu, run_underlying Tryz.underlying2, asIntOf, h0, h1, part, isAgg, sizeOf, typeInfo, hi0, hz1, hv]
theorem wpList_indexV {ops : Array Oper} {rest : List Oper} {o : Oper} {a : Act} {w : World} {Q : Exit → Act → World → Prop} (hg : o.guard = none) (t : TypeId) (len : Nat) (x y : Operand) (ho : o.op = .index t x y) (cs : Array Value) (k : IntKind) (i : Int) (v : Value) (hx : a.eval x = .agg cs) (hy : a.eval y = .int k i) (hu : Tryz.prog.underlying t = some (.array len 2)) (h0 : 0 ≤ i) (h1 : i < len) (hv : cs[i.toNat]? = some v)
    (h : wpList Tryz.prog ops Q rest (a.put o.dst v) w) : wpList Tryz.prog ops Q (o :: rest) a w := by
  refine wpList_plain hg fun K hK => ?_
  unfold Oper.wp execOp
  simp only [ho, Sem.run_bind, hx, hy, run_indexV w t len cs k i v hu h0 h1 hv, Result.andThen_ok]
  exact hK _ _ h
/-- the number of times that a move adds a cycle, as arrays -/
def mvT (m : Nat) (P : Nat → Pip) (x y : Nat → Int) (st : Int) : Int := if loA m P x y st = true then st else if loA m P x y (-st) = true then -st else 0
set_option maxRecDepth 100000 in
set_option maxHeartbeats 8000000 in
theorem moveOf_any (w : World) (p0 p1 : Option Addr) (c0 c1 : Nat) (n : Nat) (N : Nat → Nod) (m : Nat) (P : Nat → Pip) (lo hi : Nat) (h : NetAt w (.agg #[.slice p0 n c0, .slice p1 m c1]) n N m P lo hi) (hhi : hi ≤ w.heap.size) (hB : netB n N m P = true) (x : Nat → Int) (hx : ∀ k, k < 40 → -30000 ≤ x k ∧ x k ≤ 30000) (y : Nat → Int) (hy : ∀ k, k < 40 → -1 ≤ y k ∧ y k ≤ 1) (st : Int) (hst : 1 ≤ st ∧ st ≤ 32768) :
    Calls Tryz.prog 93 #[.agg (nfL (.slice p0 n c0) (.slice p1 m c1) x).toArray, .agg (arr y), .int .i64 st] w fun e w' => e = .returned (.int .i64 (mvT m P x y st)) ∧ Below w.heap.size w w' := by
  have HV := Lib.hid h
  have HX := Lib.hid hx
  have HYB := Lib.hid hy
  have HBN := Lib.hid hB
  have A0 := (Ob.newN w (.slice p0 n c0) (.slice p1 m c1) x 80).keep (Below.heap_alloc _ (.cells (arr y) 75) _ (by rw [szal]; omega))
  have A1 := Ob.newA (w.alloc (.cells (nfL (.slice p0 n c0) (.slice p1 m c1) x).toArray 80)) y 75
  simp only [szal] at A1
  have B0 := (below_new w (.cells (nfL (.slice p0 n c0) (.slice p1 m c1) x).toArray 80)).trans ((below_new _ (.cells (arr y) 75)).mono (by rw [szal]; omega))
  have hs0 : ((w.alloc (.cells (nfL (.slice p0 n c0) (.slice p1 m c1) x).toArray 80)).alloc (.cells (arr y) 75)).heap.size = w.heap.size + 2 := by simp
  have hng : IntKind.i64.wrap (-st) = -st := IntWalk.i64_in _ (by omega)
  clear h hB hx hy
  go_enter Tryz.func93, Tryz.ntmps93
  go_upto_region 1 with (fail)
  obtain ⟨w1, hw1⟩ : ∃ w1, (w.alloc (.cells (nfL (.slice p0 n c0) (.slice p1 m c1) x).toArray 80)).alloc (.cells (arr y) 75) = w1 := ⟨_, rfl⟩
  rw [hw1] at A0 A1 B0 hs0 ⊢
  clear hw1
  have HA := Lib.hid A0
  have HA1 := Lib.hid A1
  have HB := Lib.hid B0
  obtain ⟨Ly, hLy, eLy⟩ : ∃ L : List Value, arr y = List.toArray L ∧ L = arrL y := ⟨_, rfl, rfl⟩
  have nLy : Ly.length = 40 := by rw [eLy, arr_len]
  have HLy := Lib.hid hLy
  have HEy := Lib.hid eLy
  clear hLy eLy A0 A1 B0
  have hs1 := Nat.le_antisymm_iff.1 hs0
  clear hs0
  go_wp2_with fail
  go_loopw [13] (fun iv wr => ∃ k : Nat, iv = .int .i64 k ∧ k ≤ 2 ∧ (0 < k → loA m P x y st = false) ∧ (1 < k → loA m P x y (-st) = false) ∧ w1.heap.size ≤ wr.heap.size ∧ Below w1.heap.size w1 wr) (fun iv _ => 2 - (intOf iv).toNat)
  case atStart => exact ⟨0, rfl, by omega, fun h => by omega, fun h => by omega, Nat.le_refl _, Below.refl _ _⟩
  case round =>
    obtain ⟨k, rfl, hk, hf1, hf2, hsz, hb⟩ := hrel
    have HBB := Lib.hid hb
    have BW := Lib.hid (HB.out.trans (HBB.out.mono (by omega)))
    have g0 := (HA.out.below HBB.out (by omega)).nall
    have g1 : wr.rangeAt (w.heap.size + 1) 0 Ly := by rw [HEy.out]; exact (HA1.out.below HBB.out (by omega)).range
    clear hb
    rcases (by omega : k = 0 ∨ k = 1 ∨ k = 2) with rfl | rfl | rfl
    · cases ht : loA m P x y st
      · have HT := Lib.hid ht
        clear ht hf1 hf2
        go_wp2_with (first
          | (refine wpList_indexV rfl 140 2 _ _ rfl #[.int .i64 st, .int .i64 (-st)] _ _ (.int .i64 (st)) rfl rfl Tryz.underlying140 (by omega) (by omega) rfl ?_)
          | (refine wpList_ldN rfl _ rfl w.heap.size (.slice p0 n c0) (.slice p1 m c1) x rfl g0 ?_)
          | (refine wpList_ldF rfl _ rfl (w.heap.size + 1) 0 Ly rfl nLy g1 ?_)
          | (go_at_call 117; rw [← HLy.out]; refine (isImprovedBy_any wr p0 p1 c0 c1 n N m P lo hi (HV.out.below BW.out hhi) (by omega) HBN.out x HX.out y HYB.out (st) (by omega)).mono ?_; rintro e wX ⟨rfl, hbX⟩; rw [HT.out]; have zX := hbX.size))
        go_roundw
        case rel => exact ⟨1, by go_num, by omega, (fun _ => by first | exact HT.out | trivial), fun h => by omega, by omega, HBB.out.trans (hbX.mono (by omega))⟩
        case measure => simp [intOf]
      · have HT := Lib.hid ht
        have HR := Lib.hid (show mvT m P x y st = st by unfold mvT; rw [if_pos ht])
        clear ht hf1 hf2
        go_wp2_with (first
          | (refine wpList_indexV rfl 140 2 _ _ rfl #[.int .i64 st, .int .i64 (-st)] _ _ (.int .i64 (st)) rfl rfl Tryz.underlying140 (by omega) (by omega) rfl ?_)
          | (refine wpList_ldN rfl _ rfl w.heap.size (.slice p0 n c0) (.slice p1 m c1) x rfl g0 ?_)
          | (refine wpList_ldF rfl _ rfl (w.heap.size + 1) 0 Ly rfl nLy g1 ?_)
          | (go_at_call 117; rw [← HLy.out]; refine (isImprovedBy_any wr p0 p1 c0 c1 n N m P lo hi (HV.out.below BW.out hhi) (by omega) HBN.out x HX.out y HYB.out (st) (by omega)).mono ?_; rintro e wX ⟨rfl, hbX⟩; rw [HT.out]; have zX := hbX.size))
        go_ret
        exact ⟨ret_i HR.out.symm, BW.out.trans (hbX.mono (by omega))⟩
    · have hf := hf1 (by omega)
      cases ht : loA m P x y (-st)
      · have HT := Lib.hid ht
        have HT0 := Lib.hid hf
        clear ht hf1 hf2 hf
        go_wp2_with (first
          | (refine wpList_indexV rfl 140 2 _ _ rfl #[.int .i64 st, .int .i64 (-st)] _ _ (.int .i64 (-st)) rfl rfl Tryz.underlying140 (by omega) (by omega) rfl ?_)
          | (refine wpList_ldN rfl _ rfl w.heap.size (.slice p0 n c0) (.slice p1 m c1) x rfl g0 ?_)
          | (refine wpList_ldF rfl _ rfl (w.heap.size + 1) 0 Ly rfl nLy g1 ?_)
          | (go_at_call 117; rw [← HLy.out]; refine (isImprovedBy_any wr p0 p1 c0 c1 n N m P lo hi (HV.out.below BW.out hhi) (by omega) HBN.out x HX.out y HYB.out (-st) (by omega)).mono ?_; rintro e wX ⟨rfl, hbX⟩; rw [HT.out]; have zX := hbX.size))
        go_roundw
        case rel => exact ⟨2, by go_num, by omega, (fun _ => by first | exact HT0.out | trivial), (fun _ => by first | exact HT.out | trivial), by omega, HBB.out.trans (hbX.mono (by omega))⟩
        case measure => simp [intOf]
      · have HT := Lib.hid ht
        have HR := Lib.hid (show mvT m P x y st = -st by unfold mvT; rw [if_neg (by rw [hf]; simp), if_pos ht])
        clear ht hf1 hf2 hf
        go_wp2_with (first
          | (refine wpList_indexV rfl 140 2 _ _ rfl #[.int .i64 st, .int .i64 (-st)] _ _ (.int .i64 (-st)) rfl rfl Tryz.underlying140 (by omega) (by omega) rfl ?_)
          | (refine wpList_ldN rfl _ rfl w.heap.size (.slice p0 n c0) (.slice p1 m c1) x rfl g0 ?_)
          | (refine wpList_ldF rfl _ rfl (w.heap.size + 1) 0 Ly rfl nLy g1 ?_)
          | (go_at_call 117; rw [← HLy.out]; refine (isImprovedBy_any wr p0 p1 c0 c1 n N m P lo hi (HV.out.below BW.out hhi) (by omega) HBN.out x HX.out y HYB.out (-st) (by omega)).mono ?_; rintro e wX ⟨rfl, hbX⟩; rw [HT.out]; have zX := hbX.size))
        go_ret
        exact ⟨ret_i HR.out.symm, BW.out.trans (hbX.mono (by omega))⟩
    · have h1 := hf1 (by omega)
      have h2 := hf2 (by omega)
      have HR := Lib.hid (show mvT m P x y st = 0 by unfold mvT; rw [if_neg (by rw [h1]; simp), if_neg (by rw [h2]; simp)])
      clear h1 h2 hf1 hf2
      go_wp2_with fail
      go_ret
      exact ⟨ret_i HR.out.symm, BW.out⟩
end Go.Proofs.YtfkacpphdnlkfaaGreat.mem

namespace Go.Proofs.YtfkacpphdnlkfaaGreat.mem
open Go.RowKit
set_option linter.unusedVariables false

theorem results_nf2 {fn : Func} {p u : Tmp} {tmps : Array Value} {w : World} {b : Nat} {s0 s1 v : Value} {x : Nat → Int} (h : fn.results = #[.cell p 80, .tmp u]) (hp : tmps.getD p undef = .pointer (some ⟨b, 0, none⟩)) (hv : tmps.getD u undef = v) (ho : Ob w b 42 (nfc s0 s1 x)) : (results fn tmps).run Tryz.prog w = .ok (.tuple #[.agg (nfL s0 s1 x).toArray, v]) w := by
  obtain ⟨t, h1⟩ := ho.nrow
  rw [results_cell_tmp h, hp, hv]
  simp [asAddr, run_loadVar_row w b t 80 _ (0, 0) _ h1 Tryz.underlying80 rfl (by rw [List.size_toArray, nfL_len]; exact nf_info), Result.andThen]
theorem pad_cyc {n : Nat} {N : Nat → Nod} {P : Nat → Pip} {m : Nat} (hN : netB n N m P = true) {c : Nat} (hc : c < m) (x : Nat → Int) (t : Int) : (fun a => pad m x a + cyc P (fE n P m) (fD n P m) c a * t) = pad m (fun a => x a + t * cyc P (fE n P m) (fD n P m) c a) := by
  funext a
  by_cases h : a < m
  · rw [pad_at h, pad_at h, Int.mul_comm]
  · rw [cyc_off hN hc (by omega)]
    unfold pad
    rw [if_neg h, if_neg h]
    omega
theorem mvT_pad {n : Nat} {N : Nat → Nod} {P : Nat → Pip} {m : Nat} (hN : netB n N m P = true) {d : Nat → Int} {c : Nat} {st : Int} (hc : c < m) : mvT m P (pad m d) (cyc P (fE n P m) (fD n P m) c) st = mvB m P d (cyc P (fE n P m) (fD n P m) c) st := by
  unfold mvT mvB
  rw [loA_pad hN hc, loA_pad hN hc]
set_option maxRecDepth 100000 in
set_option maxHeartbeats 8000000 in
theorem relaxedFrom_any (w : World) (p0 p1 : Option Addr) (c0 c1 : Nat) (n : Nat) (N : Nat → Nod) (m : Nat) (P : Nat → Pip) (lo hi : Nat) (h : NetAt w (.agg #[.slice p0 n c0, .slice p1 m c1]) n N m P lo hi) (hhi : hi ≤ w.heap.size) (hB : netB n N m P = true) (x0 : Nat → Int) (hx : ∀ k, k < m → -30000 ≤ x0 k ∧ x0 k ≤ 30000) (st0 : Int) (hst : 1 ≤ st0 ∧ st0 ≤ 32768) :
    Calls Tryz.prog 57 #[.agg (nfL (.slice p0 n c0) (.slice p1 m c1) (pad m x0)).toArray, .int .i64 st0] w fun e w' => e = .returned (.tuple #[.agg (nfL (.slice p0 n c0) (.slice p1 m c1) (pad m (rlx m P (fun i => cyc P (fE n P m) (fD n P m) (chS n P m i)) (chN n P m) x0 st0).1)).toArray, .int .i64 (rlx m P (fun i => cyc P (fE n P m) (fD n P m) (chS n P m i)) (chN n P m) x0 st0).2]) ∧ Below w.heap.size w w' := by
  obtain ⟨hn1, hn24, hm40⟩ := net_sz hB
  have hcn := chN_le n P m
  have HV := Lib.hid h
  have HX0 := Lib.hid hx
  have HBN := Lib.hid hB
  have A0 := (Ob.newN w (.slice p0 n c0) (.slice p1 m c1) (pad m x0) 80).keep (Below.heap_alloc _ (.cells #[Value.slice none 0 0, Value.slice none 0 0, Value.int IntKind.i64 0, Value.int IntKind.i64 0, Value.int IntKind.i64 0, Value.int IntKind.i64 0, Value.int IntKind.i64 0, Value.int IntKind.i64 0, Value.int IntKind.i64 0, Value.int IntKind.i64 0, Value.int IntKind.i64 0, Value.int IntKind.i64 0, Value.int IntKind.i64 0, Value.int IntKind.i64 0, Value.int IntKind.i64 0, Value.int IntKind.i64 0, Value.int IntKind.i64 0, Value.int IntKind.i64 0, Value.int IntKind.i64 0, Value.int IntKind.i64 0, Value.int IntKind.i64 0, Value.int IntKind.i64 0, Value.int IntKind.i64 0, Value.int IntKind.i64 0, Value.int IntKind.i64 0, Value.int IntKind.i64 0, Value.int IntKind.i64 0, Value.int IntKind.i64 0, Value.int IntKind.i64 0, Value.int IntKind.i64 0, Value.int IntKind.i64 0, Value.int IntKind.i64 0, Value.int IntKind.i64 0, Value.int IntKind.i64 0, Value.int IntKind.i64 0, Value.int IntKind.i64 0, Value.int IntKind.i64 0, Value.int IntKind.i64 0, Value.int IntKind.i64 0, Value.int IntKind.i64 0, Value.int IntKind.i64 0, Value.int IntKind.i64 0] 80) _ (by rw [szal]; omega))
  have A1 := Ob.newZ (w.alloc (.cells (nfL (.slice p0 n c0) (.slice p1 m c1) (pad m x0)).toArray 80)) 80
  simp only [szal] at A1
  have B0 := (below_new w (.cells (nfL (.slice p0 n c0) (.slice p1 m c1) (pad m x0)).toArray 80)).trans ((below_new _ (.cells #[Value.slice none 0 0, Value.slice none 0 0, Value.int IntKind.i64 0, Value.int IntKind.i64 0, Value.int IntKind.i64 0, Value.int IntKind.i64 0, Value.int IntKind.i64 0, Value.int IntKind.i64 0, Value.int IntKind.i64 0, Value.int IntKind.i64 0, Value.int IntKind.i64 0, Value.int IntKind.i64 0, Value.int IntKind.i64 0, Value.int IntKind.i64 0, Value.int IntKind.i64 0, Value.int IntKind.i64 0, Value.int IntKind.i64 0, Value.int IntKind.i64 0, Value.int IntKind.i64 0, Value.int IntKind.i64 0, Value.int IntKind.i64 0, Value.int IntKind.i64 0, Value.int IntKind.i64 0, Value.int IntKind.i64 0, Value.int IntKind.i64 0, Value.int IntKind.i64 0, Value.int IntKind.i64 0, Value.int IntKind.i64 0, Value.int IntKind.i64 0, Value.int IntKind.i64 0, Value.int IntKind.i64 0, Value.int IntKind.i64 0, Value.int IntKind.i64 0, Value.int IntKind.i64 0, Value.int IntKind.i64 0, Value.int IntKind.i64 0, Value.int IntKind.i64 0, Value.int IntKind.i64 0, Value.int IntKind.i64 0, Value.int IntKind.i64 0, Value.int IntKind.i64 0, Value.int IntKind.i64 0] 80)).mono (by rw [szal]; omega))
  have hs0 : ((w.alloc (.cells (nfL (.slice p0 n c0) (.slice p1 m c1) (pad m x0)).toArray 80)).alloc (.cells #[Value.slice none 0 0, Value.slice none 0 0, Value.int IntKind.i64 0, Value.int IntKind.i64 0, Value.int IntKind.i64 0, Value.int IntKind.i64 0, Value.int IntKind.i64 0, Value.int IntKind.i64 0, Value.int IntKind.i64 0, Value.int IntKind.i64 0, Value.int IntKind.i64 0, Value.int IntKind.i64 0, Value.int IntKind.i64 0, Value.int IntKind.i64 0, Value.int IntKind.i64 0, Value.int IntKind.i64 0, Value.int IntKind.i64 0, Value.int IntKind.i64 0, Value.int IntKind.i64 0, Value.int IntKind.i64 0, Value.int IntKind.i64 0, Value.int IntKind.i64 0, Value.int IntKind.i64 0, Value.int IntKind.i64 0, Value.int IntKind.i64 0, Value.int IntKind.i64 0, Value.int IntKind.i64 0, Value.int IntKind.i64 0, Value.int IntKind.i64 0, Value.int IntKind.i64 0, Value.int IntKind.i64 0, Value.int IntKind.i64 0, Value.int IntKind.i64 0, Value.int IntKind.i64 0, Value.int IntKind.i64 0, Value.int IntKind.i64 0, Value.int IntKind.i64 0, Value.int IntKind.i64 0, Value.int IntKind.i64 0, Value.int IntKind.i64 0, Value.int IntKind.i64 0, Value.int IntKind.i64 0] 80)).heap.size = w.heap.size + 2 := by simp
  have e0 := A0.n0
  have e1 := A0.n1
  clear h hB hx
  go_enter Tryz.func57, Tryz.ntmps57
  go_upto_region 1 with (fail)
  obtain ⟨w1, hw1⟩ : ∃ w1, (w.alloc (.cells (nfL (.slice p0 n c0) (.slice p1 m c1) (pad m x0)).toArray 80)).alloc (.cells #[Value.slice none 0 0, Value.slice none 0 0, Value.int IntKind.i64 0, Value.int IntKind.i64 0, Value.int IntKind.i64 0, Value.int IntKind.i64 0, Value.int IntKind.i64 0, Value.int IntKind.i64 0, Value.int IntKind.i64 0, Value.int IntKind.i64 0, Value.int IntKind.i64 0, Value.int IntKind.i64 0, Value.int IntKind.i64 0, Value.int IntKind.i64 0, Value.int IntKind.i64 0, Value.int IntKind.i64 0, Value.int IntKind.i64 0, Value.int IntKind.i64 0, Value.int IntKind.i64 0, Value.int IntKind.i64 0, Value.int IntKind.i64 0, Value.int IntKind.i64 0, Value.int IntKind.i64 0, Value.int IntKind.i64 0, Value.int IntKind.i64 0, Value.int IntKind.i64 0, Value.int IntKind.i64 0, Value.int IntKind.i64 0, Value.int IntKind.i64 0, Value.int IntKind.i64 0, Value.int IntKind.i64 0, Value.int IntKind.i64 0, Value.int IntKind.i64 0, Value.int IntKind.i64 0, Value.int IntKind.i64 0, Value.int IntKind.i64 0, Value.int IntKind.i64 0, Value.int IntKind.i64 0, Value.int IntKind.i64 0, Value.int IntKind.i64 0, Value.int IntKind.i64 0, Value.int IntKind.i64 0] 80) = w1 := ⟨_, rfl⟩
  rw [hw1] at A0 A1 B0 hs0 e0 e1 ⊢
  clear hw1
  have HA := Lib.hid A0
  have HA1 := Lib.hid A1
  have HB := Lib.hid B0
  replace hs0 := Nat.le_antisymm_iff.1 hs0
  clear A0 A1 B0
  go_step3
  go_wp2_with fail
  refine (cycles_any w1 _ n N m P lo hi (HV.out.below HB.out hhi) (by omega) HBN.out).mono ?_
  rintro e w3 ⟨vc, gc, rfl, oc, hgc, b3⟩
  obtain ⟨pc, cc, rfl⟩ := ownS_shE oc
  have hs3 := b3.size
  have HB3 := Lib.hid (HB.out.trans (b3.mono (by omega)))
  have HA3 := Lib.hid (HA.out.below b3 (by omega))
  have HA4 := Lib.hid (HA1.out.below b3 (by omega))
  generalize hY : (fun i => cyc P (fE n P m) (fD n P m) (chS n P m i)) = Y at *
  have HYE := Lib.hid hY
  have HC := Lib.hid (show OwnS w3 (.slice pc (chN n P m) cc) (chN n P m) 40 (fun j => ia (Y j)) gc by rw [← hY]; exact oc)
  clear oc b3 HB HA HA1 e0 e1 hY
  have hgc2 : gc ≠ w.heap.size ∧ gc ≠ w.heap.size + 1 ∨ chN n P m = 0 := by omega
  go_wp2_with fail
  go_step3
  go_wp2_with fail
  go_loopw [1, 6] (fun sv mv wr => ∃ (f : Nat) (x : Nat → Int) (tot st : Int), sv = .int .i64 st ∧ mv = .int .i64 tot ∧ 0 ≤ st ∧ st ≤ 32768 ∧ 0 ≤ tot ∧ tot ≤ 5000 ∧ 5000 - tot + st ≤ f ∧ rlS m P Y (chN n P m) f x tot st = rlx m P Y (chN n P m) x0 st0 ∧ (∀ k, k < m → -30000 ≤ x k ∧ x k ≤ 30000) ∧ Ob wr w.heap.size 42 (nfc (.slice p0 n c0) (.slice p1 m c1) (pad m x)) ∧ Ob wr (w.heap.size + 1) 42 (nfc (.slice none 0 0) (.slice none 0 0) (fun _ => 0)) ∧ OwnS wr (.slice pc (chN n P m) cc) (chN n P m) 40 (fun j => ia (Y j)) gc ∧ w3.heap.size ≤ wr.heap.size ∧ Below w.heap.size w wr) (fun sv mv _ => (5000 - intOf mv + intOf sv).toNat)
  case atStart => exact ⟨5000 + st0.toNat, x0, 0, st0, rfl, rfl, by omega, by omega, by omega, by omega, by omega, rfl, HX0.out, HA3.out, HA4.out, HC.out, Nat.le_refl _, HB3.out⟩
  case round =>
    obtain ⟨f, x, tot, st, rfl, rfl, s0, s1, t0, t1, hf, hrl, hxr, hob, ho1, hoc, hsz, hb⟩ := hrel
    have HRL := Lib.hid hrl
    have HXR := Lib.hid hxr
    have HOB := Lib.hid hob
    have HO1 := Lib.hid ho1
    have HOC := Lib.hid hoc
    have HBB := Lib.hid hb
    clear hrl hxr hob ho1 hoc hb HA3 HA4 HC HB3
    by_cases hs1 : 0 < st
    · have hd1 : decide (0 < st) = true := decide_eq_true hs1
      obtain ⟨f', rfl⟩ : ∃ f', f = f' + 1 := ⟨f - 1, by omega⟩
      have htot := And.intro t0 t1
      go_wp2_with fail
      go_loopw [6, 20] (fun mv iv wr2 => ∃ (k : Nat) (x' : Nat → Int) (mo : Int), mv = .int .i64 (tot + mo) ∧ iv = .int .i64 k ∧ k ≤ chN n P m ∧ (x', mo) = psS m P Y x st (5000 - tot) k ∧ Ob wr2 w.heap.size 42 (nfc (.slice p0 n c0) (.slice p1 m c1) (pad m x')) ∧ Ob wr2 (w.heap.size + 1) 42 (nfc (.slice none 0 0) (.slice none 0 0) (fun _ => 0)) ∧ OwnS wr2 (.slice pc (chN n P m) cc) (chN n P m) 40 (fun j => ia (Y j)) gc ∧ w3.heap.size ≤ wr2.heap.size ∧ Below w.heap.size w wr2) (fun _ iv _ => chN n P m - (intOf iv).toNat)
      case atStart => exact ⟨0, x, 0, by rw [Int.add_zero], rfl, Nat.zero_le _, rfl, HOB.out, HO1.out, HOC.out, hsz, HBB.out⟩
      case round =>
        obtain ⟨k, x', mo, rfl, rfl, hk, hps, hob, ho1, hoc, hsz2, hb⟩ := hrel
        have HPS := Lib.hid hps
        have hcnt : 0 ≤ mo ∧ mo ≤ 5000 - tot ∧ mo ≤ k := by
          have := psS_cnt (m := m) (P := P) (Y := Y) (x := x) (step := st) (show 0 ≤ 5000 - tot by omega) k
          rw [← hps] at this
          exact this
        have HXP := Lib.hid (show ∀ a, a < m → -30000 ≤ x' a ∧ x' a ≤ 30000 from fun a ha => by
          have := psS_rng (P := P) (Y := Y) (step := st) (left := 5000 - tot) HXR.out k a ha
          rw [← hps] at this
          exact this)
        have HOB := Lib.hid hob
        have HO1 := Lib.hid ho1
        have HC := Lib.hid hoc
        have BW := Lib.hid hb
        clear hps hob ho1 hoc hb HOC HBB
        have k0 : (0 : Int) ≤ (k : Int) := Int.natCast_nonneg _
        have hir : hi ≤ wr.heap.size := by omega
        by_cases hlt : k < chN n P m
        · have k1 : (k : Int) < (chN n P m : Int) := by omega
          obtain ⟨hcm, hcp⟩ := chS_at (n := n) (P := P) (m := m) hlt
          have HCR := Lib.hid (show ∀ a, a < 40 → -1 ≤ Y k a ∧ Y k a ≤ 1 from fun a _ => by rw [← HYE.out]; exact cyc_one HBN.out hcm hcp a)
          have HPC := Lib.hid (show ∀ t, (fun a => pad m x' a + Y k a * t) = pad m (fun a => x' a + t * Y k a) from fun t => by rw [← HYE.out]; exact pad_cyc HBN.out hcm x' t)
          have HMT := Lib.hid (show mvT m P (pad m x') (Y k) st = mvB m P x' (Y k) st by rw [← HYE.out]; exact mvT_pad HBN.out hcm)
          have HP1 := Lib.hid (show mo < 5000 - tot → mvB m P x' (Y k) st ≠ 0 → psS m P Y x st (5000 - tot) (k + 1) = (fun a => x' a + mvB m P x' (Y k) st * Y k a, mo + 1) from fun h1 h2 => ps_move HPS.out h1 h2)
          have HP2 := Lib.hid (show mo < 5000 - tot → mvB m P x' (Y k) st = 0 → psS m P Y x st (5000 - tot) (k + 1) = (x', mo) from fun h1 h2 => ps_stay HPS.out h1 (by omega) h2)
          have hmv := mvB_rng (m := m) (P := P) (x := x') (y := Y k) (st := st) (by omega)
          have HVI := Lib.hid (mvB_in (P := P) (x := x') (y := Y k) (st := st) HXP.out)
          have HMX := Lib.hid (rl_break (f := f') (by omega) htot hk HPS.out)
          obtain ⟨eq5, lg5, hKc, g5⟩ := own_rng HC.out hlt
          subst eq5
          generalize hy : Y k = y at *
          clear hy
          obtain ⟨Ly, hLy, eLy⟩ : ∃ L : List Value, arr y = List.toArray L ∧ L = arrL y := ⟨_, rfl, rfl⟩
          rw [← eLy] at g5
          have nLy : Ly.length = 40 := by rw [eLy, arr_len]
          have oLy : ∀ v ∈ Ly, v.oneCell' = true := by rw [eLy]; exact arr_oneL _
          have HLy := Lib.hid hLy
          have HEy := Lib.hid eLy
          clear hLy eLy
          have tC : (wr.alloc (.cells (arr fun _ => 0) 75)).there wr.heap.size 0 40 := (Ob.newA wr _ _).there
          generalize hmq : mvB m P x' y st = t at *
          clear hmq
          go_upto_region 8 with (first
            | (refine wpList_ixF rfl _ _ rfl gc _ _ k rfl rfl hlt ?_)
            | (refine wpList_ldF rfl _ rfl gc (k * 40) Ly rfl nLy g5 ?_)
            | (refine wpList_allocF rfl rfl ?_)
            | (refine wpList_stF rfl _ _ rfl wr.heap.size Ly rfl rfl nLy oLy tC ?_))
          clear tC g5
          have C0 := (Ob.newA wr (fun _ => 0) 75).setArr y
          rw [← HEy.out] at C0
          have bC := (below_new wr (.cells (arr fun _ => 0) 75)).trans (((Only.refl wr.heap.size (wr.alloc (.cells (arr fun _ => 0) 75))).setCs Ly 0).below (Nat.le_refl _))
          have lC := C0.lt
          obtain ⟨w5, hw5⟩ : ∃ w5, (wr.alloc (.cells (arr fun _ => 0) 75)).setCells wr.heap.size 0 Ly = w5 := ⟨_, rfl⟩
          obtain ⟨bc, hbc⟩ : ∃ bc, wr.heap.size = bc := ⟨_, rfl⟩
          rw [hw5] at C0 bC lC ⊢
          have s5 := bC.size
          rw [hbc] at C0 lC ⊢
          have hbc2 := Nat.le_antisymm_iff.1 hbc
          clear hw5 hbc
          have HC5 := Lib.hid C0
          have g1 : w5.rangeAt bc 0 Ly := by rw [HEy.out]; exact (HC5.out.congr (fun k _ => by rfl)).range
          clear C0
          have HB5 := Lib.hid (BW.out.trans (bC.mono (by omega)))
          have HOB5 := Lib.hid (HOB.out.below bC (by omega))
          have HO15 := Lib.hid (HO1.out.below bC (by omega))
          have HOC5 := Lib.hid (HC.out.below bC (by omega))
          have l5 : w.heap.size + 1 < w5.heap.size := by omega
          have gne : gc ≠ w.heap.size ∧ gc ≠ w.heap.size + 1 := by omega
          have hbd : ∀ a, a < 40 → -90000 ≤ y a * t ∧ y a * t ≤ 90000 := fun a ha => by
            have := mulc (b := 32768) hmv (HCR.out a ha)
            rw [Int.mul_comm]
            omega
          have HBD := Lib.hid hbd
          have HPR := Lib.hid (show ∀ a, -30000 ≤ pad m x' a ∧ pad m x' a ≤ 30000 from fun a => pad_rng HXP.out a)
          clear bC hbd HOB HO1 HC BW
          by_cases hmx : tot + mo = 5000
          · have hb5 : (tot + mo == 5000) = true := by simpa using hmx
            have HR := Lib.hid (show rlx m P Y (chN n P m) x0 st0 = (x', 5000) by rw [← HRL.out]; exact HMX.out hmx)
            clear HP1 HP2 HMX
            have g0 := HOB5.out.nall
            have t5 := HO15.out.there
            go_wp2_with (first
              | (refine wpList_ldN rfl _ rfl w.heap.size (.slice p0 n c0) (.slice p1 m c1) (pad m x') rfl g0 ?_)
              | (refine wpList_stN rfl _ _ rfl (w.heap.size + 1) (.slice p0 n c0) (.slice p1 m c1) (pad m x') rfl rfl rfl rfl t5 ?_))
            have a6 := HO15.out.nput (.slice p0 n c0) (.slice p1 m c1) (pad m x')
            try rw [Exit.noGoto_ret]
            refine bodyPost_ret (results_nf2 rfl rfl rfl a6) rfl ⟨by (first | rw [HYE.out, HR.out] | rw [HR.out]); try rfl, HB5.out.trans (((Only.refl (w.heap.size + 1) w5).setCs (nfL (.slice p0 n c0) (.slice p1 m c1) (pad m x')) 0).below (by omega))⟩
          · have hb5 : (tot + mo == 5000) = false := by simpa using hmx
            have hml : mo < 5000 - tot := by omega
            have hw1 : IntKind.i64.wrap (tot + mo + 1) = tot + mo + 1 := IntWalk.i64_in _ (by omega)
            have g0 := HOB5.out.nall
            by_cases ht0 : t = 0
            · have hb6 : (t != 0) = false := by simpa using ht0
              have HN := Lib.hid (HP2.out hml ht0)
              clear HP1 HP2 HMX ht0
              go_wp2_with (first
                | (refine wpList_ldN rfl _ rfl w.heap.size (.slice p0 n c0) (.slice p1 m c1) (pad m x') rfl g0 ?_)
                | (refine wpList_ldF rfl _ rfl bc 0 Ly rfl nLy g1 ?_)
                | (go_at_call 93; rw [← HLy.out]; refine (moveOf_any w5 p0 p1 c0 c1 n N m P lo hi (HV.out.below HB5.out hhi) (by omega) HBN.out (pad m x') (fun a _ => HPR.out a) y HCR.out st (by omega)).mono ?_; rintro e wX ⟨rfl, hbX⟩; rw [HMT.out]; have zX := hbX.size))
              go_roundw
              case rel => exact ⟨k + 1, x', mo, rfl, by go_num, hlt, HN.out.symm, HOB5.out.below hbX (by omega), HO15.out.below hbX (by omega), HOC5.out.below hbX (Nat.le_refl _), by omega, HB5.out.trans (hbX.mono (by omega))⟩
              case measure => simp [intOf]; omega
            · have hb6 : (t != 0) = true := by simpa using ht0
              have HN := Lib.hid (HP1.out hml ht0)
              have HPC2 := Lib.hid (HPC.out t)
              clear HP1 HP2 HMX ht0 HPC
              generalize hz : (fun a => x' a + t * y a) = z at *
              clear hz
              have HKS := Lib.hid (show ∀ W : World, Below w5.heap.size w5 W → W.rangeAt w.heap.size 0 (nfL (.slice p0 n c0) (.slice p1 m c1) (pad m x')) ∧ W.rangeAt bc 0 Ly from fun W hW => ⟨range_blockN g0 (hW.block _ (by omega)), range_blockN g1 (hW.block _ lC)⟩)
              go_upto_region 12 with (first
                | (refine wpList_ldN rfl _ rfl w.heap.size (.slice p0 n c0) (.slice p1 m c1) (pad m x') rfl g0 ?_)
                | (refine wpList_ldF rfl _ rfl bc 0 Ly rfl nLy g1 ?_)
                | (refine wpList_ldN rfl _ rfl w.heap.size (.slice p0 n c0) (.slice p1 m c1) (pad m x') rfl g2 ?_)
                | (refine wpList_ldF rfl _ rfl bc 0 Ly rfl nLy g3 ?_)
                | (go_at_call 93; rw [← HLy.out]; refine (moveOf_any w5 p0 p1 c0 c1 n N m P lo hi (HV.out.below HB5.out hhi) (by omega) HBN.out (pad m x') (fun a _ => HPR.out a) y HCR.out st (by omega)).mono ?_; rintro e wX ⟨rfl, hbX⟩; rw [HMT.out]; have zX := hbX.size; have g2 := (HKS.out wX hbX).1; have g3 := (HKS.out wX hbX).2)
                | (go_at_call 94; have hpc := plusCycle_any wX (.slice p0 n c0) (.slice p1 m c1) rfl rfl (pad m x') y t (fun a ha => by have h1 := HBD.out a ha; have h2 := HPR.out a; omega) (fun a ha => by have h1 := HBD.out a ha; omega); rw [HPC2.out, HLy.out] at hpc; refine hpc.mono ?_; clear hpc; rintro e wC ⟨rfl, hbC⟩; have zC := hbC.size; have hC5 := hbX.trans (hbC.mono zX); have t5 := (HOB5.out.below hC5 (by omega)).there)
                | (refine wpList_stN rfl _ _ rfl w.heap.size (.slice p0 n c0) (.slice p1 m c1) (pad m z) rfl rfl rfl rfl t5 ?_))
              have oy := (Only.refl w.heap.size wC).setCs (nfL (.slice p0 n c0) (.slice p1 m c1) (pad m z)) 0
              have zz : wC.heap.size ≤ (wC.setCells w.heap.size 0 (nfL (.slice p0 n c0) (.slice p1 m c1) (pad m z))).heap.size := (oy.below (B := 0) (Nat.zero_le _)).size
              have q1 := Lib.hid ((HOB5.out.below hC5 (by omega)).nput (.slice p0 n c0) (.slice p1 m c1) (pad m z))
              have q2 := Lib.hid ((HO15.out.below hC5 (by omega)).only oy (by omega))
              have q3 := Lib.hid ((HOC5.out.below hC5 (Nat.le_refl _)).keep (.inr (oy.block gc gne.1)))
              have q4 := Lib.hid ((HB5.out.trans (hC5.mono (by omega))).trans (oy.below (Nat.le_refl _)))
              obtain ⟨wS, hwS⟩ : ∃ wS, wC.setCells w.heap.size 0 (nfL (.slice p0 n c0) (.slice p1 m c1) (pad m z)) = wS := ⟨_, rfl⟩
              rw [hwS] at q1 q2 q3 q4 zz ⊢
              have zS : w3.heap.size ≤ wS.heap.size := by omega
              clear hwS oy zz g2 g3 g0 g1 hbX hbC hC5 t5
              go_wp2_with fail
              go_roundw
              case rel => exact ⟨k + 1, z, mo + 1, by rw [Int.add_assoc], by go_num, hlt, HN.out.symm, q1.out, q2.out, q3.out, zS, q4.out⟩
              case measure => simp [intOf]; omega
        · have hkn : k = chN n P m := by omega
          have HRN := Lib.hid (show rlS m P Y (chN n P m) f' x' (tot + mo) (if mo = 0 then st / 2 else st) = rlx m P Y (chN n P m) x0 st0 by rw [← rl_pass (by omega) htot (by rw [← hkn]; exact HPS.out)]; exact HRL.out)
          have k1 : ¬ ((k : Int) < (chN n P m : Int)) := by omega
          clear hkn
          by_cases hm0 : mo = 0
          · subst hm0
            have hR2 := HRN.out
            rw [if_pos rfl] at hR2
            have HR2 := Lib.hid hR2
            have hb5 : (tot + 0 == tot) = true := by simp
            have hd4 : st.tdiv 2 = st / 2 := Int.tdiv_eq_ediv_of_nonneg s0
            have hq0 : 0 ≤ st / 2 ∧ st / 2 < st := by omega
            clear hR2
            go_wp2_with fail
            go_roundw
            case rel => exact ⟨f', x', tot + 0, st / 2, rfl, rfl, by omega, by omega, by omega, by omega, by omega, HR2.out, HXP.out, HOB.out, HO1.out, HC.out, hsz2, BW.out⟩
            case measure => simp [intOf]; omega
          · have hR2 := HRN.out
            rw [if_neg hm0] at hR2
            have HR2 := Lib.hid hR2
            have hb5 : (tot + mo == tot) = false := by simpa using (show ¬ tot + mo = tot by omega)
            clear hR2
            go_wp2_with fail
            go_roundw
            case rel => exact ⟨f', x', tot + mo, st, rfl, rfl, by omega, by omega, by omega, by omega, by omega, HR2.out, HXP.out, HOB.out, HO1.out, HC.out, hsz2, BW.out⟩
            case measure => simp [intOf]; omega
    · have hd1 : decide (0 < st) = false := decide_eq_false hs1
      have HR := Lib.hid (show rlx m P Y (chN n P m) x0 st0 = (x, tot) by rw [← HRL.out, rlS_stop (by omega)])
      have g0 := HOB.out.nall
      have t5 := HO1.out.there
      go_wp2_with (first
        | (refine wpList_ldN rfl _ rfl w.heap.size (.slice p0 n c0) (.slice p1 m c1) (pad m x) rfl g0 ?_)
        | (refine wpList_stN rfl _ _ rfl (w.heap.size + 1) (.slice p0 n c0) (.slice p1 m c1) (pad m x) rfl rfl rfl rfl t5 ?_))
      have a6 := HO1.out.nput (.slice p0 n c0) (.slice p1 m c1) (pad m x)
      try rw [Exit.noGoto_ret]
      refine bodyPost_ret (results_nf2 rfl rfl rfl a6) rfl ⟨by (first | rw [HYE.out, HR.out] | rw [HR.out]); try rfl, HBB.out.trans (((Only.refl (w.heap.size + 1) wr).setCs (nfL (.slice p0 n c0) (.slice p1 m c1) (pad m x)) 0).below (by omega))⟩
end Go.Proofs.YtfkacpphdnlkfaaGreat.mem

namespace Go.Proofs.YtfkacpphdnlkfaaGreat.mem
open Go.RowKit
set_option linter.unusedVariables false

def LIIPost (w : World) (cnt : Nat) (d : Nat → Int) (a c : Int) (e : Ending) (w' : World) : Prop :=
  ∃ v g, e = .returned (.tuple #[v, .int .i64 a, .int .i64 c]) ∧ OwnS w' v cnt 1 (fun i _ => .int .i64 (d i)) g ∧ w.heap.size ≤ g ∧ Below w.heap.size w w'
theorem lii_err {w w' : World} {cnt : Nat} {d : Nat → Int} {a c c' : Int} {e : Ending} (h0 : cnt = 0) (ha : a = 0) (hc : c = c') (he : e = .returned (.tuple #[.slice none 0 0, .int .i64 0, .int .i64 c])) (hb : Below w.heap.size w w') : LIIPost w cnt d a c' e w' := by
  subst h0 hc ha
  exact ⟨_, w.heap.size, he, OwnS.none_ _ _ _ _, Nat.le_refl _, hb⟩
theorem lii_ok {w w' : World} {v : Value} {cnt n g : Nat} {d : Nat → Int} {a a' c c' : Int} {e : Ending} (h0 : n = cnt) (ha : a = a') (hc : c = c') (he : e = .returned (.tuple #[v, .int .i64 a, .int .i64 c])) (h : Own w' v n d g) (hg : w.heap.size ≤ g) (hb : Below w.heap.size w w') : LIIPost w cnt d a' c' e w' := by
  subst h0 ha hc
  exact ⟨v, g, he, h.ownS, hg, hb⟩
noncomputable def rfC (n : Nat) (N : Nat → Nod) (m : Nat) (P : Nat → Pip) (K : Nat) (d : Nat → Int) (st : Int) : Int := if flC n N m P K d = 0 then (if stB st = true then 0 else 2) else flC n N m P K d
def rfR (n : Nat) (m : Nat) (P : Nat → Pip) (d : Nat → Int) (st : Int) : (Nat → Int) × Int := rlx m P (fun i => cyc P (fE n P m) (fD n P m) (chS n P m i)) (chN n P m) d st
noncomputable def rfN (n : Nat) (N : Nat → Nod) (m : Nat) (P : Nat → Pip) (K : Nat) (d : Nat → Int) (st : Int) : Nat := if rfC n N m P K d st = 0 then m else 0
noncomputable def rfM (n : Nat) (N : Nat → Nod) (m : Nat) (P : Nat → Pip) (K : Nat) (d : Nat → Int) (st : Int) : Int := if rfC n N m P K d st = 0 then (rfR n m P d st).2 else 0
theorem bits_and_i64_nat (a b : Nat) (ha : a < 4294967296) (hb : b < 4294967296) : bits .and .i64 (a : Int) (b : Int) = ((a &&& b : Nat) : Int) := by
  have hx : a &&& b < 2 ^ 32 := Nat.and_lt_two_pow _ (by omega)
  have h1 : (BitVec.ofInt 64 (a : Int)).toNat = a := by
    rw [BitVec.ofInt_natCast, BitVec.toNat_ofNat]; exact Nat.mod_eq_of_lt (by omega)
  have h2 : (BitVec.ofInt 64 (b : Int)).toNat = b := by
    rw [BitVec.ofInt_natCast, BitVec.toNat_ofNat]; exact Nat.mod_eq_of_lt (by omega)
  show IntKind.i64.wrap ((BitVec.ofInt 64 (a : Int) &&& BitVec.ofInt 64 (b : Int)).toNat : Int) = _
  rw [BitVec.toNat_and, h1, h2]
  exact IntWalk.i64_in _ (by omega)
theorem stB_no {x : Int} (h : inR x 1 32768 = false) : stB x = false := by
  cases hs : stB x
  · rfl
  · have h1 := stB_rng hs
    rw [inR_iff.2 h1] at h
    exact absurd h (by simp)
theorem isStep_any (x : Int) (w : World) : Calls Tryz.prog 55 #[.int .i64 x] w fun e w' => e = .returned (.bool (stB x)) ∧ w = w' := by
  cases hx : inR x 1 32768
  · have HS := Lib.hid (stB_no hx)
    have HX := Lib.hid hx
    clear hx
    go_enter Tryz.func55, Tryz.ntmps55
    go_wp2_with (go_at_call 91; refine (inRange_any _ _ _ _).mono ?_; rintro e w' ⟨rfl, rfl⟩; rw [HX.out])
    go_ret
    exact ⟨ret_b HS.out.symm, rfl⟩
  · obtain ⟨h0, h1⟩ := inR_iff.1 hx
    have HX := Lib.hid hx
    obtain ⟨k, rfl⟩ := Int.eq_ofNat_of_zero_le (show 0 ≤ x by omega)
    have hw : IntKind.i64.wrap ((k : Int) - 1) = (k : Int) - 1 := IntWalk.i64_in _ (by omega)
    have hb : bits .and .i64 (k : Int) ((k : Int) - 1) = ((k &&& (k - 1) : Nat) : Int) := by
      rw [show (k : Int) - 1 = ((k - 1 : Nat) : Int) by omega]
      exact bits_and_i64_nat _ _ (by omega) (by omega)
    have hp := and_p2 16 k (by omega) (by have : (2 : Nat) ^ 16 = 65536 := by decide
                                          omega)
    have hs : stB (k : Int) = p2N 16 k := by
      unfold stB
      rw [Int.toNat_natCast, decide_eq_true (show (0 : Int) < (k : Int) by omega), Bool.and_true]
    clear hx
    cases h2 : p2N 16 k
    · have HS := Lib.hid (hs.trans h2)
      have hq : (((k &&& (k - 1) : Nat) : Int) == 0) = false := by
        have : ¬ (k &&& (k - 1)) = 0 := fun e => by rw [hp.1 e] at h2; exact absurd h2 (by simp)
        simpa using this
      clear hp hs h2
      go_enter Tryz.func55, Tryz.ntmps55
      go_wp2_with (go_at_call 91; refine (inRange_any _ _ _ _).mono ?_; rintro e w' ⟨rfl, rfl⟩; rw [HX.out])
      go_ret
      exact ⟨ret_b HS.out.symm, rfl⟩
    · have HS := Lib.hid (hs.trans h2)
      have hq : (((k &&& (k - 1) : Nat) : Int) == 0) = true := by
        have := hp.2 h2
        rw [this]
        rfl
      clear hp hs h2
      go_enter Tryz.func55, Tryz.ntmps55
      go_wp2_with (go_at_call 91; refine (inRange_any _ _ _ _).mono ?_; rintro e w' ⟨rfl, rfl⟩; rw [HX.out])
      go_ret
      exact ⟨ret_b HS.out.symm, rfl⟩
theorem stB_pow {x : Int} : stB x = true ↔ ∃ j : Nat, j < 16 ∧ x = ((2 ^ j : Nat) : Int) := by
  unfold stB
  rw [Bool.and_eq_true, p2N_pow, decide_eq_true_iff]
  constructor
  · rintro ⟨⟨j, hj, e⟩, h0⟩
    exact ⟨j, hj, by omega⟩
  · rintro ⟨j, hj, e⟩
    have h1 : 0 < 2 ^ j := Nat.pow_pos (by omega)
    exact ⟨⟨j, hj, by omega⟩, by omega⟩
theorem info_nf : (Tryz.prog.info? 80).map (fun i => (i.zero, i.size, i.bytes)) = some (some (.agg (nfL (.slice none 0 0) (.slice none 0 0) fun _ => 0).toArray), 42, 368) := by kernel_rfl
theorem run_allocN (w : World) : (Instr.alloc 80 true (.tuple #[])).run Tryz.prog w = .ok (.pointer (some ⟨w.heap.size, 0, none⟩)) (w.alloc (.cells (nfL (.slice none 0 0) (.slice none 0 0) fun _ => 0).toArray 80)) := by
  obtain ⟨i0, hi0, hz0, hz1, hz2⟩ := info_parts info_nf
  simp [Instr.alloc, zeroValue, typeInfo, hi0, hz0, newVar, newRow, Value.cells]
/-- flows with their network, all zero -/
theorem wpList_allocN {ops : Array Oper} {rest : List Oper} {o : Oper} {a : Act} {w : World} {Q : Exit → Act → World → Prop} (hg : o.guard = none) (ho : o.op = .alloc 80)
    (h : wpList Tryz.prog ops Q rest (a.put o.dst (.pointer (some ⟨w.heap.size, 0, none⟩))) (w.alloc (.cells (nfL (.slice none 0 0) (.slice none 0 0) fun _ => 0).toArray 80))) : wpList Tryz.prog ops Q (o :: rest) a w := by
  refine wpList_plain hg fun K hK => ?_
  unfold Oper.wp execOp
  simp only [ho, Sem.run_bind, run_allocN, Result.andThen_ok]
  exact hK _ _ h
set_option maxRecDepth 100000 in
set_option maxHeartbeats 8000000 in
theorem relaxFlowsI_any (w : World) (v : Value) (n : Nat) (N : Nat → Nod) (m : Nat) (P : Nat → Pip) (lo hi : Nat) (h : NetAt w v n N m P lo hi) (hhi : hi ≤ w.heap.size) (hN : ∀ i, i < n → (N i).s.size ≤ 9223372036854775807) (va : Value) (K : Nat) (d : Nat → Int) (la ha : Nat) (hv : Sl w va K d la ha) (hha : ha ≤ w.heap.size) (hK9 : K ≤ 9223372036854775807)  (st : Int) :
    Calls Tryz.prog 26 #[v, va, .int .i64 st] w (LIIPost w (rfN n N m P K d st) (rfR n m P d st).1 (rfM n N m P K d st) (rfC n N m P K d st)) := by
  obtain ⟨p0, c0, p1, c1, rfl, hn9, hm9⟩ := h.parts
  have HV := Lib.hid h
  have HN := Lib.hid hN
  have HSV := Lib.hid hv
  obtain ⟨pa, ca, rfl⟩ := hv.sh
  have A0 := (boxed w (.slice p0 n c0) (.slice p1 m c1) 33).keep (Below.heap_alloc _ (.cells #[.slice pa K ca] 26) _ (by rw [szal]; omega))
  have B0 := (below_new w (.cells #[.slice p0 n c0, .slice p1 m c1] 33)).trans ((below_new _ (.cells #[.slice pa K ca] 26)).mono (by rw [szal]; omega))
  have hs0 : ((w.alloc (.cells #[.slice p0 n c0, .slice p1 m c1] 33)).alloc (.cells #[.slice pa K ca] 26)).heap.size = w.heap.size + 1 + 1 := by simp
  have y0' := cell_newV (w.alloc (.cells #[.slice p0 n c0, .slice p1 m c1] 33)) (.slice pa K ca) 26
  simp only [szal] at y0'
  clear h hN hv
  go_enter Tryz.func26, Tryz.ntmps26
  have e0' := A0.b0
  have e1' := A0.b1
  go_wp2_with fail
  refine (checkFlows_any _ _ n N m P lo hi (HV.out.below B0 hhi) (by omega) HN.out _ _ y0' (by omega) K d la ha (HSV.out.below B0 hha) (by omega) hK9).mono ?_
  rintro e w1 ⟨rfl, b1⟩
  have A1 := A0.below b1 (by omega)
  have B1 := B0.trans (b1.mono (by omega))
  have hs1 := b1.size
  have e0 := A1.b0
  have e1 := A1.b1
  have e2 : w.heap.size < w1.heap.size := by omega
  clear A0 B0 b1 e0' e1'
  by_cases hc : flC n N m P K d = 0
  · obtain ⟨hB, rfl, hf⟩ := flC_ok hc
    have hm40 := (net_sz hB).2.2
    have HB := Lib.hid hB
    have HC := Lib.hid hc
    have HF := Lib.hid (show ∀ k, k < K → -30000 ≤ d k ∧ d k ≤ 30000 from fun k hk => flQ_iff.1 (flB_iff.1 hf k hk))
    rw [hc]
    clear hc hB hf
    cases hst : stB st
    · have H4 := Lib.hid (show rfC n N K P K d st = 2 by unfold rfC; rw [if_pos HC.out, hst]; rfl)
      have H3 := Lib.hid (show rfN n N K P K d st = 0 by unfold rfN; rw [H4.out]; rfl)
      have H2 := Lib.hid (show rfM n N K P K d st = 0 by unfold rfM; rw [H4.out]; rfl)
      go_wp2_with (go_at_call 55; refine (isStep_any _ _).mono ?_; rintro e w' ⟨rfl, rfl⟩; rw [hst])
      go_ret3
      exact lii_err H3.out H2.out H4.out.symm rfl B1
    · have H4 := Lib.hid (show rfC n N K P K d st = 0 by unfold rfC; rw [if_pos HC.out, hst]; rfl)
      have H3 := Lib.hid (show rfN n N K P K d st = K by unfold rfN; rw [H4.out]; rfl)
      have H2 := Lib.hid (show rfM n N K P K d st = (rfR n K P d st).2 by unfold rfM; rw [H4.out]; rfl)
      have hsr := stB_rng hst
      have HREL := Lib.hid (fun (W : World) (hW : Below w.heap.size w W) => relaxedFrom_any W p0 p1 c0 c1 n N K P lo hi (HV.out.below hW hhi) (Nat.le_trans hhi hW.size) HB.out d HF.out st hsr)
      have hRR : rlx K P (fun i => cyc P (fE n P K) (fD n P K) (chS n P K i)) (chN n P K) d st = rfR n K P d st := rfl
      rw [hRR] at HREL
      clear hRR
      generalize hr : rfR n K P d st = r at *
      have HRE := Lib.hid hr
      clear hr
      go_upto_region 7 with (first
        | (go_at_call 55; refine (isStep_any _ _).mono ?_; rintro e w' ⟨rfl, rfl⟩; rw [hst])
        | (go_at_call 56; refine (withFlows_any _ p0 p1 c0 c1 n K _ K d la ha (HSV.out.below B1 hha) (by omega) hm40).mono ?_; rintro e wX ⟨rfl, hbX⟩; have zX := hbX.size; have BX := B1.trans (hbX.mono (by omega)))
        | (go_at_call 57; refine (HREL.out wX BX).mono ?_; rintro e wY ⟨rfl, hbY⟩; have zY := hbY.size; have BY := BX.trans (hbY.mono BX.size); have tY := (Ob.newN wY (.slice none 0 0) (.slice none 0 0) (fun _ => 0) 80).there)
        | (refine wpList_allocN rfl rfl ?_)
        | (refine wpList_stN rfl _ _ rfl wY.heap.size (.slice p0 n c0) (.slice p1 K c1) (pad K r.1) rfl rfl rfl rfl tY ?_; obtain ⟨wZ, hwZ⟩ : ∃ wZ, (wY.alloc (.cells (nfL (.slice none 0 0) (.slice none 0 0) fun _ => 0).toArray 80)).setCells wY.heap.size 0 (nfL (.slice p0 n c0) (.slice p1 K c1) (pad K r.1)) = wZ := ⟨_, rfl⟩; rw [hwZ]; have HWZ := Lib.hid hwZ; clear hwZ))
      have C0 := (Ob.newN wY (.slice none 0 0) (.slice none 0 0) (fun _ => 0) 80).nput (.slice p0 n c0) (.slice p1 K c1) (pad K r.1)
      have bZ := (below_new wY (.cells (nfL (.slice none 0 0) (.slice none 0 0) fun _ => 0).toArray 80)).trans (((Only.refl wY.heap.size (wY.alloc (.cells (nfL (.slice none 0 0) (.slice none 0 0) fun _ => 0).toArray 80))).setCs (nfL (.slice p0 n c0) (.slice p1 K c1) (pad K r.1)) 0).below (Nat.le_refl _))
      rw [HWZ.out] at C0 bZ
      clear tY
      have sZ := bZ.size
      have BZ := BY.trans (bZ.mono BY.size)
      have bYZ := (hbX.trans (hbY.mono zX)).trans (bZ.mono (by omega))
      have f0 := (A1.below bYZ (by omega)).b0
      have f1 := (A1.below bYZ (by omega)).b1
      have g2 := C0.nrange
      obtain ⟨Lx, hLx, eLx⟩ : ∃ L : List Value, arr (pad K r.1) = List.toArray L ∧ L = arrL (pad K r.1) := ⟨_, rfl, rfl⟩
      rw [← eLx] at g2
      have nLx : Lx.length = 40 := by rw [eLx, arr_len]
      have HLx := Lib.hid hLx
      obtain ⟨bq, hbq⟩ : ∃ bq, wY.heap.size = bq := ⟨_, rfl⟩
      rw [hbq] at g2 ⊢
      clear hLx eLx e0 e1 bYZ A1 B1 BX BY hbX hbY bZ hbq C0
      go_wp2_with (first
        | (refine wpList_ldF rfl _ rfl bq 2 Lx rfl nLx g2 ?_)
        | (go_at_call 58; rw [← HLx.out]; refine (listOf_any _ p0 p1 n K c0 c1 _ hm40).mono ?_; rintro e wL ⟨v5, g5, rfl, o5, hg5, hb5⟩))
      go_ret3
      exact lii_ok H3.out.symm H2.out.symm H4.out.symm rfl (o5.congr (fun k hk => by rw [HRE.out]; exact pad_at hk)) (by have := BZ.size; omega) (BZ.trans (hb5.mono BZ.size))
  · have hb1 : (flC n N m P K d != 0) = true := by simpa using hc
    have H4 := Lib.hid (show rfC n N m P K d st = flC n N m P K d by unfold rfC; rw [if_neg hc])
    have H3 := Lib.hid (show rfN n N m P K d st = 0 by unfold rfN; rw [H4.out, if_neg hc])
    have H2 := Lib.hid (show rfM n N m P K d st = 0 by unfold rfM; rw [H4.out, if_neg hc])
    clear hc
    go_wp2_with fail
    go_ret3
    exact lii_err H3.out H2.out H4.out.symm rfl B1
end Go.Proofs.YtfkacpphdnlkfaaGreat.mem

namespace Go.Proofs.YtfkacpphdnlkfaaGreat.mem
open Go.RowKit
set_option linter.unusedVariables false

theorem owns_sl1 {w : World} {v : Value} {n b : Nat} {d : Nat → Int} (h : OwnS w v n 1 (fun i _ => .int .i64 (d i)) b) : Sl w v n d 0 w.heap.size := by
  obtain ⟨p', cap, hv, h1, h2, h3⟩ := h.ex
  refine ⟨p', cap, hv, ?_⟩
  rcases h3 with h3 | ⟨h3, h4⟩
  · exact .inl h3
  · refine .inr ⟨b, 0, h3, Nat.zero_le _, h4.lt, fun k hk => ?_⟩
    have := h4.cell k 0 hk (by omega)
    simpa using this
theorem stB_max : stB 32768 = true := by decide
theorem stB_one : stB 1 = true := by decide
noncomputable def slN (n : Nat) (N : Nat → Nod) (m : Nat) (P : Nat → Pip) (K : Nat) (d : Nat → Int) : Nat := if ffC n N m P K d = 0 then m else 0
noncomputable def slM (n : Nat) (N : Nat → Nod) (m : Nat) (P : Nat → Pip) (K : Nat) (d : Nat → Int) : Int := if ffC n N m P K d = 0 then (rfR n m P (fflN n P m d) 32768).2 else 0
theorem rf_of {n : Nat} {N : Nat → Nod} {m : Nat} {P : Nat → Pip} {x : Nat → Int} {st : Int} (hB : netB n N m P = true) (hf : flB x m = true) (hs : stB st = true) : rfC n N m P m x st = 0 ∧ rfN n N m P m x st = m ∧ rfM n N m P m x st = (rfR n m P x st).2 := by
  have h0 : rfC n N m P m x st = 0 := by unfold rfC; rw [if_pos (flC_is hB hf), if_pos hs]
  exact ⟨h0, by unfold rfN; rw [if_pos h0], by unfold rfM; rw [if_pos h0]⟩
set_option maxRecDepth 100000 in
set_option maxHeartbeats 8000000 in
theorem solvedLoops_any (w : World) (v : Value) (n : Nat) (N : Nat → Nod) (m : Nat) (P : Nat → Pip) (lo hi : Nat) (h : NetAt w v n N m P lo hi) (hhi : hi ≤ w.heap.size) (hN : ∀ i, i < n → (N i).s.size ≤ 9223372036854775807) (va : Value) (K : Nat) (d : Nat → Int) (la ha : Nat) (hv : Sl w va K d la ha) (hha : ha ≤ w.heap.size) (hK9 : K ≤ 9223372036854775807) :
    Calls Tryz.prog 35 #[v, va] w (LIIPost w (slN n N m P K d) (rfR n m P (fflN n P m d) 32768).1 (slM n N m P K d) (ffC n N m P K d)) := by
  obtain ⟨p0, c0, p1, c1, rfl, hn9, hm9⟩ := h.parts
  have HV := Lib.hid h
  have HN := Lib.hid hN
  obtain ⟨pa, ca, rfl⟩ := hv.sh
  have HSV := Lib.hid hv
  have A0 := boxed w (.slice p0 n c0) (.slice p1 m c1) 33
  have B0 := below_new w (.cells #[.slice p0 n c0, .slice p1 m c1] 33)
  have hs0 : (w.alloc (.cells #[.slice p0 n c0, .slice p1 m c1] 33)).heap.size = w.heap.size + 1 := by simp
  clear h hN hv
  go_enter Tryz.func35, Tryz.ntmps35
  have e0' := A0.b0
  have e1' := A0.b1
  go_wp2_with fail
  refine (forestFlowsI_any _ _ n N m P lo hi (HV.out.below B0 hhi) (by omega) HN.out _ K d la ha (HSV.out.below B0 hha) (by omega) hK9).mono ?_
  rintro e w1 ⟨vr, gr, rfl, or, hgr, b1⟩
  have A1 := A0.below b1 (by omega)
  have B1 := B0.trans (b1.mono (by omega))
  have hs1 := b1.size
  have e0 := A1.b0
  have e1 := A1.b1
  have e2 : w.heap.size < w1.heap.size := by omega
  clear A0 B0 b1 e0' e1'
  by_cases hc : ffC n N m P K d = 0
  rotate_left 1
  · obtain ⟨p9, c9, rfl⟩ := ownS_shE or
    have hb1 : (ffC n N m P K d != 0) = true := by simpa using hc
    have H3 := Lib.hid (show slN n N m P K d = 0 by unfold slN; rw [if_neg hc])
    have H2 := Lib.hid (show slM n N m P K d = 0 by unfold slM; rw [if_neg hc])
    clear hc or
    go_wp2_with fail
    go_ret3
    exact lii_err H3.out H2.out rfl rfl B1
  · obtain ⟨hB, hKn, hfd, hev, hff⟩ := ffC_ok hc
    have h3 : slN n N m P K d = m := by unfold slN; rw [if_pos hc]
    have h2 : slM n N m P K d = (rfR n m P (fflN n P m d) 32768).2 := by unfold slM; rw [if_pos hc]
    have hfn : ffN n N m P K d = m := by unfold ffN; rw [if_pos hc]
    have HN3 := Lib.hid h3
    have HM2 := Lib.hid h2
    have HCC := Lib.hid hc
    rw [hc]
    rw [hfn] at or
    have OS := owns_sl1 or
    obtain ⟨p9, c9, rfl⟩ := ownS_shE or
    obtain ⟨q1, q2, q3⟩ := rf_of hB hff stB_max
    have hpc := relaxFlowsI_any w1 _ n N m P lo hi (HV.out.below B1 hhi) (by omega) HN.out _ m (fflN n P m d) 0 _ OS (Nat.le_refl _) (by omega) 32768
    rw [q1, q2, q3] at hpc
    generalize hr : (rfR n m P (fflN n P m d) 32768) = r at *
    have HRE := Lib.hid hr
    clear hr OS hB hff hev hfd hfn h2 h3 hc or
    go_wp2_with fail
    refine hpc.mono ?_
    rintro e w2 ⟨v2, g2, rfl, o2, hg2, b2⟩
    clear hpc
    go_wp2_with fail
    go_ret3
    rw [HN3.out, HM2.out, HCC.out, HRE.out]
    exact ⟨v2, g2, rfl, o2, by omega, B1.trans (b2.mono B1.size)⟩

set_option maxRecDepth 100000 in
set_option maxHeartbeats 8000000 in
theorem solveLoopsI_any (w : World) (v : Value) (n : Nat) (N : Nat → Nod) (m : Nat) (P : Nat → Pip) (lo hi : Nat) (h : NetAt w v n N m P lo hi) (hhi : hi ≤ w.heap.size) (hN : ∀ i, i < n → (N i).s.size ≤ 9223372036854775807) (va : Value) (K : Nat) (d : Nat → Int) (la ha : Nat) (hv : Sl w va K d la ha) (hha : ha ≤ w.heap.size) (hK9 : K ≤ 9223372036854775807) :
    Calls Tryz.prog 12 #[v, va] w (LIPost w (slN n N m P K d) (rfR n m P (fflN n P m d) 32768).1 (ffC n N m P K d)) := by
  obtain ⟨p0, c0, p1, c1, rfl, hn9, hm9⟩ := h.parts
  have HV := Lib.hid h
  have HN := Lib.hid hN
  obtain ⟨pa, ca, rfl⟩ := hv.sh
  have HSV := Lib.hid hv
  have A0 := boxed w (.slice p0 n c0) (.slice p1 m c1) 33
  have B0 := below_new w (.cells #[.slice p0 n c0, .slice p1 m c1] 33)
  have hs0 : (w.alloc (.cells #[.slice p0 n c0, .slice p1 m c1] 33)).heap.size = w.heap.size + 1 := by simp
  clear h hN hv
  go_enter Tryz.func12, Tryz.ntmps12
  have e0' := A0.b0
  have e1' := A0.b1
  go_wp2_with fail
  refine (solvedLoops_any _ _ n N m P lo hi (HV.out.below B0 hhi) (by omega) HN.out _ K d la ha (HSV.out.below B0 hha) (by omega) hK9).mono ?_
  rintro e w1 ⟨vr, gr, rfl, or, hgr, b1⟩
  have A1 := A0.below b1 (by omega)
  have B1 := B0.trans (b1.mono (by omega))
  have hs1 := b1.size
  have e0 := A1.b0
  have e1 := A1.b1
  have e2 : w.heap.size < w1.heap.size := by omega
  clear A0 B0 b1 e0' e1'
  obtain ⟨p9, c9, rfl⟩ := ownS_shE or
  go_wp2_with fail
  go_ret2
  exact ⟨_, gr, rfl, or, by omega, B1⟩

set_option maxRecDepth 100000 in
set_option maxHeartbeats 8000000 in
theorem movesNeededI_any (w : World) (v : Value) (n : Nat) (N : Nat → Nod) (m : Nat) (P : Nat → Pip) (lo hi : Nat) (h : NetAt w v n N m P lo hi) (hhi : hi ≤ w.heap.size) (hN : ∀ i, i < n → (N i).s.size ≤ 9223372036854775807) (va : Value) (K : Nat) (d : Nat → Int) (la ha : Nat) (hv : Sl w va K d la ha) (hha : ha ≤ w.heap.size) (hK9 : K ≤ 9223372036854775807) :
    Calls Tryz.prog 19 #[v, va] w (IIPost w (slM n N m P K d) (ffC n N m P K d)) := by
  obtain ⟨p0, c0, p1, c1, rfl, hn9, hm9⟩ := h.parts
  have HV := Lib.hid h
  have HN := Lib.hid hN
  obtain ⟨pa, ca, rfl⟩ := hv.sh
  have HSV := Lib.hid hv
  have A0 := boxed w (.slice p0 n c0) (.slice p1 m c1) 33
  have B0 := below_new w (.cells #[.slice p0 n c0, .slice p1 m c1] 33)
  have hs0 : (w.alloc (.cells #[.slice p0 n c0, .slice p1 m c1] 33)).heap.size = w.heap.size + 1 := by simp
  clear h hN hv
  go_enter Tryz.func19, Tryz.ntmps19
  have e0' := A0.b0
  have e1' := A0.b1
  go_wp2_with fail
  refine (solvedLoops_any _ _ n N m P lo hi (HV.out.below B0 hhi) (by omega) HN.out _ K d la ha (HSV.out.below B0 hha) (by omega) hK9).mono ?_
  rintro e w1 ⟨vr, gr, rfl, or, hgr, b1⟩
  have A1 := A0.below b1 (by omega)
  have B1 := B0.trans (b1.mono (by omega))
  have hs1 := b1.size
  have e0 := A1.b0
  have e1 := A1.b1
  have e2 : w.heap.size < w1.heap.size := by omega
  clear A0 B0 b1 e0' e1'
  obtain ⟨p9, c9, rfl⟩ := ownS_shE or
  go_wp2_with fail
  go_ret2
  exact ⟨rfl, B1⟩

set_option maxRecDepth 100000 in
set_option maxHeartbeats 8000000 in
theorem solveLoopsS_any (w : World) (v : Value) (n : Nat) (N : Nat → Nod) (m : Nat) (P : Nat → Pip) (lo hi : Nat) (h : NetAt w v n N m P lo hi) (hhi : hi ≤ w.heap.size) (hN : ∀ i, i < n → (N i).s.size ≤ 9223372036854775807) (va : Value) (K : Nat) (d : Nat → Int) (la ha : Nat) (hv : Sl w va K d la ha) (hha : ha ≤ w.heap.size) (hK9 : K ≤ 9223372036854775807) :
    Calls Tryz.prog 9 #[v, va] w (LIPost w (slN n N m P K d) (rfR n m P (fflN n P m d) 32768).1 (ffC n N m P K d)) := by
  obtain ⟨p0, c0, p1, c1, rfl, hn9, hm9⟩ := h.parts
  have HV := Lib.hid h
  have HN := Lib.hid hN
  obtain ⟨pa, ca, rfl⟩ := hv.sh
  have HSV := Lib.hid hv
  have A0 := boxed w (.slice p0 n c0) (.slice p1 m c1) 33
  have B0 := below_new w (.cells #[.slice p0 n c0, .slice p1 m c1] 33)
  have hs0 : (w.alloc (.cells #[.slice p0 n c0, .slice p1 m c1] 33)).heap.size = w.heap.size + 1 := by simp
  clear h hN hv
  go_enter Tryz.func9, Tryz.ntmps9
  have e0' := A0.b0
  have e1' := A0.b1
  go_wp2_with fail
  refine (forestFlowsS_any _ _ n N m P lo hi (HV.out.below B0 hhi) (by omega) HN.out _ K d la ha (HSV.out.below B0 hha) (by omega) hK9).mono ?_
  rintro e w1 ⟨vr, gr, rfl, or, hgr, b1⟩
  have A1 := A0.below b1 (by omega)
  have B1 := B0.trans (b1.mono (by omega))
  have hs1 := b1.size
  have e0 := A1.b0
  have e1 := A1.b1
  have e2 : w.heap.size < w1.heap.size := by omega
  clear A0 B0 b1 e0' e1'
  by_cases hc : ffC n N m P K d = 0
  rotate_left 1
  · obtain ⟨p9, c9, rfl⟩ := ownS_shE or
    have hb1 : (ffC n N m P K d != 0) = true := by simpa using hc
    have H3 := Lib.hid (show slN n N m P K d = 0 by unfold slN; rw [if_neg hc])
    have H2 := Lib.hid (show slM n N m P K d = 0 by unfold slM; rw [if_neg hc])
    clear hc or
    go_wp2_with fail
    go_ret2
    exact li_err H3.out rfl rfl B1
  · obtain ⟨hB, hKn, hfd, hev, hff⟩ := ffC_ok hc
    have h3 : slN n N m P K d = m := by unfold slN; rw [if_pos hc]
    have h2 : slM n N m P K d = (rfR n m P (fflN n P m d) 32768).2 := by unfold slM; rw [if_pos hc]
    have hfn : ffN n N m P K d = m := by unfold ffN; rw [if_pos hc]
    have HN3 := Lib.hid h3
    have HM2 := Lib.hid h2
    have HCC := Lib.hid hc
    rw [hc]
    rw [hfn] at or
    have OS := owns_sl1 or
    obtain ⟨p9, c9, rfl⟩ := ownS_shE or
    have hpc := l11Relax_any w1 _ n N m P lo hi (HV.out.below B1 hhi) (by omega) HN.out hB _ (fflN n P m d) 0 _ OS (Nat.le_refl _) (fun k hk => flQ_iff.1 (flB_iff.1 hff k hk)) 32768 (by omega)
    rw [show rlx m P (fun i => cyc P (fE n P m) (fD n P m) (chS n P m i)) (chN n P m) (fflN n P m d) 32768 = (rfR n m P (fflN n P m d) 32768) from rfl] at hpc
    generalize hr : (rfR n m P (fflN n P m d) 32768) = r at *
    have HRE := Lib.hid hr
    clear hr OS hB hff hev hfd hfn h2 h3 hc or
    go_wp2_with fail
    refine hpc.mono ?_
    rintro e w2 ⟨v2, g2, rfl, o2, hg2, b2⟩
    clear hpc
    go_wp2_with fail
    go_ret2
    rw [HN3.out, HCC.out, HRE.out]
    exact ⟨v2, g2, rfl, o2.ownS, by omega, B1.trans (b2.mono B1.size)⟩

set_option maxRecDepth 100000 in
set_option maxHeartbeats 8000000 in
theorem movesNeededS_any (w : World) (v : Value) (n : Nat) (N : Nat → Nod) (m : Nat) (P : Nat → Pip) (lo hi : Nat) (h : NetAt w v n N m P lo hi) (hhi : hi ≤ w.heap.size) (hN : ∀ i, i < n → (N i).s.size ≤ 9223372036854775807) (va : Value) (K : Nat) (d : Nat → Int) (la ha : Nat) (hv : Sl w va K d la ha) (hha : ha ≤ w.heap.size) (hK9 : K ≤ 9223372036854775807) :
    Calls Tryz.prog 18 #[v, va] w (IIPost w (slM n N m P K d) (ffC n N m P K d)) := by
  obtain ⟨p0, c0, p1, c1, rfl, hn9, hm9⟩ := h.parts
  have HV := Lib.hid h
  have HN := Lib.hid hN
  obtain ⟨pa, ca, rfl⟩ := hv.sh
  have HSV := Lib.hid hv
  have A0 := boxed w (.slice p0 n c0) (.slice p1 m c1) 33
  have B0 := below_new w (.cells #[.slice p0 n c0, .slice p1 m c1] 33)
  have hs0 : (w.alloc (.cells #[.slice p0 n c0, .slice p1 m c1] 33)).heap.size = w.heap.size + 1 := by simp
  clear h hN hv
  go_enter Tryz.func18, Tryz.ntmps18
  have e0' := A0.b0
  have e1' := A0.b1
  go_wp2_with fail
  refine (forestFlowsS_any _ _ n N m P lo hi (HV.out.below B0 hhi) (by omega) HN.out _ K d la ha (HSV.out.below B0 hha) (by omega) hK9).mono ?_
  rintro e w1 ⟨vr, gr, rfl, or, hgr, b1⟩
  have A1 := A0.below b1 (by omega)
  have B1 := B0.trans (b1.mono (by omega))
  have hs1 := b1.size
  have e0 := A1.b0
  have e1 := A1.b1
  have e2 : w.heap.size < w1.heap.size := by omega
  clear A0 B0 b1 e0' e1'
  by_cases hc : ffC n N m P K d = 0
  rotate_left 1
  · obtain ⟨p9, c9, rfl⟩ := ownS_shE or
    have hb1 : (ffC n N m P K d != 0) = true := by simpa using hc
    have H3 := Lib.hid (show slN n N m P K d = 0 by unfold slN; rw [if_neg hc])
    have H2 := Lib.hid (show slM n N m P K d = 0 by unfold slM; rw [if_neg hc])
    clear hc or
    go_wp2_with fail
    go_ret2
    exact ⟨ret_2 H2.out.symm rfl, B1⟩
  · obtain ⟨hB, hKn, hfd, hev, hff⟩ := ffC_ok hc
    have h3 : slN n N m P K d = m := by unfold slN; rw [if_pos hc]
    have h2 : slM n N m P K d = (rfR n m P (fflN n P m d) 32768).2 := by unfold slM; rw [if_pos hc]
    have hfn : ffN n N m P K d = m := by unfold ffN; rw [if_pos hc]
    have HN3 := Lib.hid h3
    have HM2 := Lib.hid h2
    have HCC := Lib.hid hc
    rw [hc]
    rw [hfn] at or
    have OS := owns_sl1 or
    obtain ⟨p9, c9, rfl⟩ := ownS_shE or
    have hpc := l11Relax_any w1 _ n N m P lo hi (HV.out.below B1 hhi) (by omega) HN.out hB _ (fflN n P m d) 0 _ OS (Nat.le_refl _) (fun k hk => flQ_iff.1 (flB_iff.1 hff k hk)) 32768 (by omega)
    rw [show rlx m P (fun i => cyc P (fE n P m) (fD n P m) (chS n P m i)) (chN n P m) (fflN n P m d) 32768 = (rfR n m P (fflN n P m d) 32768) from rfl] at hpc
    generalize hr : (rfR n m P (fflN n P m d) 32768) = r at *
    have HRE := Lib.hid hr
    clear hr OS hB hff hev hfd hfn h2 h3 hc or
    go_wp2_with fail
    refine hpc.mono ?_
    rintro e w2 ⟨v2, g2, rfl, o2, hg2, b2⟩
    clear hpc
    go_wp2_with fail
    go_ret2
    rw [HM2.out, HCC.out]
    exact ⟨rfl, B1.trans (b2.mono B1.size)⟩

theorem agreeSolveLoops (n : Nat) (N : Nat → Nod) (m : Nat) (P : Nat → Pip) (K : Nat) (d : Nat → Int) (hN : ∀ i, i < n → (N i).s.size ≤ 9223372036854775807) (_hn : n ≤ 2000000) (hm : m ≤ 2000000) (hK : K ≤ 2000000) :
    ∃ rn rd rc, rn ≤ 2000000 ∧ (∀ w v va, NetAt w v n N m P 0 w.heap.size → Sl w va K d 0 w.heap.size → Calls Tryz.prog 12 #[v, va] w (LIPost w rn rd rc)) ∧ (∀ w v va, NetAt w v n N m P 0 w.heap.size → Sl w va K d 0 w.heap.size → Calls Tryz.prog 9 #[v, va] w (LIPost w rn rd rc)) :=
  ⟨slN n N m P K d, (rfR n m P (fflN n P m d) 32768).1, ffC n N m P K d, by unfold slN; split <;> omega, fun w v va h hv => solveLoopsI_any w v n N m P 0 _ h (Nat.le_refl _) hN va K d 0 _ hv (Nat.le_refl _) (by omega), fun w v va h hv => solveLoopsS_any w v n N m P 0 _ h (Nat.le_refl _) hN va K d 0 _ hv (Nat.le_refl _) (by omega)⟩
theorem agreeMovesNeeded (n : Nat) (N : Nat → Nod) (m : Nat) (P : Nat → Pip) (K : Nat) (d : Nat → Int) (hN : ∀ i, i < n → (N i).s.size ≤ 9223372036854775807) (_hn : n ≤ 2000000) (hm : m ≤ 2000000) (hK : K ≤ 2000000) :
    ∃ ra rc, (∀ w v va, NetAt w v n N m P 0 w.heap.size → Sl w va K d 0 w.heap.size → Calls Tryz.prog 19 #[v, va] w (IIPost w ra rc)) ∧ (∀ w v va, NetAt w v n N m P 0 w.heap.size → Sl w va K d 0 w.heap.size → Calls Tryz.prog 18 #[v, va] w (IIPost w ra rc)) :=
  ⟨slM n N m P K d, ffC n N m P K d, fun w v va h hv => movesNeededI_any w v n N m P 0 _ h (Nat.le_refl _) hN va K d 0 _ hv (Nat.le_refl _) (by omega), fun w v va h hv => movesNeededS_any w v n N m P 0 _ h (Nat.le_refl _) hN va K d 0 _ hv (Nat.le_refl _) (by omega)⟩
end Go.Proofs.YtfkacpphdnlkfaaGreat.mem

namespace Go.Proofs.YtfkacpphdnlkfaaGreat.draw
open Go.RowKit
set_option linter.unusedVariables false

set_option maxRecDepth 100000 in
set_option maxHeartbeats 4000000 in
theorem drawSolveLoops (w : World) (cv : Value) (len : Nat) (hc : CodeAt w cv len w.heap.size) : Calls Tryz.prog 23 #[cv] w (NLOnly w) := by
  have HC := Lib.hid hc
  have R1 := mem.boxed w (.slice none 0 0) (.slice none 0 0) 33
  have C1 := mem.below_new w (.cells #[.slice none 0 0, .slice none 0 0] 33)
  have hsz : (w.alloc (.cells #[.slice none 0 0, .slice none 0 0] 33)).heap.size = w.heap.size + 1 := by simp
  go_enter Tryz.func23, Tryz.ntmps23
  go_wp2_with fail
  generalize hW : w.alloc (.cells #[.slice none 0 0, .slice none 0 0] 33) = Wa at *
  clear hW hc
  replace hsz := Nat.le_antisymm_iff.1 hsz
  refine (from_any Wa cv len (by have := codeAt_below HC.out C1; rcases this with h | ⟨cb, co, cap, h1, h2, h3⟩; exact .inl h; exact .inr ⟨cb, co, cap, h1, by omega, h3⟩)).mono ?_
  rintro e w1 ⟨s1, rfl, hS1, B1, z1⟩
  obtain ⟨b, hbe⟩ : ∃ b, b = Wa.heap.size := ⟨_, rfl⟩
  rw [← hbe] at hS1 z1 ⊢
  replace hbe := Nat.le_antisymm_iff.1 hbe
  replace z1 := Nat.le_antisymm_iff.1 z1
  have C2 := mem.belowNext C1 B1
  have R2 := R1.next B1
  clear B1 C1 R1
  go_wp2_with fail
  refine (six_any w1 b w.heap.size cv len 0 s1 hS1 (codeAt_below HC.out C2) (by omega)).mono ?_
  rintro e w2 ⟨v, n, m, N, P, b1, b2, vl, K, D, i2, s2, rfl, hn, hm, hK, hnm, hO, l1, l2, hL, hS2, U2⟩
  obtain ⟨p0, c0, p1, c1, rfl⟩ := hO.shape
  have C3 := C2.trans (U2.below (by omega) (by rintro x _ rfl; omega))
  have R3 := R2.keep (U2.block w.heap.size (by omega) (by omega))
  have f0 := R3.b0
  have f1 := R3.b1
  have k0 := R3.free 0
  have k1 := R3.free 1
  have hO2 := ((mem.Only.refl w.heap.size w2).setCell 0 (.slice p0 n c0)).setCell 1 (.slice p1 m c1)
  have HO := Lib.hid (hO.upd (mem.Upd.of_only hO2) (.inr (by omega)) (.inr (by omega)))
  have HB := Lib.hid (mem.below_only C3 hO2 (by omega))
  have HL := Lib.hid ((hL.only hO2 (.inl (by omega))).mono (show w.heap.size ≤ w1.heap.size by omega) (Nat.le_of_eq hO2.size))
  obtain ⟨pl, cl, rfl⟩ := sl_sh hL
  clear C2 R2 hO hS2 hS1 C3 R3 U2 hO2 hL
  go_wp2_with fail
  refine bodyPost_ret (v := .tuple #[.agg #[.slice p0 n c0, .slice p1 m c1], .slice pl K cl]) (by simp [results, Tryz.results23, go_sem, f0, f1]) rfl ⟨_, n, m, N, P, b1, b2, _, K, D, rfl, hn, hm, hK, hnm, HO.out, by omega, by omega, HL.out, HB.out⟩
end Go.Proofs.YtfkacpphdnlkfaaGreat.draw

namespace Go.Proofs.YtfkacpphdnlkfaaGreat.fnSolvedLoops
open Go.ChangeShapes Go.WideShapes Go.ChangeAt Go.RowKit Go.Proofs.YtfkacpphdnlkfaaGreat.draw Go.Proofs.YtfkacpphdnlkfaaGreat.mem
set_option linter.unusedVariables false

theorem own : ownKnob Tryz.prog.godebug = none := by kernel_rfl
theorem laidOut : laidOutB Tryz.prog = true := by kernel_rfl

theorem own_at {w : World} {p : Option Addr} {n c b : Nat} {d : Nat → Int} (h : OwnS w (.slice p n c) n 1 (fun i _ => .int .i64 (d i)) b) {k : Nat} (hk : k < n) : p = some ⟨b, 0, none⟩ ∧ b < w.heap.size ∧ w.cell? ⟨b, k, none⟩ = some (.int .i64 (d k)) := by
  obtain ⟨p', cap, hv, h1, h2, h3⟩ := h.ex
  injection hv with e1 _ e3
  subst e1
  rcases h3 with h3 | ⟨h3, h4⟩
  · omega
  · refine ⟨h3, h4.lt, ?_⟩
    have := h4.cell k 0 hk (by omega)
    simpa using this
theorem owns_sl {w : World} {v : Value} {n b : Nat} {d : Nat → Int} (h : OwnS w v n 1 (fun i _ => .int .i64 (d i)) b) : Sl w v n d 0 w.heap.size := by
  obtain ⟨p', cap, hv, h1, h2, h3⟩ := h.ex
  refine ⟨p', cap, hv, ?_⟩
  rcases h3 with h3 | ⟨h3, h4⟩
  · exact .inl h3
  · refine .inr ⟨b, 0, h3, Nat.zero_le _, h4.lt, fun k hk => ?_⟩
    have := h4.cell k 0 hk (by omega)
    simpa using this
theorem sl_at {w : World} {p : Option Addr} {n c lo hi : Nat} {d : Nat → Int} (h : Sl w (.slice p n c) n d lo hi) {k : Nat} (hk : k < n) : ∃ b o, p = some ⟨b, o, none⟩ ∧ lo ≤ b ∧ b < hi ∧ w.cell? ⟨b, o + k, none⟩ = some (.int .i64 (d k)) := by
  obtain ⟨p', cap, hv, h3⟩ := h.ex
  injection hv with e1 _ e3
  subst e1
  rcases h3 with h3 | ⟨b, o, h3, h4, h5, h6⟩
  · omega
  · exact ⟨b, o, h3, h4, h5, h6 k hk⟩
theorem slFacts (n : Nat) (N : Nat → Nod) (m : Nat) (P : Nat → Pip) (K : Nat) (d : Nat → Int) (hN : ∀ i, i < n → (N i).s.size ≤ 9223372036854775807) (hm : m ≤ 1000) (hK : K ≤ 2000000) :
    ∃ (rn : Nat) (rd : Nat → Int) (M rc : Int), rn ≤ 1000 ∧ (∀ w v va, NetAt w v n N m P 0 w.heap.size → Sl w va K d 0 w.heap.size → Calls Tryz.prog 12 #[v, va] w (LIPost w rn rd rc)) ∧ (∀ w v va, NetAt w v n N m P 0 w.heap.size → Sl w va K d 0 w.heap.size → Calls Tryz.prog 9 #[v, va] w (LIPost w rn rd rc)) ∧ (∀ w v va, NetAt w v n N m P 0 w.heap.size → Sl w va K d 0 w.heap.size → Calls Tryz.prog 19 #[v, va] w (IIPost w M rc)) ∧ (∀ w v va, NetAt w v n N m P 0 w.heap.size → Sl w va K d 0 w.heap.size → Calls Tryz.prog 18 #[v, va] w (IIPost w M rc)) ∧
      (rc = 0 → ∃ (fn : Nat) (fd' : Nat → Int), fn ≤ 1000 ∧ (∀ w v va, NetAt w v n N m P 0 w.heap.size → Sl w va K d 0 w.heap.size → Calls Tryz.prog 25 #[v, va] w (LIPost w fn fd' 0)) ∧ (∀ w v va, NetAt w v n N m P 0 w.heap.size → Sl w va fn fd' 0 w.heap.size → Calls Tryz.prog 26 #[v, va, .int .i64 32768] w (LIIPost w rn rd M 0)) ∧
        (∀ w v va vb, NetAt w v n N m P 0 w.heap.size → Sl w va rn rd 0 w.heap.size → Sl w vb K d 0 w.heap.size → Calls Tryz.prog 27 #[v, va, vb] w (BPost w true))) := by
  refine ⟨slN n N m P K d, (rfR n m P (fflN n P m d) 32768).1, slM n N m P K d, ffC n N m P K d, by unfold slN; split <;> omega, fun w v va h hv => solveLoopsI_any w v n N m P 0 _ h (Nat.le_refl _) hN va K d 0 _ hv (Nat.le_refl _) (by omega), fun w v va h hv => solveLoopsS_any w v n N m P 0 _ h (Nat.le_refl _) hN va K d 0 _ hv (Nat.le_refl _) (by omega), fun w v va h hv => movesNeededI_any w v n N m P 0 _ h (Nat.le_refl _) hN va K d 0 _ hv (Nat.le_refl _) (by omega), fun w v va h hv => movesNeededS_any w v n N m P 0 _ h (Nat.le_refl _) hN va K d 0 _ hv (Nat.le_refl _) (by omega), fun hc => ?_⟩
  obtain ⟨hB, rfl, hf, he, hff⟩ := ffC_ok hc
  have h3 : slN K N m P K d = m := by unfold slN; rw [if_pos hc]
  have h2 : slM K N m P K d = (rfR K m P (fflN K P m d) 32768).2 := by unfold slM; rw [if_pos hc]
  have hfn : ffN K N m P K d = m := by unfold ffN; rw [if_pos hc]
  obtain ⟨q1, q2, q3⟩ := rf_of hB hff stB_max
  have hfr : ∀ k, k < m → -30000 ≤ fflN K P m d k ∧ fflN K P m d k ≤ 30000 := fun k hk => flQ_iff.1 (flB_iff.1 hff k hk)
  have hrng := rlS_rng (m := m) (P := P) (Y := fun i => cyc P (fE K P m) (fD K P m) (chS K P m i)) (C := chN K P m) (5000 + (32768 : Int).toNat) (x := fflN K P m d) (tot := 0) (st := 32768) hfr
  have hdv := rlS_ind (m := m) (P := P) (Y := fun i => cyc P (fE K P m) (fD K P m) (chS K P m i)) (C := chN K P m) (fun z => ∀ u : Int, dv P z m u = dv P (fflN K P m d) m u) (fun z j t hj hz u => by
    obtain ⟨hjm, hjp⟩ := chS_at (n := K) (P := P) (m := m) hj
    have e : (fun k => z k + t * cyc P (fE K P m) (fD K P m) (chS K P m j) k) = fun k => z k + (fun b => t * cyc P (fE K P m) (fD K P m) (chS K P m j) b) k := rfl
    show dv P (fun k => z k + t * cyc P (fE K P m) (fD K P m) (chS K P m j) k) m u = _
    rw [e, dv_add, dv_mul, (fo_net hB).cyc_dv (fo_r0 hB) (fo_r2 hB) hjm (fo_r1 hB _ hjm) u, Int.mul_zero, Int.add_zero, hz u]) (5000 + (32768 : Int).toNat) (x := fflN K P m d) (tot := 0) (st := 32768) (fun u => rfl)
  have hR : rlS m P (fun i => cyc P (fE K P m) (fD K P m) (chS K P m i)) (chN K P m) (5000 + (32768 : Int).toNat) (fflN K P m d) 0 32768 = (rfR K m P (fflN K P m d) 32768) := rfl
  rw [hR] at hrng hdv
  rw [h3, h2]
  have hl : flB (rfR K m P (fflN K P m d) 32768).1 m = true := flB_iff.2 fun k hk => flQ_iff.2 (hrng k hk)
  refine ⟨m, fflN K P m d, hm, fun w v va h hv => ?_, fun w v va h hv => ?_, fun w v va vb h hv hu => ?_⟩
  · have := forestFlowsI_any w v K N m P 0 _ h (Nat.le_refl _) hN va K d 0 _ hv (Nat.le_refl _) (by omega)
    rwa [hfn, hc] at this
  · have := relaxFlowsI_any w v K N m P 0 _ h (Nat.le_refl _) hN va m (fflN K P m d) 0 _ hv (Nat.le_refl _) (by omega) 32768
    rwa [q1, q2, q3] at this
  · have := isBalancedI_any w v K N m P 0 _ h (Nat.le_refl _) hN va m _ 0 _ hv (Nat.le_refl _) (by omega) vb K d 0 _ hu (Nat.le_refl _) (by omega)
    rwa [ib_is hB hl hf (fun z hz => (hdv _).trans (fflN_bal hB he z hz))] at this
set_option maxRecDepth 100000 in
set_option maxHeartbeats 20000000 in
theorem walk (v : Value) (w : World) (hc : CodeArg w v) :
    Calls Tryz.prog 6 #[v] w fun e w' => e = .returned (.bool true) ∧ Below w.heap.size w w' := by
  obtain ⟨p, len, cap, rfl, hlen, hcode⟩ := hc
  by_cases h4 : (4096 : Int) < len
  · clear hcode
    go_enter Tryz.func6, Tryz.ntmps6
    go_wp2_with (go_at_call 22; refine (draw.big_any _ _ _ _).mono ?_; rintro e w' ⟨rfl, rfl⟩)
    go_ret
    exact ⟨rfl, Below.refl _ _⟩
  have hc := hcode (by omega)
  clear hcode
  go_enter Tryz.func6, Tryz.ntmps6
  go_wp2_with (go_at_call 22; refine (draw.big_any _ _ _ _).mono ?_; rintro e w' ⟨rfl, rfl⟩)
  refine (draw.drawSolveLoops w _ len hc).mono ?_
  rintro e w1 ⟨v, n, m, N, P, b1, b2, vl, K, D, rfl, hn, hm, hK, hnm, o1, l1, l2, hK1, C1⟩
  obtain ⟨rn, rd, M, rc, hrn, ti, ts, tj, tk, hz⟩ := slFacts n N m P K D hnm hm (by omega)
  have TI := Lib.hid ti
  have TS := Lib.hid ts
  have TJ := Lib.hid tj
  have TK := Lib.hid tk
  have HZ := Lib.hid hz
  clear ti ts tj tk hz
  clear hc
  obtain ⟨pk, ck, rfl⟩ := draw.sl_sh hK1
  have hb2 : (rc != rc) = false := by simp
  have hb3 : (M != M) = false := by simp
  have lxx := o1.lts
  obtain ⟨sx1, sx2, sx3, sx4, rfl⟩ := o1.shape
  go_wp2_with fail
  have bb := mem.below_new w1 (.cells #[.slice sx1 n sx2, .slice sx3 m sx4] 33)
  have B_x := boxed w1 (.slice sx1 n sx2) (.slice sx3 m sx4) 33
  have hs2 := bb.size
  have C2 := belowNext C1 bb
  have LK2 := hK1.next bb
  have x2 := o1.next bb
  clear bb C1 hK1 o1
  generalize hW2 : w1.alloc (Obj.cells #[.slice sx1 n sx2, .slice sx3 m sx4] 33) = w2 at *
  clear hW2
  have Bx2 := B_x
  clear B_x
  have lBx := Bx2.lt
  refine (TI.out _ _ _ x2.net LK2.zero).mono ?_
  rintro e w3 ⟨xA, gA, rfl, oA, lA, bb⟩
  have hs3 := bb.size
  have C3 := belowNext C2 bb
  have LK3 := LK2.next bb
  have x3 := x2.next bb
  have Bx3 := Bx2.next bb
  clear bb C2 LK2 x2 Bx2
  have lxA := oA.lt
  obtain ⟨sA1, sA2, rfl⟩ := oA.shape
  have qBx0 := Bx3.b0
  have qBx1 := Bx3.b1
  have qBx2 := Bx3.lt
  go_wp2_with fail
  refine (TS.out _ _ _ x3.net LK3.zero).mono ?_
  rintro e w4 ⟨xB, gB, rfl, oB, lB, bb⟩
  have hs4 := bb.size
  have C4 := belowNext C3 bb
  have LK4 := LK3.next bb
  have x4 := x3.next bb
  have Bx4 := Bx3.next bb
  have A4 := oA.next bb
  clear qBx0 qBx1 qBx2
  clear bb C3 LK3 x3 Bx3 oA
  have lxB := oB.lt
  obtain ⟨sB1, sB2, rfl⟩ := oB.shape
  have qBx0 := Bx4.b0
  have qBx1 := Bx4.b1
  have qBx2 := Bx4.lt
  go_wp2_with fail
  refine (likeInts_any _ _ _ rn rd 0 w4.heap.size 0 w4.heap.size (A4.cs (.inr rfl) (Nat.le_refl _)) (oB.cs (.inr rfl) (Nat.le_refl _))).mono ?_
  rintro e w5 ⟨rfl, bb⟩
  have hs5 := bb.size
  have C5 := belowNext C4 bb
  have LK5 := LK4.next bb
  have x5 := x4.next bb
  have Bx5 := Bx4.next bb
  have A5 := A4.next bb
  have B5 := oB.next bb
  clear qBx0 qBx1 qBx2
  clear bb C4 LK4 x4 Bx4 A4 oB
  have qBx0 := Bx5.b0
  have qBx1 := Bx5.b1
  have qBx2 := Bx5.lt
  go_wp2_with fail
  clear B5
  refine (TJ.out _ _ _ x5.net LK5.zero).mono ?_
  rintro e w6 ⟨rfl, bb⟩
  have hs6 := bb.size
  have C6 := belowNext C5 bb
  have LK6 := LK5.next bb
  have x6 := x5.next bb
  have Bx6 := Bx5.next bb
  have A6 := A5.next bb
  clear qBx0 qBx1 qBx2
  clear bb C5 LK5 x5 Bx5 A5
  have qBx0 := Bx6.b0
  have qBx1 := Bx6.b1
  have qBx2 := Bx6.lt
  go_wp2_with fail
  refine (TK.out _ _ _ x6.net LK6.zero).mono ?_
  rintro e w7 ⟨rfl, bb⟩
  have hs7 := bb.size
  have C7 := belowNext C6 bb
  have LK7 := LK6.next bb
  have x7 := x6.next bb
  have Bx7 := Bx6.next bb
  have A7 := A6.next bb
  clear qBx0 qBx1 qBx2
  clear bb C6 LK6 x6 Bx6 A6
  by_cases hrc : rc = 0
  · subst hrc
    obtain ⟨fn, fd', hfn, q1, q2, q3⟩ := HZ.out (by trivial)
    have Q1 := Lib.hid q1
    have Q2 := Lib.hid q2
    have Q3 := Lib.hid q3
    clear q1 q2 q3
    clear HZ
    have hb5 : (M == M) = true := by simp
    have qBx0 := Bx7.b0
    have qBx1 := Bx7.b1
    have qBx2 := Bx7.lt
    go_wp2_with fail
    refine (Q1.out _ _ _ x7.net LK7.zero).mono ?_
    rintro e w8 ⟨xF, gF, rfl, oF, lF, bb⟩
    have hs8 := bb.size
    have C8 := belowNext C7 bb
    have LK8 := LK7.next bb
    have x8 := x7.next bb
    have Bx8 := Bx7.next bb
    have A8 := A7.next bb
    clear qBx0 qBx1 qBx2
    clear bb C7 LK7 x7 Bx7 A7
    have lxF := oF.lt
    obtain ⟨sF1, sF2, rfl⟩ := oF.shape
    have qBx0 := Bx8.b0
    have qBx1 := Bx8.b1
    have qBx2 := Bx8.lt
    go_wp2_with fail
    refine (Q2.out _ _ _ x8.net (owns_sl oF)).mono ?_
    rintro e w9 ⟨xR, gR, rfl, oR, lR, bb⟩
    have hs9 := bb.size
    have C9 := belowNext C8 bb
    have LK9 := LK8.next bb
    have x9 := x8.next bb
    have Bx9 := Bx8.next bb
    have A9 := A8.next bb
    have F9 := oF.next bb
    clear qBx0 qBx1 qBx2
    clear bb C8 LK8 x8 Bx8 A8 oF
    have lxR := oR.lt
    obtain ⟨sR1, sR2, rfl⟩ := oR.shape
    have qBx0 := Bx9.b0
    have qBx1 := Bx9.b1
    have qBx2 := Bx9.lt
    go_wp2_with fail
    refine (likeInts_any _ _ _ rn rd 0 w9.heap.size 0 w9.heap.size (A9.cs (.inr rfl) (Nat.le_refl _)) (oR.cs (.inr rfl) (Nat.le_refl _))).mono ?_
    rintro e w10 ⟨rfl, bb⟩
    have hs10 := bb.size
    have C10 := belowNext C9 bb
    have LK10 := LK9.next bb
    have x10 := x9.next bb
    have Bx10 := Bx9.next bb
    have A10 := A9.next bb
    have F10 := F9.next bb
    have R10 := oR.next bb
    clear qBx0 qBx1 qBx2
    clear bb C9 LK9 x9 Bx9 A9 F9 oR
    have qBx0 := Bx10.b0
    have qBx1 := Bx10.b1
    have qBx2 := Bx10.lt
    go_wp2_with fail
    refine (Q3.out _ _ _ _ x10.net (owns_sl A10) LK10.zero).mono ?_
    rintro e w11 ⟨rfl, bb⟩
    have hs11 := bb.size
    have C11 := belowNext C10 bb
    have LK11 := LK10.next bb
    have x11 := x10.next bb
    have Bx11 := Bx10.next bb
    have A11 := A10.next bb
    have F11 := F10.next bb
    have R11 := R10.next bb
    clear qBx0 qBx1 qBx2
    clear bb C10 LK10 x10 Bx10 A10 F10 R10
    have qBx0 := Bx11.b0
    have qBx1 := Bx11.b1
    have qBx2 := Bx11.lt
    go_wp2_with fail
    go_ret
    exact ⟨rfl, C11⟩
  · have hxc' : (rc != 0) = true := by simpa using hrc
    have qBx0 := Bx7.b0
    have qBx1 := Bx7.b1
    have qBx2 := Bx7.lt
    go_wp2_with fail
    go_ret
    exact ⟨rfl, C7⟩

set_option maxRecDepth 100000 in
theorem lifted (os : Os) (started : os.Started) (H : Type) (enc : TypeId × Value → H) :
    ReturnsInHanded {} Tryz.checked os 6 .any (Rows.fnSolvedLoopsSpec.pre6 enc Tryz.prog Tryz.f6 Rows.fnSolvedLoopsRow.domain false) (Rows.fnSolvedLoopsSpec.post enc Tryz.prog Tryz.f6 false true false false) := by
  refine returnsInHanded_of_change (C := Tryz.checked) own started (by kernel_rfl) Tryz.func6
    (ChangeSpec.witness6 (enc := enc) (C := Tryz.checked) false ⟨#[], #[.slice none 0 0], []⟩ 8 (by kernel_rfl) (by kernel_rfl) (by kernel_rfl) (by kernel_rfl)) ?_
  intro W base args ds gs before hval0 hW hcnd _
  have hval : ∀ (j : Nat) t v, Tryz.f6.params[j]? = some t → args[j]? = some v → Value.okWide Tryz.prog W .any base t v := hval0
  have hW' := hW
  obtain ⟨p, q, hA0, hV, rfl, hfz, hnd⟩ := hW
  have hA : DataW.TrodAll enc Tryz.prog W 0 (fun _ => true) true Tryz.f6.params.toList args.toList ds p := hA0
  rw [Tryz.params6] at hA hval
  obtain ⟨v0, vs0, d0, ds0, p0, q0, hargs, rfl, rfl, h0, r0⟩ := trodAll_cons hA
  obtain ⟨rfl, rfl, rfl⟩ := trodAll_nil r0
  obtain rfl : args = #[v0] := by cases args; simp_all
  obtain ⟨rfl, rfl⟩ := trodVars_none hV
  have hc := open_code (hval 0 45 v0 rfl rfl) h0
  refine (walk v0 W hc).mono fun e W' ⟨he, hg⟩ => ?_
  subst he
  exact ⟨_, rfl, law.law_post hW' hg laidOut (by kernel_rfl) rfl rfl (by kernel_rfl) Tryz.underlying4⟩

theorem over : Rows.fnSolvedLoopsRow.holds Tryz.pinned (OpenSpec.ofChange Rows.fnSolvedLoopsSpec) :=
  OpenClaim.holds_of_wide 6 Tryz.f6 rfl rfl rfl rfl rfl rfl rfl ⟨rfl, rfl, rfl, rfl, rfl⟩ rfl rfl rfl rfl rfl (by kernel_rfl) Tryz.func6 (by kernel_rfl)
    (of_decide_eq_true (by kernel_rfl)) (by unfold Func.isWrapper; first | (rw [if_pos (by decide +kernel)]; kernel_rfl) | (rw [if_neg (by decide +kernel)]; exact ⟨rfl, rfl⟩))
    (fun os started H enc _ => lifted os started H enc)

theorem proved : Rows.FnSolvedLoopsSaid :=
  over
#print axioms proved
end Go.Proofs.YtfkacpphdnlkfaaGreat.fnSolvedLoops
