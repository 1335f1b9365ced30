/-
  Several texts in one: LikeI, Lrq, Lrr, Lrs, Df1, Df2, LRfl.
-/
import Derived.Test.YtfkacpphdnlkfaaRows
import Derived.Test.YtfkacpphdnlkfaaI64
import Derived.Test.YtfkacpphdnlkfaaCs
import Derived.WalkKit
import Derived.ProofKit
import Derived.Lib.Hide
import Derived.Deep.QuietTactic
import Derived.BigQuiet
import Derived.Test.YtfkacpphdnlkfaaEnM
import Derived.Test.YtfkacpphdnlkfaaLop
import Derived.Laws.ResultCell
import Derived.Deep.CutRange
import Derived.Test.YtfkacpphdnlkfaaElM
import Derived.Test.YtfkacpphdnlkfaaDyM
import Derived.Test.YtfkacpphdnlkfaaDeM
import Derived.OwnWalk
import Derived.Outline
import Derived.Deep.RegionHeld3
import Derived.Deep.Cut
import Derived.Deep.RegionWith
import Derived.IntWalk
import Derived.Test.YtfkacpphdnlkfaaLaw
import Derived.Test.YtfkacpphdnlkfaaCode
import Derived.Test.YtfkacpphdnlkfaaEsM
import Derived.OpenShut
import Derived.Deep.RegionHeldLaw
namespace Go.Proofs.Ytfkacpphdnlkfaa.mem
open Go.RowKit
set_option linter.unusedVariables false

theorem likeInts_any (w : World) (v u : Value) (n : Nat) (d : Nat → Int) (lo hi lo' hi' : Nat) (h : Cs w v n 1 (intC d) lo hi) (g : Cs w u n 1 (intC d) lo' hi') :
    Calls Try.prog 30 #[v, u] w fun e w' => e = .returned (.bool true) ∧ Below w.heap.size w w' := by
  obtain ⟨p, cap, rfl, _, _, hc⟩ := h
  obtain ⟨p', cap', rfl, _, _, hc'⟩ := g
  have HC := Lib.hid hc
  have HC' := Lib.hid hc'
  clear hc hc'
  have hbb : ((n : Int) != n) = false := by simp
  go_enter Try.func30, Try.ntmps30
  go_wp2_with fail
  go_loopw [5] (fun i wr => ∃ k m : Nat, i = .int .i64 k ∧ k ≤ n ∧ wr = w.drewN m) (fun i _ => n - (intOf i).toNat)
  case atStart => exact ⟨0, 0, rfl, Nat.zero_le _, rfl⟩
  case round =>
    obtain ⟨k, m, rfl, hk, hw⟩ := hrel
    have HWR := Lib.hid hw
    by_cases hlt : k < n
    · rcases HC.out with h0 | ⟨b, o, rfl, g1, g2, g3⟩
      · omega
      rcases HC'.out with h0 | ⟨b', o', rfl, g1', g2', g3'⟩
      · omega
      have c1 : wr.cell? ⟨b, o + k, none⟩ = some (.int .i64 (d k)) := by rw [hw]; exact g3.int k hlt
      have c2 : wr.cell? ⟨b', o' + k, none⟩ = some (.int .i64 (d k)) := by rw [hw]; exact g3'.int k hlt
      have hkn : (k : Int) < (n : Int) := by omega
      have hdd : (d k != d k) = false := by simp
      clear hw g3 g3'
      go_wp2_with fail
      go_quiet (fail)
      go_wp2_with fail
      go_roundw
      case rel => exact ⟨k + 1, m + nq, by go_num, hlt, by rw [HWR.out]; exact (World.drewN_drewN _ _ _)⟩
      case measure => simp [intOf]; omega
    · clear hw
      go_wp2_with fail
      go_ret
      exact ⟨rfl, by rw [HWR.out]; exact below_self _ _ _⟩

end Go.Proofs.Ytfkacpphdnlkfaa.mem

namespace Go.Proofs.Ytfkacpphdnlkfaa.mem
open Go.RowKit
set_option linter.unusedVariables false

/-- loads and stores of arrays and of flows with their network -/
theorem wpList_ldF {ops : Array Oper} {rest : List Oper} {o : Oper} {a : Act} {w : World} {Q : Exit → Act → World → Prop} (hg : o.guard = none) (x : Operand) (ho : o.op = .load 68 x) (b off : Nat) (L : List Value) (hx : a.eval x = .pointer (some ⟨b, off, none⟩)) (hL : L.length = 40) (hc : w.rangeAt b off L)
    (h : wpList Try.prog ops Q rest (a.put o.dst (.agg L.toArray)) w) : wpList Try.prog ops Q (o :: rest) a w :=
  wpList_load_mid hg 68 x ho b off hx L _ hc Try.underlying68 rfl (by rw [hL]; exact flow_info) h
theorem wpList_stF {ops : Array Oper} {rest : List Oper} {o : Oper} {a : Act} {w : World} {Q : Exit → Act → World → Prop} (hg : o.guard = none) (x y : Operand) (ho : o.op = .store 68 x y) (b : Nat) (L : List Value) (hx : a.eval x = .pointer (some ⟨b, 0, none⟩)) (hy : a.eval y = .agg L.toArray) (hL : L.length = 40) (h1 : ∀ v ∈ L, v.oneCell' = true) (ht : w.there b 0 40)
    (h : wpList Try.prog ops Q rest (a.put o.dst undef) (w.setCells b 0 L)) : wpList Try.prog ops Q (o :: rest) a w :=
  wpList_store_mid hg 68 x y ho b 0 L.toArray hx hy (by rw [List.size_toArray, hL]; exact ht) (by rw [List.size_toArray, hL]; exact flow_info) (all_oneCell_toArray h1) h
theorem wpList_ldN {ops : Array Oper} {rest : List Oper} {o : Oper} {a : Act} {w : World} {Q : Exit → Act → World → Prop} (hg : o.guard = none) (x : Operand) (ho : o.op = .load 70 x) (b : Nat) (s0 s1 : Value) (z : Nat → Int) (hx : a.eval x = .pointer (some ⟨b, 0, none⟩)) (hc : w.rangeAt b 0 (nfL s0 s1 z))
    (h : wpList Try.prog ops Q rest (a.put o.dst (.agg (nfL s0 s1 z).toArray)) w) : wpList Try.prog ops Q (o :: rest) a w :=
  wpList_load_mid hg 70 x ho b 0 hx (nfL s0 s1 z) _ hc Try.underlying70 rfl (by rw [nfL_len]; exact nf_info) h
theorem wpList_stN {ops : Array Oper} {rest : List Oper} {o : Oper} {a : Act} {w : World} {Q : Exit → Act → World → Prop} (hg : o.guard = none) (x y : Operand) (ho : o.op = .store 70 x y) (b : Nat) (s0 s1 : Value) (z : Nat → Int) (hx : a.eval x = .pointer (some ⟨b, 0, none⟩)) (hy : a.eval y = .agg (nfL s0 s1 z).toArray) (h0 : s0.oneCell' = true) (h1 : s1.oneCell' = true) (ht : w.there b 0 42)
    (h : wpList Try.prog ops Q rest (a.put o.dst undef) (w.setCells b 0 (nfL s0 s1 z))) : wpList Try.prog ops Q (o :: rest) a w :=
  wpList_store_mid hg 70 x y ho b 0 (nfL s0 s1 z).toArray hx hy (by rw [List.size_toArray, nfL_len]; exact ht) (by rw [List.size_toArray, nfL_len]; exact nf_info) (all_oneCell_toArray (nfL_one h0 h1 z)) h
theorem run_ixF (w : World) (g n c i : Nat) (hi : i < n) : (Instr.indexAt 117 (.slice (some ⟨g, 0, none⟩) n c) (.int .i64 (i : Nat))).run Try.prog w = .ok (.pointer (some ⟨g, i * 40, none⟩)) w := by
  obtain ⟨i0, hi0, hz0, hz1, hz2⟩ := info_parts info_flow
  have h0 : (0 : Int) ≤ (i : Int) := Int.natCast_nonneg _
  have h1 : (i : Int) < (n : Int) := by omega
  simp [Instr.indexAt, run_underlying Try.underlying117, asIntOf, sizeOf, typeInfo, hi0, hz1, Addr.add]
  rw [if_pos hi]
  by_cases e : i * 40 = 0
  · rw [if_pos e, e]
  · rw [if_neg e]
/-- the address of an element of a slice of arrays -/
theorem wpList_ixF {ops : Array Oper} {rest : List Oper} {o : Oper} {a : Act} {w : World} {Q : Exit → Act → World → Prop} (hg : o.guard = none) (x y : Operand) (ho : o.op = .indexAddr 117 x y) (g n c i : Nat) (hx : a.eval x = .slice (some ⟨g, 0, none⟩) n c) (hy : a.eval y = .int .i64 (i : Nat)) (hi : i < n)
    (h : wpList Try.prog ops Q rest (a.put o.dst (.pointer (some ⟨g, i * 40, none⟩))) w) : wpList Try.prog ops Q (o :: rest) a w := by
  refine wpList_plain hg fun K hK => ?_
  unfold Oper.wp execOp
  simp only [ho, Sem.run_bind, hx, hy, run_ixF w g n c i hi, Result.andThen_ok]
  exact hK _ _ h
theorem run_allocF (w : World) : (Instr.alloc 68 true (.tuple #[])).run Try.prog w = .ok (.pointer (some ⟨w.heap.size, 0, none⟩)) (w.alloc (.cells (arr fun _ => 0) 68)) := by
  obtain ⟨i0, hi0, hz0, hz1, hz2⟩ := info_parts info_flow
  simp [Instr.alloc, zeroValue, typeInfo, hi0, hz0, newVar, newRow, Value.cells]
/-- an array of zeros -/
theorem wpList_allocF {ops : Array Oper} {rest : List Oper} {o : Oper} {a : Act} {w : World} {Q : Exit → Act → World → Prop} (hg : o.guard = none) (ho : o.op = .alloc 68)
    (h : wpList Try.prog ops Q rest (a.put o.dst (.pointer (some ⟨w.heap.size, 0, none⟩))) (w.alloc (.cells (arr fun _ => 0) 68))) : wpList Try.prog ops Q (o :: rest) a w := by
  refine wpList_plain hg fun K hK => ?_
  unfold Oper.wp execOp
  simp only [ho, Sem.run_bind, run_allocF, Result.andThen_ok]
  exact hK _ _ h
/-- an element of an array of numbers by value -/
theorem run_indexV (w : World) (t : TypeId) (len : Nat) (cs : Array Value) (k : IntKind) (i : Int) (v : Value) (hu : Try.prog.underlying t = some (.array len 2)) (h0 : 0 ≤ i) (h1 : i < len) (hv : cs[i.toNat]? = some v) : (Instr.index t (.agg cs) (.int k i)).run Try.prog w = .ok v w := by
  obtain ⟨i0, hi0, hz0, hz1, hz2⟩ := info_parts info_make_int64
  simp [Instr.index, run_underlying hu, run_underlying Try.underlying2, asIntOf, h0, h1, part, isAgg, sizeOf, typeInfo, hi0, hz1, hv]
theorem wpList_indexV {ops : Array Oper} {rest : List Oper} {o : Oper} {a : Act} {w : World} {Q : Exit → Act → World → Prop} (hg : o.guard = none) (t : TypeId) (len : Nat) (x y : Operand) (ho : o.op = .index t x y) (cs : Array Value) (k : IntKind) (i : Int) (v : Value) (hx : a.eval x = .agg cs) (hy : a.eval y = .int k i) (hu : Try.prog.underlying t = some (.array len 2)) (h0 : 0 ≤ i) (h1 : i < len) (hv : cs[i.toNat]? = some v)
    (h : wpList Try.prog ops Q rest (a.put o.dst v) w) : wpList Try.prog ops Q (o :: rest) a w := by
  refine wpList_plain hg fun K hK => ?_
  unfold Oper.wp execOp
  simp only [ho, Sem.run_bind, hx, hy, run_indexV w t len cs k i v hu h0 h1 hv, Result.andThen_ok]
  exact hK _ _ h
/-- the number of times that a move adds a cycle, as arrays -/
def mvT (m : Nat) (P : Nat → Pip) (x y : Nat → Int) (st : Int) : Int := if loA m P x y st = true then st else if loA m P x y (-st) = true then -st else 0
set_option maxRecDepth 100000 in
set_option maxHeartbeats 8000000 in
theorem moveOf_any (w : World) (p0 p1 : Option Addr) (c0 c1 : Nat) (n : Nat) (N : Nat → Nod) (m : Nat) (P : Nat → Pip) (lo hi : Nat) (h : NetAt w (.agg #[.slice p0 n c0, .slice p1 m c1]) n N m P lo hi) (hhi : hi ≤ w.heap.size) (hB : netB n N m P = true) (x : Nat → Int) (hx : ∀ k, k < 40 → -30000 ≤ x k ∧ x k ≤ 30000) (y : Nat → Int) (hy : ∀ k, k < 40 → -1 ≤ y k ∧ y k ≤ 1) (st : Int) (hst : 1 ≤ st ∧ st ≤ 32768) :
    Calls Try.prog 91 #[.agg (nfL (.slice p0 n c0) (.slice p1 m c1) x).toArray, .agg (arr y), .int .i64 st] w fun e w' => e = .returned (.int .i64 (mvT m P x y st)) ∧ Below w.heap.size w w' := by
  have HV := Lib.hid h
  have HX := Lib.hid hx
  have HYB := Lib.hid hy
  have HBN := Lib.hid hB
  have A0 := (Ob.newN w (.slice p0 n c0) (.slice p1 m c1) x 70).keep (Below.heap_alloc _ (.cells (arr y) 68) _ (by rw [szal]; omega))
  have A1 := Ob.newA (w.alloc (.cells (nfL (.slice p0 n c0) (.slice p1 m c1) x).toArray 70)) y 68
  simp only [szal] at A1
  have B0 := (below_new w (.cells (nfL (.slice p0 n c0) (.slice p1 m c1) x).toArray 70)).trans ((below_new _ (.cells (arr y) 68)).mono (by rw [szal]; omega))
  have hs0 : ((w.alloc (.cells (nfL (.slice p0 n c0) (.slice p1 m c1) x).toArray 70)).alloc (.cells (arr y) 68)).heap.size = w.heap.size + 2 := by simp
  have hng : IntKind.i64.wrap (-st) = -st := IntWalk.i64_in _ (by omega)
  clear h hB hx hy
  go_enter Try.func91, Try.ntmps91
  go_upto_region 1 with (fail)
  obtain ⟨w1, hw1⟩ : ∃ w1, (w.alloc (.cells (nfL (.slice p0 n c0) (.slice p1 m c1) x).toArray 70)).alloc (.cells (arr y) 68) = w1 := ⟨_, rfl⟩
  rw [hw1] at A0 A1 B0 hs0 ⊢
  clear hw1
  have HA := Lib.hid A0
  have HA1 := Lib.hid A1
  have HB := Lib.hid B0
  obtain ⟨Ly, hLy, eLy⟩ : ∃ L : List Value, arr y = List.toArray L ∧ L = arrL y := ⟨_, rfl, rfl⟩
  have nLy : Ly.length = 40 := by rw [eLy, arr_len]
  have HLy := Lib.hid hLy
  have HEy := Lib.hid eLy
  clear hLy eLy A0 A1 B0
  have hs1 := Nat.le_antisymm_iff.1 hs0
  clear hs0
  go_wp2_with fail
  go_loopw [13] (fun iv wr => ∃ k : Nat, iv = .int .i64 k ∧ k ≤ 2 ∧ (0 < k → loA m P x y st = false) ∧ (1 < k → loA m P x y (-st) = false) ∧ w1.heap.size ≤ wr.heap.size ∧ Below w1.heap.size w1 wr) (fun iv _ => 2 - (intOf iv).toNat)
  case atStart => exact ⟨0, rfl, by omega, fun h => by omega, fun h => by omega, Nat.le_refl _, Below.refl _ _⟩
  case round =>
    obtain ⟨k, rfl, hk, hf1, hf2, hsz, hb⟩ := hrel
    have HBB := Lib.hid hb
    have BW := Lib.hid (HB.out.trans (HBB.out.mono (by omega)))
    have g0 := (HA.out.below HBB.out (by omega)).nall
    have g1 : wr.rangeAt (w.heap.size + 1) 0 Ly := by rw [HEy.out]; exact (HA1.out.below HBB.out (by omega)).range
    clear hb
    rcases (by omega : k = 0 ∨ k = 1 ∨ k = 2) with rfl | rfl | rfl
    · cases ht : loA m P x y st
      · have HT := Lib.hid ht
        clear ht hf1 hf2
        go_wp2_with (first
          | (refine wpList_indexV rfl 142 2 _ _ rfl #[.int .i64 st, .int .i64 (-st)] _ _ (.int .i64 (st)) rfl rfl Try.underlying142 (by omega) (by omega) rfl ?_)
          | (refine wpList_ldN rfl _ rfl w.heap.size (.slice p0 n c0) (.slice p1 m c1) x rfl g0 ?_)
          | (refine wpList_ldF rfl _ rfl (w.heap.size + 1) 0 Ly rfl nLy g1 ?_)
          | (go_at_call 115; rw [← HLy.out]; refine (isImprovedBy_any wr p0 p1 c0 c1 n N m P lo hi (HV.out.below BW.out hhi) (by omega) HBN.out x HX.out y HYB.out (st) (by omega)).mono ?_; rintro e wX ⟨rfl, hbX⟩; rw [HT.out]; have zX := hbX.size))
        go_roundw
        case rel => exact ⟨1, by go_num, by omega, (fun _ => by first | exact HT.out | trivial), fun h => by omega, by omega, HBB.out.trans (hbX.mono (by omega))⟩
        case measure => simp [intOf]
      · have HT := Lib.hid ht
        have HR := Lib.hid (show mvT m P x y st = st by unfold mvT; rw [if_pos ht])
        clear ht hf1 hf2
        go_wp2_with (first
          | (refine wpList_indexV rfl 142 2 _ _ rfl #[.int .i64 st, .int .i64 (-st)] _ _ (.int .i64 (st)) rfl rfl Try.underlying142 (by omega) (by omega) rfl ?_)
          | (refine wpList_ldN rfl _ rfl w.heap.size (.slice p0 n c0) (.slice p1 m c1) x rfl g0 ?_)
          | (refine wpList_ldF rfl _ rfl (w.heap.size + 1) 0 Ly rfl nLy g1 ?_)
          | (go_at_call 115; rw [← HLy.out]; refine (isImprovedBy_any wr p0 p1 c0 c1 n N m P lo hi (HV.out.below BW.out hhi) (by omega) HBN.out x HX.out y HYB.out (st) (by omega)).mono ?_; rintro e wX ⟨rfl, hbX⟩; rw [HT.out]; have zX := hbX.size))
        go_ret
        exact ⟨ret_i HR.out.symm, BW.out.trans (hbX.mono (by omega))⟩
    · have hf := hf1 (by omega)
      cases ht : loA m P x y (-st)
      · have HT := Lib.hid ht
        have HT0 := Lib.hid hf
        clear ht hf1 hf2 hf
        go_wp2_with (first
          | (refine wpList_indexV rfl 142 2 _ _ rfl #[.int .i64 st, .int .i64 (-st)] _ _ (.int .i64 (-st)) rfl rfl Try.underlying142 (by omega) (by omega) rfl ?_)
          | (refine wpList_ldN rfl _ rfl w.heap.size (.slice p0 n c0) (.slice p1 m c1) x rfl g0 ?_)
          | (refine wpList_ldF rfl _ rfl (w.heap.size + 1) 0 Ly rfl nLy g1 ?_)
          | (go_at_call 115; rw [← HLy.out]; refine (isImprovedBy_any wr p0 p1 c0 c1 n N m P lo hi (HV.out.below BW.out hhi) (by omega) HBN.out x HX.out y HYB.out (-st) (by omega)).mono ?_; rintro e wX ⟨rfl, hbX⟩; rw [HT.out]; have zX := hbX.size))
        go_roundw
        case rel => exact ⟨2, by go_num, by omega, (fun _ => by first | exact HT0.out | trivial), (fun _ => by first | exact HT.out | trivial), by omega, HBB.out.trans (hbX.mono (by omega))⟩
        case measure => simp [intOf]
      · have HT := Lib.hid ht
        have HR := Lib.hid (show mvT m P x y st = -st by unfold mvT; rw [if_neg (by rw [hf]; simp), if_pos ht])
        clear ht hf1 hf2 hf
        go_wp2_with (first
          | (refine wpList_indexV rfl 142 2 _ _ rfl #[.int .i64 st, .int .i64 (-st)] _ _ (.int .i64 (-st)) rfl rfl Try.underlying142 (by omega) (by omega) rfl ?_)
          | (refine wpList_ldN rfl _ rfl w.heap.size (.slice p0 n c0) (.slice p1 m c1) x rfl g0 ?_)
          | (refine wpList_ldF rfl _ rfl (w.heap.size + 1) 0 Ly rfl nLy g1 ?_)
          | (go_at_call 115; rw [← HLy.out]; refine (isImprovedBy_any wr p0 p1 c0 c1 n N m P lo hi (HV.out.below BW.out hhi) (by omega) HBN.out x HX.out y HYB.out (-st) (by omega)).mono ?_; rintro e wX ⟨rfl, hbX⟩; rw [HT.out]; have zX := hbX.size))
        go_ret
        exact ⟨ret_i HR.out.symm, BW.out.trans (hbX.mono (by omega))⟩
    · have h1 := hf1 (by omega)
      have h2 := hf2 (by omega)
      have HR := Lib.hid (show mvT m P x y st = 0 by unfold mvT; rw [if_neg (by rw [h1]; simp), if_neg (by rw [h2]; simp)])
      clear h1 h2 hf1 hf2
      go_wp2_with fail
      go_ret
      exact ⟨ret_i HR.out.symm, BW.out⟩
end Go.Proofs.Ytfkacpphdnlkfaa.mem

namespace Go.Proofs.Ytfkacpphdnlkfaa.mem
open Go.RowKit
set_option linter.unusedVariables false

theorem results_nf2 {fn : Func} {p u : Tmp} {tmps : Array Value} {w : World} {b : Nat} {s0 s1 v : Value} {x : Nat → Int} (h : fn.results = #[.cell p 70, .tmp u]) (hp : tmps.getD p undef = .pointer (some ⟨b, 0, none⟩)) (hv : tmps.getD u undef = v) (ho : Ob w b 42 (nfc s0 s1 x)) : (results fn tmps).run Try.prog w = .ok (.tuple #[.agg (nfL s0 s1 x).toArray, v]) w := by
  obtain ⟨t, h1⟩ := ho.nrow
  rw [results_cell_tmp h, hp, hv]
  simp [asAddr, run_loadVar_row w b t 70 _ (0, 0) _ h1 Try.underlying70 rfl (by rw [List.size_toArray, nfL_len]; exact nf_info), Result.andThen]
theorem pad_cyc {n : Nat} {N : Nat → Nod} {P : Nat → Pip} {m : Nat} (hN : netB n N m P = true) {c : Nat} (hc : c < m) (x : Nat → Int) (t : Int) : (fun a => pad m x a + cyc P (fE n P m) (fD n P m) c a * t) = pad m (fun a => x a + t * cyc P (fE n P m) (fD n P m) c a) := by
  funext a
  by_cases h : a < m
  · rw [pad_at h, pad_at h, Int.mul_comm]
  · rw [cyc_off hN hc (by omega)]
    unfold pad
    rw [if_neg h, if_neg h]
    omega
theorem mvT_pad {n : Nat} {N : Nat → Nod} {P : Nat → Pip} {m : Nat} (hN : netB n N m P = true) {d : Nat → Int} {c : Nat} {st : Int} (hc : c < m) : mvT m P (pad m d) (cyc P (fE n P m) (fD n P m) c) st = mvB m P d (cyc P (fE n P m) (fD n P m) c) st := by
  unfold mvT mvB
  rw [loA_pad hN hc, loA_pad hN hc]
set_option maxRecDepth 100000 in
set_option maxHeartbeats 8000000 in
theorem relaxedFrom_any (w : World) (p0 p1 : Option Addr) (c0 c1 : Nat) (n : Nat) (N : Nat → Nod) (m : Nat) (P : Nat → Pip) (lo hi : Nat) (h : NetAt w (.agg #[.slice p0 n c0, .slice p1 m c1]) n N m P lo hi) (hhi : hi ≤ w.heap.size) (hB : netB n N m P = true) (x0 : Nat → Int) (hx : ∀ k, k < m → -30000 ≤ x0 k ∧ x0 k ≤ 30000) (st0 : Int) (hst : 1 ≤ st0 ∧ st0 ≤ 32768) :
    Calls Try.prog 48 #[.agg (nfL (.slice p0 n c0) (.slice p1 m c1) (pad m x0)).toArray, .int .i64 st0] w fun e w' => e = .returned (.tuple #[.agg (nfL (.slice p0 n c0) (.slice p1 m c1) (pad m (rlx m P (fun i => cyc P (fE n P m) (fD n P m) (chS n P m i)) (chN n P m) x0 st0).1)).toArray, .int .i64 (rlx m P (fun i => cyc P (fE n P m) (fD n P m) (chS n P m i)) (chN n P m) x0 st0).2]) ∧ Below w.heap.size w w' := by
  obtain ⟨hn1, hn24, hm40⟩ := net_sz hB
  have hcn := chN_le n P m
  have HV := Lib.hid h
  have HX0 := Lib.hid hx
  have HBN := Lib.hid hB
  have A0 := (Ob.newN w (.slice p0 n c0) (.slice p1 m c1) (pad m x0) 70).keep (Below.heap_alloc _ (.cells #[Value.slice none 0 0, Value.slice none 0 0, Value.int IntKind.i64 0, Value.int IntKind.i64 0, Value.int IntKind.i64 0, Value.int IntKind.i64 0, Value.int IntKind.i64 0, Value.int IntKind.i64 0, Value.int IntKind.i64 0, Value.int IntKind.i64 0, Value.int IntKind.i64 0, Value.int IntKind.i64 0, Value.int IntKind.i64 0, Value.int IntKind.i64 0, Value.int IntKind.i64 0, Value.int IntKind.i64 0, Value.int IntKind.i64 0, Value.int IntKind.i64 0, Value.int IntKind.i64 0, Value.int IntKind.i64 0, Value.int IntKind.i64 0, Value.int IntKind.i64 0, Value.int IntKind.i64 0, Value.int IntKind.i64 0, Value.int IntKind.i64 0, Value.int IntKind.i64 0, Value.int IntKind.i64 0, Value.int IntKind.i64 0, Value.int IntKind.i64 0, Value.int IntKind.i64 0, Value.int IntKind.i64 0, Value.int IntKind.i64 0, Value.int IntKind.i64 0, Value.int IntKind.i64 0, Value.int IntKind.i64 0, Value.int IntKind.i64 0, Value.int IntKind.i64 0, Value.int IntKind.i64 0, Value.int IntKind.i64 0, Value.int IntKind.i64 0, Value.int IntKind.i64 0, Value.int IntKind.i64 0] 70) _ (by rw [szal]; omega))
  have A1 := Ob.newZ (w.alloc (.cells (nfL (.slice p0 n c0) (.slice p1 m c1) (pad m x0)).toArray 70)) 70
  simp only [szal] at A1
  have B0 := (below_new w (.cells (nfL (.slice p0 n c0) (.slice p1 m c1) (pad m x0)).toArray 70)).trans ((below_new _ (.cells #[Value.slice none 0 0, Value.slice none 0 0, Value.int IntKind.i64 0, Value.int IntKind.i64 0, Value.int IntKind.i64 0, Value.int IntKind.i64 0, Value.int IntKind.i64 0, Value.int IntKind.i64 0, Value.int IntKind.i64 0, Value.int IntKind.i64 0, Value.int IntKind.i64 0, Value.int IntKind.i64 0, Value.int IntKind.i64 0, Value.int IntKind.i64 0, Value.int IntKind.i64 0, Value.int IntKind.i64 0, Value.int IntKind.i64 0, Value.int IntKind.i64 0, Value.int IntKind.i64 0, Value.int IntKind.i64 0, Value.int IntKind.i64 0, Value.int IntKind.i64 0, Value.int IntKind.i64 0, Value.int IntKind.i64 0, Value.int IntKind.i64 0, Value.int IntKind.i64 0, Value.int IntKind.i64 0, Value.int IntKind.i64 0, Value.int IntKind.i64 0, Value.int IntKind.i64 0, Value.int IntKind.i64 0, Value.int IntKind.i64 0, Value.int IntKind.i64 0, Value.int IntKind.i64 0, Value.int IntKind.i64 0, Value.int IntKind.i64 0, Value.int IntKind.i64 0, Value.int IntKind.i64 0, Value.int IntKind.i64 0, Value.int IntKind.i64 0, Value.int IntKind.i64 0, Value.int IntKind.i64 0] 70)).mono (by rw [szal]; omega))
  have hs0 : ((w.alloc (.cells (nfL (.slice p0 n c0) (.slice p1 m c1) (pad m x0)).toArray 70)).alloc (.cells #[Value.slice none 0 0, Value.slice none 0 0, Value.int IntKind.i64 0, Value.int IntKind.i64 0, Value.int IntKind.i64 0, Value.int IntKind.i64 0, Value.int IntKind.i64 0, Value.int IntKind.i64 0, Value.int IntKind.i64 0, Value.int IntKind.i64 0, Value.int IntKind.i64 0, Value.int IntKind.i64 0, Value.int IntKind.i64 0, Value.int IntKind.i64 0, Value.int IntKind.i64 0, Value.int IntKind.i64 0, Value.int IntKind.i64 0, Value.int IntKind.i64 0, Value.int IntKind.i64 0, Value.int IntKind.i64 0, Value.int IntKind.i64 0, Value.int IntKind.i64 0, Value.int IntKind.i64 0, Value.int IntKind.i64 0, Value.int IntKind.i64 0, Value.int IntKind.i64 0, Value.int IntKind.i64 0, Value.int IntKind.i64 0, Value.int IntKind.i64 0, Value.int IntKind.i64 0, Value.int IntKind.i64 0, Value.int IntKind.i64 0, Value.int IntKind.i64 0, Value.int IntKind.i64 0, Value.int IntKind.i64 0, Value.int IntKind.i64 0, Value.int IntKind.i64 0, Value.int IntKind.i64 0, Value.int IntKind.i64 0, Value.int IntKind.i64 0, Value.int IntKind.i64 0, Value.int IntKind.i64 0] 70)).heap.size = w.heap.size + 2 := by simp
  have e0 := A0.n0
  have e1 := A0.n1
  clear h hB hx
  go_enter Try.func48, Try.ntmps48
  go_upto_region 1 with (fail)
  obtain ⟨w1, hw1⟩ : ∃ w1, (w.alloc (.cells (nfL (.slice p0 n c0) (.slice p1 m c1) (pad m x0)).toArray 70)).alloc (.cells #[Value.slice none 0 0, Value.slice none 0 0, Value.int IntKind.i64 0, Value.int IntKind.i64 0, Value.int IntKind.i64 0, Value.int IntKind.i64 0, Value.int IntKind.i64 0, Value.int IntKind.i64 0, Value.int IntKind.i64 0, Value.int IntKind.i64 0, Value.int IntKind.i64 0, Value.int IntKind.i64 0, Value.int IntKind.i64 0, Value.int IntKind.i64 0, Value.int IntKind.i64 0, Value.int IntKind.i64 0, Value.int IntKind.i64 0, Value.int IntKind.i64 0, Value.int IntKind.i64 0, Value.int IntKind.i64 0, Value.int IntKind.i64 0, Value.int IntKind.i64 0, Value.int IntKind.i64 0, Value.int IntKind.i64 0, Value.int IntKind.i64 0, Value.int IntKind.i64 0, Value.int IntKind.i64 0, Value.int IntKind.i64 0, Value.int IntKind.i64 0, Value.int IntKind.i64 0, Value.int IntKind.i64 0, Value.int IntKind.i64 0, Value.int IntKind.i64 0, Value.int IntKind.i64 0, Value.int IntKind.i64 0, Value.int IntKind.i64 0, Value.int IntKind.i64 0, Value.int IntKind.i64 0, Value.int IntKind.i64 0, Value.int IntKind.i64 0, Value.int IntKind.i64 0, Value.int IntKind.i64 0] 70) = w1 := ⟨_, rfl⟩
  rw [hw1] at A0 A1 B0 hs0 e0 e1 ⊢
  clear hw1
  have HA := Lib.hid A0
  have HA1 := Lib.hid A1
  have HB := Lib.hid B0
  replace hs0 := Nat.le_antisymm_iff.1 hs0
  clear A0 A1 B0
  go_step3
  go_wp2_with fail
  refine (cycles_any w1 _ n N m P lo hi (HV.out.below HB.out hhi) (by omega) HBN.out).mono ?_
  rintro e w3 ⟨vc, gc, rfl, oc, hgc, b3⟩
  obtain ⟨pc, cc, rfl⟩ := ownS_shE oc
  have hs3 := b3.size
  have HB3 := Lib.hid (HB.out.trans (b3.mono (by omega)))
  have HA3 := Lib.hid (HA.out.below b3 (by omega))
  have HA4 := Lib.hid (HA1.out.below b3 (by omega))
  generalize hY : (fun i => cyc P (fE n P m) (fD n P m) (chS n P m i)) = Y at *
  have HYE := Lib.hid hY
  have HC := Lib.hid (show OwnS w3 (.slice pc (chN n P m) cc) (chN n P m) 40 (fun j => ia (Y j)) gc by rw [← hY]; exact oc)
  clear oc b3 HB HA HA1 e0 e1 hY
  have hgc2 : gc ≠ w.heap.size ∧ gc ≠ w.heap.size + 1 ∨ chN n P m = 0 := by omega
  go_wp2_with fail
  go_step3
  go_wp2_with fail
  go_loopw [1, 6] (fun sv mv wr => ∃ (f : Nat) (x : Nat → Int) (tot st : Int), sv = .int .i64 st ∧ mv = .int .i64 tot ∧ 0 ≤ st ∧ st ≤ 32768 ∧ 0 ≤ tot ∧ tot ≤ 5000 ∧ 5000 - tot + st ≤ f ∧ rlS m P Y (chN n P m) f x tot st = rlx m P Y (chN n P m) x0 st0 ∧ (∀ k, k < m → -30000 ≤ x k ∧ x k ≤ 30000) ∧ Ob wr w.heap.size 42 (nfc (.slice p0 n c0) (.slice p1 m c1) (pad m x)) ∧ Ob wr (w.heap.size + 1) 42 (nfc (.slice none 0 0) (.slice none 0 0) (fun _ => 0)) ∧ OwnS wr (.slice pc (chN n P m) cc) (chN n P m) 40 (fun j => ia (Y j)) gc ∧ w3.heap.size ≤ wr.heap.size ∧ Below w.heap.size w wr) (fun sv mv _ => (5000 - intOf mv + intOf sv).toNat)
  case atStart => exact ⟨5000 + st0.toNat, x0, 0, st0, rfl, rfl, by omega, by omega, by omega, by omega, by omega, rfl, HX0.out, HA3.out, HA4.out, HC.out, Nat.le_refl _, HB3.out⟩
  case round =>
    obtain ⟨f, x, tot, st, rfl, rfl, s0, s1, t0, t1, hf, hrl, hxr, hob, ho1, hoc, hsz, hb⟩ := hrel
    have HRL := Lib.hid hrl
    have HXR := Lib.hid hxr
    have HOB := Lib.hid hob
    have HO1 := Lib.hid ho1
    have HOC := Lib.hid hoc
    have HBB := Lib.hid hb
    clear hrl hxr hob ho1 hoc hb HA3 HA4 HC HB3
    by_cases hs1 : 0 < st
    · have hd1 : decide (0 < st) = true := decide_eq_true hs1
      obtain ⟨f', rfl⟩ : ∃ f', f = f' + 1 := ⟨f - 1, by omega⟩
      have htot := And.intro t0 t1
      go_wp2_with fail
      go_loopw [6, 20] (fun mv iv wr2 => ∃ (k : Nat) (x' : Nat → Int) (mo : Int), mv = .int .i64 (tot + mo) ∧ iv = .int .i64 k ∧ k ≤ chN n P m ∧ (x', mo) = psS m P Y x st (5000 - tot) k ∧ Ob wr2 w.heap.size 42 (nfc (.slice p0 n c0) (.slice p1 m c1) (pad m x')) ∧ Ob wr2 (w.heap.size + 1) 42 (nfc (.slice none 0 0) (.slice none 0 0) (fun _ => 0)) ∧ OwnS wr2 (.slice pc (chN n P m) cc) (chN n P m) 40 (fun j => ia (Y j)) gc ∧ w3.heap.size ≤ wr2.heap.size ∧ Below w.heap.size w wr2) (fun _ iv _ => chN n P m - (intOf iv).toNat)
      case atStart => exact ⟨0, x, 0, by rw [Int.add_zero], rfl, Nat.zero_le _, rfl, HOB.out, HO1.out, HOC.out, hsz, HBB.out⟩
      case round =>
        obtain ⟨k, x', mo, rfl, rfl, hk, hps, hob, ho1, hoc, hsz2, hb⟩ := hrel
        have HPS := Lib.hid hps
        have hcnt : 0 ≤ mo ∧ mo ≤ 5000 - tot ∧ mo ≤ k := by
          have := psS_cnt (m := m) (P := P) (Y := Y) (x := x) (step := st) (show 0 ≤ 5000 - tot by omega) k
          rw [← hps] at this
          exact this
        have HXP := Lib.hid (show ∀ a, a < m → -30000 ≤ x' a ∧ x' a ≤ 30000 from fun a ha => by
          have := psS_rng (P := P) (Y := Y) (step := st) (left := 5000 - tot) HXR.out k a ha
          rw [← hps] at this
          exact this)
        have HOB := Lib.hid hob
        have HO1 := Lib.hid ho1
        have HC := Lib.hid hoc
        have BW := Lib.hid hb
        clear hps hob ho1 hoc hb HOC HBB
        have k0 : (0 : Int) ≤ (k : Int) := Int.natCast_nonneg _
        have hir : hi ≤ wr.heap.size := by omega
        by_cases hlt : k < chN n P m
        · have k1 : (k : Int) < (chN n P m : Int) := by omega
          obtain ⟨hcm, hcp⟩ := chS_at (n := n) (P := P) (m := m) hlt
          have HCR := Lib.hid (show ∀ a, a < 40 → -1 ≤ Y k a ∧ Y k a ≤ 1 from fun a _ => by rw [← HYE.out]; exact cyc_one HBN.out hcm hcp a)
          have HPC := Lib.hid (show ∀ t, (fun a => pad m x' a + Y k a * t) = pad m (fun a => x' a + t * Y k a) from fun t => by rw [← HYE.out]; exact pad_cyc HBN.out hcm x' t)
          have HMT := Lib.hid (show mvT m P (pad m x') (Y k) st = mvB m P x' (Y k) st by rw [← HYE.out]; exact mvT_pad HBN.out hcm)
          have HP1 := Lib.hid (show mo < 5000 - tot → mvB m P x' (Y k) st ≠ 0 → psS m P Y x st (5000 - tot) (k + 1) = (fun a => x' a + mvB m P x' (Y k) st * Y k a, mo + 1) from fun h1 h2 => ps_move HPS.out h1 h2)
          have HP2 := Lib.hid (show mo < 5000 - tot → mvB m P x' (Y k) st = 0 → psS m P Y x st (5000 - tot) (k + 1) = (x', mo) from fun h1 h2 => ps_stay HPS.out h1 (by omega) h2)
          have hmv := mvB_rng (m := m) (P := P) (x := x') (y := Y k) (st := st) (by omega)
          have HVI := Lib.hid (mvB_in (P := P) (x := x') (y := Y k) (st := st) HXP.out)
          have HMX := Lib.hid (rl_break (f := f') (by omega) htot hk HPS.out)
          obtain ⟨eq5, lg5, hKc, g5⟩ := own_rng HC.out hlt
          subst eq5
          generalize hy : Y k = y at *
          clear hy
          obtain ⟨Ly, hLy, eLy⟩ : ∃ L : List Value, arr y = List.toArray L ∧ L = arrL y := ⟨_, rfl, rfl⟩
          rw [← eLy] at g5
          have nLy : Ly.length = 40 := by rw [eLy, arr_len]
          have oLy : ∀ v ∈ Ly, v.oneCell' = true := by rw [eLy]; exact arr_oneL _
          have HLy := Lib.hid hLy
          have HEy := Lib.hid eLy
          clear hLy eLy
          have tC : (wr.alloc (.cells (arr fun _ => 0) 68)).there wr.heap.size 0 40 := (Ob.newA wr _ _).there
          generalize hmq : mvB m P x' y st = t at *
          clear hmq
          go_upto_region 8 with (first
            | (refine wpList_ixF rfl _ _ rfl gc _ _ k rfl rfl hlt ?_)
            | (refine wpList_ldF rfl _ rfl gc (k * 40) Ly rfl nLy g5 ?_)
            | (refine wpList_allocF rfl rfl ?_)
            | (refine wpList_stF rfl _ _ rfl wr.heap.size Ly rfl rfl nLy oLy tC ?_))
          clear tC g5
          have C0 := (Ob.newA wr (fun _ => 0) 68).setArr y
          rw [← HEy.out] at C0
          have bC := (below_new wr (.cells (arr fun _ => 0) 68)).trans (((Only.refl wr.heap.size (wr.alloc (.cells (arr fun _ => 0) 68))).setCs Ly 0).below (Nat.le_refl _))
          have lC := C0.lt
          obtain ⟨w5, hw5⟩ : ∃ w5, (wr.alloc (.cells (arr fun _ => 0) 68)).setCells wr.heap.size 0 Ly = w5 := ⟨_, rfl⟩
          obtain ⟨bc, hbc⟩ : ∃ bc, wr.heap.size = bc := ⟨_, rfl⟩
          rw [hw5] at C0 bC lC ⊢
          have s5 := bC.size
          rw [hbc] at C0 lC ⊢
          have hbc2 := Nat.le_antisymm_iff.1 hbc
          clear hw5 hbc
          have HC5 := Lib.hid C0
          have g1 : w5.rangeAt bc 0 Ly := by rw [HEy.out]; exact (HC5.out.congr (fun k _ => by rfl)).range
          clear C0
          have HB5 := Lib.hid (BW.out.trans (bC.mono (by omega)))
          have HOB5 := Lib.hid (HOB.out.below bC (by omega))
          have HO15 := Lib.hid (HO1.out.below bC (by omega))
          have HOC5 := Lib.hid (HC.out.below bC (by omega))
          have l5 : w.heap.size + 1 < w5.heap.size := by omega
          have gne : gc ≠ w.heap.size ∧ gc ≠ w.heap.size + 1 := by omega
          have hbd : ∀ a, a < 40 → -90000 ≤ y a * t ∧ y a * t ≤ 90000 := fun a ha => by
            have := mulc (b := 32768) hmv (HCR.out a ha)
            rw [Int.mul_comm]
            omega
          have HBD := Lib.hid hbd
          have HPR := Lib.hid (show ∀ a, -30000 ≤ pad m x' a ∧ pad m x' a ≤ 30000 from fun a => pad_rng HXP.out a)
          clear bC hbd HOB HO1 HC BW
          by_cases hmx : tot + mo = 5000
          · have hb5 : (tot + mo == 5000) = true := by simpa using hmx
            have HR := Lib.hid (show rlx m P Y (chN n P m) x0 st0 = (x', 5000) by rw [← HRL.out]; exact HMX.out hmx)
            clear HP1 HP2 HMX
            have g0 := HOB5.out.nall
            have t5 := HO15.out.there
            go_wp2_with (first
              | (refine wpList_ldN rfl _ rfl w.heap.size (.slice p0 n c0) (.slice p1 m c1) (pad m x') rfl g0 ?_)
              | (refine wpList_stN rfl _ _ rfl (w.heap.size + 1) (.slice p0 n c0) (.slice p1 m c1) (pad m x') rfl rfl rfl rfl t5 ?_))
            have a6 := HO15.out.nput (.slice p0 n c0) (.slice p1 m c1) (pad m x')
            try rw [Exit.noGoto_ret]
            refine bodyPost_ret (results_nf2 rfl rfl rfl a6) rfl ⟨by (first | rw [HYE.out, HR.out] | rw [HR.out]); try rfl, HB5.out.trans (((Only.refl (w.heap.size + 1) w5).setCs (nfL (.slice p0 n c0) (.slice p1 m c1) (pad m x')) 0).below (by omega))⟩
          · have hb5 : (tot + mo == 5000) = false := by simpa using hmx
            have hml : mo < 5000 - tot := by omega
            have hw1 : IntKind.i64.wrap (tot + mo + 1) = tot + mo + 1 := IntWalk.i64_in _ (by omega)
            have g0 := HOB5.out.nall
            by_cases ht0 : t = 0
            · have hb6 : (t != 0) = false := by simpa using ht0
              have HN := Lib.hid (HP2.out hml ht0)
              clear HP1 HP2 HMX ht0
              go_wp2_with (first
                | (refine wpList_ldN rfl _ rfl w.heap.size (.slice p0 n c0) (.slice p1 m c1) (pad m x') rfl g0 ?_)
                | (refine wpList_ldF rfl _ rfl bc 0 Ly rfl nLy g1 ?_)
                | (go_at_call 91; rw [← HLy.out]; refine (moveOf_any w5 p0 p1 c0 c1 n N m P lo hi (HV.out.below HB5.out hhi) (by omega) HBN.out (pad m x') (fun a _ => HPR.out a) y HCR.out st (by omega)).mono ?_; rintro e wX ⟨rfl, hbX⟩; rw [HMT.out]; have zX := hbX.size))
              go_roundw
              case rel => exact ⟨k + 1, x', mo, rfl, by go_num, hlt, HN.out.symm, HOB5.out.below hbX (by omega), HO15.out.below hbX (by omega), HOC5.out.below hbX (Nat.le_refl _), by omega, HB5.out.trans (hbX.mono (by omega))⟩
              case measure => simp [intOf]; omega
            · have hb6 : (t != 0) = true := by simpa using ht0
              have HN := Lib.hid (HP1.out hml ht0)
              have HPC2 := Lib.hid (HPC.out t)
              clear HP1 HP2 HMX ht0 HPC
              generalize hz : (fun a => x' a + t * y a) = z at *
              clear hz
              have HKS := Lib.hid (show ∀ W : World, Below w5.heap.size w5 W → W.rangeAt w.heap.size 0 (nfL (.slice p0 n c0) (.slice p1 m c1) (pad m x')) ∧ W.rangeAt bc 0 Ly from fun W hW => ⟨range_blockN g0 (hW.block _ (by omega)), range_blockN g1 (hW.block _ lC)⟩)
              go_upto_region 12 with (first
                | (refine wpList_ldN rfl _ rfl w.heap.size (.slice p0 n c0) (.slice p1 m c1) (pad m x') rfl g0 ?_)
                | (refine wpList_ldF rfl _ rfl bc 0 Ly rfl nLy g1 ?_)
                | (refine wpList_ldN rfl _ rfl w.heap.size (.slice p0 n c0) (.slice p1 m c1) (pad m x') rfl g2 ?_)
                | (refine wpList_ldF rfl _ rfl bc 0 Ly rfl nLy g3 ?_)
                | (go_at_call 91; rw [← HLy.out]; refine (moveOf_any w5 p0 p1 c0 c1 n N m P lo hi (HV.out.below HB5.out hhi) (by omega) HBN.out (pad m x') (fun a _ => HPR.out a) y HCR.out st (by omega)).mono ?_; rintro e wX ⟨rfl, hbX⟩; rw [HMT.out]; have zX := hbX.size; have g2 := (HKS.out wX hbX).1; have g3 := (HKS.out wX hbX).2)
                | (go_at_call 60; have hpc := plusCycle_any wX (.slice p0 n c0) (.slice p1 m c1) rfl rfl (pad m x') y t (fun a ha => by have h1 := HBD.out a ha; have h2 := HPR.out a; omega) (fun a ha => by have h1 := HBD.out a ha; omega); rw [HPC2.out, HLy.out] at hpc; refine hpc.mono ?_; clear hpc; rintro e wC ⟨rfl, hbC⟩; have zC := hbC.size; have hC5 := hbX.trans (hbC.mono zX); have t5 := (HOB5.out.below hC5 (by omega)).there)
                | (refine wpList_stN rfl _ _ rfl w.heap.size (.slice p0 n c0) (.slice p1 m c1) (pad m z) rfl rfl rfl rfl t5 ?_))
              have oy := (Only.refl w.heap.size wC).setCs (nfL (.slice p0 n c0) (.slice p1 m c1) (pad m z)) 0
              have zz : wC.heap.size ≤ (wC.setCells w.heap.size 0 (nfL (.slice p0 n c0) (.slice p1 m c1) (pad m z))).heap.size := (oy.below (B := 0) (Nat.zero_le _)).size
              have q1 := Lib.hid ((HOB5.out.below hC5 (by omega)).nput (.slice p0 n c0) (.slice p1 m c1) (pad m z))
              have q2 := Lib.hid ((HO15.out.below hC5 (by omega)).only oy (by omega))
              have q3 := Lib.hid ((HOC5.out.below hC5 (Nat.le_refl _)).keep (.inr (oy.block gc gne.1)))
              have q4 := Lib.hid ((HB5.out.trans (hC5.mono (by omega))).trans (oy.below (Nat.le_refl _)))
              obtain ⟨wS, hwS⟩ : ∃ wS, wC.setCells w.heap.size 0 (nfL (.slice p0 n c0) (.slice p1 m c1) (pad m z)) = wS := ⟨_, rfl⟩
              rw [hwS] at q1 q2 q3 q4 zz ⊢
              have zS : w3.heap.size ≤ wS.heap.size := by omega
              clear hwS oy zz g2 g3 g0 g1 hbX hbC hC5 t5
              go_wp2_with fail
              go_roundw
              case rel => exact ⟨k + 1, z, mo + 1, by rw [Int.add_assoc], by go_num, hlt, HN.out.symm, q1.out, q2.out, q3.out, zS, q4.out⟩
              case measure => simp [intOf]; omega
        · have hkn : k = chN n P m := by omega
          have HRN := Lib.hid (show rlS m P Y (chN n P m) f' x' (tot + mo) (if mo = 0 then st / 2 else st) = rlx m P Y (chN n P m) x0 st0 by rw [← rl_pass (by omega) htot (by rw [← hkn]; exact HPS.out)]; exact HRL.out)
          have k1 : ¬ ((k : Int) < (chN n P m : Int)) := by omega
          clear hkn
          by_cases hm0 : mo = 0
          · subst hm0
            have hR2 := HRN.out
            rw [if_pos rfl] at hR2
            have HR2 := Lib.hid hR2
            have hb5 : (tot + 0 == tot) = true := by simp
            have hd4 : st.tdiv 2 = st / 2 := Int.tdiv_eq_ediv_of_nonneg s0
            have hq0 : 0 ≤ st / 2 ∧ st / 2 < st := by omega
            clear hR2
            go_wp2_with fail
            go_roundw
            case rel => exact ⟨f', x', tot + 0, st / 2, rfl, rfl, by omega, by omega, by omega, by omega, by omega, HR2.out, HXP.out, HOB.out, HO1.out, HC.out, hsz2, BW.out⟩
            case measure => simp [intOf]; omega
          · have hR2 := HRN.out
            rw [if_neg hm0] at hR2
            have HR2 := Lib.hid hR2
            have hb5 : (tot + mo == tot) = false := by simpa using (show ¬ tot + mo = tot by omega)
            clear hR2
            go_wp2_with fail
            go_roundw
            case rel => exact ⟨f', x', tot + mo, st, rfl, rfl, by omega, by omega, by omega, by omega, by omega, HR2.out, HXP.out, HOB.out, HO1.out, HC.out, hsz2, BW.out⟩
            case measure => simp [intOf]; omega
    · have hd1 : decide (0 < st) = false := decide_eq_false hs1
      have HR := Lib.hid (show rlx m P Y (chN n P m) x0 st0 = (x, tot) by rw [← HRL.out, rlS_stop (by omega)])
      have g0 := HOB.out.nall
      have t5 := HO1.out.there
      go_wp2_with (first
        | (refine wpList_ldN rfl _ rfl w.heap.size (.slice p0 n c0) (.slice p1 m c1) (pad m x) rfl g0 ?_)
        | (refine wpList_stN rfl _ _ rfl (w.heap.size + 1) (.slice p0 n c0) (.slice p1 m c1) (pad m x) rfl rfl rfl rfl t5 ?_))
      have a6 := HO1.out.nput (.slice p0 n c0) (.slice p1 m c1) (pad m x)
      try rw [Exit.noGoto_ret]
      refine bodyPost_ret (results_nf2 rfl rfl rfl a6) rfl ⟨by (first | rw [HYE.out, HR.out] | rw [HR.out]); try rfl, HBB.out.trans (((Only.refl (w.heap.size + 1) wr).setCs (nfL (.slice p0 n c0) (.slice p1 m c1) (pad m x)) 0).below (by omega))⟩
end Go.Proofs.Ytfkacpphdnlkfaa.mem

namespace Go.Proofs.Ytfkacpphdnlkfaa.mem
open Go.RowKit
set_option linter.unusedVariables false

def LIIPost (w : World) (cnt : Nat) (d : Nat → Int) (a c : Int) (e : Ending) (w' : World) : Prop :=
  ∃ v g, e = .returned (.tuple #[v, .int .i64 a, .int .i64 c]) ∧ OwnS w' v cnt 1 (fun i _ => .int .i64 (d i)) g ∧ w.heap.size ≤ g ∧ Below w.heap.size w w'
theorem lii_err {w w' : World} {cnt : Nat} {d : Nat → Int} {a c c' : Int} {e : Ending} (h0 : cnt = 0) (ha : a = 0) (hc : c = c') (he : e = .returned (.tuple #[.slice none 0 0, .int .i64 0, .int .i64 c])) (hb : Below w.heap.size w w') : LIIPost w cnt d a c' e w' := by
  subst h0 hc ha
  exact ⟨_, w.heap.size, he, OwnS.none_ _ _ _ _, Nat.le_refl _, hb⟩
theorem lii_ok {w w' : World} {v : Value} {cnt n g : Nat} {d : Nat → Int} {a a' c c' : Int} {e : Ending} (h0 : n = cnt) (ha : a = a') (hc : c = c') (he : e = .returned (.tuple #[v, .int .i64 a, .int .i64 c])) (h : Own w' v n d g) (hg : w.heap.size ≤ g) (hb : Below w.heap.size w w') : LIIPost w cnt d a' c' e w' := by
  subst h0 ha hc
  exact ⟨v, g, he, h.ownS, hg, hb⟩
noncomputable def rfC (n : Nat) (N : Nat → Nod) (m : Nat) (P : Nat → Pip) (K : Nat) (d : Nat → Int) (st : Int) : Int := if flC n N m P K d = 0 then (if stB st = true then 0 else 2) else flC n N m P K d
def rfR (n : Nat) (m : Nat) (P : Nat → Pip) (d : Nat → Int) (st : Int) : (Nat → Int) × Int := rlx m P (fun i => cyc P (fE n P m) (fD n P m) (chS n P m i)) (chN n P m) d st
noncomputable def rfN (n : Nat) (N : Nat → Nod) (m : Nat) (P : Nat → Pip) (K : Nat) (d : Nat → Int) (st : Int) : Nat := if rfC n N m P K d st = 0 then m else 0
noncomputable def rfM (n : Nat) (N : Nat → Nod) (m : Nat) (P : Nat → Pip) (K : Nat) (d : Nat → Int) (st : Int) : Int := if rfC n N m P K d st = 0 then (rfR n m P d st).2 else 0
theorem bits_and_i64_nat (a b : Nat) (ha : a < 4294967296) (hb : b < 4294967296) : bits .and .i64 (a : Int) (b : Int) = ((a &&& b : Nat) : Int) := by
  have hx : a &&& b < 2 ^ 32 := Nat.and_lt_two_pow _ (by omega)
  have h1 : (BitVec.ofInt 64 (a : Int)).toNat = a := by
    rw [BitVec.ofInt_natCast, BitVec.toNat_ofNat]; exact Nat.mod_eq_of_lt (by omega)
  have h2 : (BitVec.ofInt 64 (b : Int)).toNat = b := by
    rw [BitVec.ofInt_natCast, BitVec.toNat_ofNat]; exact Nat.mod_eq_of_lt (by omega)
  show IntKind.i64.wrap ((BitVec.ofInt 64 (a : Int) &&& BitVec.ofInt 64 (b : Int)).toNat : Int) = _
  rw [BitVec.toNat_and, h1, h2]
  exact IntWalk.i64_in _ (by omega)
theorem stB_no {x : Int} (h : inR x 1 32768 = false) : stB x = false := by
  cases hs : stB x
  · rfl
  · have h1 := stB_rng hs
    rw [inR_iff.2 h1] at h
    exact absurd h (by simp)
theorem isStep_any (x : Int) (w : World) : Calls Try.prog 46 #[.int .i64 x] w fun e w' => e = .returned (.bool (stB x)) ∧ w = w' := by
  cases hx : inR x 1 32768
  · have HS := Lib.hid (stB_no hx)
    have HX := Lib.hid hx
    clear hx
    go_enter Try.func46, Try.ntmps46
    go_wp2_with (go_at_call 88; refine (inRange_any _ _ _ _).mono ?_; rintro e w' ⟨rfl, rfl⟩; rw [HX.out])
    go_ret
    exact ⟨ret_b HS.out.symm, rfl⟩
  · obtain ⟨h0, h1⟩ := inR_iff.1 hx
    have HX := Lib.hid hx
    obtain ⟨k, rfl⟩ := Int.eq_ofNat_of_zero_le (show 0 ≤ x by omega)
    have hw : IntKind.i64.wrap ((k : Int) - 1) = (k : Int) - 1 := IntWalk.i64_in _ (by omega)
    have hb : bits .and .i64 (k : Int) ((k : Int) - 1) = ((k &&& (k - 1) : Nat) : Int) := by
      rw [show (k : Int) - 1 = ((k - 1 : Nat) : Int) by omega]
      exact bits_and_i64_nat _ _ (by omega) (by omega)
    have hp := and_p2 16 k (by omega) (by have : (2 : Nat) ^ 16 = 65536 := by decide
                                          omega)
    have hs : stB (k : Int) = p2N 16 k := by
      unfold stB
      rw [Int.toNat_natCast, decide_eq_true (show (0 : Int) < (k : Int) by omega), Bool.and_true]
    clear hx
    cases h2 : p2N 16 k
    · have HS := Lib.hid (hs.trans h2)
      have hq : (((k &&& (k - 1) : Nat) : Int) == 0) = false := by
        have : ¬ (k &&& (k - 1)) = 0 := fun e => by rw [hp.1 e] at h2; exact absurd h2 (by simp)
        simpa using this
      clear hp hs h2
      go_enter Try.func46, Try.ntmps46
      go_wp2_with (go_at_call 88; refine (inRange_any _ _ _ _).mono ?_; rintro e w' ⟨rfl, rfl⟩; rw [HX.out])
      go_ret
      exact ⟨ret_b HS.out.symm, rfl⟩
    · have HS := Lib.hid (hs.trans h2)
      have hq : (((k &&& (k - 1) : Nat) : Int) == 0) = true := by
        have := hp.2 h2
        rw [this]
        rfl
      clear hp hs h2
      go_enter Try.func46, Try.ntmps46
      go_wp2_with (go_at_call 88; refine (inRange_any _ _ _ _).mono ?_; rintro e w' ⟨rfl, rfl⟩; rw [HX.out])
      go_ret
      exact ⟨ret_b HS.out.symm, rfl⟩
theorem stB_pow {x : Int} : stB x = true ↔ ∃ j : Nat, j < 16 ∧ x = ((2 ^ j : Nat) : Int) := by
  unfold stB
  rw [Bool.and_eq_true, p2N_pow, decide_eq_true_iff]
  constructor
  · rintro ⟨⟨j, hj, e⟩, h0⟩
    exact ⟨j, hj, by omega⟩
  · rintro ⟨j, hj, e⟩
    have h1 : 0 < 2 ^ j := Nat.pow_pos (by omega)
    exact ⟨⟨j, hj, by omega⟩, by omega⟩
theorem l11Step_any (x : Int) (w : World) : Calls Try.prog 41 #[.int .i64 x] w fun e w' => e = .returned (.bool (stB x)) ∧ w = w' := by
  have HS := Lib.hid (stB_pow (x := x))
  go_enter Try.func41, Try.ntmps41
  go_wp2_with fail
  go_loopw [3] (fun kv wr => ∃ j k : Nat, kv = .int .i64 (k : Nat) ∧ k = 2 ^ j ∧ j ≤ 16 ∧ k ≤ 65536 ∧ 1 ≤ k ∧ (∀ i, i < j → x ≠ ((2 ^ i : Nat) : Int)) ∧ wr = w) (fun kv _ => (65536 - intOf kv).toNat)
  case atStart => exact ⟨0, 1, rfl, rfl, by omega, by omega, by omega, fun i hi => by omega, rfl⟩
  case round =>
    obtain ⟨j, k, rfl, hk, hj, hk5, hk1, hno, rfl⟩ := hrel
    have HK := Lib.hid hk
    have HNO := Lib.hid hno
    clear hk hno
    by_cases hlt : k ≤ 32768
    · have k1 : (k : Int) ≤ 32768 := by omega
      have hd : decide ((k : Int) ≤ 32768) = true := decide_eq_true k1
      have hj16 : j < 16 := by
        rcases Nat.lt_or_ge j 16 with h | h
        · exact h
        · have h1 : 2 ^ 16 ≤ 2 ^ j := Nat.pow_le_pow_right (by omega) h
          have h2 : (2 : Nat) ^ 16 = 65536 := by decide
          have := HK.out
          omega
      have hw : IntKind.i64.wrap (2 * (k : Int)) = 2 * (k : Int) := IntWalk.i64_in _ (by omega)
      by_cases he : (k : Int) = x
      · have hq : ((k : Int) == x) = true := by simpa using he
        have HR := Lib.hid (show stB x = true from HS.out.2 ⟨j, hj16, by rw [← he, HK.out]⟩)
        clear he
        go_wp2_with fail
        go_ret
        exact ⟨ret_b HR.out.symm, rfl⟩
      · have hq : ((k : Int) == x) = false := by simpa using he
        have HR := Lib.hid (show ∀ i, i < j + 1 → x ≠ ((2 ^ i : Nat) : Int) from fun i hi => by
          by_cases e : i = j
          · subst e
            rw [← HK.out]
            exact fun e => he e.symm
          · exact HNO.out i (by omega))
        clear he
        go_wp2_with fail
        go_roundw
        case rel => exact ⟨j + 1, 2 * k, by go_num, by rw [HK.out, Nat.pow_succ, Nat.mul_comm], by omega, by omega, by omega, HR.out, (by first | rfl | trivial)⟩
        case measure => simp [intOf]; omega
    · have k1 : ¬ (k : Int) ≤ 32768 := by omega
      have hd : decide ((k : Int) ≤ 32768) = false := decide_eq_false k1
      have hj16 : j = 16 := by
        rcases Nat.lt_or_ge j 16 with h | h
        · have h1 : 2 ^ j ≤ 2 ^ 15 := Nat.pow_le_pow_right (by omega) (by omega)
          have h2 : (2 : Nat) ^ 15 = 32768 := by decide
          have := HK.out
          omega
        · omega
      have HR := Lib.hid (show stB x = false by
        cases hs : stB x
        · rfl
        · obtain ⟨i, hi, e⟩ := HS.out.1 hs
          exact absurd e (HNO.out i (by omega)))
      clear k1
      go_wp2_with fail
      go_ret
      exact ⟨ret_b HR.out.symm, rfl⟩
theorem info_nf : (Try.prog.info? 70).map (fun i => (i.zero, i.size, i.bytes)) = some (some (.agg (nfL (.slice none 0 0) (.slice none 0 0) fun _ => 0).toArray), 42, 368) := by kernel_rfl
theorem run_allocN (w : World) : (Instr.alloc 70 true (.tuple #[])).run Try.prog w = .ok (.pointer (some ⟨w.heap.size, 0, none⟩)) (w.alloc (.cells (nfL (.slice none 0 0) (.slice none 0 0) fun _ => 0).toArray 70)) := by
  obtain ⟨i0, hi0, hz0, hz1, hz2⟩ := info_parts info_nf
  simp [Instr.alloc, zeroValue, typeInfo, hi0, hz0, newVar, newRow, Value.cells]
/-- flows with their network, all zero -/
theorem wpList_allocN {ops : Array Oper} {rest : List Oper} {o : Oper} {a : Act} {w : World} {Q : Exit → Act → World → Prop} (hg : o.guard = none) (ho : o.op = .alloc 70)
    (h : wpList Try.prog ops Q rest (a.put o.dst (.pointer (some ⟨w.heap.size, 0, none⟩))) (w.alloc (.cells (nfL (.slice none 0 0) (.slice none 0 0) fun _ => 0).toArray 70))) : wpList Try.prog ops Q (o :: rest) a w := by
  refine wpList_plain hg fun K hK => ?_
  unfold Oper.wp execOp
  simp only [ho, Sem.run_bind, run_allocN, Result.andThen_ok]
  exact hK _ _ h
set_option maxRecDepth 100000 in
set_option maxHeartbeats 8000000 in
theorem relaxFlowsI_any (w : World) (v : Value) (n : Nat) (N : Nat → Nod) (m : Nat) (P : Nat → Pip) (lo hi : Nat) (h : NetAt w v n N m P lo hi) (hhi : hi ≤ w.heap.size) (hN : ∀ i, i < n → (N i).s.size ≤ 9223372036854775807) (va : Value) (K : Nat) (d : Nat → Int) (la ha : Nat) (hv : Sl w va K d la ha) (hha : ha ≤ w.heap.size) (hK9 : K ≤ 9223372036854775807)  (st : Int) :
    Calls Try.prog 13 #[v, va, .int .i64 st] w (LIIPost w (rfN n N m P K d st) (rfR n m P d st).1 (rfM n N m P K d st) (rfC n N m P K d st)) := by
  obtain ⟨p0, c0, p1, c1, rfl, hn9, hm9⟩ := h.parts
  have HV := Lib.hid h
  have HN := Lib.hid hN
  have HSV := Lib.hid hv
  obtain ⟨pa, ca, rfl⟩ := hv.sh
  have A0 := (boxed w (.slice p0 n c0) (.slice p1 m c1) 33).keep (Below.heap_alloc _ (.cells #[.slice pa K ca] 26) _ (by rw [szal]; omega))
  have B0 := (below_new w (.cells #[.slice p0 n c0, .slice p1 m c1] 33)).trans ((below_new _ (.cells #[.slice pa K ca] 26)).mono (by rw [szal]; omega))
  have hs0 : ((w.alloc (.cells #[.slice p0 n c0, .slice p1 m c1] 33)).alloc (.cells #[.slice pa K ca] 26)).heap.size = w.heap.size + 1 + 1 := by simp
  have y0' := cell_newV (w.alloc (.cells #[.slice p0 n c0, .slice p1 m c1] 33)) (.slice pa K ca) 26
  simp only [szal] at y0'
  clear h hN hv
  go_enter Try.func13, Try.ntmps13
  have e0' := A0.b0
  have e1' := A0.b1
  go_wp2_with fail
  refine (checkFlows_any _ _ n N m P lo hi (HV.out.below B0 hhi) (by omega) HN.out _ _ y0' (by omega) K d la ha (HSV.out.below B0 hha) (by omega) hK9).mono ?_
  rintro e w1 ⟨rfl, b1⟩
  have A1 := A0.below b1 (by omega)
  have B1 := B0.trans (b1.mono (by omega))
  have hs1 := b1.size
  have e0 := A1.b0
  have e1 := A1.b1
  have e2 : w.heap.size < w1.heap.size := by omega
  clear A0 B0 b1 e0' e1'
  by_cases hc : flC n N m P K d = 0
  · obtain ⟨hB, rfl, hf⟩ := flC_ok hc
    have hm40 := (net_sz hB).2.2
    have HB := Lib.hid hB
    have HC := Lib.hid hc
    have HF := Lib.hid (show ∀ k, k < K → -30000 ≤ d k ∧ d k ≤ 30000 from fun k hk => flQ_iff.1 (flB_iff.1 hf k hk))
    rw [hc]
    clear hc hB hf
    cases hst : stB st
    · have H4 := Lib.hid (show rfC n N K P K d st = 2 by unfold rfC; rw [if_pos HC.out, hst]; rfl)
      have H3 := Lib.hid (show rfN n N K P K d st = 0 by unfold rfN; rw [H4.out]; rfl)
      have H2 := Lib.hid (show rfM n N K P K d st = 0 by unfold rfM; rw [H4.out]; rfl)
      go_wp2_with (go_at_call 46; refine (isStep_any _ _).mono ?_; rintro e w' ⟨rfl, rfl⟩; rw [hst])
      go_ret3
      exact lii_err H3.out H2.out H4.out.symm rfl B1
    · have H4 := Lib.hid (show rfC n N K P K d st = 0 by unfold rfC; rw [if_pos HC.out, hst]; rfl)
      have H3 := Lib.hid (show rfN n N K P K d st = K by unfold rfN; rw [H4.out]; rfl)
      have H2 := Lib.hid (show rfM n N K P K d st = (rfR n K P d st).2 by unfold rfM; rw [H4.out]; rfl)
      have hsr := stB_rng hst
      have HREL := Lib.hid (fun (W : World) (hW : Below w.heap.size w W) => relaxedFrom_any W p0 p1 c0 c1 n N K P lo hi (HV.out.below hW hhi) (Nat.le_trans hhi hW.size) HB.out d HF.out st hsr)
      have hRR : rlx K P (fun i => cyc P (fE n P K) (fD n P K) (chS n P K i)) (chN n P K) d st = rfR n K P d st := rfl
      rw [hRR] at HREL
      clear hRR
      generalize hr : rfR n K P d st = r at *
      have HRE := Lib.hid hr
      clear hr
      go_upto_region 7 with (first
        | (go_at_call 46; refine (isStep_any _ _).mono ?_; rintro e w' ⟨rfl, rfl⟩; rw [hst])
        | (go_at_call 47; refine (withFlows_any _ p0 p1 c0 c1 n K _ K d la ha (HSV.out.below B1 hha) (by omega) hm40).mono ?_; rintro e wX ⟨rfl, hbX⟩; have zX := hbX.size; have BX := B1.trans (hbX.mono (by omega)))
        | (go_at_call 48; refine (HREL.out wX BX).mono ?_; rintro e wY ⟨rfl, hbY⟩; have zY := hbY.size; have BY := BX.trans (hbY.mono BX.size); have tY := (Ob.newN wY (.slice none 0 0) (.slice none 0 0) (fun _ => 0) 70).there)
        | (refine wpList_allocN rfl rfl ?_)
        | (refine wpList_stN rfl _ _ rfl wY.heap.size (.slice p0 n c0) (.slice p1 K c1) (pad K r.1) rfl rfl rfl rfl tY ?_; obtain ⟨wZ, hwZ⟩ : ∃ wZ, (wY.alloc (.cells (nfL (.slice none 0 0) (.slice none 0 0) fun _ => 0).toArray 70)).setCells wY.heap.size 0 (nfL (.slice p0 n c0) (.slice p1 K c1) (pad K r.1)) = wZ := ⟨_, rfl⟩; rw [hwZ]; have HWZ := Lib.hid hwZ; clear hwZ))
      have C0 := (Ob.newN wY (.slice none 0 0) (.slice none 0 0) (fun _ => 0) 70).nput (.slice p0 n c0) (.slice p1 K c1) (pad K r.1)
      have bZ := (below_new wY (.cells (nfL (.slice none 0 0) (.slice none 0 0) fun _ => 0).toArray 70)).trans (((Only.refl wY.heap.size (wY.alloc (.cells (nfL (.slice none 0 0) (.slice none 0 0) fun _ => 0).toArray 70))).setCs (nfL (.slice p0 n c0) (.slice p1 K c1) (pad K r.1)) 0).below (Nat.le_refl _))
      rw [HWZ.out] at C0 bZ
      clear tY
      have sZ := bZ.size
      have BZ := BY.trans (bZ.mono BY.size)
      have bYZ := (hbX.trans (hbY.mono zX)).trans (bZ.mono (by omega))
      have f0 := (A1.below bYZ (by omega)).b0
      have f1 := (A1.below bYZ (by omega)).b1
      have g2 := C0.nrange
      obtain ⟨Lx, hLx, eLx⟩ : ∃ L : List Value, arr (pad K r.1) = List.toArray L ∧ L = arrL (pad K r.1) := ⟨_, rfl, rfl⟩
      rw [← eLx] at g2
      have nLx : Lx.length = 40 := by rw [eLx, arr_len]
      have HLx := Lib.hid hLx
      obtain ⟨bq, hbq⟩ : ∃ bq, wY.heap.size = bq := ⟨_, rfl⟩
      rw [hbq] at g2 ⊢
      clear hLx eLx e0 e1 bYZ A1 B1 BX BY hbX hbY bZ hbq C0
      go_wp2_with (first
        | (refine wpList_ldF rfl _ rfl bq 2 Lx rfl nLx g2 ?_)
        | (go_at_call 49; rw [← HLx.out]; refine (listOf_any _ p0 p1 n K c0 c1 _ hm40).mono ?_; rintro e wL ⟨v5, g5, rfl, o5, hg5, hb5⟩))
      go_ret3
      exact lii_ok H3.out.symm H2.out.symm H4.out.symm rfl (o5.congr (fun k hk => by rw [HRE.out]; exact pad_at hk)) (by have := BZ.size; omega) (BZ.trans (hb5.mono BZ.size))
  · have hb1 : (flC n N m P K d != 0) = true := by simpa using hc
    have H4 := Lib.hid (show rfC n N m P K d st = flC n N m P K d by unfold rfC; rw [if_neg hc])
    have H3 := Lib.hid (show rfN n N m P K d st = 0 by unfold rfN; rw [H4.out, if_neg hc])
    have H2 := Lib.hid (show rfM n N m P K d st = 0 by unfold rfM; rw [H4.out, if_neg hc])
    clear hc
    go_wp2_with fail
    go_ret3
    exact lii_err H3.out H2.out H4.out.symm rfl B1
set_option maxRecDepth 100000 in
set_option maxHeartbeats 8000000 in
theorem relaxFlowsS_any (w : World) (v : Value) (n : Nat) (N : Nat → Nod) (m : Nat) (P : Nat → Pip) (lo hi : Nat) (h : NetAt w v n N m P lo hi) (hhi : hi ≤ w.heap.size) (hN : ∀ i, i < n → (N i).s.size ≤ 9223372036854775807) (va : Value) (K : Nat) (d : Nat → Int) (la ha : Nat) (hv : Sl w va K d la ha) (hha : ha ≤ w.heap.size) (hK9 : K ≤ 9223372036854775807)  (st : Int) :
    Calls Try.prog 10 #[v, va, .int .i64 st] w (LIIPost w (rfN n N m P K d st) (rfR n m P d st).1 (rfM n N m P K d st) (rfC n N m P K d st)) := by
  obtain ⟨p0, c0, p1, c1, rfl, hn9, hm9⟩ := h.parts
  have HV := Lib.hid h
  have HN := Lib.hid hN
  obtain ⟨pa, ca, rfl⟩ := hv.sh
  have HSV := Lib.hid hv
  have A0 := boxed w (.slice p0 n c0) (.slice p1 m c1) 33
  have B0 := below_new w (.cells #[.slice p0 n c0, .slice p1 m c1] 33)
  have hs0 : (w.alloc (.cells #[.slice p0 n c0, .slice p1 m c1] 33)).heap.size = w.heap.size + 1 := by simp
  clear h hN hv
  go_enter Try.func10, Try.ntmps10
  have e0' := A0.b0
  have e1' := A0.b1
  go_wp2_with fail
  refine (l05Code_any _ _ n N m P lo hi (HV.out.below B0 hhi) (by omega) HN.out _ K d la ha (HSV.out.below B0 hha) (by omega) hK9).mono ?_
  rintro e w1 ⟨rfl, b1⟩
  have A1 := A0.below b1 (by omega)
  have B1 := B0.trans (b1.mono (by omega))
  have hs1 := b1.size
  have e0 := A1.b0
  have e1 := A1.b1
  have e2 : w.heap.size < w1.heap.size := by omega
  clear A0 B0 b1 e0' e1'
  by_cases hc : flC n N m P K d = 0
  · obtain ⟨hB, rfl, hf⟩ := flC_ok hc
    have hm40 := (net_sz hB).2.2
    have HB := Lib.hid hB
    have HC := Lib.hid hc
    have HF := Lib.hid (show ∀ k, k < K → -30000 ≤ d k ∧ d k ≤ 30000 from fun k hk => flQ_iff.1 (flB_iff.1 hf k hk))
    have H1 := Lib.hid (HSV.out.below B1 hha)
    rw [hc]
    clear hc hB hf
    cases hst : stB st
    · have H4 := Lib.hid (show rfC n N K P K d st = 2 by unfold rfC; rw [if_pos HC.out, hst]; rfl)
      have H3 := Lib.hid (show rfN n N K P K d st = 0 by unfold rfN; rw [H4.out]; rfl)
      have H2 := Lib.hid (show rfM n N K P K d st = 0 by unfold rfM; rw [H4.out]; rfl)
      go_wp2_with (go_at_call 41; refine (l11Step_any _ _).mono ?_; rintro e w' ⟨rfl, rfl⟩; rw [hst])
      go_ret3
      exact lii_err H3.out H2.out H4.out.symm rfl B1
    · have H4 := Lib.hid (show rfC n N K P K d st = 0 by unfold rfC; rw [if_pos HC.out, hst]; rfl)
      have H3 := Lib.hid (show rfN n N K P K d st = K by unfold rfN; rw [H4.out]; rfl)
      have H2 := Lib.hid (show rfM n N K P K d st = (rfR n K P d st).2 by unfold rfM; rw [H4.out]; rfl)
      have hsr := stB_rng hst
      have HREL := Lib.hid (l11Relax_any w1 _ n N K P lo hi (HV.out.below B1 hhi) (by omega) HN.out HB.out _ d la ha H1.out (by omega) HF.out st (by omega))
      have hRR : rlx K P (fun i => cyc P (fE n P K) (fD n P K) (chS n P K i)) (chN n P K) d st = rfR n K P d st := rfl
      rw [hRR] at HREL
      clear hRR
      generalize hr : rfR n K P d st = r at *
      have HRE := Lib.hid hr
      clear hr
      go_wp2_with (first
        | (go_at_call 41; refine (l11Step_any _ _).mono ?_; rintro e w' ⟨rfl, rfl⟩; rw [hst])
        | (go_at_call 42; refine HREL.out.mono ?_; rintro e wY ⟨v2, g2, rfl, o2, hg2, hbY⟩; obtain ⟨c2, rfl⟩ := o2.shape))
      go_ret3
      exact lii_ok H3.out.symm H2.out.symm H4.out.symm rfl (by rw [HRE.out]; exact o2) (by omega) (B1.trans (hbY.mono (by omega)))
  · have hb1 : (flC n N m P K d != 0) = true := by simpa using hc
    have hb2 : (flC n N m P K d == 0) = false := by simpa using hc
    have H4 := Lib.hid (show rfC n N m P K d st = flC n N m P K d by unfold rfC; rw [if_neg hc])
    have H3 := Lib.hid (show rfN n N m P K d st = 0 by unfold rfN; rw [H4.out, if_neg hc])
    have H2 := Lib.hid (show rfM n N m P K d st = 0 by unfold rfM; rw [H4.out, if_neg hc])
    clear hc
    go_wp2_with fail
    go_ret3
    exact lii_err H3.out H2.out H4.out.symm rfl B1
end Go.Proofs.Ytfkacpphdnlkfaa.mem

namespace Go.Proofs.Ytfkacpphdnlkfaa.draw
open Go.RowKit
open Go.Proofs.Ytfkacpphdnlkfaa.mem (range2 range_blockN there_blockN nthe0 nthe1 nthe2 nthe3 nthe4 nthe5 nthe6 nthe7 nthe8 nthe9 nthe10 nthe11 nthe12 nthe13 nthe14 nthe15)
set_option linter.unusedVariables false

set_option maxRecDepth 100000 in
set_option maxHeartbeats 8000000 in
theorem drawEnergyOf (w : World) (cv : Value) (len : Nat) (hc : CodeAt w cv len w.heap.size) : Calls Try.prog 66 #[cv] w (NLOnly w) := by
  have HC := Lib.hid hc
  have R1 := mem.boxed w (.slice none 0 0) (.slice none 0 0) 33
  have C1 := mem.below_new w (.cells #[.slice none 0 0, .slice none 0 0] 33)
  have hsz : (w.alloc (.cells #[.slice none 0 0, .slice none 0 0] 33)).heap.size = w.heap.size + 1 := by simp
  have UN := Try.underlying33
  go_enter Try.func66, Try.ntmps66
  go_wp2_with fail
  generalize hW : w.alloc (.cells #[.slice none 0 0, .slice none 0 0] 33) = Wa at *
  clear hW hc
  replace hsz := Nat.le_antisymm_iff.1 hsz
  refine (from_any Wa cv len (by have := codeAt_below HC.out C1; rcases this with h | ⟨cb, co, cap, h1, h2, h3⟩; exact .inl h; exact .inr ⟨cb, co, cap, h1, by omega, h3⟩)).mono ?_
  rintro e w1 ⟨s1, rfl, hS1, B1, z1⟩
  obtain ⟨b, hbe⟩ : ∃ b, b = Wa.heap.size := ⟨_, rfl⟩
  rw [← hbe] at hS1 z1 ⊢
  replace hbe := Nat.le_antisymm_iff.1 hbe
  replace z1 := Nat.le_antisymm_iff.1 z1
  have C2 := mem.belowNext C1 B1
  have R2 := R1.next B1
  clear B1 C1 R1
  go_wp2_with fail
  refine (l10Draw_any w1 b w.heap.size cv len 0 s1 hS1 (codeAt_below HC.out C2) (by omega)).mono ?_
  rintro e w2 ⟨v, n, m, N, P, b1, b2, vk, K, D, x, i2, s2, rfl, hn, hm, hK, hnm, hO, l1, l2, hL2, hS2, U2⟩
  obtain ⟨p0, c0, p1, c1, rfl⟩ := hO.shape
  obtain ⟨pk, ck, rfl⟩ := sl_sh hL2
  have xN := mem.below_new w2 (.cells #[.slice p0 n c0, .slice p1 m c1] 33)
  have hU := U2.size
  have C3 := (C2.trans (U2.below (by omega) (by rintro x _ rfl; omega))).trans (xN.mono (by omega))
  have R3 := (R2.keep (U2.block w.heap.size (by omega) (by omega))).next xN
  have T3 := mem.boxed w2 (.slice p0 n c0) (.slice p1 m c1) 33
  have O3 := hO.next xN
  have hz3 : (w2.alloc (.cells #[.slice p0 n c0, .slice p1 m c1] 33)).heap.size = w2.heap.size + 1 := by simp
  have L3 := (hL2.below xN (Nat.le_refl _)).mono (show w.heap.size ≤ w1.heap.size by omega) (show w2.heap.size ≤ (w2.alloc (.cells #[.slice p0 n c0, .slice p1 m c1] 33)).heap.size by omega)
  have L3' := (hL2.below xN (Nat.le_refl _)).mono (Nat.le_refl _) (show w2.heap.size ≤ (w2.alloc (.cells #[.slice p0 n c0, .slice p1 m c1] 33)).heap.size by omega)
  have S3 := src_alloc hS2 (src_lt hS2) (.cells #[.slice p0 n c0, .slice p1 m c1] 33)
  have hb2 := src_lt hS2
  have hbT : b ≠ w2.heap.size := by omega
  have hbR : b ≠ w.heap.size := by omega
  have hTR : w2.heap.size ≠ w.heap.size := by omega
  have hb1 : b < w1.heap.size := src_lt hS1
  have hl1 : b < b1 := by omega
  have hl2 : b < b2 := by omega
  clear C2 R2 hO hS2 hL2 U2 xN
  go_upto_region 2 with (fail)
  generalize hW : w2.alloc (.cells #[.slice p0 n c0, .slice p1 m c1] 33) = w3 at *
  clear hW
  replace hz3 := Nat.le_antisymm_iff.1 hz3
  have t0 := T3.b0
  have t1 := T3.b1
  have f0 := R3.b0
  have f1 := R3.b1
  have k0 := R3.free 0
  have k1 := R3.free 1
  have hO2 := ((mem.Only.refl w.heap.size w3).setCell 0 (.slice p0 n c0)).setCell 1 (.slice p1 m c1)
  have HO := Lib.hid (O3.upd (mem.Upd.of_only hO2) (.inr (by omega)) (.inr (by omega)))
  have HL := Lib.hid ((L3'.only hO2 (.inl (by omega))).mono (show w.heap.size ≤ w1.heap.size by omega) (Nat.le_of_eq hO2.size))
  have HB := Lib.hid (mem.below_only C3 hO2 (Nat.le_refl _))
  clear hO2
  go_wp2_with fail
  exact bodyPost_ret (v := .tuple #[.agg #[.slice p0 n c0, .slice p1 m c1], .slice pk K ck]) (by simp [results, Try.results66, go_sem, f0, f1]) rfl ⟨_, n, m, N, P, b1, b2, _, K, D, rfl, hn, hm, (by omega), hnm, HO.out, by omega, by omega, HL.out, HB.out⟩

set_option maxRecDepth 100000 in
set_option maxHeartbeats 8000000 in
theorem drawWorstResidual (w : World) (cv : Value) (len : Nat) (hc : CodeAt w cv len w.heap.size) : Calls Try.prog 24 #[cv] w (NLOnly w) := by
  have HC := Lib.hid hc
  have R1 := mem.boxed w (.slice none 0 0) (.slice none 0 0) 33
  have C1 := mem.below_new w (.cells #[.slice none 0 0, .slice none 0 0] 33)
  have hsz : (w.alloc (.cells #[.slice none 0 0, .slice none 0 0] 33)).heap.size = w.heap.size + 1 := by simp
  have UN := Try.underlying33
  go_enter Try.func24, Try.ntmps24
  go_wp2_with fail
  generalize hW : w.alloc (.cells #[.slice none 0 0, .slice none 0 0] 33) = Wa at *
  clear hW hc
  replace hsz := Nat.le_antisymm_iff.1 hsz
  refine (drawEnergyOf Wa cv len (by have := codeAt_below HC.out C1; rcases this with h | ⟨cb, co, cap, h1, h2, h3⟩; exact .inl h; exact .inr ⟨cb, co, cap, h1, by omega, h3⟩)).mono ?_
  rintro e w2 ⟨v, n, m, N, P, b1, b2, vk, K, D, rfl, hn, hm, hK, hnm, hO, l1, l2, hL2, B2⟩
  obtain ⟨p0, c0, p1, c1, rfl⟩ := hO.shape
  obtain ⟨pk, ck, rfl⟩ := sl_sh hL2
  have R2 := R1.next B2
  have f0 := R2.b0
  have f1 := R2.b1
  have k0 := R2.free 0
  have k1 := R2.free 1
  have lR := R2.lt
  have hO2 := ((mem.Only.refl w.heap.size w2).setCell 0 (.slice p0 n c0)).setCell 1 (.slice p1 m c1)
  have HO := Lib.hid (hO.upd (mem.Upd.of_only hO2) (.inr (by omega)) (.inr (by omega)))
  have HL := Lib.hid ((hL2.only hO2 (.inl (by omega))).mono (show w.heap.size ≤ Wa.heap.size by omega) (Nat.le_of_eq hO2.size))
  have HB := Lib.hid (mem.below_only (C1.trans (B2.mono (by omega))) hO2 (Nat.le_refl _))
  clear hO2 R1 R2 hO hL2 C1 B2
  go_wp2_with fail
  exact bodyPost_ret (v := .tuple #[.agg #[.slice p0 n c0, .slice p1 m c1], .slice pk K ck]) (by simp [results, Try.results24, go_sem, f0, f1]) rfl ⟨_, n, m, N, P, b1, b2, _, K, D, rfl, hn, hm, (by omega), hnm, HO.out, by omega, by omega, HL.out, HB.out⟩

/-- a network, flows and a number have been drawn (chapter 11) -/
def NLCOnly (w : World) (e : Ending) (w' : World) : Prop :=
  ∃ (v : Value) (n m : Nat) (N : Nat → mem.Nod) (P : Nat → mem.Pip) (b1 b2 : Nat) (vk : Value) (K : Nat) (D : Nat → Int) (x : Int), e = .returned (.tuple #[v, vk, .int .i64 x]) ∧ n ≤ 1000 ∧ m ≤ 1000 ∧ K ≤ 2000 ∧ (∀ i, i < n → (N i).s.size ≤ 9223372036854775807) ∧ mem.NetOwn w' v n N m P b1 b2 ∧ w.heap.size ≤ b1 ∧ w.heap.size ≤ b2 ∧ mem.Sl w' vk K D w.heap.size w'.heap.size ∧ Below w.heap.size w w'

set_option maxRecDepth 100000 in
set_option maxHeartbeats 8000000 in
theorem drawRelaxChord (w : World) (cv : Value) (len : Nat) (hc : CodeAt w cv len w.heap.size) : Calls Try.prog 34 #[cv] w (NLCOnly w) := by
  have HC := Lib.hid hc
  have R1 := mem.boxed w (.slice none 0 0) (.slice none 0 0) 33
  have C1 := mem.below_new w (.cells #[.slice none 0 0, .slice none 0 0] 33)
  have hsz : (w.alloc (.cells #[.slice none 0 0, .slice none 0 0] 33)).heap.size = w.heap.size + 1 := by simp
  have UN := Try.underlying33
  go_enter Try.func34, Try.ntmps34
  go_wp2_with fail
  generalize hW : w.alloc (.cells #[.slice none 0 0, .slice none 0 0] 33) = Wa at *
  clear hW hc
  replace hsz := Nat.le_antisymm_iff.1 hsz
  refine (from_any Wa cv len (by have := codeAt_below HC.out C1; rcases this with h | ⟨cb, co, cap, h1, h2, h3⟩; exact .inl h; exact .inr ⟨cb, co, cap, h1, by omega, h3⟩)).mono ?_
  rintro e w1 ⟨s1, rfl, hS1, B1, z1⟩
  obtain ⟨b, hbe⟩ : ∃ b, b = Wa.heap.size := ⟨_, rfl⟩
  rw [← hbe] at hS1 z1 ⊢
  replace hbe := Nat.le_antisymm_iff.1 hbe
  replace z1 := Nat.le_antisymm_iff.1 z1
  have C2 := mem.belowNext C1 B1
  have R2 := R1.next B1
  clear B1 C1 R1
  go_wp2_with fail
  refine (l10Draw_any w1 b w.heap.size cv len 0 s1 hS1 (codeAt_below HC.out C2) (by omega)).mono ?_
  rintro e w2 ⟨v, n, m, N, P, b1, b2, vk, K, D, x, i2, s2, rfl, hn, hm, hK, hnm, hO, l1, l2, hL2, hS2, U2⟩
  obtain ⟨p0, c0, p1, c1, rfl⟩ := hO.shape
  obtain ⟨pk, ck, rfl⟩ := sl_sh hL2
  have hU := U2.size
  have hb1 : b < w1.heap.size := src_lt hS1
  have C3 := C2.trans (U2.below (by omega) (by rintro x _ rfl; omega))
  have R3 := R2.keep (U2.block w.heap.size (by omega) (by omega))
  have f0 := R3.b0
  have f1 := R3.b1
  have k0 := R3.free 0
  have k1 := R3.free 1
  have lR := R3.lt
  have hl1 : b < b1 := by omega
  have hl2 : b < b2 := by omega
  have hO2 := ((mem.Only.refl w.heap.size w2).setCell 0 (.slice p0 n c0)).setCell 1 (.slice p1 m c1)
  have HO := Lib.hid (hO.upd (mem.Upd.of_only hO2) (.inr (by omega)) (.inr (by omega)))
  have HL := Lib.hid ((hL2.only hO2 (.inl (by omega))).mono (show w.heap.size ≤ w1.heap.size by omega) (Nat.le_of_eq hO2.size))
  have HB := Lib.hid (mem.below_only C3 hO2 (Nat.le_refl _))
  clear hO2 C2 R2 hO hS2 hL2 U2 C3 R3
  go_wp2_with fail
  exact bodyPost_ret (v := .tuple #[.agg #[.slice p0 n c0, .slice p1 m c1], .slice pk K ck, .int .i64 x]) (by simp [results, Try.results34, go_sem, f0, f1]) rfl ⟨_, n, m, N, P, b1, b2, _, K, D, x, rfl, hn, hm, (by omega), hnm, HO.out, by omega, by omega, HL.out, HB.out⟩
end Go.Proofs.Ytfkacpphdnlkfaa.draw

namespace Go.Proofs.Ytfkacpphdnlkfaa.draw
open Go.RowKit
open Go.Proofs.Ytfkacpphdnlkfaa.mem (range2 range_blockN there_blockN nthe0 nthe1 nthe2 nthe3 nthe4 nthe5 nthe6 nthe7 nthe8 nthe9 nthe10 nthe11 nthe12 nthe13 nthe14 nthe15)
set_option linter.unusedVariables false

set_option maxRecDepth 100000 in
set_option maxHeartbeats 8000000 in
theorem drawRelaxFlows (w : World) (cv : Value) (len : Nat) (hc : CodeAt w cv len w.heap.size) : Calls Try.prog 29 #[cv] w (NLCOnly w) := by
  have HC := Lib.hid hc
  have R1 := mem.boxed w (.slice none 0 0) (.slice none 0 0) 33
  have C1 := mem.below_new w (.cells #[.slice none 0 0, .slice none 0 0] 33)
  have hsz : (w.alloc (.cells #[.slice none 0 0, .slice none 0 0] 33)).heap.size = w.heap.size + 1 := by simp
  have UN := Try.underlying33
  go_enter Try.func29, Try.ntmps29
  go_wp2_with fail
  generalize hW : w.alloc (.cells #[.slice none 0 0, .slice none 0 0] 33) = Wa at *
  clear hW hc
  replace hsz := Nat.le_antisymm_iff.1 hsz
  refine (from_any Wa cv len (by have := codeAt_below HC.out C1; rcases this with h | ⟨cb, co, cap, h1, h2, h3⟩; exact .inl h; exact .inr ⟨cb, co, cap, h1, by omega, h3⟩)).mono ?_
  rintro e w1 ⟨s1, rfl, hS1, B1, z1⟩
  obtain ⟨b, hbe⟩ : ∃ b, b = Wa.heap.size := ⟨_, rfl⟩
  rw [← hbe] at hS1 z1 ⊢
  replace hbe := Nat.le_antisymm_iff.1 hbe
  replace z1 := Nat.le_antisymm_iff.1 z1
  have C2 := mem.belowNext C1 B1
  have R2 := R1.next B1
  clear B1 C1 R1
  go_wp2_with fail
  refine (l10Draw_any w1 b w.heap.size cv len 0 s1 hS1 (codeAt_below HC.out C2) (by omega)).mono ?_
  rintro e w2 ⟨v, n, m, N, P, b1, b2, vk, K, D, x, i2, s2, rfl, hn, hm, hK, hnm, hO, l1, l2, hL2, hS2, U2⟩
  obtain ⟨p0, c0, p1, c1, rfl⟩ := hO.shape
  obtain ⟨pk, ck, rfl⟩ := sl_sh hL2
  have xN := mem.below_new w2 (.cells #[.slice p0 n c0, .slice p1 m c1] 33)
  have hU := U2.size
  have C3 := (C2.trans (U2.below (by omega) (by rintro x _ rfl; omega))).trans (xN.mono (by omega))
  have R3 := (R2.keep (U2.block w.heap.size (by omega) (by omega))).next xN
  have T3 := mem.boxed w2 (.slice p0 n c0) (.slice p1 m c1) 33
  have O3 := hO.next xN
  have hz3 : (w2.alloc (.cells #[.slice p0 n c0, .slice p1 m c1] 33)).heap.size = w2.heap.size + 1 := by simp
  have L3 := (hL2.below xN (Nat.le_refl _)).mono (show w.heap.size ≤ w1.heap.size by omega) (show w2.heap.size ≤ (w2.alloc (.cells #[.slice p0 n c0, .slice p1 m c1] 33)).heap.size by omega)
  have L3' := (hL2.below xN (Nat.le_refl _)).mono (Nat.le_refl _) (show w2.heap.size ≤ (w2.alloc (.cells #[.slice p0 n c0, .slice p1 m c1] 33)).heap.size by omega)
  have S3 := src_alloc hS2 (src_lt hS2) (.cells #[.slice p0 n c0, .slice p1 m c1] 33)
  have hb2 := src_lt hS2
  have hbT : b ≠ w2.heap.size := by omega
  have hbR : b ≠ w.heap.size := by omega
  have hTR : w2.heap.size ≠ w.heap.size := by omega
  have hb1 : b < w1.heap.size := src_lt hS1
  have hl1 : b < b1 := by omega
  have hl2 : b < b2 := by omega
  clear C2 R2 hO hS2 hL2 U2 xN
  go_upto_region 3 with (fail)
  generalize hW : w2.alloc (.cells #[.slice p0 n c0, .slice p1 m c1] 33) = w3 at *
  clear hW
  have g3 := range2 T3.b0 T3.b1
  have lT3 := T3.lt
  obtain ⟨O4, L4, S4, C4, R4, T4, lT4, hzd⟩ : mem.NetOwn w3.drew (.agg #[.slice p0 n c0, .slice p1 m c1]) n N m P b1 b2 ∧ mem.Sl w3.drew (.slice pk K ck) K D w1.heap.size w3.drew.heap.size ∧ Src w3.drew b cv len i2 s2 ∧ Below w.heap.size w w3.drew ∧ mem.Ob w3.drew w.heap.size 2 (mem.bx (.slice none 0 0) (.slice none 0 0)) ∧ w3.drew.rangeAt w2.heap.size 0 [.slice p0 n c0, .slice p1 m c1] ∧ w2.heap.size < w3.drew.heap.size ∧ w3.drew.heap.size = w3.heap.size := ⟨O3.drew, sl_drew L3', src_upd S3 rfl, mem.below_dw C3, R3.keep rfl, range_blockN g3 rfl, lT3, rfl⟩
  clear C3 R3 T3 O3 S3 L3 L3' g3 lT3
  replace hzd := Nat.le_antisymm_iff.1 hzd
  replace hz3 := Nat.le_antisymm_iff.1 hz3
  have HOUT : ∀ (W : World) (y : Int), mem.NetOwn W (.agg #[.slice p0 n c0, .slice p1 m c1]) n N m P b1 b2 → mem.Sl W (.slice pk K ck) K D w1.heap.size W.heap.size → Below w.heap.size w W → NLCOnly w (.returned (.tuple #[.agg #[.slice p0 n c0, .slice p1 m c1], .slice pk K ck, .int .i64 y])) W := fun W y hO hL hC => ⟨_, n, m, N, P, b1, b2, _, K, D, y, rfl, hn, hm, hK, hnm, hO, by omega, by omega, hL.mono (by omega) (Nat.le_refl _), hC⟩
  refine wp_region_noPanic ?_
  refine wp_region_held_drew (S := fun w' : World => w'.rangeAt w2.heap.size 0 [.slice p0 n c0, .slice p1 m c1]) (by kernel_rfl) T4 (fun sH => ?_)
  refine wpAnyH_take (i := 0) (v := .agg #[.slice p0 n c0, .slice p1 m c1]) nthe0 (by kernel_rfl) (by kernel_rfl) (by kernel_rfl) (fun _ _ _ h => h) (yieldsIf_load_mid (by rfl) _ _ rfl w2.heap.size 0 rfl [.slice p0 n c0, .slice p1 m c1] _ (fun _ h => h) UN rfl (by exact net2_info)) sH ?_
  try simp only [Act.put, List.setIfInBounds_toArray, List.set_cons_zero, List.set_cons_succ]
  refine wpAnyH_take (i := 1) (v := ?_) nthe1 (by kernel_rfl) (by kernel_rfl) (by kernel_rfl) (fun _ _ _ h => h) (Or.inl ⟨by rfl, ?_⟩) sH ?_
  rotate_left
  · intro wS hSw; (try dsimp only at hSw); go_simp; try with_reducible rfl
  try simp only [Act.put, List.setIfInBounds_toArray, List.set_cons_zero, List.set_cons_succ]
  refine wpAnyH_take (i := 3) (v := ?_) nthe3 (by kernel_rfl) (by kernel_rfl) (by kernel_rfl) (fun _ _ _ h => h) (Or.inl ⟨by rfl, ?_⟩) sH ?_
  rotate_left
  · intro wS hSw; (try dsimp only at hSw); go_simp; try with_reducible rfl
  try simp only [Act.put, List.setIfInBounds_toArray, List.set_cons_zero, List.set_cons_succ]
  refine wpAnyH_ready (rs := [2, 4]) (by kernel_rfl) (by simp) (AllReadyH.cons nthe2 (fun KON hKON => ?_) (AllReadyH.cons nthe4 (fun KON hKON => ?_) AllReadyH.nil))
  · go_simp
    have bA := mem.below_new w3.drew (.cells #[.int .i64 1, .int .i64 2, .int .i64 4, .int .i64 16, .int .i64 32768, .int .i64 0, .int .i64 3, .int .i64 65536] 2)
    have tA := tabI w3.drew 2 #[.int .i64 1, .int .i64 2, .int .i64 4, .int .i64 16, .int .i64 32768, .int .i64 0, .int .i64 3, .int .i64 65536] (by
      intro j hj
      rcases (by simp at hj; omega : j = 0 ∨ j = 1 ∨ j = 2 ∨ j = 3 ∨ j = 4 ∨ j = 5 ∨ j = 6 ∨ j = 7) with rfl | rfl | rfl | rfl | rfl | rfl | rfl | rfl
      all_goals exact ⟨_, rfl⟩)
    have hz5 : (w3.drew.alloc (.cells #[.int .i64 1, .int .i64 2, .int .i64 4, .int .i64 16, .int .i64 32768, .int .i64 0, .int .i64 3, .int .i64 65536] 2)).heap.size = w3.drew.heap.size + 1 := by simp
    replace hz5 := Nat.le_antisymm_iff.1 hz5
    have O5 := O4.next bA
    have L5 := (L4.below bA (Nat.le_refl _)).mono (Nat.le_refl _) (show w3.drew.heap.size ≤ (w3.drew.alloc (.cells #[.int .i64 1, .int .i64 2, .int .i64 4, .int .i64 16, .int .i64 32768, .int .i64 0, .int .i64 3, .int .i64 65536] 2)).heap.size by omega)
    have S5 := src_alloc S4 (src_lt S4) (.cells #[.int .i64 1, .int .i64 2, .int .i64 4, .int .i64 16, .int .i64 32768, .int .i64 0, .int .i64 3, .int .i64 65536] 2)
    have C5 := C4.trans (bA.mono (C4.size))
    have R5 := R4.next bA
    have T5 := range_blockN T4 (bA.block w2.heap.size lT4)
    have lT5 : w2.heap.size < (w3.drew.alloc (.cells #[.int .i64 1, .int .i64 2, .int .i64 4, .int .i64 16, .int .i64 32768, .int .i64 0, .int .i64 3, .int .i64 65536] 2)).heap.size := by omega
    have lA5 : w3.drew.heap.size < (w3.drew.alloc (.cells #[.int .i64 1, .int .i64 2, .int .i64 4, .int .i64 16, .int .i64 32768, .int .i64 0, .int .i64 3, .int .i64 65536] 2)).heap.size := by omega
    refine hKON.out _ _ T5 (fun sH => ?_)
    clear hKON KON
    try simp only [Act.put, List.setIfInBounds_toArray, List.set_cons_zero, List.set_cons_succ]
    refine wpAnyH_ready (rs := [4]) (by kernel_rfl) (by simp) (AllReadyH.cons nthe4 (fun KON hKON => ?_) AllReadyH.nil)
    · go_simp
      refine (next_any _ b w.heap.size cv len i2 s2 8 S5 (codeAt_below HC.out C5) (by omega) (by omega)).mono ?_
      rintro e wn ⟨vn, i4, s4, rfl, tn, htn, S6, on⟩
      obtain ⟨j, rfl⟩ := Int.eq_ofNat_of_zero_le tn
      have hj : j < 8 := by omega
      have hj2 : (j : Int) < 8 := by omega
      have hz6 : wn.heap.size = (w3.drew.alloc (.cells #[.int .i64 1, .int .i64 2, .int .i64 4, .int .i64 16, .int .i64 32768, .int .i64 0, .int .i64 3, .int .i64 65536] 2)).heap.size := on.size.symm
      replace hz6 := Nat.le_antisymm_iff.1 hz6
      have O6 := O5.upd (upd_of on) (.inr (by omega)) (.inr (by omega))
      have L6 := (sl_upd L5 (upd_of on) hb1 (Nat.le_refl _)).mono (Nat.le_refl _) (show (w3.drew.alloc (.cells #[.int .i64 1, .int .i64 2, .int .i64 4, .int .i64 16, .int .i64 32768, .int .i64 0, .int .i64 3, .int .i64 65536] 2)).heap.size ≤ wn.heap.size by omega)
      have C6 := C5.trans (only_below on (by omega))
      have R6 := R5.keep (on.block w.heap.size (fun e => hbR e.symm))
      have T6 := range_blockN T5 (on.block w2.heap.size (fun e => hbT e.symm))
      have lT6 : w2.heap.size < wn.heap.size := by omega
      obtain ⟨y, hy⟩ := tA j hj
      have hyc : wn.cell? ⟨w3.heap.size, j, none⟩ = some (.int .i64 y) := (World.cell?_of_block (on.block w3.heap.size (by omega))).trans hy
      refine hKON.out _ _ T6 (fun sH => ?_)
      clear hKON KON
      try simp only [Act.put, List.setIfInBounds_toArray, List.set_cons_zero, List.set_cons_succ]
      refine wpAnyH_take (i := 5) (v := ?_) nthe5 (by kernel_rfl) (by kernel_rfl) (by kernel_rfl) (fun _ _ _ h => h) (Or.inl ⟨by rfl, ?_⟩) sH ?_
      rotate_left
      · intro wS hSw; (try dsimp only at hSw); go_simp; try with_reducible rfl
      try simp only [Act.put, List.setIfInBounds_toArray, List.set_cons_zero, List.set_cons_succ]
      refine wpAnyH_ready (rs := [6, 7]) (by kernel_rfl) (by simp) (AllReadyH.cons nthe6 (fun KON hKON => ?_) (AllReadyH.cons nthe7 (fun KON hKON => ?_) AllReadyH.nil))
      · go_simp
        refine hKON.out _ _ T6 (fun sH => ?_)
        clear hKON KON
        try simp only [Act.put, List.setIfInBounds_toArray, List.set_cons_zero, List.set_cons_succ]
        refine wpAnyH_ready (rs := [7]) (by kernel_rfl) (by simp) (AllReadyH.cons nthe7 (fun KON hKON => ?_) AllReadyH.nil)
        · rw [if_pos (by rfl)]
          refine wp_store_mid _ _ _ rfl w.heap.size _ ([.slice p0 n c0, .slice p1 m c1] : List Value).toArray rfl rfl (by show World.there _ _ 0 2; exact R6.there) (by exact net2_info) (all_oneCell_toArray net2_one) ?_
          simp only [Act.put]
          have hO2 := (mem.Only.refl w.heap.size wn).setCs [.slice p0 n c0, .slice p1 m c1] 0
          obtain ⟨fx0, fx1⟩ := put2 R6 (.slice p0 n c0) (.slice p1 m c1)
          have hz7 : (wn.setCells w.heap.size 0 [.slice p0 n c0, .slice p1 m c1]).heap.size = wn.heap.size := hO2.size.symm
          replace hz7 := Nat.le_antisymm_iff.1 hz7
          have O7 := O6.upd (mem.Upd.of_only hO2) (.inr (by omega)) (.inr (by omega))
          have L7 := (L6.only hO2 (.inl (by omega))).mono (Nat.le_refl _) (show wn.heap.size ≤ (wn.setCells w.heap.size 0 [.slice p0 n c0, .slice p1 m c1]).heap.size by omega)
          have C7 := mem.below_only C6 hO2 (Nat.le_refl _)
          have S7 := src_upd S6 (hO2.block b hbR)
          have R7 := R6.setCs [.slice p0 n c0, .slice p1 m c1] 0 (by simp)
          have T7 := range_blockN T6 (hO2.block w2.heap.size hTR)
          have lT7 : w2.heap.size < (wn.setCells w.heap.size 0 [.slice p0 n c0, .slice p1 m c1]).heap.size := by omega
          refine hKON.out _ _ T7 (fun sH => ?_)
          clear hKON KON
          try simp only [Act.put, List.set_cons_succ]
          refine wpAnyH_take (i := 8) (v := ?_) nthe8 (by kernel_rfl) (by kernel_rfl) (by kernel_rfl) (fun _ _ _ h => h) (Or.inl ⟨by rfl, ?_⟩) sH ?_
          rotate_left
          · intro wS hSw; (try dsimp only at hSw); go_simp; try with_reducible rfl
          try simp only [Act.put]
          refine wpAnyH_take (i := 9) (v := ?_) nthe9 (by kernel_rfl) (by kernel_rfl) (by kernel_rfl) (fun _ _ _ h => h) (Or.inl ⟨by rfl, ?_⟩) sH ?_
          rotate_left
          · intro wS hSw; (try dsimp only at hSw); go_simp; try with_reducible rfl
          try simp only [Act.put, List.setIfInBounds_toArray, List.set_cons_zero, List.set_cons_succ]
          refine wpAnyH_done (by kernel_rfl) ?_ _
          refine NoPanic.normal ?_
          go_wp2_with fail
          refine bodyPost_ret (v := .tuple #[.agg #[.slice p0 n c0, .slice p1 m c1], .slice pk K ck, .int .i64 y]) (by simp [results, Try.results29, go_sem, fx0, fx1]) rfl (HOUT _ _ O7 L7 C7)
      · rw [if_pos (by rfl)]
        refine wp_store_mid _ _ _ rfl w.heap.size _ ([.slice p0 n c0, .slice p1 m c1] : List Value).toArray rfl rfl (by show World.there _ _ 0 2; exact R6.there) (by exact net2_info) (all_oneCell_toArray net2_one) ?_
        simp only [Act.put]
        have hO2 := (mem.Only.refl w.heap.size wn).setCs [.slice p0 n c0, .slice p1 m c1] 0
        obtain ⟨fx0, fx1⟩ := put2 R6 (.slice p0 n c0) (.slice p1 m c1)
        have hz7 : (wn.setCells w.heap.size 0 [.slice p0 n c0, .slice p1 m c1]).heap.size = wn.heap.size := hO2.size.symm
        replace hz7 := Nat.le_antisymm_iff.1 hz7
        have O7 := O6.upd (mem.Upd.of_only hO2) (.inr (by omega)) (.inr (by omega))
        have L7 := (L6.only hO2 (.inl (by omega))).mono (Nat.le_refl _) (show wn.heap.size ≤ (wn.setCells w.heap.size 0 [.slice p0 n c0, .slice p1 m c1]).heap.size by omega)
        have C7 := mem.below_only C6 hO2 (Nat.le_refl _)
        have S7 := src_upd S6 (hO2.block b hbR)
        have R7 := R6.setCs [.slice p0 n c0, .slice p1 m c1] 0 (by simp)
        have T7 := range_blockN T6 (hO2.block w2.heap.size hTR)
        have lT7 : w2.heap.size < (wn.setCells w.heap.size 0 [.slice p0 n c0, .slice p1 m c1]).heap.size := by omega
        have hyc2 : (wn.setCells w.heap.size 0 [.slice p0 n c0, .slice p1 m c1]).cell? ⟨w3.heap.size, j, none⟩ = some (.int .i64 y) := (World.cell?_of_block (hO2.block w3.heap.size (by omega))).trans hyc
        clear hyc
        have hyc := hyc2
        refine hKON.out _ _ T7 (fun sH => ?_)
        clear hKON KON
        try simp only [Act.put, List.set_cons_succ]
        refine wpAnyH_take (i := 8) (v := ?_) nthe8 (by kernel_rfl) (by kernel_rfl) (by kernel_rfl) (fun _ _ _ h => h) (Or.inl ⟨by rfl, ?_⟩) sH ?_
        rotate_left
        · intro wS hSw; (try dsimp only at hSw); go_simp; try with_reducible rfl
        try simp only [Act.put]
        refine wpAnyH_ready (rs := [6]) (by kernel_rfl) (by simp) (AllReadyH.cons nthe6 (fun KON hKON => ?_) AllReadyH.nil)
        · go_simp
          refine hKON.out _ _ T7 (fun sH => ?_)
          clear hKON KON
          try simp only [Act.put, List.setIfInBounds_toArray, List.set_cons_zero, List.set_cons_succ]
          refine wpAnyH_take (i := 9) (v := ?_) nthe9 (by kernel_rfl) (by kernel_rfl) (by kernel_rfl) (fun _ _ _ h => h) (Or.inl ⟨by rfl, ?_⟩) sH ?_
          rotate_left
          · intro wS hSw; (try dsimp only at hSw); go_simp; try with_reducible rfl
          try simp only [Act.put, List.setIfInBounds_toArray, List.set_cons_zero, List.set_cons_succ]
          refine wpAnyH_done (by kernel_rfl) ?_ _
          refine NoPanic.normal ?_
          go_wp2_with fail
          refine bodyPost_ret (v := .tuple #[.agg #[.slice p0 n c0, .slice p1 m c1], .slice pk K ck, .int .i64 y]) (by simp [results, Try.results29, go_sem, fx0, fx1]) rfl (HOUT _ _ O7 L7 C7)
  · go_simp
    refine (next_any _ b w.heap.size cv len i2 s2 8 S4 (codeAt_below HC.out C4) (by omega) (by omega)).mono ?_
    rintro e wn ⟨vn, i4, s4, rfl, tn, htn, S5, on⟩
    obtain ⟨j, rfl⟩ := Int.eq_ofNat_of_zero_le tn
    have hj : j < 8 := by omega
    have hj2 : (j : Int) < 8 := by omega
    have hz5 : wn.heap.size = w3.drew.heap.size := on.size.symm
    replace hz5 := Nat.le_antisymm_iff.1 hz5
    have O5 := O4.upd (upd_of on) (.inr (by omega)) (.inr (by omega))
    have L5 := (sl_upd L4 (upd_of on) hb1 (Nat.le_refl _)).mono (Nat.le_refl _) (show w3.drew.heap.size ≤ wn.heap.size by omega)
    have C5 := C4.trans (only_below on (by omega))
    have R5 := R4.keep (on.block w.heap.size (fun e => hbR e.symm))
    have T5 := range_blockN T4 (on.block w2.heap.size (fun e => hbT e.symm))
    have lT5 : w2.heap.size < wn.heap.size := by omega
    refine hKON.out _ _ T5 (fun sH => ?_)
    clear hKON KON
    try simp only [Act.put, List.setIfInBounds_toArray, List.set_cons_zero, List.set_cons_succ]
    refine wpAnyH_ready (rs := [2, 7]) (by kernel_rfl) (by simp) (AllReadyH.cons nthe2 (fun KON hKON => ?_) (AllReadyH.cons nthe7 (fun KON hKON => ?_) AllReadyH.nil))
    · go_simp
      have bA := mem.below_new wn (.cells #[.int .i64 1, .int .i64 2, .int .i64 4, .int .i64 16, .int .i64 32768, .int .i64 0, .int .i64 3, .int .i64 65536] 2)
      have tA := tabI wn 2 #[.int .i64 1, .int .i64 2, .int .i64 4, .int .i64 16, .int .i64 32768, .int .i64 0, .int .i64 3, .int .i64 65536] (by
        intro j hj
        rcases (by simp at hj; omega : j = 0 ∨ j = 1 ∨ j = 2 ∨ j = 3 ∨ j = 4 ∨ j = 5 ∨ j = 6 ∨ j = 7) with rfl | rfl | rfl | rfl | rfl | rfl | rfl | rfl
        all_goals exact ⟨_, rfl⟩)
      have hz6 : (wn.alloc (.cells #[.int .i64 1, .int .i64 2, .int .i64 4, .int .i64 16, .int .i64 32768, .int .i64 0, .int .i64 3, .int .i64 65536] 2)).heap.size = wn.heap.size + 1 := by simp
      replace hz6 := Nat.le_antisymm_iff.1 hz6
      have O6 := O5.next bA
      have L6 := (L5.below bA (Nat.le_refl _)).mono (Nat.le_refl _) (show wn.heap.size ≤ (wn.alloc (.cells #[.int .i64 1, .int .i64 2, .int .i64 4, .int .i64 16, .int .i64 32768, .int .i64 0, .int .i64 3, .int .i64 65536] 2)).heap.size by omega)
      have S6 := src_alloc S5 (src_lt S5) (.cells #[.int .i64 1, .int .i64 2, .int .i64 4, .int .i64 16, .int .i64 32768, .int .i64 0, .int .i64 3, .int .i64 65536] 2)
      have C6 := C5.trans (bA.mono (C5.size))
      have R6 := R5.next bA
      have T6 := range_blockN T5 (bA.block w2.heap.size lT5)
      have lT6 : w2.heap.size < (wn.alloc (.cells #[.int .i64 1, .int .i64 2, .int .i64 4, .int .i64 16, .int .i64 32768, .int .i64 0, .int .i64 3, .int .i64 65536] 2)).heap.size := by omega
      have lA6 : wn.heap.size < (wn.alloc (.cells #[.int .i64 1, .int .i64 2, .int .i64 4, .int .i64 16, .int .i64 32768, .int .i64 0, .int .i64 3, .int .i64 65536] 2)).heap.size := by omega
      obtain ⟨y, hy⟩ := tA j hj
      have hyc : (wn.alloc (.cells #[.int .i64 1, .int .i64 2, .int .i64 4, .int .i64 16, .int .i64 32768, .int .i64 0, .int .i64 3, .int .i64 65536] 2)).cell? ⟨wn.heap.size, j, none⟩ = some (.int .i64 y) := hy
      refine hKON.out _ _ T6 (fun sH => ?_)
      clear hKON KON
      try simp only [Act.put, List.setIfInBounds_toArray, List.set_cons_zero, List.set_cons_succ]
      refine wpAnyH_take (i := 5) (v := ?_) nthe5 (by kernel_rfl) (by kernel_rfl) (by kernel_rfl) (fun _ _ _ h => h) (Or.inl ⟨by rfl, ?_⟩) sH ?_
      rotate_left
      · intro wS hSw; (try dsimp only at hSw); go_simp; try with_reducible rfl
      try simp only [Act.put, List.setIfInBounds_toArray, List.set_cons_zero, List.set_cons_succ]
      refine wpAnyH_ready (rs := [6, 7]) (by kernel_rfl) (by simp) (AllReadyH.cons nthe6 (fun KON hKON => ?_) (AllReadyH.cons nthe7 (fun KON hKON => ?_) AllReadyH.nil))
      · go_simp
        refine hKON.out _ _ T6 (fun sH => ?_)
        clear hKON KON
        try simp only [Act.put, List.setIfInBounds_toArray, List.set_cons_zero, List.set_cons_succ]
        refine wpAnyH_ready (rs := [7]) (by kernel_rfl) (by simp) (AllReadyH.cons nthe7 (fun KON hKON => ?_) AllReadyH.nil)
        · rw [if_pos (by rfl)]
          refine wp_store_mid _ _ _ rfl w.heap.size _ ([.slice p0 n c0, .slice p1 m c1] : List Value).toArray rfl rfl (by show World.there _ _ 0 2; exact R6.there) (by exact net2_info) (all_oneCell_toArray net2_one) ?_
          simp only [Act.put]
          have hO2 := (mem.Only.refl w.heap.size (wn.alloc (.cells #[.int .i64 1, .int .i64 2, .int .i64 4, .int .i64 16, .int .i64 32768, .int .i64 0, .int .i64 3, .int .i64 65536] 2))).setCs [.slice p0 n c0, .slice p1 m c1] 0
          obtain ⟨fx0, fx1⟩ := put2 R6 (.slice p0 n c0) (.slice p1 m c1)
          have hz7 : ((wn.alloc (.cells #[.int .i64 1, .int .i64 2, .int .i64 4, .int .i64 16, .int .i64 32768, .int .i64 0, .int .i64 3, .int .i64 65536] 2)).setCells w.heap.size 0 [.slice p0 n c0, .slice p1 m c1]).heap.size = (wn.alloc (.cells #[.int .i64 1, .int .i64 2, .int .i64 4, .int .i64 16, .int .i64 32768, .int .i64 0, .int .i64 3, .int .i64 65536] 2)).heap.size := hO2.size.symm
          replace hz7 := Nat.le_antisymm_iff.1 hz7
          have O7 := O6.upd (mem.Upd.of_only hO2) (.inr (by omega)) (.inr (by omega))
          have L7 := (L6.only hO2 (.inl (by omega))).mono (Nat.le_refl _) (show (wn.alloc (.cells #[.int .i64 1, .int .i64 2, .int .i64 4, .int .i64 16, .int .i64 32768, .int .i64 0, .int .i64 3, .int .i64 65536] 2)).heap.size ≤ ((wn.alloc (.cells #[.int .i64 1, .int .i64 2, .int .i64 4, .int .i64 16, .int .i64 32768, .int .i64 0, .int .i64 3, .int .i64 65536] 2)).setCells w.heap.size 0 [.slice p0 n c0, .slice p1 m c1]).heap.size by omega)
          have C7 := mem.below_only C6 hO2 (Nat.le_refl _)
          have S7 := src_upd S6 (hO2.block b hbR)
          have R7 := R6.setCs [.slice p0 n c0, .slice p1 m c1] 0 (by simp)
          have T7 := range_blockN T6 (hO2.block w2.heap.size hTR)
          have lT7 : w2.heap.size < ((wn.alloc (.cells #[.int .i64 1, .int .i64 2, .int .i64 4, .int .i64 16, .int .i64 32768, .int .i64 0, .int .i64 3, .int .i64 65536] 2)).setCells w.heap.size 0 [.slice p0 n c0, .slice p1 m c1]).heap.size := by omega
          refine hKON.out _ _ T7 (fun sH => ?_)
          clear hKON KON
          try simp only [Act.put, List.set_cons_succ]
          refine wpAnyH_take (i := 8) (v := ?_) nthe8 (by kernel_rfl) (by kernel_rfl) (by kernel_rfl) (fun _ _ _ h => h) (Or.inl ⟨by rfl, ?_⟩) sH ?_
          rotate_left
          · intro wS hSw; (try dsimp only at hSw); go_simp; try with_reducible rfl
          try simp only [Act.put]
          refine wpAnyH_take (i := 9) (v := ?_) nthe9 (by kernel_rfl) (by kernel_rfl) (by kernel_rfl) (fun _ _ _ h => h) (Or.inl ⟨by rfl, ?_⟩) sH ?_
          rotate_left
          · intro wS hSw; (try dsimp only at hSw); go_simp; try with_reducible rfl
          try simp only [Act.put, List.setIfInBounds_toArray, List.set_cons_zero, List.set_cons_succ]
          refine wpAnyH_done (by kernel_rfl) ?_ _
          refine NoPanic.normal ?_
          go_wp2_with fail
          refine bodyPost_ret (v := .tuple #[.agg #[.slice p0 n c0, .slice p1 m c1], .slice pk K ck, .int .i64 y]) (by simp [results, Try.results29, go_sem, fx0, fx1]) rfl (HOUT _ _ O7 L7 C7)
      · rw [if_pos (by rfl)]
        refine wp_store_mid _ _ _ rfl w.heap.size _ ([.slice p0 n c0, .slice p1 m c1] : List Value).toArray rfl rfl (by show World.there _ _ 0 2; exact R6.there) (by exact net2_info) (all_oneCell_toArray net2_one) ?_
        simp only [Act.put]
        have hO2 := (mem.Only.refl w.heap.size (wn.alloc (.cells #[.int .i64 1, .int .i64 2, .int .i64 4, .int .i64 16, .int .i64 32768, .int .i64 0, .int .i64 3, .int .i64 65536] 2))).setCs [.slice p0 n c0, .slice p1 m c1] 0
        obtain ⟨fx0, fx1⟩ := put2 R6 (.slice p0 n c0) (.slice p1 m c1)
        have hz7 : ((wn.alloc (.cells #[.int .i64 1, .int .i64 2, .int .i64 4, .int .i64 16, .int .i64 32768, .int .i64 0, .int .i64 3, .int .i64 65536] 2)).setCells w.heap.size 0 [.slice p0 n c0, .slice p1 m c1]).heap.size = (wn.alloc (.cells #[.int .i64 1, .int .i64 2, .int .i64 4, .int .i64 16, .int .i64 32768, .int .i64 0, .int .i64 3, .int .i64 65536] 2)).heap.size := hO2.size.symm
        replace hz7 := Nat.le_antisymm_iff.1 hz7
        have O7 := O6.upd (mem.Upd.of_only hO2) (.inr (by omega)) (.inr (by omega))
        have L7 := (L6.only hO2 (.inl (by omega))).mono (Nat.le_refl _) (show (wn.alloc (.cells #[.int .i64 1, .int .i64 2, .int .i64 4, .int .i64 16, .int .i64 32768, .int .i64 0, .int .i64 3, .int .i64 65536] 2)).heap.size ≤ ((wn.alloc (.cells #[.int .i64 1, .int .i64 2, .int .i64 4, .int .i64 16, .int .i64 32768, .int .i64 0, .int .i64 3, .int .i64 65536] 2)).setCells w.heap.size 0 [.slice p0 n c0, .slice p1 m c1]).heap.size by omega)
        have C7 := mem.below_only C6 hO2 (Nat.le_refl _)
        have S7 := src_upd S6 (hO2.block b hbR)
        have R7 := R6.setCs [.slice p0 n c0, .slice p1 m c1] 0 (by simp)
        have T7 := range_blockN T6 (hO2.block w2.heap.size hTR)
        have lT7 : w2.heap.size < ((wn.alloc (.cells #[.int .i64 1, .int .i64 2, .int .i64 4, .int .i64 16, .int .i64 32768, .int .i64 0, .int .i64 3, .int .i64 65536] 2)).setCells w.heap.size 0 [.slice p0 n c0, .slice p1 m c1]).heap.size := by omega
        have hyc2 : ((wn.alloc (.cells #[.int .i64 1, .int .i64 2, .int .i64 4, .int .i64 16, .int .i64 32768, .int .i64 0, .int .i64 3, .int .i64 65536] 2)).setCells w.heap.size 0 [.slice p0 n c0, .slice p1 m c1]).cell? ⟨wn.heap.size, j, none⟩ = some (.int .i64 y) := (World.cell?_of_block (hO2.block wn.heap.size (by omega))).trans hyc
        clear hyc
        have hyc := hyc2
        refine hKON.out _ _ T7 (fun sH => ?_)
        clear hKON KON
        try simp only [Act.put, List.set_cons_succ]
        refine wpAnyH_take (i := 8) (v := ?_) nthe8 (by kernel_rfl) (by kernel_rfl) (by kernel_rfl) (fun _ _ _ h => h) (Or.inl ⟨by rfl, ?_⟩) sH ?_
        rotate_left
        · intro wS hSw; (try dsimp only at hSw); go_simp; try with_reducible rfl
        try simp only [Act.put]
        refine wpAnyH_ready (rs := [6]) (by kernel_rfl) (by simp) (AllReadyH.cons nthe6 (fun KON hKON => ?_) AllReadyH.nil)
        · go_simp
          refine hKON.out _ _ T7 (fun sH => ?_)
          clear hKON KON
          try simp only [Act.put, List.setIfInBounds_toArray, List.set_cons_zero, List.set_cons_succ]
          refine wpAnyH_take (i := 9) (v := ?_) nthe9 (by kernel_rfl) (by kernel_rfl) (by kernel_rfl) (fun _ _ _ h => h) (Or.inl ⟨by rfl, ?_⟩) sH ?_
          rotate_left
          · intro wS hSw; (try dsimp only at hSw); go_simp; try with_reducible rfl
          try simp only [Act.put, List.setIfInBounds_toArray, List.set_cons_zero, List.set_cons_succ]
          refine wpAnyH_done (by kernel_rfl) ?_ _
          refine NoPanic.normal ?_
          go_wp2_with fail
          refine bodyPost_ret (v := .tuple #[.agg #[.slice p0 n c0, .slice p1 m c1], .slice pk K ck, .int .i64 y]) (by simp [results, Try.results29, go_sem, fx0, fx1]) rfl (HOUT _ _ O7 L7 C7)
    · rw [if_pos (by rfl)]
      refine wp_store_mid _ _ _ rfl w.heap.size _ ([.slice p0 n c0, .slice p1 m c1] : List Value).toArray rfl rfl (by show World.there _ _ 0 2; exact R5.there) (by exact net2_info) (all_oneCell_toArray net2_one) ?_
      simp only [Act.put]
      have hO2 := (mem.Only.refl w.heap.size wn).setCs [.slice p0 n c0, .slice p1 m c1] 0
      obtain ⟨fx0, fx1⟩ := put2 R5 (.slice p0 n c0) (.slice p1 m c1)
      have hz6 : (wn.setCells w.heap.size 0 [.slice p0 n c0, .slice p1 m c1]).heap.size = wn.heap.size := hO2.size.symm
      replace hz6 := Nat.le_antisymm_iff.1 hz6
      have O6 := O5.upd (mem.Upd.of_only hO2) (.inr (by omega)) (.inr (by omega))
      have L6 := (L5.only hO2 (.inl (by omega))).mono (Nat.le_refl _) (show wn.heap.size ≤ (wn.setCells w.heap.size 0 [.slice p0 n c0, .slice p1 m c1]).heap.size by omega)
      have C6 := mem.below_only C5 hO2 (Nat.le_refl _)
      have S6 := src_upd S5 (hO2.block b hbR)
      have R6 := R5.setCs [.slice p0 n c0, .slice p1 m c1] 0 (by simp)
      have T6 := range_blockN T5 (hO2.block w2.heap.size hTR)
      have lT6 : w2.heap.size < (wn.setCells w.heap.size 0 [.slice p0 n c0, .slice p1 m c1]).heap.size := by omega
      refine hKON.out _ _ T6 (fun sH => ?_)
      clear hKON KON
      try simp only [Act.put, List.set_cons_succ]
      refine wpAnyH_take (i := 8) (v := ?_) nthe8 (by kernel_rfl) (by kernel_rfl) (by kernel_rfl) (fun _ _ _ h => h) (Or.inl ⟨by rfl, ?_⟩) sH ?_
      rotate_left
      · intro wS hSw; (try dsimp only at hSw); go_simp; try with_reducible rfl
      try simp only [Act.put]
      refine wpAnyH_ready (rs := [2]) (by kernel_rfl) (by simp) (AllReadyH.cons nthe2 (fun KON hKON => ?_) AllReadyH.nil)
      · go_simp
        have bA := mem.below_new (wn.setCells w.heap.size 0 [.slice p0 n c0, .slice p1 m c1]) (.cells #[.int .i64 1, .int .i64 2, .int .i64 4, .int .i64 16, .int .i64 32768, .int .i64 0, .int .i64 3, .int .i64 65536] 2)
        have tA := tabI (wn.setCells w.heap.size 0 [.slice p0 n c0, .slice p1 m c1]) 2 #[.int .i64 1, .int .i64 2, .int .i64 4, .int .i64 16, .int .i64 32768, .int .i64 0, .int .i64 3, .int .i64 65536] (by
          intro j hj
          rcases (by simp at hj; omega : j = 0 ∨ j = 1 ∨ j = 2 ∨ j = 3 ∨ j = 4 ∨ j = 5 ∨ j = 6 ∨ j = 7) with rfl | rfl | rfl | rfl | rfl | rfl | rfl | rfl
          all_goals exact ⟨_, rfl⟩)
        have hz7 : ((wn.setCells w.heap.size 0 [.slice p0 n c0, .slice p1 m c1]).alloc (.cells #[.int .i64 1, .int .i64 2, .int .i64 4, .int .i64 16, .int .i64 32768, .int .i64 0, .int .i64 3, .int .i64 65536] 2)).heap.size = (wn.setCells w.heap.size 0 [.slice p0 n c0, .slice p1 m c1]).heap.size + 1 := by simp
        replace hz7 := Nat.le_antisymm_iff.1 hz7
        have O7 := O6.next bA
        have L7 := (L6.below bA (Nat.le_refl _)).mono (Nat.le_refl _) (show (wn.setCells w.heap.size 0 [.slice p0 n c0, .slice p1 m c1]).heap.size ≤ ((wn.setCells w.heap.size 0 [.slice p0 n c0, .slice p1 m c1]).alloc (.cells #[.int .i64 1, .int .i64 2, .int .i64 4, .int .i64 16, .int .i64 32768, .int .i64 0, .int .i64 3, .int .i64 65536] 2)).heap.size by omega)
        have S7 := src_alloc S6 (src_lt S6) (.cells #[.int .i64 1, .int .i64 2, .int .i64 4, .int .i64 16, .int .i64 32768, .int .i64 0, .int .i64 3, .int .i64 65536] 2)
        have C7 := C6.trans (bA.mono (C6.size))
        have R7 := R6.next bA
        have T7 := range_blockN T6 (bA.block w2.heap.size lT6)
        have lT7 : w2.heap.size < ((wn.setCells w.heap.size 0 [.slice p0 n c0, .slice p1 m c1]).alloc (.cells #[.int .i64 1, .int .i64 2, .int .i64 4, .int .i64 16, .int .i64 32768, .int .i64 0, .int .i64 3, .int .i64 65536] 2)).heap.size := by omega
        have lA7 : (wn.setCells w.heap.size 0 [.slice p0 n c0, .slice p1 m c1]).heap.size < ((wn.setCells w.heap.size 0 [.slice p0 n c0, .slice p1 m c1]).alloc (.cells #[.int .i64 1, .int .i64 2, .int .i64 4, .int .i64 16, .int .i64 32768, .int .i64 0, .int .i64 3, .int .i64 65536] 2)).heap.size := by omega
        have fx0' := (bA.cell (p := ⟨w.heap.size, 0, none⟩) (by show w.heap.size < _; omega)).trans fx0
        have fx1' := (bA.cell (p := ⟨w.heap.size, 1, none⟩) (by show w.heap.size < _; omega)).trans fx1
        clear fx0 fx1
        have fx0 := fx0'
        have fx1 := fx1'
        obtain ⟨y, hy⟩ := tA j hj
        have hyc : ((wn.setCells w.heap.size 0 [.slice p0 n c0, .slice p1 m c1]).alloc (.cells #[.int .i64 1, .int .i64 2, .int .i64 4, .int .i64 16, .int .i64 32768, .int .i64 0, .int .i64 3, .int .i64 65536] 2)).cell? ⟨(wn.setCells w.heap.size 0 [.slice p0 n c0, .slice p1 m c1]).heap.size, j, none⟩ = some (.int .i64 y) := hy
        refine hKON.out _ _ T7 (fun sH => ?_)
        clear hKON KON
        try simp only [Act.put, List.setIfInBounds_toArray, List.set_cons_zero, List.set_cons_succ]
        refine wpAnyH_take (i := 5) (v := ?_) nthe5 (by kernel_rfl) (by kernel_rfl) (by kernel_rfl) (fun _ _ _ h => h) (Or.inl ⟨by rfl, ?_⟩) sH ?_
        rotate_left
        · intro wS hSw; (try dsimp only at hSw); go_simp; try with_reducible rfl
        try simp only [Act.put, List.setIfInBounds_toArray, List.set_cons_zero, List.set_cons_succ]
        refine wpAnyH_ready (rs := [6]) (by kernel_rfl) (by simp) (AllReadyH.cons nthe6 (fun KON hKON => ?_) AllReadyH.nil)
        · go_simp
          refine hKON.out _ _ T7 (fun sH => ?_)
          clear hKON KON
          try simp only [Act.put, List.setIfInBounds_toArray, List.set_cons_zero, List.set_cons_succ]
          refine wpAnyH_take (i := 9) (v := ?_) nthe9 (by kernel_rfl) (by kernel_rfl) (by kernel_rfl) (fun _ _ _ h => h) (Or.inl ⟨by rfl, ?_⟩) sH ?_
          rotate_left
          · intro wS hSw; (try dsimp only at hSw); go_simp; try with_reducible rfl
          try simp only [Act.put, List.setIfInBounds_toArray, List.set_cons_zero, List.set_cons_succ]
          refine wpAnyH_done (by kernel_rfl) ?_ _
          refine NoPanic.normal ?_
          go_wp2_with fail
          refine bodyPost_ret (v := .tuple #[.agg #[.slice p0 n c0, .slice p1 m c1], .slice pk K ck, .int .i64 y]) (by simp [results, Try.results29, go_sem, fx0, fx1]) rfl (HOUT _ _ O7 L7 C7)
end Go.Proofs.Ytfkacpphdnlkfaa.draw

namespace Go.Proofs.Ytfkacpphdnlkfaa.fnRelaxed
open Go.ChangeShapes Go.WideShapes Go.ChangeAt Go.RowKit Go.Proofs.Ytfkacpphdnlkfaa.draw Go.Proofs.Ytfkacpphdnlkfaa.mem
set_option linter.unusedVariables false

theorem own : ownKnob Try.prog.godebug = none := by kernel_rfl
theorem laidOut : laidOutB Try.prog = true := by kernel_rfl

theorem own_at {w : World} {p : Option Addr} {n c b : Nat} {d : Nat → Int} (h : OwnS w (.slice p n c) n 1 (fun i _ => .int .i64 (d i)) b) {k : Nat} (hk : k < n) : p = some ⟨b, 0, none⟩ ∧ b < w.heap.size ∧ w.cell? ⟨b, k, none⟩ = some (.int .i64 (d k)) := by
  obtain ⟨p', cap, hv, h1, h2, h3⟩ := h.ex
  injection hv with e1 _ e3
  subst e1
  rcases h3 with h3 | ⟨h3, h4⟩
  · omega
  · refine ⟨h3, h4.lt, ?_⟩
    have := h4.cell k 0 hk (by omega)
    simpa using this
theorem owns_sl {w : World} {v : Value} {n b : Nat} {d : Nat → Int} (h : OwnS w v n 1 (fun i _ => .int .i64 (d i)) b) : Sl w v n d 0 w.heap.size := by
  obtain ⟨p', cap, hv, h1, h2, h3⟩ := h.ex
  refine ⟨p', cap, hv, ?_⟩
  rcases h3 with h3 | ⟨h3, h4⟩
  · exact .inl h3
  · refine .inr ⟨b, 0, h3, Nat.zero_le _, h4.lt, fun k hk => ?_⟩
    have := h4.cell k 0 hk (by omega)
    simpa using this
theorem sl_at {w : World} {p : Option Addr} {n c lo hi : Nat} {d : Nat → Int} (h : Sl w (.slice p n c) n d lo hi) {k : Nat} (hk : k < n) : ∃ b o, p = some ⟨b, o, none⟩ ∧ lo ≤ b ∧ b < hi ∧ w.cell? ⟨b, o + k, none⟩ = some (.int .i64 (d k)) := by
  obtain ⟨p', cap, hv, h3⟩ := h.ex
  injection hv with e1 _ e3
  subst e1
  rcases h3 with h3 | ⟨b, o, h3, h4, h5, h6⟩
  · omega
  · exact ⟨b, o, h3, h4, h5, h6 k hk⟩
theorem likeSl (w : World) (v u : Value) (n : Nat) (d e : Nat → Int) (lo hi lo' hi' : Nat) (h : Sl w v n d lo hi) (g : Sl w u n e lo' hi') (hde : ∀ k, k < n → e k = d k) (hn9 : n ≤ 1000000) :
    Calls Try.prog 30 #[v, u] w fun e w' => e = .returned (.bool true) ∧ Below w.heap.size w w' := by
  obtain ⟨p, cap, rfl, hc⟩ := h
  obtain ⟨p', cap', rfl, hc'⟩ := g
  have HC := Lib.hid hc
  have HC' := Lib.hid hc'
  have HE := Lib.hid hde
  clear hc hc' hde
  have hbb : ((n : Int) != n) = false := by simp
  go_enter Try.func30, Try.ntmps30
  go_wp2_with fail
  go_loopw [5] (fun i wr => ∃ k m : Nat, i = .int .i64 k ∧ k ≤ n ∧ wr = w.drewN m) (fun i _ => n - (intOf i).toNat)
  case atStart => exact ⟨0, 0, rfl, Nat.zero_le _, rfl⟩
  case round =>
    obtain ⟨k, m, rfl, hk, hw⟩ := hrel
    have HWR := Lib.hid hw
    by_cases hlt : k < n
    · rcases HC.out with h0 | ⟨b, o, rfl, g1, g2, g3⟩
      · omega
      rcases HC'.out with h0 | ⟨b', o', rfl, g1', g2', g3'⟩
      · omega
      have c1 : wr.cell? ⟨b, o + k, none⟩ = some (.int .i64 (d k)) := by rw [hw]; exact g3 k hlt
      have c2 : wr.cell? ⟨b', o' + k, none⟩ = some (.int .i64 (d k)) := by rw [hw, ← HE.out k hlt]; exact g3' k hlt
      have hkn : (k : Int) < (n : Int) := by omega
      have hdd : (d k != d k) = false := by simp
      clear hw g3 g3'
      go_wp2_with fail
      go_quiet (fail)
      go_wp2_with fail
      go_roundw
      case rel => exact ⟨k + 1, m + nq, by go_num, hlt, by rw [HWR.out]; exact (World.drewN_drewN _ _ _)⟩
      case measure => simp [intOf]; omega
    · clear hw
      go_wp2_with fail
      go_ret
      exact ⟨rfl, by rw [HWR.out]; exact below_self _ _ _⟩
theorem rxB_all {n m : Nat} {P : Nat → Pip} {x : Nat → Int} : ∀ {k : Nat}, (∀ j, j < k → loB m P x (cyc P (fE n P m) (fD n P m) (chS n P m j)) 1 = false ∧ loB m P x (cyc P (fE n P m) (fD n P m) (chS n P m j)) (-1) = false) → rxB n m P x k = true
  | 0, _ => rfl
  | k + 1, h => by
    have h1 := h k (by omega)
    unfold rxB
    rw [rxB_all (fun j hj => h j (by omega)), h1.1, h1.2]
    rfl
theorem rfFacts (n : Nat) (N : Nat → Nod) (m : Nat) (P : Nat → Pip) (K : Nat) (d : Nat → Int) (x : Int) (hN : ∀ i, i < n → (N i).s.size ≤ 9223372036854775807) (hn : n ≤ 1000) (hm : m ≤ 1000) (hK : K ≤ 2000000) :
    ∃ (rn : Nat) (rd : Nat → Int) (M rc : Int), rn ≤ 1000 ∧ (∀ w v va, NetAt w v n N m P 0 w.heap.size → Sl w va K d 0 w.heap.size → Calls Try.prog 13 #[v, va, .int .i64 x] w (LIIPost w rn rd M rc)) ∧ (∀ w v va, NetAt w v n N m P 0 w.heap.size → Sl w va K d 0 w.heap.size → Calls Try.prog 10 #[v, va, .int .i64 x] w (LIIPost w rn rd M rc)) ∧
      (rc = 0 → ∃ (ea eb sc : Int) (an : Nat) (ad bd : Nat → Int) (ib : Bool), an ≤ 1000 ∧ (∀ w v va, NetAt w v n N m P 0 w.heap.size → Sl w va K d 0 w.heap.size → Calls Try.prog 31 #[v, va] w (IIPost w ea 0)) ∧ (∀ w v va, NetAt w v n N m P 0 w.heap.size → Sl w va rn rd 0 w.heap.size → Calls Try.prog 31 #[v, va] w (IIPost w eb 0)) ∧
        (∀ w v va, NetAt w v n N m P 0 w.heap.size → Sl w va K d 0 w.heap.size → Calls Try.prog 32 #[v, va] w (LIPost w an ad sc)) ∧ (∀ w v va, NetAt w v n N m P 0 w.heap.size → Sl w va rn rd 0 w.heap.size → Calls Try.prog 32 #[v, va] w (LIPost w an bd sc)) ∧ (∀ k, k < an → bd k = ad k) ∧ (∀ w v va, NetAt w v n N m P 0 w.heap.size → Sl w va rn rd 0 w.heap.size → Calls Try.prog 33 #[v, va] w (BPost w ib)) ∧
        (0 ≤ M ∧ M ≤ 5000) ∧ (M = 0 → eb = ea) ∧ (0 < M → eb < ea) ∧ (M ≠ 5000 → ib = true)) := by
  refine ⟨rfN n N m P K d x, (rfR n m P d x).1, rfM n N m P K d x, rfC n N m P K d x, by unfold rfN; split <;> omega, fun w v va h hv => relaxFlowsI_any w v n N m P 0 _ h (Nat.le_refl _) hN va K d 0 _ hv (Nat.le_refl _) (by omega) x, fun w v va h hv => relaxFlowsS_any w v n N m P 0 _ h (Nat.le_refl _) hN va K d 0 _ hv (Nat.le_refl _) (by omega) x, fun hc => ?_⟩
  have hrn : rfN n N m P K d x = m := by unfold rfN; rw [if_pos hc]
  have hrm : rfM n N m P K d x = (rfR n m P d x).2 := by unfold rfM; rw [if_pos hc]
  have h2 : flC n N m P K d = 0 ∧ stB x = true := by
    unfold rfC at hc
    split at hc
    · next h0 =>
      split at hc
      · next h1 => exact ⟨h0, h1⟩
      · omega
    · next h0 => exact absurd hc h0
  obtain ⟨h0, hst⟩ := h2
  obtain ⟨hB, rfl, hf⟩ := flC_ok h0
  obtain ⟨x1, x2⟩ := stB_rng hst
  rw [hrn, hrm]
  have hfr : ∀ k, k < K → -30000 ≤ d k ∧ d k ≤ 30000 := fun k hk => flQ_iff.1 (flB_iff.1 hf k hk)
  have hcnt := rlS_cnt (m := K) (P := P) (Y := fun i => cyc P (fE n P K) (fD n P K) (chS n P K i)) (C := chN n P K) (5000 + x.toNat) (x := d) (tot := 0) (st := x) (by omega) (by omega)
  have hegy := rlS_egy (m := K) (P := P) (Y := fun i => cyc P (fE n P K) (fD n P K) (chS n P K i)) (C := chN n P K) (5000 + x.toNat) (x := d) (tot := 0) (st := x)
  have hsame := rlS_same (m := K) (P := P) (Y := fun i => cyc P (fE n P K) (fD n P K) (chS n P K i)) (C := chN n P K) (5000 + x.toNat) (x := d) (tot := 0) (st := x) (by omega) (by omega)
  have hrng := rlS_rng (m := K) (P := P) (Y := fun i => cyc P (fE n P K) (fD n P K) (chS n P K i)) (C := chN n P K) (5000 + x.toNat) (x := d) (tot := 0) (st := x) hfr
  have hdone := rlS_done (m := K) (P := P) (Y := fun i => cyc P (fE n P K) (fD n P K) (chS n P K i)) (C := chN n P K) (5000 + x.toNat) (x := d) (tot := 0) (st := x) (by omega) (by omega) x1 (by omega)
  have hdv := rlS_ind (m := K) (P := P) (Y := fun i => cyc P (fE n P K) (fD n P K) (chS n P K i)) (C := chN n P K) (fun z => ∀ u : Int, dv P z K u = dv P d K u) (fun z j t hj hz u => by
    obtain ⟨hjm, hjp⟩ := chS_at (n := n) (P := P) (m := K) hj
    have e : (fun k => z k + t * cyc P (fE n P K) (fD n P K) (chS n P K j) k) = fun k => z k + (fun b => t * cyc P (fE n P K) (fD n P K) (chS n P K j) b) k := rfl
    show dv P (fun k => z k + t * cyc P (fE n P K) (fD n P K) (chS n P K j) k) K u = _
    rw [e, dv_add, dv_mul, (fo_net hB).cyc_dv (fo_r0 hB) (fo_r2 hB) hjm (fo_r1 hB _ hjm) u, Int.mul_zero, Int.add_zero, hz u]) (5000 + x.toNat) (x := d) (tot := 0) (st := x) (fun u => rfl)
  have hR : rfR n K P d x = rlS K P (fun i => cyc P (fE n P K) (fD n P K) (chS n P K i)) (chN n P K) (5000 + x.toNat) d 0 x := rfl
  rw [hR]
  generalize rlS K P (fun i => cyc P (fE n P K) (fD n P K) (chS n P K i)) (chN n P K) (5000 + x.toNat) d 0 x = R at *
  obtain ⟨r, M⟩ := R
  dsimp only at *
  have hfl : flB r K = true := flB_iff.2 fun k hk => flQ_iff.2 (hrng k hk)
  have f1 := flC_is hB hfl
  have v0 : eoV n N K P K d = egS P d K := by unfold eoV; rw [if_pos h0]
  have v1 : eoV n N K P K r = egS P r K := by unfold eoV; rw [if_pos f1]
  have hsu : suC n N K P K r = suC n N K P K d := by
    unfold suC
    rw [h0, f1, flB_congr (fun z _ => hdv ((z : Nat) : Int))]
  have hsn : suN n N K P K r = suN n N K P K d := by unfold suN; rw [hsu]
  have c1 := fun w v va (h : NetAt w v n N K P 0 w.heap.size) hv => energyOfI_any w v n N K P 0 _ h (Nat.le_refl _) hN va K d 0 _ hv (Nat.le_refl _) (by omega)
  have c2 := fun w v va (h : NetAt w v n N K P 0 w.heap.size) hv => energyOfI_any w v n N K P 0 _ h (Nat.le_refl _) hN va K r 0 _ hv (Nat.le_refl _) (by omega)
  have c3 := fun w v va (h : NetAt w v n N K P 0 w.heap.size) hv => suppliesOfI_any w v n N K P 0 _ h (Nat.le_refl _) hN va K r 0 _ hv (Nat.le_refl _) (by omega)
  rw [v0, h0] at c1
  rw [v1, f1] at c2
  rw [hsu, hsn] at c3
  refine ⟨egS P d K, egS P r K, suC n N K P K d, suN n N K P K d, suD K P d, suD K P r, ixB n N K P K r, by unfold suN; split <;> omega, c1, c2, fun w v va h hv => suppliesOfI_any w v n N K P 0 _ h (Nat.le_refl _) hN va K d 0 _ hv (Nat.le_refl _) (by omega), c3, fun k _ => hdv _, fun w v va h hv => isRelaxedI_any w v n N K P 0 _ h (Nat.le_refl _) hN va K r 0 _ hv (Nat.le_refl _) (by omega), hcnt, fun h => by rw [hsame h], fun h => by omega, fun h => ?_⟩
  unfold ixB
  rw [decide_eq_true f1, Bool.true_and]
  exact rxB_all (hdone (by omega))
set_option maxRecDepth 100000 in
set_option maxHeartbeats 20000000 in
theorem walk (v : Value) (w : World) (hc : CodeArg w v) :
    Calls Try.prog 7 #[v] w fun e w' => e = .returned (.bool true) ∧ Below w.heap.size w w' := by
  obtain ⟨p, len, cap, rfl, hlen, hcode⟩ := hc
  by_cases h4 : (4096 : Int) < len
  · clear hcode
    go_enter Try.func7, Try.ntmps7
    go_wp2_with (go_at_call 23; refine (draw.big_any _ _ _ _).mono ?_; rintro e w' ⟨rfl, rfl⟩)
    go_ret
    exact ⟨rfl, Below.refl _ _⟩
  have hc := hcode (by omega)
  clear hcode
  go_enter Try.func7, Try.ntmps7
  go_wp2_with (go_at_call 23; refine (draw.big_any _ _ _ _).mono ?_; rintro e w' ⟨rfl, rfl⟩)
  refine (draw.drawRelaxFlows w _ len hc).mono ?_
  rintro e w1 ⟨v, n, m, N, P, b1, b2, vl, K, D, x, rfl, hn, hm, hK, hnm, o1, l1, l2, hK1, C1⟩
  obtain ⟨rn, rd, M, rc, hrn, ti, ts, hz⟩ := rfFacts n N m P K D x hnm hn hm (by omega)
  have TI := Lib.hid ti
  have TS := Lib.hid ts
  have HZ := Lib.hid hz
  clear ti ts hz
  clear hc
  obtain ⟨pk, ck, rfl⟩ := draw.sl_sh hK1
  have hb2 : (rc != rc) = false := by simp
  have hb3 : (M != M) = false := by simp
  have lxx := o1.lts
  obtain ⟨sx1, sx2, sx3, sx4, rfl⟩ := o1.shape
  go_wp2_with fail
  have bb := mem.below_new w1 (.cells #[.slice sx1 n sx2, .slice sx3 m sx4] 33)
  have B_x := boxed w1 (.slice sx1 n sx2) (.slice sx3 m sx4) 33
  have hs2 := bb.size
  have C2 := belowNext C1 bb
  have LK2 := hK1.next bb
  have x2 := o1.next bb
  clear bb C1 hK1 o1
  generalize hW2 : w1.alloc (Obj.cells #[.slice sx1 n sx2, .slice sx3 m sx4] 33) = w2 at *
  clear hW2
  have Bx2 := B_x
  clear B_x
  have lBx := Bx2.lt
  refine (TI.out _ _ _ x2.net LK2.zero).mono ?_
  rintro e w3 ⟨xA, gA, rfl, oA, lA, bb⟩
  have hs3 := bb.size
  have C3 := belowNext C2 bb
  have LK3 := LK2.next bb
  have x3 := x2.next bb
  have Bx3 := Bx2.next bb
  clear bb C2 LK2 x2 Bx2
  have lxA := oA.lt
  obtain ⟨sA1, sA2, rfl⟩ := oA.shape
  have qBx0 := Bx3.b0
  have qBx1 := Bx3.b1
  have qBx2 := Bx3.lt
  go_wp2_with fail
  refine (TS.out _ _ _ x3.net LK3.zero).mono ?_
  rintro e w4 ⟨xB, gB, rfl, oB, lB, bb⟩
  have hs4 := bb.size
  have C4 := belowNext C3 bb
  have LK4 := LK3.next bb
  have x4 := x3.next bb
  have Bx4 := Bx3.next bb
  have A4 := oA.next bb
  clear qBx0 qBx1 qBx2
  clear bb C3 LK3 x3 Bx3 oA
  have lxB := oB.lt
  obtain ⟨sB1, sB2, rfl⟩ := oB.shape
  have qBx0 := Bx4.b0
  have qBx1 := Bx4.b1
  have qBx2 := Bx4.lt
  go_wp2_with fail
  refine (likeInts_any _ _ _ rn rd 0 w4.heap.size 0 w4.heap.size (A4.cs (.inr rfl) (Nat.le_refl _)) (oB.cs (.inr rfl) (Nat.le_refl _))).mono ?_
  rintro e w5 ⟨rfl, bb⟩
  have hs5 := bb.size
  have C5 := belowNext C4 bb
  have LK5 := LK4.next bb
  have x5 := x4.next bb
  have Bx5 := Bx4.next bb
  have A5 := A4.next bb
  have B5 := oB.next bb
  clear qBx0 qBx1 qBx2
  clear bb C4 LK4 x4 Bx4 A4 oB
  clear B5
  by_cases hrc : rc = 0
  · subst hrc
    obtain ⟨ea, eb, sc, an, ad, bd, ib, han, q1, q2, q3, q4, hq, q5, ⟨hM0, hM5⟩, hz0, hz1, hz2⟩ := HZ.out (by trivial)
    have Q1 := Lib.hid q1
    have Q2 := Lib.hid q2
    have Q3 := Lib.hid q3
    have Q4 := Lib.hid q4
    have Q5 := Lib.hid q5
    have HQ := Lib.hid hq
    clear q1 q2 q3 q4 q5 hq
    clear HZ
    have hb5 : (sc == sc) = true := by simp
    have HZ0 := Lib.hid hz0
    have HZ1 := Lib.hid hz1
    have HZ2 := Lib.hid hz2
    clear hz0 hz1 hz2
    have qBx0 := Bx5.b0
    have qBx1 := Bx5.b1
    have qBx2 := Bx5.lt
    go_wp2_with fail
    refine (Q1.out _ _ _ x5.net LK5.zero).mono ?_
    rintro e w6 ⟨rfl, bb⟩
    have hs6 := bb.size
    have C6 := belowNext C5 bb
    have LK6 := LK5.next bb
    have x6 := x5.next bb
    have Bx6 := Bx5.next bb
    have A6 := A5.next bb
    clear qBx0 qBx1 qBx2
    clear bb C5 LK5 x5 Bx5 A5
    have qBx0 := Bx6.b0
    have qBx1 := Bx6.b1
    have qBx2 := Bx6.lt
    go_wp2_with fail
    refine (Q2.out _ _ _ x6.net (owns_sl A6)).mono ?_
    rintro e w7 ⟨rfl, bb⟩
    have hs7 := bb.size
    have C7 := belowNext C6 bb
    have LK7 := LK6.next bb
    have x7 := x6.next bb
    have Bx7 := Bx6.next bb
    have A7 := A6.next bb
    clear qBx0 qBx1 qBx2
    clear bb C6 LK6 x6 Bx6 A6
    have qBx0 := Bx7.b0
    have qBx1 := Bx7.b1
    have qBx2 := Bx7.lt
    go_wp2_with fail
    refine (Q3.out _ _ _ x7.net LK7.zero).mono ?_
    rintro e w8 ⟨xS, gS, rfl, oS, lS, bb⟩
    have hs8 := bb.size
    have C8 := belowNext C7 bb
    have LK8 := LK7.next bb
    have x8 := x7.next bb
    have Bx8 := Bx7.next bb
    have A8 := A7.next bb
    clear qBx0 qBx1 qBx2
    clear bb C7 LK7 x7 Bx7 A7
    have lxS := oS.lt
    obtain ⟨sS1, sS2, rfl⟩ := oS.shape
    have qBx0 := Bx8.b0
    have qBx1 := Bx8.b1
    have qBx2 := Bx8.lt
    go_wp2_with fail
    refine (Q4.out _ _ _ x8.net (owns_sl A8)).mono ?_
    rintro e w9 ⟨xT, gT, rfl, oT, lT, bb⟩
    have hs9 := bb.size
    have C9 := belowNext C8 bb
    have LK9 := LK8.next bb
    have x9 := x8.next bb
    have Bx9 := Bx8.next bb
    have A9 := A8.next bb
    have S9 := oS.next bb
    clear qBx0 qBx1 qBx2
    clear bb C8 LK8 x8 Bx8 A8 oS
    have lxT := oT.lt
    obtain ⟨sT1, sT2, rfl⟩ := oT.shape
    have qBx0 := Bx9.b0
    have qBx1 := Bx9.b1
    have qBx2 := Bx9.lt
    go_wp2_with fail
    refine (likeSl _ _ _ an ad bd 0 _ 0 _ (owns_sl S9) (owns_sl oT) HQ.out (by omega)).mono ?_
    rintro e w10 ⟨rfl, bb⟩
    have hs10 := bb.size
    have C10 := belowNext C9 bb
    have LK10 := LK9.next bb
    have x10 := x9.next bb
    have Bx10 := Bx9.next bb
    have A10 := A9.next bb
    have S10 := S9.next bb
    have T10 := oT.next bb
    clear qBx0 qBx1 qBx2
    clear bb C9 LK9 x9 Bx9 A9 S9 oT
    by_cases hm0 : M = 0
    · have hee := HZ0.out hm0
      have hib := HZ2.out (by omega)
      subst hm0 hee hib
      have hb6 : (eb == eb) = true := by simp
      have qBx0 := Bx10.b0
      have qBx1 := Bx10.b1
      have qBx2 := Bx10.lt
      go_wp2_with fail
      refine (Q5.out _ _ _ x10.net (owns_sl A10)).mono ?_
      rintro e w11 ⟨rfl, bb⟩
      have hs11 := bb.size
      have C11 := belowNext C10 bb
      have LK11 := LK10.next bb
      have x11 := x10.next bb
      have Bx11 := Bx10.next bb
      have A11 := A10.next bb
      have S11 := S10.next bb
      have T11 := T10.next bb
      clear qBx0 qBx1 qBx2
      clear bb C10 LK10 x10 Bx10 A10 S10 T10
      have qBx0 := Bx11.b0
      have qBx1 := Bx11.b1
      have qBx2 := Bx11.lt
      go_wp2_with fail
      go_ret
      exact ⟨rfl, C11⟩
    · have hee := HZ1.out (by omega)
      have hb6 : (M == 0) = false := by simpa using hm0
      have hb7 : decide (0 < M) = true := decide_eq_true (by omega)
      have hb8 : decide (eb < ea) = true := decide_eq_true hee
      by_cases hm5 : M = 5000
      · have hb9 : (M == 5000) = true := by simpa using hm5
        have qBx0 := Bx10.b0
        have qBx1 := Bx10.b1
        have qBx2 := Bx10.lt
        go_wp2_with fail
        go_ret
        exact ⟨rfl, C10⟩
      · have hb9 : (M == 5000) = false := by simpa using hm5
        have hib := HZ2.out hm5
        subst hib
        have qBx0 := Bx10.b0
        have qBx1 := Bx10.b1
        have qBx2 := Bx10.lt
        go_wp2_with fail
        refine (Q5.out _ _ _ x10.net (owns_sl A10)).mono ?_
        rintro e w11 ⟨rfl, bb⟩
        have hs11 := bb.size
        have C11 := belowNext C10 bb
        have LK11 := LK10.next bb
        have x11 := x10.next bb
        have Bx11 := Bx10.next bb
        have A11 := A10.next bb
        have S11 := S10.next bb
        have T11 := T10.next bb
        clear qBx0 qBx1 qBx2
        clear bb C10 LK10 x10 Bx10 A10 S10 T10
        have qBx0 := Bx11.b0
        have qBx1 := Bx11.b1
        have qBx2 := Bx11.lt
        go_wp2_with fail
        go_ret
        exact ⟨rfl, C11⟩
  · have hxc' : (rc != 0) = true := by simpa using hrc
    have qBx0 := Bx5.b0
    have qBx1 := Bx5.b1
    have qBx2 := Bx5.lt
    go_wp2_with fail
    go_ret
    exact ⟨rfl, C5⟩

set_option maxRecDepth 100000 in
theorem lifted (os : Os) (started : os.Started) (H : Type) (enc : TypeId × Value → H) :
    ReturnsInHanded {} Try.checked os 7 .any (Rows.fnRelaxedSpec.pre6 enc Try.prog Try.f7 Rows.fnRelaxedRow.domain false) (Rows.fnRelaxedSpec.post enc Try.prog Try.f7 false true false false) := by
  refine returnsInHanded_of_change (C := Try.checked) own started (by kernel_rfl) Try.func7
    (ChangeSpec.witness6 (enc := enc) (C := Try.checked) false ⟨#[], #[.slice none 0 0], []⟩ 8 (by kernel_rfl) (by kernel_rfl) (by kernel_rfl) (by kernel_rfl)) ?_
  intro W base args ds gs before hval0 hW hcnd _
  have hval : ∀ (j : Nat) t v, Try.f7.params[j]? = some t → args[j]? = some v → Value.okWide Try.prog W .any base t v := hval0
  have hW' := hW
  obtain ⟨p, q, hA0, hV, rfl, hfz, hnd⟩ := hW
  have hA : DataW.TrodAll enc Try.prog W 0 (fun _ => true) true Try.f7.params.toList args.toList ds p := hA0
  rw [Try.params7] at hA hval
  obtain ⟨v0, vs0, d0, ds0, p0, q0, hargs, rfl, rfl, h0, r0⟩ := trodAll_cons hA
  obtain ⟨rfl, rfl, rfl⟩ := trodAll_nil r0
  obtain rfl : args = #[v0] := by cases args; simp_all
  obtain ⟨rfl, rfl⟩ := trodVars_none hV
  have hc := open_code (hval 0 46 v0 rfl rfl) h0
  refine (walk v0 W hc).mono fun e W' ⟨he, hg⟩ => ?_
  subst he
  exact ⟨_, rfl, law.law_post hW' hg laidOut (by kernel_rfl) rfl rfl (by kernel_rfl) Try.underlying4⟩

theorem over : Rows.fnRelaxedRow.holds Try.pinned (OpenSpec.ofChange Rows.fnRelaxedSpec) :=
  OpenClaim.holds_of_wide 7 Try.f7 rfl rfl rfl rfl rfl rfl rfl ⟨rfl, rfl, rfl, rfl, rfl⟩ rfl rfl rfl rfl rfl (by kernel_rfl) Try.func7 (by kernel_rfl)
    (of_decide_eq_true (by kernel_rfl)) (by unfold Func.isWrapper; first | (rw [if_pos (by decide +kernel)]; kernel_rfl) | (rw [if_neg (by decide +kernel)]; exact ⟨rfl, rfl⟩))
    (fun os started H enc _ => lifted os started H enc)

theorem proved : Rows.FnRelaxedSaid :=
  over
#print axioms proved
end Go.Proofs.Ytfkacpphdnlkfaa.fnRelaxed
