/-
  Copies of networks: slices.Clone at nodes and pipes, and the program's and the specification's copy of a network. Conditions: as each states.
-/
import Derived.Test.YtpgcieefipjjfaaRows
import Derived.Test.YtpgcieefipjjfaaAppS
import Derived.Test.YtpgcieefipjjfaaNetX
import Derived.Test.YtpgcieefipjjfaaNetO
import Derived.WalkKit
import Derived.ProofKit
import Derived.Outline
import Derived.OwnWalk
import Derived.Lib.Hide
import Derived.WalkSpells
import Derived.Deep.RegionHeld3
namespace Go.Proofs.Ytpgcieefipjjfaa.mem
open Go.RowKit
set_option linter.unusedVariables false

theorem below_dw {B : Nat} {w w' : World} (h : Below B w w') : Below B w w'.drew := ⟨h.os, h.tape, h.output, h.size, h.block⟩
theorem OwnS.shape {w : World} {v : Value} {n z b : Nat} {c : Nat → Nat → Value} (h : OwnS w v n z c b) : ∃ p cap, v = .slice p n cap := by
  obtain ⟨p, cap, e, _⟩ := h.ex
  exact ⟨p, cap, e⟩
theorem OwnS.set2 {w : World} {v : Value} {n z b g o0 o1 : Nat} {c : Nat → Nat → Value} {u0 u1 : Value} (h : OwnS w v n z c b) (hne : b ≠ g) : OwnS ((w.setCell ⟨g, o0, none⟩ u0).setCell ⟨g, o1, none⟩ u1) v n z c b :=
  h.upd (Upd.of_only (((Only.refl g w).setCell o0 u0).setCell o1 u1)) (.inr hne)
def CloneP (w : World) (n z : Nat) (c : Nat → Nat → Value) (e : Ending) (w' : World) : Prop := ∃ v' g, e = .returned v' ∧ OwnS w' v' n z c g ∧ Below w.heap.size w w' ∧ w.heap.size ≤ g

set_option maxHeartbeats 1000000 in
theorem cloneNode_any (w : World) (v : Value) (n : Nat) (c : Nat → Nat → Value) (lo hi : Nat) (h : Cs w v n 3 c lo hi) (hhi : hi ≤ w.heap.size) (hn : n ≤ 2000000) : Calls Try.prog 163 #[v] w (CloneP w n 3 c) := by
  obtain ⟨p, cap, rfl⟩ := h.shape
  have hq := Lib.run_eql_slice_nil (P := Try.prog) w 30 114 p n cap 0 0 Try.underlying30
  obtain ⟨q, cq, hv, h1, h2, h3⟩ := h.ex
  injection hv with e1 _ e2
  rcases hp : p with _ | a
  · subst hp
    obtain rfl : n = 0 := by
      rcases h3 with h3 | ⟨b, o, h3, _⟩
      · exact h3
      · rw [← e1] at h3; cases h3
    clear h3 h1 h2 e1 e2 h
    go_enter Try.func163, Try.ntmps163
    go_wp2_with fail
    go_ret
    exact ⟨_, w.heap.size, rfl, OwnS.none_ _ _ _ _, Below.refl _ _, Nat.le_refl _⟩
  · subst hp
    have hB := below_new w (Obj.cells #[] 114)
    obtain ⟨v', w', g, hr, ho, hb, hg⟩ := appE Try.underlying30 info_make_node (by omega) (w.alloc (.cells #[] 114)) w.heap.size (some a) n cap c lo hi (h.below hB hhi) hn
    have HO := Lib.hid ho
    have HB := Lib.hid (hB.trans (hb.mono (by simp)))
    have hg2 : w.heap.size ≤ g := by simp at hg; omega
    clear h3 h1 h2 e1 e2 h ho hb hB hg
    go_enter Try.func163, Try.ntmps163
    go_wp2_with (at_builtin; refine wpList_appT hr rfl _ _ rfl rfl rfl rfl ?_)
    go_ret
    exact ⟨_, g, rfl, HO.out, HB.out, hg2⟩

set_option maxHeartbeats 1000000 in
theorem clonePipe_any (w : World) (v : Value) (n : Nat) (c : Nat → Nat → Value) (lo hi : Nat) (h : Cs w v n 5 c lo hi) (hhi : hi ≤ w.heap.size) (hn : n ≤ 2000000) : Calls Try.prog 164 #[v] w (CloneP w n 5 c) := by
  obtain ⟨p, cap, rfl⟩ := h.shape
  have hq := Lib.run_eql_slice_nil (P := Try.prog) w 31 117 p n cap 0 0 Try.underlying31
  obtain ⟨q, cq, hv, h1, h2, h3⟩ := h.ex
  injection hv with e1 _ e2
  rcases hp : p with _ | a
  · subst hp
    obtain rfl : n = 0 := by
      rcases h3 with h3 | ⟨b, o, h3, _⟩
      · exact h3
      · rw [← e1] at h3; cases h3
    clear h3 h1 h2 e1 e2 h
    go_enter Try.func164, Try.ntmps164
    go_wp2_with fail
    go_ret
    exact ⟨_, w.heap.size, rfl, OwnS.none_ _ _ _ _, Below.refl _ _, Nat.le_refl _⟩
  · subst hp
    have hB := below_new w (Obj.cells #[] 117)
    obtain ⟨v', w', g, hr, ho, hb, hg⟩ := appE Try.underlying31 info_make_pipe (by omega) (w.alloc (.cells #[] 117)) w.heap.size (some a) n cap c lo hi (h.below hB hhi) hn
    have HO := Lib.hid ho
    have HB := Lib.hid (hB.trans (hb.mono (by simp)))
    have hg2 : w.heap.size ≤ g := by simp at hg; omega
    clear h3 h1 h2 e1 e2 h ho hb hB hg
    go_enter Try.func164, Try.ntmps164
    go_wp2_with (at_builtin; refine wpList_appT hr rfl _ _ rfl rfl rfl rfl ?_)
    go_ret
    exact ⟨_, g, rfl, HO.out, HB.out, hg2⟩

set_option maxHeartbeats 4000000 in
theorem copied_any (w : World) (v : Value) (n : Nat) (N : Nat → Nod) (m : Nat) (P : Nat → Pip) (lo hi : Nat) (h : NetAt w v n N m P lo hi) (hhi : hi ≤ w.heap.size) (hN : ∀ i, i < n → (N i).s.size ≤ 9223372036854775807) (hn2 : n ≤ 2000000) (hm2 : m ≤ 2000000) : Calls Try.prog 134 #[v] w (NewNet w n N m P) := by
  obtain ⟨v0, v1, rfl, g0, g1⟩ := h.ex
  obtain ⟨p0, c0, rfl⟩ := g0.shape
  obtain ⟨p1, c1, rfl⟩ := g1.shape
  have hn9 : n ≤ 9223372036854775807 := by
    obtain ⟨p, cap, he, q1, q2, _⟩ := g0.ex
    omega
  have hm9 : m ≤ 9223372036854775807 := by
    obtain ⟨p, cap, he, q1, q2, _⟩ := g1.ex
    omega
  have HC0 : Hid (n = 0 ∨ ∃ b o, p0 = some ⟨b, o, none⟩ ∧ lo ≤ b ∧ b < hi ∧ At w b o n 3 (nodC N)) := by
    obtain ⟨p, cap, hv, _, _, hc⟩ := g0.ex
    injection hv with e1 _ e2
    subst e1
    exact Lib.hid hc
  have HC1 : Hid (m = 0 ∨ ∃ b o, p1 = some ⟨b, o, none⟩ ∧ lo ≤ b ∧ b < hi ∧ At w b o m 5 (pipC P)) := by
    obtain ⟨p, cap, hv, _, _, hc⟩ := g1.ex
    injection hv with e1 _ e2
    subst e1
    exact Lib.hid hc
  have HV := Lib.hid h
  have HN := Lib.hid hN
  clear h g0 g1 hN
  have G0 : Hid (Cs w (.slice p0 n c0) n 3 (nodC N) lo hi) := by
    obtain ⟨v0, v1, e, g, _⟩ := HV.out.ex
    simp only [Value.agg.injEq, Array.mk.injEq, List.cons.injEq, and_true] at e
    rw [← e.1] at g
    exact Lib.hid g
  have G1 : Hid (Cs w (.slice p1 m c1) m 5 (pipC P) lo hi) := by
    obtain ⟨v0, v1, e, _, g⟩ := HV.out.ex
    simp only [Value.agg.injEq, Array.mk.injEq, List.cons.injEq, and_true] at e
    rw [← e.2] at g
    exact Lib.hid g
  go_enter Try.func134, Try.ntmps134
  go_wp2_with fail
  have A1 := (boxed w (.slice p0 n c0) (.slice p1 m c1) 33).keep (Below.heap_alloc (w.alloc (Obj.cells #[Value.slice p0 n c0, Value.slice p1 m c1] 33)) (Obj.cells #[Value.slice none 0 0, Value.slice none 0 0] 33) _ (by simp))
  have R1 := boxed (w.alloc (Obj.cells #[Value.slice p0 n c0, Value.slice p1 m c1] 33)) (.slice none 0 0) (.slice none 0 0) 33
  rw [show (w.alloc (Obj.cells #[Value.slice p0 n c0, Value.slice p1 m c1] 33)).heap.size = w.heap.size + 1 by simp] at R1
  have C1 := bel2 w (Obj.cells #[Value.slice p0 n c0, Value.slice p1 m c1] 33) (Obj.cells #[Value.slice none 0 0, Value.slice none 0 0] 33)
  have hs1 : ((w.alloc (Obj.cells #[Value.slice p0 n c0, Value.slice p1 m c1] 33)).alloc (Obj.cells #[Value.slice none 0 0, Value.slice none 0 0] 33)).heap.size = w.heap.size + 2 := by simp
  generalize hW : (w.alloc (Obj.cells #[Value.slice p0 n c0, Value.slice p1 m c1] 33)).alloc (Obj.cells #[Value.slice none 0 0, Value.slice none 0 0] 33) = W1 at *
  replace hs1 := Nat.le_antisymm_iff.1 hs1
  clear hW
  have e0 := A1.b0
  have e1 := A1.b1
  have f0 := R1.b0
  have f1 := R1.b1
  have k0 := R1.free 0
  have k1 := R1.free 1
  have hne : w.heap.size ≠ w.heap.size + 1 := by omega
  have hhw : hi ≤ W1.heap.size := by omega
  have hW1 : w.heap.size + 2 ≤ W1.heap.size := by omega
  clear hs1
  go_region_held3 (fun w' => w'.cell? ⟨w.heap.size, 0, none⟩ = some (.slice p0 n c0) ∧ w'.cell? ⟨w.heap.size, 1, none⟩ = some (.slice p1 m c1))
    (first | exact ⟨e0, e1⟩ | exact ⟨((((Only.refl (w.heap.size + 1) _).setCell _ _).setCell _ _).cell (a := ⟨w.heap.size, 0, none⟩) hne).trans AX.b0, ((((Only.refl (w.heap.size + 1) _).setCell _ _).setCell _ _).cell (a := ⟨w.heap.size, 1, none⟩) hne).trans AX.b1⟩ | exact ⟨AX.b0, AX.b1⟩ | exact ⟨AN.b0, AN.b1⟩ | exact ⟨AP.b0, AP.b1⟩)
    (first
      | (go_at_call 163; refine (cloneNode_any _ _ n (nodC N) lo hi (G0.out.below (by first | exact CP | exact below_dw C1) hhi) (by first | exact hsP | exact hhw) hn2).mono ?_; rintro e wa ⟨va, ga, rfl, oa, ba, la⟩; obtain ⟨pa, ca, rfl⟩ := oa.shape; have CN : Below w.heap.size w wa := (by first | exact belowNext CP ba | exact belowNext (below_dw C1) ba); have AN : Ob wa w.heap.size 2 (bx (.slice p0 n c0) (.slice p1 m c1)) := (by first | exact AP.next ba | exact (A1.keep rfl : Ob W1.drew _ _ _).next ba); have RN : Ob wa (w.heap.size + 1) 2 (bx (.slice none 0 0) (.slice none 0 0)) := (by first | exact RP.next ba | exact (R1.keep rfl : Ob W1.drew _ _ _).next ba); have hsN : w.heap.size + 2 ≤ wa.heap.size := (by first | exact Nat.le_trans hsQ ba.size | exact Nat.le_trans hW1 ba.size); have hsN' : hi ≤ wa.heap.size := (by omega); have hga : w.heap.size + 2 ≤ ga := (by first | exact Nat.le_trans hsQ la | exact Nat.le_trans hW1 la); (first | (have OX := ob.next ba; have NX := oa; have hd : n = 0 ∨ m = 0 ∨ ga ≠ gb := (by have := ob.lt; omega); have AX := AN; have CX := CN; have RX := RN; have hX := hsN; have fx0 := RN.b0; have fx1 := RN.b1; have kx0 := RN.free 0; have kx1 := RN.free 1) | skip))
      | (go_at_call 164; refine (clonePipe_any _ _ m (pipC P) lo hi (G1.out.below (by first | exact CN | exact below_dw C1) hhi) (by first | exact hsN' | exact hhw) hm2).mono ?_; rintro e wb ⟨vb, gb, rfl, ob, bb, lb⟩; obtain ⟨pb, cb, rfl⟩ := ob.shape; have CP : Below w.heap.size w wb := (by first | exact belowNext CN bb | exact belowNext (below_dw C1) bb); have AP : Ob wb w.heap.size 2 (bx (.slice p0 n c0) (.slice p1 m c1)) := (by first | exact AN.next bb | exact (A1.keep rfl : Ob W1.drew _ _ _).next bb); have RP : Ob wb (w.heap.size + 1) 2 (bx (.slice none 0 0) (.slice none 0 0)) := (by first | exact RN.next bb | exact (R1.keep rfl : Ob W1.drew _ _ _).next bb); have hsQ : w.heap.size + 2 ≤ wb.heap.size := (by first | exact Nat.le_trans hsN bb.size | exact Nat.le_trans hW1 bb.size); have hsP : hi ≤ wb.heap.size := (by omega); have hgb : w.heap.size + 2 ≤ gb := (by first | exact Nat.le_trans hsN lb | exact Nat.le_trans hW1 lb); (first | (have NX := oa.next bb; have OX := ob; have hd : n = 0 ∨ m = 0 ∨ ga ≠ gb := (by have := oa.lt; omega); have AX := AP; have CX := CP; have RX := RP; have hX := hsQ; have fx0 := RP.b0; have fx1 := RP.b1; have kx0 := RP.free 0; have kx1 := RP.free 1) | skip)))
  all_goals
    go_wp2_with fail
    refine bodyPost_ret (v := .agg #[.slice pa n ca, .slice pb m cb]) (by simp [results, Try.results134, go_sem, fx0, fx1]) rfl ⟨_, ga, gb, rfl, ⟨_, _, rfl, NX.set2 (by omega), OX.set2 (by omega), hd⟩, by omega, by omega, below_set (below_set CX (by omega) _ _) (by omega) _ _⟩
end Go.Proofs.Ytpgcieefipjjfaa.mem
