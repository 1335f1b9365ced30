/-
  Validity of networks, in the program: the pipes, the whole. Conditions: as each states.
-/
import Derived.Test.YtdbgcbkmcbgdiaaDoorRows
import Derived.Test.YtdbgcbkmcbgdiaaDoorNetJ
import Derived.WalkKit
import Derived.ProofKit
import Derived.Outline
import Derived.OwnWalk
import Derived.Lib.Hide
namespace Go.Proofs.YtdbgcbkmcbgdiaaDoor.mem
open Go.RowKit
set_option linter.unusedVariables false

open Classical in
noncomputable def pipesB (n : Nat) (P : Nat → Pip) (m : Nat) : Bool := decide (∀ i, i < m → pipB n (P i) = true)
theorem pipesB_iff {n : Nat} {P : Nat → Pip} {m : Nat} : pipesB n P m = true ↔ ∀ i, i < m → pipB n (P i) = true := by unfold pipesB; simp
theorem pipesB_no {n : Nat} {P : Nat → Pip} {m i : Nat} (hi : i < m) (h : pipB n (P i) = false) : pipesB n P m = false := by
  unfold pipesB
  simp only [decide_eq_false_iff_not]
  intro g
  rw [g i hi] at h
  cases h

/-- a network is valid -/
noncomputable def netB (n : Nat) (N : Nat → Nod) (m : Nat) (P : Nat → Pip) : Bool := szB n m && nodesB N n && pipesB n P m

/-- a pipe in a variable -/
def vp (q : Pip) : Nat → Value := fun k => match k with
  | 0 => .int .i64 q.f
  | 1 => .int .i64 q.t
  | 2 => .int .i64 q.k
  | 3 => .int .i64 q.v
  | _ => .int .i64 q.l
theorem boxedP (w : World) (q : Pip) (t : TypeId) : Ob (w.alloc (.cells #[.int .i64 q.f, .int .i64 q.t, .int .i64 q.k, .int .i64 q.v, .int .i64 q.l] t)) w.heap.size 5 (vp q) :=
  Ob.new w _ _ 5 _ rfl (by intro k hk; rcases (by omega : k = 0 ∨ k = 1 ∨ k = 2 ∨ k = 3 ∨ k = 4) with rfl | rfl | rfl | rfl | rfl <;> rfl)

set_option maxHeartbeats 8000000 in
theorem hasValidPipes_any (p0 p1 : Option Addr) (n c0 m c1 : Nat) (P : Nat → Pip) (lo hi : Nat) (w : World) (h : Cs w (.slice p1 m c1) m 5 (pipC P) lo hi) (hn : n ≤ 2000000) (hm : m ≤ 2000000) (hhi : hi ≤ w.heap.size) :
    Calls Tryd.prog 53 #[.agg #[.slice p0 n c0, .slice p1 m c1]] w fun e w' => e = .returned (.bool (pipesB n P m)) ∧ Below w.heap.size w w' := by
  obtain ⟨p, cap, hv, q1, q2, hc⟩ := h
  obtain ⟨rfl, rfl⟩ : p1 = p ∧ c1 = cap := by
    injection hv with e1 _ e2
    exact ⟨e1, e2⟩
  have HC := Lib.hid hc
  clear hc hv
  go_enter Tryd.func53, Tryd.ntmps53
  go_wp2_with fail
  have A0 := Lib.hid (boxed w (.slice p0 n c0) (.slice p1 m c1) 35)
  have B0 := Lib.hid (below_new w (Obj.cells #[Value.slice p0 n c0, Value.slice p1 m c1] 35))
  have z0 : (w.alloc (Obj.cells #[Value.slice p0 n c0, Value.slice p1 m c1] 35)).heap.size = w.heap.size + 1 := by simp
  generalize hW : w.alloc (Obj.cells #[Value.slice p0 n c0, Value.slice p1 m c1] 35) = W1 at *
  replace z0 := Nat.le_antisymm_iff.1 z0
  clear hW
  go_loopw [8, 4] (fun i _ wr => ∃ k : Nat, i = .int .i64 k ∧ k ≤ m ∧ (∀ x, x < k → pipB n (P x) = true) ∧ Below w.heap.size w wr ∧ Below W1.heap.size W1 wr ∧ W1.heap.size ≤ wr.heap.size) (fun i _ _ => m - (intOf i).toNat)
  case atStart => exact ⟨0, rfl, Nat.zero_le _, fun x hx => by omega, B0.out, Below.refl _ _, Nat.le_refl _⟩
  case round =>
    obtain ⟨k, rfl, hk, hall, hbel, hbel1, hsz⟩ := hrel
    have HA := Lib.hid hall
    have HB := Lib.hid hbel
    have HB1 := Lib.hid hbel1
    clear hbel hbel1 hall
    by_cases hlt : k < m
    · rcases HC.out with h0 | ⟨b, o, rfl, g1, g2, g3⟩
      · omega
      have G3 := Lib.hid g3
      clear g3
      have hx : ∀ j, j < 5 → wr.cell? ⟨b, o + k * 5 + j, none⟩ = some (pipC P k j) := fun j hj => (HB.out.cell (p := ⟨b, o + k * 5 + j, none⟩) (by show b < _; omega)).trans (G3.out.cell k j hlt hj)
      have hx0 : wr.cell? ⟨b, o + k * 5, none⟩ = some (.int .i64 (P k).f) := hx 0 (by omega)
      have hx1 : wr.cell? ⟨b, o + k * 5 + 1, none⟩ = some (.int .i64 (P k).t) := hx 1 (by omega)
      have hx2 : wr.cell? ⟨b, o + k * 5 + 2, none⟩ = some (.int .i64 (P k).k) := hx 2 (by omega)
      have hx3 : wr.cell? ⟨b, o + k * 5 + 3, none⟩ = some (.int .i64 (P k).v) := hx 3 (by omega)
      have hx4 : wr.cell? ⟨b, o + k * 5 + 4, none⟩ = some (.int .i64 (P k).l) := hx 4 (by omega)
      clear hx
      generalize hp : P k = q at *
      have HP := Lib.hid hp
      clear hp
      have HE := Lib.hid (pipB_eq n q)
      have f0 := (A0.out.below HB1.out (by omega)).b0
      have f1 := (A0.out.below HB1.out (by omega)).b1
      have hsw : w.heap.size < wr.heap.size := by omega
      have A1 : Ob (wr.alloc (.cells #[.int .i64 q.f, .int .i64 q.t, .int .i64 q.k, .int .i64 q.v, .int .i64 q.l] 50)) w.heap.size 2 (bx (.slice p0 n c0) (.slice (some ⟨b, o, none⟩) m c1)) := (A0.out.below HB1.out (by omega)).keep (Below.heap_alloc _ _ _ hsw)
      have V1 := boxedP wr q 50
      have C1 : Below w.heap.size w (wr.alloc (.cells #[.int .i64 q.f, .int .i64 q.t, .int .i64 q.k, .int .i64 q.v, .int .i64 q.l] 50)) := below_alloc HB.out (by omega) _
      have D1 : Below W1.heap.size W1 (wr.alloc (.cells #[.int .i64 q.f, .int .i64 q.t, .int .i64 q.k, .int .i64 q.v, .int .i64 q.l] 50)) := below_alloc HB1.out (by omega) _
      have hs1 : wr.heap.size + 1 ≤ (wr.alloc (.cells #[.int .i64 q.f, .int .i64 q.t, .int .i64 q.k, .int .i64 q.v, .int .i64 q.l] 50)).heap.size := by simp
      have hn9 : n ≤ 9223372036854775807 := by omega
      rcases bc3 (inR q.f 0 (n - 1)) (inR q.t 0 (n - 1)) (q.f != q.t) with h1 | ⟨h1, h2⟩ | ⟨h1, h2, h3⟩ | ⟨h1, h2, h3⟩
      rotate_left 3
      cases h4 : numB q
      rotate_left 2
      all_goals
        try have h3' : (q.f == q.t) = !(q.f != q.t) := by simp [bne]
        try rw [h3] at h3'
        try simp only [Bool.not_true, Bool.not_false] at h3'
        go_wp2_with (first
          | (go_at_call 62; refine (hasNode_any _ _ n _ m _ _ _ hn9).mono ?_; rintro e w2 ⟨rfl, b2⟩; have A2 := Ob.below (by assumption : Ob _ w.heap.size 2 (bx (.slice p0 n c0) (.slice (some ⟨b, o, none⟩) m c1))) b2 (by omega); have V2 := Ob.below (by assumption : Ob _ wr.heap.size 5 (vp q)) b2 (by omega); have C2 := Below.trans (by assumption : Below w.heap.size w _) (b2.mono (by omega)); have D2 := Below.trans (by assumption : Below W1.heap.size W1 _) (b2.mono (by omega)); have hs2 := Nat.le_trans (by assumption : wr.heap.size + 1 ≤ _) b2.size; have e0 := A2.b0; have e1 := A2.b1; have y0 : w2.cell? ⟨wr.heap.size, 0, none⟩ = some (.int .i64 q.f) := V2.cell 0 (by omega); have y1 : w2.cell? ⟨wr.heap.size, 1, none⟩ = some (.int .i64 q.t) := V2.cell 1 (by omega); have y2 : w2.cell? ⟨wr.heap.size, 2, none⟩ = some (.int .i64 q.k) := V2.cell 2 (by omega); have y3 : w2.cell? ⟨wr.heap.size, 3, none⟩ = some (.int .i64 q.v) := V2.cell 3 (by omega); have y4 : w2.cell? ⟨wr.heap.size, 4, none⟩ = some (.int .i64 q.l) := V2.cell 4 (by omega); clear b2)
          | (go_at_call 63; refine (hasValidNumbers_any q _).mono ?_; rintro e w2 ⟨rfl, b2⟩; have C2 := Below.trans (by assumption : Below w.heap.size w _) (b2.mono (by omega)); have D2 := Below.trans (by assumption : Below W1.heap.size W1 _) (b2.mono (by omega)); have hs2 := Nat.le_trans (by assumption : wr.heap.size + 1 ≤ _) b2.size; clear b2))
      · go_ret
        exact ⟨ret_b (pipesB_no hlt (by rw [HP.out, HE.out, h1]; rfl)).symm, by assumption⟩
      · go_ret
        exact ⟨ret_b (pipesB_no hlt (by rw [HP.out, HE.out, h1, h2]; rfl)).symm, by assumption⟩
      · go_ret
        exact ⟨ret_b (pipesB_no hlt (by rw [HP.out, HE.out, h1, h2, h3]; rfl)).symm, by assumption⟩
      · go_ret
        exact ⟨ret_b (pipesB_no hlt (by rw [HP.out, HE.out, h1, h2, h3, h4]; rfl)).symm, by assumption⟩
      · have HT := Lib.hid (show pipB n q = true by rw [HE.out, h1, h2, h3, h4]; rfl)
        go_roundw
        case rel =>
          refine ⟨k + 1, by go_num, hlt, fun x hx => ?_, by assumption, by assumption, by omega⟩
          by_cases e : x = k
          · subst e; rw [HP.out]; exact HT.out
          · exact HA.out x (by omega)
        case measure => simp [intOf]; omega
    · go_wp2_with fail
      go_ret
      exact ⟨ret_b (pipesB_iff.2 (fun x hx => HA.out x (by omega))).symm, HB.out⟩

set_option maxHeartbeats 2000000 in
/-- the program's IsNetwork -/
theorem isNetwork_any (w : World) (v : Value) (n : Nat) (N : Nat → Nod) (m : Nat) (P : Nat → Pip) (lo hi : Nat) (h : NetAt w v n N m P lo hi) (hhi : hi ≤ w.heap.size) (hN : ∀ i, i < n → (N i).s.size ≤ 9223372036854775807) :
    Calls Tryd.prog 42 #[v] w fun e w' => e = .returned (.bool (netB n N m P)) ∧ Below w.heap.size w w' := by
  obtain ⟨v0, v1, rfl, g0, g1⟩ := h.ex
  obtain ⟨p0, c0, rfl⟩ := g0.shape
  obtain ⟨p1, c1, rfl⟩ := g1.shape
  have hn : n ≤ 9223372036854775807 := by
    obtain ⟨p, cap, he, q1, q2, _⟩ := g0.ex
    omega
  have hm : m ≤ 9223372036854775807 := by
    obtain ⟨p, cap, he, q1, q2, _⟩ := g1.ex
    omega
  have G0 := Lib.hid g0
  have G1 := Lib.hid g1
  have HN := Lib.hid hN
  have HU := Lib.hid (show netB n N m P = (szB n m && nodesB N n && pipesB n P m) from rfl)
  clear h g0 g1 hN
  have A1 := boxed w (.slice p0 n c0) (.slice p1 m c1) 35
  have C1 : Below w.heap.size w (w.alloc (.cells #[.slice p0 n c0, .slice p1 m c1] 35)) := below_new w _
  have hs1 : w.heap.size + 1 ≤ (w.alloc (.cells #[.slice p0 n c0, .slice p1 m c1] 35)).heap.size := by simp
  have HSZ := Lib.hid (@szB_iff n m)
  rcases bc3 (szB n m) (nodesB N n) (pipesB n P m) with h1 | ⟨h1, h2⟩ | ⟨h1, h2, h3⟩ | ⟨h1, h2, h3⟩
  rotate_left 1
  all_goals
    try have hn2 : n ≤ 2000000 := by have := HSZ.out.1 h1; omega
    try have hm2 : m ≤ 2000000 := by have := HSZ.out.1 h1; omega
  rotate_left 3
  all_goals
    go_enter Tryd.func42, Tryd.ntmps42
    go_wp2_with (first
      | (go_at_call 51; refine (hasValidSizes_any _ _ n _ m _ _ hn hm).mono ?_; rintro e w2 ⟨rfl, b2⟩; have A2 := Ob.below (by assumption : Ob _ w.heap.size 2 (bx (.slice p0 n c0) (.slice p1 m c1))) b2 (by omega); have C2 := Below.trans (by assumption : Below w.heap.size w _) (b2.mono (by omega)); have hs2 := Nat.le_trans (by assumption : w.heap.size + 1 ≤ _) b2.size; have e0 := A2.b0; have e1 := A2.b1; clear b2)
      | (go_at_call 52; refine (hasValidNodes_any _ _ n _ m _ N lo hi _ (G0.out.below (by assumption : Below w.heap.size w _) hhi) hn2 (by omega) HN.out).mono ?_; rintro e w2 ⟨rfl, b2⟩; have A2 := Ob.below (by assumption : Ob _ w.heap.size 2 (bx (.slice p0 n c0) (.slice p1 m c1))) b2 (by omega); have C2 := Below.trans (by assumption : Below w.heap.size w _) (b2.mono (by omega)); have hs2 := Nat.le_trans (by assumption : w.heap.size + 1 ≤ _) b2.size; have e0 := A2.b0; have e1 := A2.b1; clear b2)
      | (go_at_call 53; refine (hasValidPipes_any _ _ n _ m _ P lo hi _ (G1.out.below (by assumption : Below w.heap.size w _) hhi) hn2 hm2 (by omega)).mono ?_; rintro e w2 ⟨rfl, b2⟩; have C2 := Below.trans (by assumption : Below w.heap.size w _) (b2.mono (by omega)); clear b2))
    go_ret
  · exact ⟨ret_b (by rw [HU.out, h1]; rfl), by assumption⟩
  · exact ⟨ret_b (by rw [HU.out, h1, h2]; rfl), by assumption⟩
  · exact ⟨ret_b (by rw [HU.out, h1, h2, h3]; rfl), by assumption⟩
  · exact ⟨ret_b (by rw [HU.out, h1, h2, h3]; rfl), by assumption⟩
end Go.Proofs.YtdbgcbkmcbgdiaaDoor.mem
