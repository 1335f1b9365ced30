/-
  The codes with which functions of networks begin. Conditions: as each states.
-/
import Derived.Test.YtpgcieefipjjfaaRows
import Derived.Test.YtpgcieefipjjfaaNetL
import Derived.Test.YtpgcieefipjjfaaI64
import Derived.WalkKit
import Derived.ProofKit
import Derived.Outline
import Derived.OwnWalk
import Derived.Lib.Hide
namespace Go.Proofs.Ytpgcieefipjjfaa.mem
open Go.RowKit
set_option linter.unusedVariables false

open Classical in
/-- the code of a network (valid or not) and of indices of which one may be none -/
noncomputable def codeB (b r : Bool) : Int := if b = true then (if r = true then 0 else 2) else 1
open Classical in
noncomputable def allR (n cnt : Nat) (d : Nat → Int) : Bool := decide (∀ i, i < cnt → inR (d i) 0 (n - 1) = true)
theorem allR_iff {n cnt : Nat} {d : Nat → Int} : allR n cnt d = true ↔ ∀ i, i < cnt → inR (d i) 0 (n - 1) = true := by unfold allR; simp
theorem allR_no {n cnt i : Nat} {d : Nat → Int} (hi : i < cnt) (h : inR (d i) 0 (n - 1) = false) : allR n cnt d = false := by
  unfold allR
  simp only [decide_eq_false_iff_not]
  intro g
  rw [g i hi] at h
  cases h
theorem ret_i2 {k : IntKind} {a b : Int} (h : a = b) : Ending.returned (.int k a) = .returned (.int k b) := by rw [h]

set_option maxHeartbeats 2000000 in
theorem l02PipeCode_any (w : World) (v : Value) (n : Nat) (N : Nat → Nod) (m : Nat) (P : Nat → Pip) (lo hi : Nat) (h : NetAt w v n N m P lo hi) (hhi : hi ≤ w.heap.size) (hN : ∀ i, i < n → (N i).s.size ≤ 9223372036854775807) (x : Int) :
    Calls Try.prog 136 #[v, .int .i64 x] w fun e w' => e = .returned (.int .i64 (codeB (netB n N m P) (inR x 0 (m - 1)))) ∧ Below w.heap.size w w' := by
  obtain ⟨v0, v1, rfl, g0, g1⟩ := h.ex
  obtain ⟨p0, c0, rfl⟩ := g0.shape
  obtain ⟨p1, c1, rfl⟩ := g1.shape
  have hn9 : n ≤ 9223372036854775807 := by
    obtain ⟨p, cap, he, q1, q2, _⟩ := g0.ex
    omega
  have hm9 : m ≤ 9223372036854775807 := by
    obtain ⟨p, cap, he, q1, q2, _⟩ := g1.ex
    omega
  have HC0 : Hid (n = 0 ∨ ∃ b o, p0 = some ⟨b, o, none⟩ ∧ lo ≤ b ∧ b < hi ∧ At w b o n 3 (nodC N)) := by
    obtain ⟨p, cap, hv, _, _, hc⟩ := g0.ex
    injection hv with e1 _ e2
    subst e1
    exact Lib.hid hc
  have HC1 : Hid (m = 0 ∨ ∃ b o, p1 = some ⟨b, o, none⟩ ∧ lo ≤ b ∧ b < hi ∧ At w b o m 5 (pipC P)) := by
    obtain ⟨p, cap, hv, _, _, hc⟩ := g1.ex
    injection hv with e1 _ e2
    subst e1
    exact Lib.hid hc
  have HV := Lib.hid h
  have HN := Lib.hid hN
  clear h g0 g1 hN
  have A0 := boxed w (.slice p0 n c0) (.slice p1 m c1) 33
  have C0 : Below w.heap.size w _ := below_new w (Obj.cells #[Value.slice p0 n c0, Value.slice p1 m c1] 33)
  have hs0 : w.heap.size + 1 ≤ (w.alloc (Obj.cells #[Value.slice p0 n c0, Value.slice p1 m c1] 33)).heap.size := by simp
  cases h1 : netB n N m P
  · go_enter Try.func136, Try.ntmps136
    go_wp2_with (first | (go_at_call 59; refine (sIsNetwork_any _ _ n N m P lo hi (HV.out.below (by assumption : Below w.heap.size w _) hhi) (by omega) HN.out).mono ?_; rintro e w2 ⟨rfl, b2⟩; have A2 := Ob.below (by assumption : Ob _ w.heap.size 2 (bx (.slice p0 n c0) (.slice p1 m c1))) b2 (by omega); have C2 := Below.trans (by assumption : Below w.heap.size w _) (b2.mono (by omega)); have hs2 := Nat.le_trans (by assumption : w.heap.size + 1 ≤ _) b2.size; have e0 := A2.b0; have e1 := A2.b1; have e2 : w.heap.size < w2.heap.size := (by omega); clear b2))
    go_ret
    exact ⟨ret_i2 (by rfl), by assumption⟩
  cases h2 : inR x 0 (m - 1)
  · go_enter Try.func136, Try.ntmps136
    go_wp2_with (first | (go_at_call 59; refine (sIsNetwork_any _ _ n N m P lo hi (HV.out.below (by assumption : Below w.heap.size w _) hhi) (by omega) HN.out).mono ?_; rintro e w2 ⟨rfl, b2⟩; have A2 := Ob.below (by assumption : Ob _ w.heap.size 2 (bx (.slice p0 n c0) (.slice p1 m c1))) b2 (by omega); have C2 := Below.trans (by assumption : Below w.heap.size w _) (b2.mono (by omega)); have hs2 := Nat.le_trans (by assumption : w.heap.size + 1 ≤ _) b2.size; have e0 := A2.b0; have e1 := A2.b1; have e2 : w.heap.size < w2.heap.size := (by omega); clear b2) | (go_at_call 127; refine (l01In_any _ _ _ _).mono ?_; rintro e w' ⟨rfl, rfl⟩))
    go_ret
    exact ⟨ret_i2 (by rfl), by assumption⟩
  · go_enter Try.func136, Try.ntmps136
    go_wp2_with (first | (go_at_call 59; refine (sIsNetwork_any _ _ n N m P lo hi (HV.out.below (by assumption : Below w.heap.size w _) hhi) (by omega) HN.out).mono ?_; rintro e w2 ⟨rfl, b2⟩; have A2 := Ob.below (by assumption : Ob _ w.heap.size 2 (bx (.slice p0 n c0) (.slice p1 m c1))) b2 (by omega); have C2 := Below.trans (by assumption : Below w.heap.size w _) (b2.mono (by omega)); have hs2 := Nat.le_trans (by assumption : w.heap.size + 1 ≤ _) b2.size; have e0 := A2.b0; have e1 := A2.b1; have e2 : w.heap.size < w2.heap.size := (by omega); clear b2) | (go_at_call 127; refine (l01In_any _ _ _ _).mono ?_; rintro e w' ⟨rfl, rfl⟩))
    go_ret
    exact ⟨ret_i2 (by rfl), by assumption⟩

end Go.Proofs.Ytpgcieefipjjfaa.mem
