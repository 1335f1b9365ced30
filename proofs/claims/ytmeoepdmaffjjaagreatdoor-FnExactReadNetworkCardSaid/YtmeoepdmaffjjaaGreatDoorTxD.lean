/-
  The line of a pipe of a network, in the model and in the program. Conditions: as each states.
-/
import Derived.Test.YtmeoepdmaffjjaaGreatDoorRows
import Derived.Test.YtmeoepdmaffjjaaGreatDoorTxC
import Derived.WalkKit
import Derived.ProofKit
import Derived.Lib.Hide
import Derived.Deep.RegionHeld3
import Derived.OwnWalk
namespace Go.Proofs.YtmeoepdmaffjjaaGreatDoor.text
open Go.RowKit Go.Proofs.YtmeoepdmaffjjaaGreatDoor.mem
set_option linter.unusedVariables false
set_option maxRecDepth 100000

theorem net_all {n : Nat} {N : Nat → Nod} {m : Nat} {P : Nat → Pip} (h : netB n N m P = true) : (∀ i, i < n → nodB (N i) = true) ∧ (∀ k, k < m → pipB n (P k) = true) ∧ n ≤ 24 ∧ m ≤ 40 := by
  unfold netB at h
  simp only [Bool.and_eq_true] at h
  exact ⟨(nodesB_iff.1 h.1.2).1, pipesB_iff.1 h.2, (szB_iff.1 h.1.1).2.1, (szB_iff.1 h.1.1).2.2⟩
theorem pip_all {n : Int} {q : Pip} (h : pipB n q = true) : (0 ≤ q.f ∧ q.f ≤ n - 1) ∧ (0 ≤ q.t ∧ q.t ≤ n - 1) ∧ (0 ≤ q.k ∧ q.k ≤ 1000000000) ∧ (0 ≤ q.v ∧ q.v ≤ 1000000000) ∧ (0 ≤ q.l ∧ q.l ≤ 1000000000) := by
  unfold pipB at h
  simp only [Bool.and_eq_true, inR_iff] at h
  obtain ⟨⟨⟨⟨⟨h1, h2⟩, _⟩, h3⟩, h4⟩, h5⟩ := h
  omega
theorem src_of {w : World} {v : Value} {n : Nat} {N : Nat → Nod} {m : Nat} {P : Nat → Pip} {lo hi k : Nat} (h : NetAt w v n N m P lo hi) (hhi : hi ≤ w.heap.size) (hv : netB n N m P = true) (hk : k < m) : ∃ f t, Src w v n N hi (P k) f t := by
  obtain ⟨h1, h2, _⟩ := net_all hv
  obtain ⟨q1, q2, q3, q4, q5⟩ := pip_all (h2 k hk)
  obtain ⟨f, hf⟩ := Int.eq_ofNat_of_zero_le q1.1
  obtain ⟨t, ht⟩ := Int.eq_ofNat_of_zero_le q2.1
  obtain ⟨v0, v1, rfl, g0, g1⟩ := h.ex
  obtain ⟨p0, c0, rfl, _, _, g0⟩ := g0.ex
  obtain ⟨p1, c1, rfl, _, _, _⟩ := g1.ex
  have hfn : f < n := by omega
  have htn : t < n := by omega
  rcases g0 with g0 | ⟨b, o, rfl, b1, b2, ga⟩
  · omega
  exact ⟨f, t, ⟨b, o, c0, p1, m, c1, rfl, b2, ga.cell f 0 hfn (by omega), ga.cell t 0 htn (by omega)⟩, hhi, hf, ht, hfn, htn, (nod_bd (h1 f hfn)).1, (nod_bd (h1 t htn)).1, q3, q4, q5⟩
noncomputable def plC (n : Nat) (N : Nat → Nod) (m : Nat) (P : Nat → Pip) (x : Int) : Int := codeB (netB n N m P) (inR x 0 (m - 1))
noncomputable def plT (n : Nat) (N : Nat → Nod) (m : Nat) (P : Nat → Pip) (x : Int) : List UInt8 := if plC n N m P x = 0 then pipeL N (P x.toNat) else []
def TxPost (w : World) (l : List UInt8) (c : Int) (e : Ending) (w' : World) : Prop := e = .returned (.tuple #[.string ⟨l.toArray⟩, .int .i64 c]) ∧ Below w.heap.size w w'
theorem code_yes {b r : Bool} (h : codeB b r = 0) : b = true ∧ r = true := by
  unfold codeB at h
  cases b <;> cases r <;> simp at h ⊢

end Go.Proofs.YtmeoepdmaffjjaaGreatDoor.text
