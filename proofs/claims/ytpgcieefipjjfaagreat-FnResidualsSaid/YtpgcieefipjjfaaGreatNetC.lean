/-
  Contracts of the laws' own helpers on networks: size, conversion, equality. Conditions: as each states.
-/
import Derived.Test.YtpgcieefipjjfaaGreatRows
import Derived.Test.YtpgcieefipjjfaaGreatToN
import Derived.WalkKit
import Derived.ProofKit
import Derived.Outline
import Derived.OwnWalk
import Derived.Lib.Hide
import Derived.Deep.RegionHeld3
namespace Go.Proofs.YtpgcieefipjjfaaGreat.mem
open Go.RowKit
set_option linter.unusedVariables false

/-- how much is left: less than 0 where it is too much -/
def SzPost (w : World) (left : Int) (n : Nat) (e : Ending) (w' : World) : Prop := ∃ r : Int, e = .returned (.int .i64 r) ∧ (r = -1 ∨ (0 ≤ r ∧ r ≤ left ∧ (n : Int) ≤ left)) ∧ Below w.heap.size w w'
/-- what reads as a network: n nodes N, m pipes P, in blocks from lo on and below hi -/
structure NetAt (w : World) (v : Value) (n : Nat) (N : Nat → Nod) (m : Nat) (P : Nat → Pip) (lo hi : Nat) : Prop where
  ex : ∃ v0 v1, v = .agg #[v0, v1] ∧ Cs w v0 n 3 (nodC N) lo hi ∧ Cs w v1 m 5 (pipC P) lo hi
theorem NetAt.below {w w' : World} {v : Value} {n m : Nat} {N : Nat → Nod} {P : Nat → Pip} {lo hi B : Nat} (h : NetAt w v n N m P lo hi) (g : Below B w w') (hB : hi ≤ B) : NetAt w' v n N m P lo hi := by
  obtain ⟨v0, v1, rfl, h0, h1⟩ := h.ex
  exact ⟨v0, v1, rfl, h0.below g hB, h1.below g hB⟩
theorem NetAt.mono {w : World} {v : Value} {n m : Nat} {N : Nat → Nod} {P : Nat → Pip} {lo hi lo' hi' : Nat} (h : NetAt w v n N m P lo hi) (h1 : lo' ≤ lo) (h2 : hi ≤ hi') : NetAt w v n N m P lo' hi' := by
  obtain ⟨v0, v1, rfl, g0, g1⟩ := h.ex
  exact ⟨v0, v1, rfl, g0.mono h1 h2, g1.mono h1 h2⟩
theorem NetAt.upd {X : Nat → Prop} {w w' : World} {v : Value} {n m : Nat} {N : Nat → Nod} {P : Nat → Pip} {lo hi : Nat} (h : NetAt w v n N m P lo hi) (g : Upd X w w') (hi1 : hi ≤ w.heap.size) (hx : ∀ k, lo ≤ k → k < hi → ¬ X k) : NetAt w' v n N m P lo hi := by
  obtain ⟨v0, v1, rfl, g0, g1⟩ := h.ex
  exact ⟨v0, v1, rfl, g0.upd g hi1 hx, g1.upd g hi1 hx⟩
/-- a network of the call's own, its rows in blocks b1 and b2 -/
structure NetOwn (w : World) (v : Value) (n : Nat) (N : Nat → Nod) (m : Nat) (P : Nat → Pip) (b1 b2 : Nat) : Prop where
  ex : ∃ v0 v1, v = .agg #[v0, v1] ∧ OwnS w v0 n 3 (nodC N) b1 ∧ OwnS w v1 m 5 (pipC P) b2 ∧ (n = 0 ∨ m = 0 ∨ b1 ≠ b2)
theorem NetOwn.upd {X : Nat → Prop} {w w' : World} {v : Value} {n m b1 b2 : Nat} {N : Nat → Nod} {P : Nat → Pip} (h : NetOwn w v n N m P b1 b2) (g : Upd X w w') (h1 : n = 0 ∨ ¬ X b1) (h2 : m = 0 ∨ ¬ X b2) : NetOwn w' v n N m P b1 b2 := by
  obtain ⟨v0, v1, rfl, g0, g1, g2⟩ := h.ex
  exact ⟨v0, v1, rfl, g0.upd g h1, g1.upd g h2, g2⟩
theorem NetOwn.below {w w' : World} {v : Value} {n m b1 b2 B : Nat} {N : Nat → Nod} {P : Nat → Pip} (h : NetOwn w v n N m P b1 b2) (g : Below B w w') (hB : w.heap.size ≤ B) : NetOwn w' v n N m P b1 b2 := by
  obtain ⟨v0, v1, rfl, g0, g1, g2⟩ := h.ex
  exact ⟨v0, v1, rfl, g0.below g hB, g1.below g hB, g2⟩
theorem NetOwn.net {w : World} {v : Value} {n m b1 b2 : Nat} {N : Nat → Nod} {P : Nat → Pip} (h : NetOwn w v n N m P b1 b2) : NetAt w v n N m P 0 w.heap.size := by
  obtain ⟨v0, v1, rfl, g0, g1, g2⟩ := h.ex
  exact ⟨v0, v1, rfl, g0.cs (.inr rfl) (Nat.le_refl _), g1.cs (.inr rfl) (Nat.le_refl _)⟩
theorem NetOwn.lt1 {w : World} {v : Value} {n m b1 b2 : Nat} {N : Nat → Nod} {P : Nat → Pip} (h : NetOwn w v n N m P b1 b2) : n = 0 ∨ b1 < w.heap.size := by
  obtain ⟨v0, v1, rfl, g0, g1, g2⟩ := h.ex
  exact g0.lt
theorem NetOwn.lt2 {w : World} {v : Value} {n m b1 b2 : Nat} {N : Nat → Nod} {P : Nat → Pip} (h : NetOwn w v n N m P b1 b2) : m = 0 ∨ b2 < w.heap.size := by
  obtain ⟨v0, v1, rfl, g0, g1, g2⟩ := h.ex
  exact g1.lt
theorem NetOwn.none_ (w : World) (N : Nat → Nod) (P : Nat → Pip) (b1 b2 : Nat) : NetOwn w (.agg #[.slice none 0 0, .slice none 0 0]) 0 N 0 P b1 b2 := ⟨_, _, rfl, OwnS.none_ _ _ _ _, OwnS.none_ _ _ _ _, .inl rfl⟩

def NewNet (w : World) (n : Nat) (N : Nat → Nod) (m : Nat) (P : Nat → Pip) (e : Ending) (w' : World) : Prop :=
  ∃ v b1 b2, e = .returned v ∧ NetOwn w' v n N m P b1 b2 ∧ w.heap.size ≤ b1 ∧ w.heap.size ≤ b2 ∧ Below w.heap.size w w'
end Go.Proofs.YtpgcieefipjjfaaGreat.mem
