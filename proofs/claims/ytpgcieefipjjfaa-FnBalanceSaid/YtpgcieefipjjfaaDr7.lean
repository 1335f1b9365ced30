/-
  Draws of a network and supplies that hand the common one on. Conditions: as each states.
-/
import Derived.Test.YtpgcieefipjjfaaRows
import Derived.Test.YtpgcieefipjjfaaDr6
import Derived.WalkKit
import Derived.ProofKit
import Derived.Lib.Hide
import Derived.OwnWalk
import Derived.Outline
namespace Go.Proofs.Ytpgcieefipjjfaa.draw
open Go.RowKit
set_option linter.unusedVariables false

def NLOnly (w : World) (e : Ending) (w' : World) : Prop :=
  ∃ (v : Value) (n m : Nat) (N : Nat → mem.Nod) (P : Nat → mem.Pip) (b1 b2 : Nat) (vl : Value) (K : Nat) (D : Nat → Int), e = .returned (.tuple #[v, vl]) ∧ n ≤ 1000 ∧ m ≤ 1000 ∧ K ≤ 2000 ∧ (∀ i, i < n → (N i).s.size ≤ 9223372036854775807) ∧ mem.NetOwn w' v n N m P b1 b2 ∧ w.heap.size ≤ b1 ∧ w.heap.size ≤ b2 ∧ mem.Sl w' vl K D w.heap.size w'.heap.size ∧ Below w.heap.size w w'
theorem sl_sh {w : World} {v : Value} {n : Nat} {d : Nat → Int} {lo hi : Nat} (h : mem.Sl w v n d lo hi) : ∃ p cap, v = .slice p n cap := by
  obtain ⟨p, cap, e, _⟩ := h.ex
  exact ⟨p, cap, e⟩
end Go.Proofs.Ytpgcieefipjjfaa.draw
