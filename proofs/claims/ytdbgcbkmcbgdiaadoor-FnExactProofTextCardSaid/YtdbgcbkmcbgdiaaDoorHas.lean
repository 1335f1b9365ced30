/-
  A number is in a list: the specification's l02Has. Conditions: as it states.
-/
import Derived.Test.YtdbgcbkmcbgdiaaDoorRows
import Derived.Test.YtdbgcbkmcbgdiaaDoorNetPA
import Derived.WalkKit
import Derived.ProofKit
import Derived.Outline
import Derived.OwnWalk
import Derived.Lib.Hide
import Derived.Deep.RegionHeld3
namespace Go.Proofs.YtdbgcbkmcbgdiaaDoor.mem
open Go.RowKit
set_option linter.unusedVariables false

/-- a number is among the first n -/
def hasB (n : Nat) (d : Nat → Int) (x : Int) : Bool := (List.range n).any fun i => d i == x
theorem hasB_yes {n k : Nat} {d : Nat → Int} {x : Int} (hk : k < n) (h : d k = x) : hasB n d x = true := by
  unfold hasB
  rw [List.any_eq_true]
  exact ⟨k, by simpa using hk, by rw [h]; simp⟩
theorem hasB_no {n : Nat} {d : Nat → Int} {x : Int} (h : ∀ k, k < n → d k ≠ x) : hasB n d x = false := by
  unfold hasB
  rw [List.any_eq_false]
  intro k hk
  simp only [beq_iff_eq]
  exact h k (by simpa using hk)
end Go.Proofs.YtdbgcbkmcbgdiaaDoor.mem
