/-
  The codes with which functions of networks begin. Conditions: as each states.
-/
import Derived.Test.YtdbgcbkmcbgdiaaDoorRows
import Derived.Test.YtdbgcbkmcbgdiaaDoorNetL
import Derived.Test.YtdbgcbkmcbgdiaaDoorI64
import Derived.WalkKit
import Derived.ProofKit
import Derived.Outline
import Derived.OwnWalk
import Derived.Lib.Hide
namespace Go.Proofs.YtdbgcbkmcbgdiaaDoor.mem
open Go.RowKit
set_option linter.unusedVariables false

open Classical in
/-- the code of a network (valid or not) and of indices of which one may be none -/
noncomputable def codeB (b r : Bool) : Int := if b = true then (if r = true then 0 else 2) else 1
open Classical in
noncomputable def allR (n cnt : Nat) (d : Nat → Int) : Bool := decide (∀ i, i < cnt → inR (d i) 0 (n - 1) = true)
theorem allR_iff {n cnt : Nat} {d : Nat → Int} : allR n cnt d = true ↔ ∀ i, i < cnt → inR (d i) 0 (n - 1) = true := by unfold allR; simp
theorem allR_no {n cnt i : Nat} {d : Nat → Int} (hi : i < cnt) (h : inR (d i) 0 (n - 1) = false) : allR n cnt d = false := by
  unfold allR
  simp only [decide_eq_false_iff_not]
  intro g
  rw [g i hi] at h
  cases h
theorem ret_i2 {k : IntKind} {a b : Int} (h : a = b) : Ending.returned (.int k a) = .returned (.int k b) := by rw [h]

end Go.Proofs.YtdbgcbkmcbgdiaaDoor.mem
