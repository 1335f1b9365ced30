/-
  Contracts of the library's swapRange and rotate over a row of integers: which cell holds what behind the call. Conditions: the ranges lie within the row.
-/
import Derived.Test.YtpgindeoiibgpaaRows
import Derived.Test.YtpgindeoiibgpaaMem
import Derived.WalkKit
import Derived.ProofKit
import Derived.Lib.Hide
import Derived.RegionTactic
import Derived.BigRegion
namespace Go.Proofs.Ytpgindeoiibgpaa.sort
open Go.RowKit Go.Proofs.Ytpgindeoiibgpaa.mem
set_option linter.unusedVariables false

def swapR (d : Nat → Int) (a b m : Nat) : Nat → Int := fun k =>
  if a ≤ k ∧ k < a + m then d (k + (b - a)) else if b ≤ k ∧ k < b + m then d (k - (b - a)) else d k
theorem swapR_step (d : Nat → Int) (a b m i : Nat) (h : a + m ≤ b) (hi : i < m) : swap (swapR d a b i) (a + i) (b + i) = swapR d a b (i + 1) := by
  funext k
  unfold swap swapR
  repeat' split
  all_goals first | rfl | (exfalso; omega) | (congr 1; omega)
theorem swap_upd (d : Nat → Int) (i j : Nat) (h : i ≠ j) : upd (upd d i (d j)) j (d i) = swap d i j := by
  funext k
  unfold upd swap
  repeat' split
  all_goals first | rfl | (exfalso; omega)
theorem swap_upd' (d : Nat → Int) (i j : Nat) (h : i ≠ j) : upd (upd d j (d i)) i (d j) = swap d i j := by
  funext k
  unfold upd swap
  repeat' split
  all_goals first | rfl | (exfalso; omega)

def RowPost (w : World) (blk n : Nat) (d : Nat → Int) (e : Ending) (w' : World) : Prop := e = .returned (.tuple #[]) ∧ Row w' blk n d ∧ Only blk w w'

/-- the blocks [a, m) and [m, b) exchanged -/
def rotR (d : Nat → Int) (a m b : Nat) : Nat → Int := fun k =>
  if a ≤ k ∧ k < a + (b - m) then d (k + (m - a)) else if a + (b - m) ≤ k ∧ k < b then d (k - (b - m)) else d k
theorem rot_eq (d : Nat → Int) (m i : Nat) (h : i ≤ m) : swapR d (m - i) m i = rotR d (m - i) m (m + i) := by
  funext k
  simp only [swapR, rotR]
  repeat' split
  all_goals first | rfl | (exfalso; omega) | (congr 1; omega)
theorem rot_left (d : Nat → Int) (m i j : Nat) (h : i ≤ m) (hij : j < i) : rotR (swapR d (m - i) m j) (m - (i - j)) m (m + j) = rotR d (m - i) m (m + j) := by
  funext k
  simp only [swapR, rotR]
  repeat' split
  all_goals first | rfl | (exfalso; omega) | (congr 1; omega)
theorem rot_right (d : Nat → Int) (m i j : Nat) (h : i ≤ m) (hij : i < j) : rotR (swapR d (m - i) (m + j - i) i) (m - i) m (m + (j - i)) = rotR d (m - i) m (m + j) := by
  funext k
  simp only [swapR, rotR]
  repeat' split
  all_goals first | rfl | (exfalso; omega) | (congr 1; omega)

end Go.Proofs.Ytpgindeoiibgpaa.sort
