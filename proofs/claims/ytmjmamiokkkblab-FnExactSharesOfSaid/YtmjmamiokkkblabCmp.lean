/-
  The contract of the order in which remainders are sorted: the comparison of two indices by their remainders. Conditions: both are indices; the remainders lie in memory as a row.
-/
import Derived.Test.YtmjmamiokkkblabRows
import Derived.Test.YtmjmamiokkkblabMem
import Derived.Test.YtmjmamiokkkblabRot
import Derived.WalkKit
import Derived.ProofKit
import Derived.Lib.Hide
import Derived.Deep.QuietTactic
import Derived.BigQuiet
namespace Go.Proofs.Ytmjmamiokkkblab.sort
open Go.RowKit Go.Proofs.Ytmjmamiokkkblab.mem
set_option linter.unusedVariables false

def cmpV (x y : Int) : Int := if x < y then -1 else if y < x then 1 else 0
theorem ret_i {k : IntKind} {a b : Int} (h : a = b) : Ending.returned (.int k a) = .returned (.int k b) := by rw [h]
theorem compare_any (x y : Int) (w : World) : Calls Try.prog 28 #[.int .i64 x, .int .i64 y] w fun e w' => e = .returned (.int .i64 (cmpV x y)) ∧ w = w' := by
  by_cases h1 : x < y
  · go_enter Try.func28, Try.ntmps28
    go_wp2
    go_ret
    exact ⟨ret_i (by unfold cmpV; rw [if_pos h1]), rfl⟩
  · by_cases h2 : y < x
    · go_enter Try.func28, Try.ntmps28
      go_wp2
      go_ret
      exact ⟨ret_i (by unfold cmpV; rw [if_neg (by omega), if_pos h2]), rfl⟩
    · go_enter Try.func28, Try.ntmps28
      go_wp2
      go_ret
      exact ⟨ret_i (by unfold cmpV; rw [if_neg (by omega), if_neg (by omega)]), rfl⟩

/-- the remainders, as the comparison finds them: through the captured variable at cb, in the row at rb -/
structure Rems (w : World) (cb rb N cap : Nat) (rem : Nat → Int) : Prop where
  ptr : w.cell? ⟨cb, 0, none⟩ = some (.slice (some ⟨rb, 0, none⟩) N cap)
  row : Row w rb N rem
theorem Rems.only {w w' : World} {cb rb N cap c : Nat} {rem : Nat → Int} (h : Rems w cb rb N cap rem) (g : Only c w w') (h1 : cb ≠ c) (h2 : rb ≠ c) : Rems w' cb rb N cap rem :=
  ⟨(g.cell (a := ⟨cb, 0, none⟩) h1).trans h.ptr, h.row.only g h2⟩
theorem Rems.drewN {w : World} {cb rb N cap : Nat} {rem : Nat → Int} (h : Rems w cb rb N cap rem) (n : Nat) : Rems (w.drewN n) cb rb N cap rem := ⟨h.ptr, h.row.drewN n⟩

theorem less_any (w : World) (cb rb N cap : Nat) (rem : Nat → Int) (i j : Nat) (h : Rems w cb rb N cap rem) (hi : i < N) (hj : j < N) (hN : N ≤ 1000000) :
    Calls Try.prog 27 #[.int .i64 i, .int .i64 j, .pointer (some ⟨cb, 0, none⟩)] w fun e w' => e = .returned (.int .i64 (cmpV (rem j) (rem i))) ∧ ∃ n, w' = w.drewN n := by
  have h0 := h.ptr
  have h1 := h.row.cell i hi
  have h2 := h.row.cell j hj
  clear h
  go_enter Try.func27, Try.ntmps27
  go_wp2
  go_quiet ((go_at_call 28; exact Calls.quiet_of_same ((compare_any _ _ _).mono fun e w' h => ⟨h.1, h.2.symm⟩)))
  go_wp2
  go_ret
  exact ⟨rfl, _, rfl⟩

end Go.Proofs.Ytmjmamiokkkblab.sort
