/-
  Slices of integers as rows of one-cell elements: the laws' own eqInt64S, markInt64S, heldInt64S. Conditions: as each states.
-/
import Derived.Test.YtpgcieefipjjfaaGreatRows
import Derived.Test.YtpgcieefipjjfaaGreatCs
import Derived.WalkKit
import Derived.ProofKit
import Derived.Lib.Hide
import Derived.Deep.QuietTactic
import Derived.BigQuiet
namespace Go.Proofs.YtpgcieefipjjfaaGreat.mem
open Go.RowKit
set_option linter.unusedVariables false

def intC (d : Nat → Int) (i _j : Nat) : Value := .int .i64 (d i)
theorem At.int {w : World} {b o n : Nat} {d : Nat → Int} (h : At w b o n 1 (intC d)) (k : Nat) (hk : k < n) : w.cell? ⟨b, o + k, none⟩ = some (.int .i64 (d k)) := by
  have := h.cell k 0 hk (by omega)
  simpa [intC] using this
theorem Rw.int {w : World} {b n : Nat} {c : Nat → Nat → Value} (h : Rw w b n 1 c) (k : Nat) (hk : k < n) : w.cell? ⟨b, k, none⟩ = some (c k 0) := by
  have := h.cell k 0 hk (by omega)
  simpa using this
theorem Rw.set1 {w : World} {b n k : Nat} {c d : Nat → Nat → Value} (h : Rw w b n 1 c) (e : ∀ i j, i < k → j < 1 → c i j = d i j) (hk : k < n) : ∃ c', Rw (w.setCell ⟨b, k, none⟩ (d k 0)) b n 1 c' ∧ ∀ i j, i < k + 1 → j < 1 → c' i j = d i j := by
  have := h.set k 0 (d k 0) hk (by omega)
  simp only [Nat.mul_one, Nat.add_zero] at this
  refine ⟨_, this, fun i j hi hj => ?_⟩
  unfold updC
  by_cases hik : i = k
  · subst hik
    obtain rfl : j = 0 := by omega
    simp
  · simp [hik, e i j (by omega) hj]
theorem ret_ii {k : IntKind} {a b : Int} (h : a = b) : Ending.returned (.int k a) = .returned (.int k b) := by rw [h]

end Go.Proofs.YtpgcieefipjjfaaGreat.mem
