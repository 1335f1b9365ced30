/-
  Two nodes handed over as a variadic argument. Conditions: as each states.
-/
import Derived.Test.YtdbgcbkmcbgdiaaDoorRows
import Derived.Test.YtdbgcbkmcbgdiaaDoorNetPA
namespace Go.Proofs.YtdbgcbkmcbgdiaaDoor.mem
open Go.RowKit
set_option linter.unusedVariables false

theorem bc2 (a b : Bool) : a = false ∨ (a = true ∧ b = false) ∨ (a = true ∧ b = true) := by cases a <;> cases b <;> simp
theorem two_arg (w : World) (x y : Int) : Cs (w.alloc (.cells #[.int .i64 x, .int .i64 y] 2)) (.slice (some ⟨w.heap.size, 0, none⟩) 2 2) 2 1 (fun i _ => .int .i64 ((fun i => if i = 0 then x else y) i)) 0 (w.heap.size + 1) := by
  refine (Rw.new w #[Value.int .i64 x, .int .i64 y] 2 2 1 (fun i _ => .int .i64 (if i = 0 then x else y)) (by simp) ?_).cs (Nat.le_refl _) (by omega) (Nat.zero_le _) (by omega)
  intro i j hi hj
  obtain rfl : j = 0 := by omega
  rcases (by omega : i = 0 ∨ i = 1) with rfl | rfl <;> rfl
theorem all_two (n : Nat) (x y : Int) : allR n 2 (fun i => if i = 0 then x else y) = (inR x 0 (n - 1) && inR y 0 (n - 1)) := by
  rw [Bool.eq_iff_iff, allR_iff, Bool.and_eq_true]
  constructor
  · intro h
    exact ⟨h 0 (by omega), h 1 (by omega)⟩
  · rintro ⟨h0, h1⟩ i hi
    rcases (by omega : i = 0 ∨ i = 1) with rfl | rfl
    · exact h0
    · exact h1

end Go.Proofs.YtdbgcbkmcbgdiaaDoor.mem
