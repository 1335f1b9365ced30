/-
  PressureOf: the program's and the specification's, as the root of a level. No condition.
-/
import Derived.Test.YtebbnhnggjmbiaaRows
import Derived.Test.YtebbnhnggjmbiaaNum
import Derived.WalkKit
import Derived.ProofKit
namespace Go.Proofs.Ytebbnhnggjmbiaa.num
open Go.RowKit
set_option linter.unusedVariables false

theorem pressureOfI_any (n : Int) (w : World) : Calls Try.prog 19 #[.int .i64 n] w fun e w' => e = .returned (.tuple #[.int .i64 (rootV n), .int .i64 (rootE n)]) ∧ w = w' := by
  go_enter Try.func19, Try.ntmps19
  go_wp2_with (go_at_call 34; refine (RootOf_any _ _).mono ?_; rintro e w' ⟨rfl, rfl⟩)
  go_ret2
  exact ⟨rfl, rfl⟩
theorem pressureOfS_any (n : Int) (w : World) : Calls Try.prog 18 #[.int .i64 n] w fun e w' => e = .returned (.tuple #[.int .i64 (rootV n), .int .i64 (rootE n)]) ∧ w = w' := by
  go_enter Try.func18, Try.ntmps18
  go_wp2_with (go_at_call 33; refine (sRootOf_any _ _).mono ?_; rintro e w' ⟨rfl, rfl⟩)
  go_ret2
  exact ⟨rfl, rfl⟩
end Go.Proofs.Ytebbnhnggjmbiaa.num
