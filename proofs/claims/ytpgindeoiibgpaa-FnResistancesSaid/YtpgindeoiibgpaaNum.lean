/-
  Contracts of the integer functions of chapter 1: what each returns, and that it leaves memory as it was. Conditions: the arguments are within int64.
-/
import Derived.Test.YtpgindeoiibgpaaRows
import Derived.Test.YtpgindeoiibgpaaNumMath
import Derived.WalkKit
import Derived.ProofKit
import Derived.Lib.Hide
namespace Go.Proofs.Ytpgindeoiibgpaa.num
open Go.RowKit
set_option linter.unusedVariables false
theorem ret_int {k : IntKind} {a b : Int} (h : a = b) : Ending.returned (.int k a) = .returned (.int k b) := by rw [h]

theorem ret_int2 {k l : IntKind} {a b c d : Int} (h : a = b) (g : c = d) : Ending.returned (.tuple #[.int k a, .int l c]) = .returned (.tuple #[.int k b, .int l d]) := by rw [h, g]

theorem inRange_any (x lo hi : Int) (w : World) : Calls Try.prog 39 #[.int .i64 x, .int .i64 lo, .int .i64 hi] w fun e w' => e = .returned (.bool (inR x lo hi)) ∧ w = w' := by
  by_cases h1 : lo ≤ x <;> by_cases h2 : x ≤ hi
  all_goals
    go_enter Try.func39, Try.ntmps39
    go_wp2
    go_ret
    exact ⟨by simp [inR, h1, h2], rfl⟩
theorem l01In_any (x lo hi : Int) (w : World) : Calls Try.prog 45 #[.int .i64 x, .int .i64 lo, .int .i64 hi] w fun e w' => e = .returned (.bool (inR x lo hi)) ∧ w = w' := by
  by_cases h1 : lo ≤ x <;> by_cases h2 : x ≤ hi
  all_goals
    go_enter Try.func45, Try.ntmps45
    go_wp2
    go_ret
    exact ⟨by simp [inR, h1, h2], rfl⟩
theorem minimum_any (a b : Int) (w : World) : Calls Try.prog 59 #[.int .i64 a, .int .i64 b] w fun e w' => e = .returned (.int .i64 (min a b)) ∧ w = w' := by
  by_cases h : b < a
  all_goals
    go_enter Try.func59, Try.ntmps59
    go_wp2
    go_ret
    exact ⟨ret_int (by omega), rfl⟩
theorem RootOf_yes (n : Int) (w : World) (h0 : 0 ≤ n) (h1 : n ≤ 1000000000000000000) : Calls Try.prog 58 #[.int .i64 n] w fun e w' => e = .returned (.tuple #[.int .i64 (root n), .int .i64 0]) ∧ w = w' := by
  have hr : inR n 0 1000000000000000000 = true := inR_iff.2 ⟨h0, h1⟩
  have hb := root_le h0 h1
  obtain ⟨s0, s1, s2⟩ := root_spec n h0
  have s3 : root n ≤ min n 1000000000 := by
    have : root n ≤ n := by
      rcases Int.lt_or_le 0 (root n) with h | h
      · have := Int.mul_le_mul_of_nonneg_left (show 1 ≤ root n by omega) (show 0 ≤ root n by omega)
        omega
      · omega
    omega
  have s4 : min n 1000000000 ≤ 1000000000 := by omega
  have S1 := Lib.hid s1
  have S2 := Lib.hid s2
  clear s1 s2
  go_enter Try.func58, Try.ntmps58
  go_wp2_with (first | (go_at_call 39; refine (inRange_any _ _ _ _).mono ?_; rintro e w' ⟨rfl, rfl⟩) | (go_at_call 59; refine (minimum_any _ _ _).mono ?_; rintro e w' ⟨rfl, rfl⟩))
  generalize min n 1000000000 = hi0 at *
  go_loop [4, 5] (fun lo hi => ∃ l h : Int, lo = .int .i64 l ∧ hi = .int .i64 h ∧ 0 ≤ l ∧ l ≤ root n ∧ root n ≤ h ∧ h ≤ 1000000000) (fun lo hi => (intOf hi - intOf lo).toNat)
  case atStart => exact ⟨_, _, rfl, rfl, by omega, by omega, by omega, by omega⟩
  case round =>
    obtain ⟨l, h, rfl, rfl, g1, g2, g3, g4⟩ := hrel
    by_cases hlt : l < h
    · obtain ⟨m1, m2, m3, m4, m5⟩ := mid_bd g1 hlt g4
      by_cases hc : (l + h + 1) / 2 * ((l + h + 1) / 2) ≤ n
      · have k1 : (l + h + 1) / 2 ≤ root n := by
          have := sq_lt (a := (l + h + 1) / 2) (b := root n + 1) (by omega) (by omega) (by have := S2.out; omega)
          omega
        go_wp2
        go_round
        case rel => exact ⟨_, _, rfl, rfl, by omega, by omega, by omega, by omega⟩
        case measure => simp [intOf]; omega
      · have k1 : root n < (l + h + 1) / 2 := sq_lt (by omega) (by omega) (by have := S1.out; omega)
        go_wp2
        go_round
        case rel => exact ⟨_, _, rfl, rfl, by omega, by omega, by omega, by omega⟩
        case measure => simp [intOf]; omega
    · go_wp2
      go_ret2
      exact ⟨ret_int2 (by omega) rfl, rfl⟩
theorem RootOf_any (n : Int) (w : World) : Calls Try.prog 58 #[.int .i64 n] w fun e w' => e = .returned (.tuple #[.int .i64 (rootV n), .int .i64 (rootE n)]) ∧ w = w' := by
  cases hr : inR n 0 1000000000000000000
  · go_enter Try.func58, Try.ntmps58
    go_wp2_with (go_at_call 39; refine (inRange_any _ _ _ _).mono ?_; rintro e w' ⟨rfl, rfl⟩)
    go_ret2
    exact ⟨by simp [rootV, rootE, hr], rfl⟩
  · have g := inR_iff.1 hr
    have := RootOf_yes n w g.1 g.2
    simpa [rootV, rootE, hr] using this
theorem l01Root_any (n : Int) (w : World) (h0 : 0 ≤ n) (h1 : n ≤ 1000000000000000000) : Calls Try.prog 56 #[.int .i64 n] w fun e w' => e = .returned (.int .i64 (root n)) ∧ w = w' := by
  have hb := root_le h0 h1
  obtain ⟨s0, s1, s2⟩ := root_spec n h0
  have S1 := Lib.hid s1
  have S2 := Lib.hid s2
  clear s1 s2
  go_enter Try.func56, Try.ntmps56
  go_wp2
  go_loop [3, 4] (fun lo hi => ∃ l h : Int, lo = .int .i64 l ∧ hi = .int .i64 h ∧ 0 ≤ l ∧ l ≤ root n ∧ root n ≤ h ∧ h ≤ 1000000000) (fun lo hi => (intOf hi - intOf lo).toNat)
  case atStart => exact ⟨_, _, rfl, rfl, by omega, by omega, by omega, by omega⟩
  case round =>
    obtain ⟨l, h, rfl, rfl, g1, g2, g3, g4⟩ := hrel
    by_cases hlt : l < h
    · obtain ⟨m1, m2, m3, m4, m5⟩ := mid_bd g1 hlt g4
      by_cases hc : (l + h + 1) / 2 * ((l + h + 1) / 2) ≤ n
      · have k1 : (l + h + 1) / 2 ≤ root n := by
          have := sq_lt (a := (l + h + 1) / 2) (b := root n + 1) (by omega) (by omega) (by have := S2.out; omega)
          omega
        go_wp2
        go_round
        case rel => exact ⟨_, _, rfl, rfl, by omega, by omega, by omega, by omega⟩
        case measure => simp [intOf]; omega
      · have k1 : root n < (l + h + 1) / 2 := sq_lt (by omega) (by omega) (by have := S1.out; omega)
        go_wp2
        go_round
        case rel => exact ⟨_, _, rfl, rfl, by omega, by omega, by omega, by omega⟩
        case measure => simp [intOf]; omega
    · go_wp2
      go_ret
      exact ⟨ret_int (by omega), rfl⟩
end Go.Proofs.Ytpgindeoiibgpaa.num
