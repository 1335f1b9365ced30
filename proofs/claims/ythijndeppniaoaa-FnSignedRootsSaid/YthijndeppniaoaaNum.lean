/-
  Contracts of the integer functions of chapter 1: what each returns, and that it leaves memory as it was. Conditions: the arguments are within int64.
-/
import Derived.Test.YthijndeppniaoaaRows
import Derived.Test.YthijndeppniaoaaNumMath
import Derived.WalkKit
import Derived.ProofKit
import Derived.Lib.Hide
namespace Go.Proofs.Ythijndeppniaoaa.num
open Go.RowKit
set_option linter.unusedVariables false
theorem ret_int {k : IntKind} {a b : Int} (h : a = b) : Ending.returned (.int k a) = .returned (.int k b) := by rw [h]

theorem ret_int2 {k l : IntKind} {a b c d : Int} (h : a = b) (g : c = d) : Ending.returned (.tuple #[.int k a, .int l c]) = .returned (.tuple #[.int k b, .int l d]) := by rw [h, g]

theorem inRange_any (x lo hi : Int) (w : World) : Calls Try.prog 40 #[.int .i64 x, .int .i64 lo, .int .i64 hi] w fun e w' => e = .returned (.bool (inR x lo hi)) ∧ w = w' := by
  by_cases h1 : lo ≤ x <;> by_cases h2 : x ≤ hi
  all_goals
    go_enter Try.func40, Try.ntmps40
    go_wp2
    go_ret
    exact ⟨by simp [inR, h1, h2], rfl⟩
theorem l01In_any (x lo hi : Int) (w : World) : Calls Try.prog 43 #[.int .i64 x, .int .i64 lo, .int .i64 hi] w fun e w' => e = .returned (.bool (inR x lo hi)) ∧ w = w' := by
  by_cases h1 : lo ≤ x <;> by_cases h2 : x ≤ hi
  all_goals
    go_enter Try.func43, Try.ntmps43
    go_wp2
    go_ret
    exact ⟨by simp [inR, h1, h2], rfl⟩
theorem isFactor_any (x : Int) (w : World) : Calls Try.prog 46 #[.int .i64 x] w fun e w' => e = .returned (.bool (inR x (-1000000000) 1000000000)) ∧ w = w' := by
  go_enter Try.func46, Try.ntmps46
  go_wp2_with (go_at_call 40; refine (inRange_any _ _ _ _).mono ?_; rintro e w' ⟨rfl, rfl⟩)
  go_ret
  exact ⟨rfl, rfl⟩
theorem l01Factor_any (x : Int) (w : World) : Calls Try.prog 47 #[.int .i64 x] w fun e w' => e = .returned (.bool (inR x (-1000000000) 1000000000)) ∧ w = w' := by
  go_enter Try.func47, Try.ntmps47
  go_wp2_with (go_at_call 43; refine (l01In_any _ _ _ _).mono ?_; rintro e w' ⟨rfl, rfl⟩)
  go_ret
  exact ⟨rfl, rfl⟩
theorem l01Big_any (x : Int) (w : World) : Calls Try.prog 42 #[.int .i64 x] w fun e w' => e = .returned (.bool (inR x (-1000000000000000000) 1000000000000000000)) ∧ w = w' := by
  go_enter Try.func42, Try.ntmps42
  go_wp2_with (go_at_call 43; refine (l01In_any _ _ _ _).mono ?_; rintro e w' ⟨rfl, rfl⟩)
  go_ret
  exact ⟨rfl, rfl⟩
theorem absolute_any (x : Int) (w : World) (h1 : -9223372036854775807 ≤ x) (h2 : x ≤ 9223372036854775807) : Calls Try.prog 50 #[.int .i64 x] w fun e w' => e = .returned (.int .i64 (abs x)) ∧ w = w' := by
  by_cases h : x < 0
  all_goals
    go_enter Try.func50, Try.ntmps50
    go_wp2
    go_ret
    exact ⟨ret_int (by unfold abs; split <;> omega), rfl⟩
theorem l01Abs_any (x : Int) (w : World) (h1 : -9223372036854775807 ≤ x) (h2 : x ≤ 9223372036854775807) : Calls Try.prog 58 #[.int .i64 x] w fun e w' => e = .returned (.int .i64 (abs x)) ∧ w = w' := by
  by_cases h : x < 0
  all_goals
    go_enter Try.func58, Try.ntmps58
    go_wp2
    go_ret
    exact ⟨ret_int (by unfold abs; split <;> omega), rfl⟩
theorem floorQuotient_any (a b : Int) (w : World) (h1 : -9223372036854775808 ≤ a) (h2 : a ≤ 9223372036854775807) (hb : 1 ≤ b) (hb2 : b ≤ 9223372036854775807) (hq : -9223372036854775808 ≤ a / b ∧ a / b ≤ 9223372036854775807) : Calls Try.prog 41 #[.int .i64 a, .int .i64 b] w fun e w' => e = .returned (.int .i64 (a / b)) ∧ w = w' := by
  obtain ⟨g1, g2⟩ := tdivmod a b hb
  by_cases h : a.tmod b < 0
  · have := g1 h
    clear g1 g2
    go_enter Try.func41, Try.ntmps41
    go_wp2
    go_ret
    exact ⟨rfl, rfl⟩
  · have h' : 0 ≤ a.tmod b := by omega
    have := g2 h'
    clear g1 g2
    go_enter Try.func41, Try.ntmps41
    go_wp2
    go_ret
    exact ⟨rfl, rfl⟩
theorem l01Floor_any (a b : Int) (w : World) (h1 : -9223372036854775808 ≤ a) (h2 : a ≤ 9223372036854775807) (hb : 1 ≤ b) (hb2 : b ≤ 9223372036854775807) (hq : -9223372036854775808 ≤ a / b ∧ a / b ≤ 9223372036854775807) : Calls Try.prog 44 #[.int .i64 a, .int .i64 b] w fun e w' => e = .returned (.int .i64 (a / b)) ∧ w = w' := by
  obtain ⟨g1, g2⟩ := tdivmod a b hb
  by_cases h : a.tmod b < 0
  · have := g1 h
    clear g1 g2
    go_enter Try.func44, Try.ntmps44
    go_wp2
    go_ret
    exact ⟨rfl, rfl⟩
  · have h' : 0 ≤ a.tmod b := by omega
    have := g2 h'
    clear g1 g2
    go_enter Try.func44, Try.ntmps44
    go_wp2
    go_ret
    exact ⟨rfl, rfl⟩
theorem FloorDiv_any (a b : Int) (w : World) : Calls Try.prog 16 #[.int .i64 a, .int .i64 b] w fun e w' => e = .returned (.tuple #[.int .i64 (floorV a b), .int .i64 (floorE a b)]) ∧ w = w' := by
  cases ha : inR a (-1000000000000000000) 1000000000000000000 <;> cases hb : inR b 1 1000000000
  case true.true =>
    have ga := inR_iff.1 ha
    have gb := inR_iff.1 hb
    have gq := ediv_bd a b gb.1 _ ga.1 ga.2
    go_enter Try.func16, Try.ntmps16
    go_wp2_with (first | (go_at_call 40; refine (inRange_any _ _ _ _).mono ?_; rintro e w' ⟨rfl, rfl⟩) | (go_at_call 41; refine (floorQuotient_any _ _ _ (by omega) (by omega) (by omega) (by omega) (by omega)).mono ?_; rintro e w' ⟨rfl, rfl⟩))
    go_ret2
    exact ⟨by simp [floorV, floorE, ha, hb], rfl⟩
  all_goals
    go_enter Try.func16, Try.ntmps16
    go_wp2_with (first | (go_at_call 40; refine (inRange_any _ _ _ _).mono ?_; rintro e w' ⟨rfl, rfl⟩))
    go_ret2
    exact ⟨by simp [floorV, floorE, ha, hb], rfl⟩
theorem sFloorDiv_any (a b : Int) (w : World) : Calls Try.prog 17 #[.int .i64 a, .int .i64 b] w fun e w' => e = .returned (.tuple #[.int .i64 (floorV a b), .int .i64 (floorE a b)]) ∧ w = w' := by
  cases ha : inR a (-1000000000000000000) 1000000000000000000 <;> cases hb : inR b 1 1000000000
  case true.true =>
    have ga := inR_iff.1 ha
    have gb := inR_iff.1 hb
    have gq := ediv_bd a b gb.1 _ ga.1 ga.2
    go_enter Try.func17, Try.ntmps17
    go_wp2_with (first | (go_at_call 42; refine (l01Big_any _ _).mono ?_; rintro e w' ⟨rfl, rfl⟩) | (go_at_call 43; refine (l01In_any _ _ _ _).mono ?_; rintro e w' ⟨rfl, rfl⟩) | (go_at_call 44; refine (l01Floor_any _ _ _ (by omega) (by omega) (by omega) (by omega) (by omega)).mono ?_; rintro e w' ⟨rfl, rfl⟩))
    go_ret2
    exact ⟨by simp [floorV, floorE, ha, hb], rfl⟩
  all_goals
    go_enter Try.func17, Try.ntmps17
    go_wp2_with (first | (go_at_call 42; refine (l01Big_any _ _).mono ?_; rintro e w' ⟨rfl, rfl⟩) | (go_at_call 43; refine (l01In_any _ _ _ _).mono ?_; rintro e w' ⟨rfl, rfl⟩))
    go_ret2
    exact ⟨by simp [floorV, floorE, ha, hb], rfl⟩
theorem NearestDiv_any (a b : Int) (w : World) : Calls Try.prog 18 #[.int .i64 a, .int .i64 b] w fun e w' => e = .returned (.tuple #[.int .i64 (nearV a b), .int .i64 (floorE a b)]) ∧ w = w' := by
  cases ha : inR a (-1000000000000000000) 1000000000000000000 <;> cases hb : inR b 1 1000000000
  case true.true =>
    have ga := inR_iff.1 ha
    have gb := inR_iff.1 hb
    have gq := ediv_bd (2 * a + b) (2 * b) (by omega) 2000000001000000000 (by omega) (by omega)
    go_enter Try.func18, Try.ntmps18
    go_wp2_with (first | (go_at_call 40; refine (inRange_any _ _ _ _).mono ?_; rintro e w' ⟨rfl, rfl⟩) | (go_at_call 41; refine (floorQuotient_any _ _ _ (by omega) (by omega) (by omega) (by omega) (by omega)).mono ?_; rintro e w' ⟨rfl, rfl⟩))
    go_ret2
    exact ⟨by simp [nearV, floorE, ha, hb], rfl⟩
  all_goals
    go_enter Try.func18, Try.ntmps18
    go_wp2_with (first | (go_at_call 40; refine (inRange_any _ _ _ _).mono ?_; rintro e w' ⟨rfl, rfl⟩))
    go_ret2
    exact ⟨by simp [nearV, floorE, ha, hb], rfl⟩
theorem sNearestDiv_any (a b : Int) (w : World) : Calls Try.prog 19 #[.int .i64 a, .int .i64 b] w fun e w' => e = .returned (.tuple #[.int .i64 (nearV a b), .int .i64 (floorE a b)]) ∧ w = w' := by
  cases ha : inR a (-1000000000000000000) 1000000000000000000 <;> cases hb : inR b 1 1000000000
  case true.true =>
    have ga := inR_iff.1 ha
    have gb := inR_iff.1 hb
    have gq := ediv_bd (2 * a + b) (2 * b) (by omega) 2000000001000000000 (by omega) (by omega)
    go_enter Try.func19, Try.ntmps19
    go_wp2_with (first | (go_at_call 42; refine (l01Big_any _ _).mono ?_; rintro e w' ⟨rfl, rfl⟩) | (go_at_call 43; refine (l01In_any _ _ _ _).mono ?_; rintro e w' ⟨rfl, rfl⟩) | (go_at_call 44; refine (l01Floor_any _ _ _ (by omega) (by omega) (by omega) (by omega) (by omega)).mono ?_; rintro e w' ⟨rfl, rfl⟩))
    go_ret2
    exact ⟨by simp [nearV, floorE, ha, hb], rfl⟩
  all_goals
    go_enter Try.func19, Try.ntmps19
    go_wp2_with (first | (go_at_call 42; refine (l01Big_any _ _).mono ?_; rintro e w' ⟨rfl, rfl⟩) | (go_at_call 43; refine (l01In_any _ _ _ _).mono ?_; rintro e w' ⟨rfl, rfl⟩))
    go_ret2
    exact ⟨by simp [nearV, floorE, ha, hb], rfl⟩
theorem MulDiv_any (a b c : Int) (w : World) : Calls Try.prog 22 #[.int .i64 a, .int .i64 b, .int .i64 c] w fun e w' => e = .returned (.tuple #[.int .i64 (mulV a b c), .int .i64 (mulE a b c)]) ∧ w = w' := by
  cases ha : inR a (-1000000000) 1000000000 <;> cases hb : inR b (-1000000000) 1000000000 <;> cases hc : inR c 1 1000000000
  case true.true.true =>
    have ga := inR_iff.1 ha
    have gb := inR_iff.1 hb
    have gc := inR_iff.1 hc
    have gm := mul_bd ga.1 ga.2 gb.1 gb.2
    have gq := ediv_bd (a * b) c gc.1 1000000000000000000 (by omega) (by omega)
    go_enter Try.func22, Try.ntmps22
    go_wp2_with (first | (go_at_call 40; refine (inRange_any _ _ _ _).mono ?_; rintro e w' ⟨rfl, rfl⟩) | (go_at_call 46; refine (isFactor_any _ _).mono ?_; rintro e w' ⟨rfl, rfl⟩) | (go_at_call 41; refine (floorQuotient_any _ _ _ (by omega) (by omega) (by omega) (by omega) (by omega)).mono ?_; rintro e w' ⟨rfl, rfl⟩))
    go_ret2
    exact ⟨by simp [mulV, mulE, mulOk, ha, hb, hc], rfl⟩
  all_goals
    go_enter Try.func22, Try.ntmps22
    go_wp2_with (first | (go_at_call 40; refine (inRange_any _ _ _ _).mono ?_; rintro e w' ⟨rfl, rfl⟩) | (go_at_call 46; refine (isFactor_any _ _).mono ?_; rintro e w' ⟨rfl, rfl⟩))
    go_ret2
    exact ⟨by simp [mulV, mulE, mulOk, ha, hb, hc], rfl⟩
theorem sMulDiv_any (a b c : Int) (w : World) : Calls Try.prog 23 #[.int .i64 a, .int .i64 b, .int .i64 c] w fun e w' => e = .returned (.tuple #[.int .i64 (mulV a b c), .int .i64 (mulE a b c)]) ∧ w = w' := by
  cases ha : inR a (-1000000000) 1000000000 <;> cases hb : inR b (-1000000000) 1000000000 <;> cases hc : inR c 1 1000000000
  case true.true.true =>
    have ga := inR_iff.1 ha
    have gb := inR_iff.1 hb
    have gc := inR_iff.1 hc
    have gm := mul_bd ga.1 ga.2 gb.1 gb.2
    have gq := ediv_bd (a * b) c gc.1 1000000000000000000 (by omega) (by omega)
    go_enter Try.func23, Try.ntmps23
    go_wp2_with (first | (go_at_call 43; refine (l01In_any _ _ _ _).mono ?_; rintro e w' ⟨rfl, rfl⟩) | (go_at_call 47; refine (l01Factor_any _ _).mono ?_; rintro e w' ⟨rfl, rfl⟩) | (go_at_call 44; refine (l01Floor_any _ _ _ (by omega) (by omega) (by omega) (by omega) (by omega)).mono ?_; rintro e w' ⟨rfl, rfl⟩))
    go_ret2
    exact ⟨by simp [mulV, mulE, mulOk, ha, hb, hc], rfl⟩
  all_goals
    go_enter Try.func23, Try.ntmps23
    go_wp2_with (first | (go_at_call 43; refine (l01In_any _ _ _ _).mono ?_; rintro e w' ⟨rfl, rfl⟩) | (go_at_call 47; refine (l01Factor_any _ _).mono ?_; rintro e w' ⟨rfl, rfl⟩))
    go_ret2
    exact ⟨by simp [mulV, mulE, mulOk, ha, hb, hc], rfl⟩
theorem minimum_any (a b : Int) (w : World) : Calls Try.prog 48 #[.int .i64 a, .int .i64 b] w fun e w' => e = .returned (.int .i64 (min a b)) ∧ w = w' := by
  by_cases h : b < a
  all_goals
    go_enter Try.func48, Try.ntmps48
    go_wp2
    go_ret
    exact ⟨ret_int (by omega), rfl⟩
theorem RootOf_yes (n : Int) (w : World) (h0 : 0 ≤ n) (h1 : n ≤ 1000000000000000000) : Calls Try.prog 25 #[.int .i64 n] w fun e w' => e = .returned (.tuple #[.int .i64 (root n), .int .i64 0]) ∧ w = w' := by
  have hr : inR n 0 1000000000000000000 = true := inR_iff.2 ⟨h0, h1⟩
  have hb := root_le h0 h1
  obtain ⟨s0, s1, s2⟩ := root_spec n h0
  have s3 : root n ≤ min n 1000000000 := by
    have : root n ≤ n := by
      rcases Int.lt_or_le 0 (root n) with h | h
      · have := Int.mul_le_mul_of_nonneg_left (show 1 ≤ root n by omega) (show 0 ≤ root n by omega)
        omega
      · omega
    omega
  have s4 : min n 1000000000 ≤ 1000000000 := by omega
  have S1 := Lib.hid s1
  have S2 := Lib.hid s2
  clear s1 s2
  go_enter Try.func25, Try.ntmps25
  go_wp2_with (first | (go_at_call 40; refine (inRange_any _ _ _ _).mono ?_; rintro e w' ⟨rfl, rfl⟩) | (go_at_call 48; refine (minimum_any _ _ _).mono ?_; rintro e w' ⟨rfl, rfl⟩))
  generalize min n 1000000000 = hi0 at *
  go_loop [4, 5] (fun lo hi => ∃ l h : Int, lo = .int .i64 l ∧ hi = .int .i64 h ∧ 0 ≤ l ∧ l ≤ root n ∧ root n ≤ h ∧ h ≤ 1000000000) (fun lo hi => (intOf hi - intOf lo).toNat)
  case atStart => exact ⟨_, _, rfl, rfl, by omega, by omega, by omega, by omega⟩
  case round =>
    obtain ⟨l, h, rfl, rfl, g1, g2, g3, g4⟩ := hrel
    by_cases hlt : l < h
    · obtain ⟨m1, m2, m3, m4, m5⟩ := mid_bd g1 hlt g4
      by_cases hc : (l + h + 1) / 2 * ((l + h + 1) / 2) ≤ n
      · have k1 : (l + h + 1) / 2 ≤ root n := by
          have := sq_lt (a := (l + h + 1) / 2) (b := root n + 1) (by omega) (by omega) (by have := S2.out; omega)
          omega
        go_wp2
        go_round
        case rel => exact ⟨_, _, rfl, rfl, by omega, by omega, by omega, by omega⟩
        case measure => simp [intOf]; omega
      · have k1 : root n < (l + h + 1) / 2 := sq_lt (by omega) (by omega) (by have := S1.out; omega)
        go_wp2
        go_round
        case rel => exact ⟨_, _, rfl, rfl, by omega, by omega, by omega, by omega⟩
        case measure => simp [intOf]; omega
    · go_wp2
      go_ret2
      exact ⟨ret_int2 (by omega) rfl, rfl⟩
theorem RootOf_any (n : Int) (w : World) : Calls Try.prog 25 #[.int .i64 n] w fun e w' => e = .returned (.tuple #[.int .i64 (rootV n), .int .i64 (rootE n)]) ∧ w = w' := by
  cases hr : inR n 0 1000000000000000000
  · go_enter Try.func25, Try.ntmps25
    go_wp2_with (go_at_call 40; refine (inRange_any _ _ _ _).mono ?_; rintro e w' ⟨rfl, rfl⟩)
    go_ret2
    exact ⟨by simp [rootV, rootE, hr], rfl⟩
  · have g := inR_iff.1 hr
    have := RootOf_yes n w g.1 g.2
    simpa [rootV, rootE, hr] using this
theorem l01Root_any (n : Int) (w : World) (h0 : 0 ≤ n) (h1 : n ≤ 1000000000000000000) : Calls Try.prog 49 #[.int .i64 n] w fun e w' => e = .returned (.int .i64 (root n)) ∧ w = w' := by
  have hb := root_le h0 h1
  obtain ⟨s0, s1, s2⟩ := root_spec n h0
  have S1 := Lib.hid s1
  have S2 := Lib.hid s2
  clear s1 s2
  go_enter Try.func49, Try.ntmps49
  go_wp2
  go_loop [3, 4] (fun lo hi => ∃ l h : Int, lo = .int .i64 l ∧ hi = .int .i64 h ∧ 0 ≤ l ∧ l ≤ root n ∧ root n ≤ h ∧ h ≤ 1000000000) (fun lo hi => (intOf hi - intOf lo).toNat)
  case atStart => exact ⟨_, _, rfl, rfl, by omega, by omega, by omega, by omega⟩
  case round =>
    obtain ⟨l, h, rfl, rfl, g1, g2, g3, g4⟩ := hrel
    by_cases hlt : l < h
    · obtain ⟨m1, m2, m3, m4, m5⟩ := mid_bd g1 hlt g4
      by_cases hc : (l + h + 1) / 2 * ((l + h + 1) / 2) ≤ n
      · have k1 : (l + h + 1) / 2 ≤ root n := by
          have := sq_lt (a := (l + h + 1) / 2) (b := root n + 1) (by omega) (by omega) (by have := S2.out; omega)
          omega
        go_wp2
        go_round
        case rel => exact ⟨_, _, rfl, rfl, by omega, by omega, by omega, by omega⟩
        case measure => simp [intOf]; omega
      · have k1 : root n < (l + h + 1) / 2 := sq_lt (by omega) (by omega) (by have := S1.out; omega)
        go_wp2
        go_round
        case rel => exact ⟨_, _, rfl, rfl, by omega, by omega, by omega, by omega⟩
        case measure => simp [intOf]; omega
    · go_wp2
      go_ret
      exact ⟨ret_int (by omega), rfl⟩
theorem sRootOf_any (n : Int) (w : World) : Calls Try.prog 26 #[.int .i64 n] w fun e w' => e = .returned (.tuple #[.int .i64 (rootV n), .int .i64 (rootE n)]) ∧ w = w' := by
  cases hr : inR n 0 1000000000000000000
  · go_enter Try.func26, Try.ntmps26
    go_wp2_with (go_at_call 43; refine (l01In_any _ _ _ _).mono ?_; rintro e w' ⟨rfl, rfl⟩)
    go_ret2
    exact ⟨by simp [rootV, rootE, hr], rfl⟩
  · have g := inR_iff.1 hr
    go_enter Try.func26, Try.ntmps26
    go_wp2_with (first | (go_at_call 43; refine (l01In_any _ _ _ _).mono ?_; rintro e w' ⟨rfl, rfl⟩) | (go_at_call 49; refine (l01Root_any _ _ (by omega) (by omega)).mono ?_; rintro e w' ⟨rfl, rfl⟩))
    go_ret2
    exact ⟨by simp [rootV, rootE, hr], rfl⟩
theorem SignedSquare_any (q : Int) (w : World) : Calls Try.prog 27 #[.int .i64 q] w fun e w' => e = .returned (.tuple #[.int .i64 (ssqV q), .int .i64 (ssqE q)]) ∧ w = w' := by
  cases hr : inR q (-1000000000) 1000000000
  · go_enter Try.func27, Try.ntmps27
    go_wp2_with (go_at_call 46; refine (isFactor_any _ _).mono ?_; rintro e w' ⟨rfl, rfl⟩)
    go_ret2
    exact ⟨by simp [ssqV, ssqE, hr], rfl⟩
  · have g := inR_iff.1 hr
    have ha := abs_bd g.1 g.2
    have hm := mul_bd g.1 g.2 (show -1000000000 ≤ abs q by omega) ha.2
    go_enter Try.func27, Try.ntmps27
    go_wp2_with (first | (go_at_call 46; refine (isFactor_any _ _).mono ?_; rintro e w' ⟨rfl, rfl⟩) | (go_at_call 50; refine (absolute_any _ _ (by omega) (by omega)).mono ?_; rintro e w' ⟨rfl, rfl⟩))
    go_ret2
    exact ⟨by simp [ssqV, ssqE, hr], rfl⟩
theorem l01Signed_any (q : Int) (w : World) (h1 : -1000000000 ≤ q) (h2 : q ≤ 1000000000) : Calls Try.prog 51 #[.int .i64 q] w fun e w' => e = .returned (.int .i64 (q * abs q)) ∧ w = w' := by
  have ha := abs_bd h1 h2
  have hm := mul_bd h1 h2 (show -1000000000 ≤ abs q by omega) ha.2
  go_enter Try.func51, Try.ntmps51
  go_wp2_with (go_at_call 58; refine (l01Abs_any _ _ (by omega) (by omega)).mono ?_; rintro e w' ⟨rfl, rfl⟩)
  go_ret
  exact ⟨rfl, rfl⟩
theorem sSignedSquare_any (q : Int) (w : World) : Calls Try.prog 30 #[.int .i64 q] w fun e w' => e = .returned (.tuple #[.int .i64 (ssqV q), .int .i64 (ssqE q)]) ∧ w = w' := by
  cases hr : inR q (-1000000000) 1000000000
  · go_enter Try.func30, Try.ntmps30
    go_wp2_with (go_at_call 47; refine (l01Factor_any _ _).mono ?_; rintro e w' ⟨rfl, rfl⟩)
    go_ret2
    exact ⟨by simp [ssqV, ssqE, hr], rfl⟩
  · have g := inR_iff.1 hr
    have ha := abs_bd g.1 g.2
    have hm := mul_bd g.1 g.2 (show -1000000000 ≤ abs q by omega) ha.2
    go_enter Try.func30, Try.ntmps30
    go_wp2_with (first | (go_at_call 47; refine (l01Factor_any _ _).mono ?_; rintro e w' ⟨rfl, rfl⟩) | (go_at_call 51; refine (l01Signed_any _ _ (by omega) (by omega)).mono ?_; rintro e w' ⟨rfl, rfl⟩))
    go_ret2
    exact ⟨by simp [ssqV, ssqE, hr], rfl⟩
theorem SignedRoot_any (x : Int) (w : World) : Calls Try.prog 28 #[.int .i64 x] w fun e w' => e = .returned (.tuple #[.int .i64 (srootV x), .int .i64 (srootE x)]) ∧ w = w' := by
  cases hr : inR x (-1000000000000000000) 1000000000000000000
  · go_enter Try.func28, Try.ntmps28
    go_wp2_with (go_at_call 40; refine (inRange_any _ _ _ _).mono ?_; rintro e w' ⟨rfl, rfl⟩)
    go_ret2
    exact ⟨by simp [srootV, srootE, hr], rfl⟩
  · have g := inR_iff.1 hr
    have ha := abs_bd g.1 g.2
    have hb := root_le ha.1 ha.2
    by_cases hx : x < 0
    all_goals
      go_enter Try.func28, Try.ntmps28
      go_wp2_with (first | (go_at_call 40; refine (inRange_any _ _ _ _).mono ?_; rintro e w' ⟨rfl, rfl⟩) | (go_at_call 50; refine (absolute_any _ _ (by omega) (by omega)).mono ?_; rintro e w' ⟨rfl, rfl⟩) | (go_at_call 25; refine (RootOf_yes _ _ (by omega) (by omega)).mono ?_; rintro e w' ⟨rfl, rfl⟩))
      go_ret2
      exact ⟨ret_int2 (by simp only [srootV, hr, sroot, abs, if_true]; split <;> first | rfl | omega) (by simp [srootE, hr]), rfl⟩
theorem l01SignedRoot_any (x : Int) (w : World) (h1 : -1000000000000000000 ≤ x) (h2 : x ≤ 1000000000000000000) : Calls Try.prog 57 #[.int .i64 x] w fun e w' => e = .returned (.int .i64 (sroot x)) ∧ w = w' := by
  by_cases hx : x < 0
  · have hb := root_le (n := -x) (by omega) (by omega)
    go_enter Try.func57, Try.ntmps57
    go_wp2_with (go_at_call 49; refine (l01Root_any _ _ (by omega) (by omega)).mono ?_; rintro e w' ⟨rfl, rfl⟩)
    go_ret
    exact ⟨ret_int (by simp only [sroot]; rw [if_pos (by omega)]), rfl⟩
  · go_enter Try.func57, Try.ntmps57
    go_wp2_with (go_at_call 49; refine (l01Root_any _ _ (by omega) (by omega)).mono ?_; rintro e w' ⟨rfl, rfl⟩)
    go_ret
    exact ⟨ret_int (by simp only [sroot]; rw [if_neg (by omega)]), rfl⟩
theorem sSignedRoot_any (x : Int) (w : World) : Calls Try.prog 36 #[.int .i64 x] w fun e w' => e = .returned (.tuple #[.int .i64 (srootV x), .int .i64 (srootE x)]) ∧ w = w' := by
  cases hr : inR x (-1000000000000000000) 1000000000000000000
  · go_enter Try.func36, Try.ntmps36
    go_wp2_with (go_at_call 42; refine (l01Big_any _ _).mono ?_; rintro e w' ⟨rfl, rfl⟩)
    go_ret2
    exact ⟨by simp [srootV, srootE, hr], rfl⟩
  · have g := inR_iff.1 hr
    go_enter Try.func36, Try.ntmps36
    go_wp2_with (first | (go_at_call 42; refine (l01Big_any _ _).mono ?_; rintro e w' ⟨rfl, rfl⟩) | (go_at_call 57; refine (l01SignedRoot_any _ _ (by omega) (by omega)).mono ?_; rintro e w' ⟨rfl, rfl⟩))
    go_ret2
    exact ⟨by simp [srootV, srootE, hr], rfl⟩
end Go.Proofs.Ythijndeppniaoaa.num
