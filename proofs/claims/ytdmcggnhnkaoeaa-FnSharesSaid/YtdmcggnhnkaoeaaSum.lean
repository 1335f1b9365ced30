/-
  Contracts of the sums of slices of integers, and of the program's checkShares. Conditions: the slice reads as integers whose partial sums are at least 0 and at most 10^12.
-/
import Derived.Test.YtdmcggnhnkaoeaaRows
import Derived.Test.YtdmcggnhnkaoeaaInts
import Derived.Test.YtdmcggnhnkaoeaaShareMath
import Derived.WalkKit
import Derived.ProofKit
import Derived.Lib.Hide
namespace Go.Proofs.Ytdmcggnhnkaoeaa.share
open Go.RowKit Go.Proofs.Ytdmcggnhnkaoeaa.mem Go.Proofs.Ytdmcggnhnkaoeaa.sort
set_option linter.unusedVariables false

def Sums (d : Nat → Int) (n : Nat) : Prop := ∀ m, m ≤ n → 0 ≤ tot d m ∧ tot d m ≤ 1000000000000
theorem sums_of {d : Nat → Int} {n : Nat} (h : ∀ k, k < n → 0 ≤ d k ∧ d k ≤ 1000000000) (hn : n ≤ 1000) : Sums d n := by
  intro m hm
  have := tot_bd h m hm
  omega

set_option maxHeartbeats 1000000 in
theorem sum_any (w : World) (v : Value) (n : Nat) (d : Nat → Int) (lo hi : Nat) (h : Sl w v n d lo hi) (hs : Sums d n) (hn : n ≤ 1000000) :
    Calls Try.prog 80 #[v] w fun e w' => e = .returned (.int .i64 (tot d n)) ∧ w = w' := by
  obtain ⟨p, cap, rfl, hc⟩ := h
  have HC := Lib.hid hc
  have HS := Lib.hid hs
  clear hc hs
  go_enter Try.func80, Try.ntmps80
  go_wp2_with fail
  go_loop [3, 8] (fun q i => ∃ j : Nat, q = .int .i64 (tot d j) ∧ i = .int .i64 j ∧ j ≤ n) (fun _ i => n - (intOf i).toNat)
  case atStart => exact ⟨0, rfl, rfl, Nat.zero_le _⟩
  case round =>
    obtain ⟨j, rfl, rfl, hj⟩ := hrel
    by_cases hlt : j < n
    · rcases HC.out with h0 | ⟨b, o, rfl, g1, g2, g3⟩
      · omega
      have c1 := g3 j hlt
      have s1 := HS.out j hj
      have s2 := HS.out (j + 1) hlt
      have e2 : tot d (j + 1) = tot d j + d j := rfl
      have s3 : 0 ≤ tot d j + d j ∧ tot d j + d j ≤ 1000000000000 := by omega
      clear g3 s2 e2
      go_wp2_with fail
      go_round
      case rel => exact ⟨j + 1, rfl, by go_num, hlt⟩
      case measure => simp [intOf]; omega
    · obtain rfl : j = n := by omega
      go_wp2_with fail
      go_ret
      exact ⟨rfl, rfl⟩
set_option maxHeartbeats 1000000 in
theorem l01Sum_any (w : World) (v : Value) (n : Nat) (d : Nat → Int) (lo hi : Nat) (h : Sl w v n d lo hi) (hs : Sums d n) (hn : n ≤ 1000000) :
    Calls Try.prog 82 #[v] w fun e w' => e = .returned (.int .i64 (tot d n)) ∧ w = w' := by
  obtain ⟨p, cap, rfl, hc⟩ := h
  have HC := Lib.hid hc
  have HS := Lib.hid hs
  clear hc hs
  go_enter Try.func82, Try.ntmps82
  go_wp2_with fail
  go_loop [3, 4] (fun q i => ∃ j : Nat, q = .int .i64 (tot d j) ∧ i = .int .i64 j ∧ j ≤ n) (fun _ i => n - (intOf i).toNat)
  case atStart => exact ⟨0, rfl, rfl, Nat.zero_le _⟩
  case round =>
    obtain ⟨j, rfl, rfl, hj⟩ := hrel
    by_cases hlt : j < n
    · rcases HC.out with h0 | ⟨b, o, rfl, g1, g2, g3⟩
      · omega
      have c1 := g3 j hlt
      have s1 := HS.out j hj
      have s2 := HS.out (j + 1) hlt
      have e2 : tot d (j + 1) = tot d j + d j := rfl
      have s3 : 0 ≤ tot d j + d j ∧ tot d j + d j ≤ 1000000000000 := by omega
      clear g3 s2 e2
      go_wp2_with fail
      go_round
      case rel => exact ⟨j + 1, rfl, by go_num, hlt⟩
      case measure => simp [intOf]; omega
    · obtain rfl : j = n := by omega
      go_wp2_with fail
      go_ret
      exact ⟨rfl, rfl⟩

theorem inRange_any (x lo hi : Int) (w : World) : Calls Try.prog 97 #[.int .i64 x, .int .i64 lo, .int .i64 hi] w fun e w' => e = .returned (.bool (num.inR x lo hi)) ∧ w = w' := by
  by_cases h1 : lo ≤ x <;> by_cases h2 : x ≤ hi
  all_goals
    go_enter Try.func97, Try.ntmps97
    go_wp2
    go_ret
    exact ⟨by simp [num.inR, h1, h2], rfl⟩
theorem l01In_any (x lo hi : Int) (w : World) : Calls Try.prog 51 #[.int .i64 x, .int .i64 lo, .int .i64 hi] w fun e w' => e = .returned (.bool (num.inR x lo hi)) ∧ w = w' := by
  by_cases h1 : lo ≤ x <;> by_cases h2 : x ≤ hi
  all_goals
    go_enter Try.func51, Try.ntmps51
    go_wp2
    go_ret
    exact ⟨by simp [num.inR, h1, h2], rfl⟩

/-- the code that the shares of a total have -/
noncomputable def code (T : Int) (n : Nat) (d : Nat → Int) : Int :=
  if n = 0 ∨ 64 < n then 3 else if num.inR T 0 1000000000 = false then 2 else if (∃ k, k < n ∧ num.inR (d k) 0 1000000000 = false) then 2 else if tot d n = 0 then 5 else 0

set_option maxHeartbeats 1000000 in
theorem check_any (w : World) (v : Value) (T : Int) (n : Nat) (d : Nat → Int) (lo hi : Nat) (h : Sl w v n d lo hi) (hn : n ≤ 9223372036854775807) :
    Calls Try.prog 79 #[.int .i64 T, v] w fun e w' => e = .returned (.int .i64 (code T n d)) ∧ w = w' := by
  have H := Lib.hid h
  obtain ⟨p, cap, rfl, hc⟩ := h
  have HC := Lib.hid hc
  clear hc
  by_cases h0 : n = 0
  · have hcd : code T n d = 3 := by unfold code; rw [if_pos (.inl h0)]
    have HCD := Lib.hid hcd
    have hb : ((n : Int) == 0) = true := by rw [beq_iff_eq]; omega
    clear hcd h0
    go_enter Try.func79, Try.ntmps79
    go_wp2_with fail
    go_ret
    exact ⟨ret_i (by rw [HCD.out]), rfl⟩
  have hb : ((n : Int) == 0) = false := by rw [beq_eq_false_iff_ne]; omega
  by_cases h64 : (64 : Int) < n
  · have HCD := Lib.hid (show code T n d = 3 by unfold code; rw [if_pos (.inr (by omega))])
    go_enter Try.func79, Try.ntmps79
    go_wp2_with fail
    go_ret
    exact ⟨ret_i (by rw [HCD.out]), rfl⟩
  cases hT : num.inR T 0 1000000000
  · have HCD := Lib.hid (show code T n d = 2 by unfold code; rw [if_neg (by omega), if_pos hT])
    go_enter Try.func79, Try.ntmps79
    go_wp2_with (go_at_call 97; refine (inRange_any _ _ _ _).mono ?_; rintro e w' ⟨rfl, rfl⟩)
    go_ret
    exact ⟨ret_i (by rw [HCD.out]), rfl⟩
  go_enter Try.func79, Try.ntmps79
  go_wp2_with (go_at_call 97; refine (inRange_any _ _ _ _).mono ?_; rintro e w' ⟨rfl, rfl⟩)
  go_loop [20] (fun i => ∃ j : Nat, i = .int .i64 j ∧ j ≤ n ∧ ∀ k, k < j → num.inR (d k) 0 1000000000 = true) (fun i => n - (intOf i).toNat)
  case atStart => exact ⟨0, rfl, Nat.zero_le _, fun k hk => by omega⟩
  case round =>
    obtain ⟨j, rfl, hj, hall⟩ := hrel
    have HA := Lib.hid hall
    clear hall
    by_cases hlt : j < n
    · rcases HC.out with g0 | ⟨b, o, rfl, g1, g2, g3⟩
      · omega
      have c1 := g3 j hlt
      clear g3
      cases hd : num.inR (d j) 0 1000000000
      · have HCD := Lib.hid (show code T n d = 2 by unfold code; rw [if_neg (by omega), if_neg (by rw [hT]; simp), if_pos ⟨j, hlt, hd⟩])
        go_wp2_with (go_at_call 97; refine (inRange_any _ _ _ _).mono ?_; rintro e w' ⟨rfl, rfl⟩)
        go_ret
        exact ⟨ret_i (by rw [HCD.out]), rfl⟩
      · have HD := Lib.hid hd
        go_wp2_with (go_at_call 97; refine (inRange_any _ _ _ _).mono ?_; rintro e w' ⟨rfl, rfl⟩)
        go_round
        case rel =>
          refine ⟨j + 1, by go_num, hlt, fun k hk => ?_⟩
          by_cases e : k = j
          · rw [e]; exact HD.out
          · exact HA.out k (by omega)
        case measure => simp [intOf]; omega
    · obtain rfl : j = n := by omega
      have hs : Sums d j := sums_of (fun k hk => num.inR_iff.1 (HA.out k hk)) (by omega)
      have HS := Lib.hid hs
      clear hs
      have hno : ¬ ∃ k, k < j ∧ num.inR (d k) 0 1000000000 = false := fun ⟨k, hk, e⟩ => by rw [HA.out k hk] at e; cases e
      have HCD := Lib.hid (show code T j d = if tot d j = 0 then 5 else 0 by unfold code; rw [if_neg (by omega), if_neg (by rw [hT]; simp), if_neg hno])
      clear hno
      by_cases hz : tot d j = 0
      · have hzb : (tot d j == 0) = true := by rw [beq_iff_eq]; exact hz
        have HZ := Lib.hid hz
        clear hz
        go_wp2_with (go_at_call 80; refine (sum_any _ _ j d lo hi H.out HS.out (by omega)).mono ?_; rintro e w' ⟨rfl, rfl⟩)
        go_ret
        exact ⟨ret_i (by rw [HCD.out, if_pos HZ.out]), rfl⟩
      · have hzb : (tot d j == 0) = false := by rw [beq_eq_false_iff_ne]; exact hz
        have HZ := Lib.hid hz
        clear hz
        go_wp2_with (go_at_call 80; refine (sum_any _ _ j d lo hi H.out HS.out (by omega)).mono ?_; rintro e w' ⟨rfl, rfl⟩)
        go_ret
        exact ⟨ret_i (by rw [HCD.out, if_neg HZ.out]), rfl⟩
end Go.Proofs.Ytdmcggnhnkaoeaa.share
