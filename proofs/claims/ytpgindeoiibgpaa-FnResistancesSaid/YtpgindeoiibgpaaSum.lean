/-
  Contracts of the sums of slices of integers, and of the program's checkShares. Conditions: the slice reads as integers whose partial sums are at least 0 and at most 10^12.
-/
import Derived.Test.YtpgindeoiibgpaaRows
import Derived.Test.YtpgindeoiibgpaaInts
import Derived.Test.YtpgindeoiibgpaaShareMath
import Derived.WalkKit
import Derived.ProofKit
import Derived.Lib.Hide
namespace Go.Proofs.Ytpgindeoiibgpaa.share
open Go.RowKit Go.Proofs.Ytpgindeoiibgpaa.mem Go.Proofs.Ytpgindeoiibgpaa.sort
set_option linter.unusedVariables false

def Sums (d : Nat → Int) (n : Nat) : Prop := ∀ m, m ≤ n → 0 ≤ tot d m ∧ tot d m ≤ 1000000000000
theorem sums_of {d : Nat → Int} {n : Nat} (h : ∀ k, k < n → 0 ≤ d k ∧ d k ≤ 1000000000) (hn : n ≤ 1000) : Sums d n := by
  intro m hm
  have := tot_bd h m hm
  omega

set_option maxHeartbeats 1000000 in
theorem sum_any (w : World) (v : Value) (n : Nat) (d : Nat → Int) (lo hi : Nat) (h : Sl w v n d lo hi) (hs : Sums d n) (hn : n ≤ 1000000) :
    Calls Try.prog 42 #[v] w fun e w' => e = .returned (.int .i64 (tot d n)) ∧ w = w' := by
  obtain ⟨p, cap, rfl, hc⟩ := h
  have HC := Lib.hid hc
  have HS := Lib.hid hs
  clear hc hs
  go_enter Try.func42, Try.ntmps42
  go_wp2_with fail
  go_loop [3, 8] (fun q i => ∃ j : Nat, q = .int .i64 (tot d j) ∧ i = .int .i64 j ∧ j ≤ n) (fun _ i => n - (intOf i).toNat)
  case atStart => exact ⟨0, rfl, rfl, Nat.zero_le _⟩
  case round =>
    obtain ⟨j, rfl, rfl, hj⟩ := hrel
    by_cases hlt : j < n
    · rcases HC.out with h0 | ⟨b, o, rfl, g1, g2, g3⟩
      · omega
      have c1 := g3 j hlt
      have s1 := HS.out j hj
      have s2 := HS.out (j + 1) hlt
      have e2 : tot d (j + 1) = tot d j + d j := rfl
      have s3 : 0 ≤ tot d j + d j ∧ tot d j + d j ≤ 1000000000000 := by omega
      clear g3 s2 e2
      go_wp2_with fail
      go_round
      case rel => exact ⟨j + 1, rfl, by go_num, hlt⟩
      case measure => simp [intOf]; omega
    · obtain rfl : j = n := by omega
      go_wp2_with fail
      go_ret
      exact ⟨rfl, rfl⟩
set_option maxHeartbeats 1000000 in
theorem l01Sum_any (w : World) (v : Value) (n : Nat) (d : Nat → Int) (lo hi : Nat) (h : Sl w v n d lo hi) (hs : Sums d n) (hn : n ≤ 1000000) :
    Calls Try.prog 53 #[v] w fun e w' => e = .returned (.int .i64 (tot d n)) ∧ w = w' := by
  obtain ⟨p, cap, rfl, hc⟩ := h
  have HC := Lib.hid hc
  have HS := Lib.hid hs
  clear hc hs
  go_enter Try.func53, Try.ntmps53
  go_wp2_with fail
  go_loop [3, 4] (fun q i => ∃ j : Nat, q = .int .i64 (tot d j) ∧ i = .int .i64 j ∧ j ≤ n) (fun _ i => n - (intOf i).toNat)
  case atStart => exact ⟨0, rfl, rfl, Nat.zero_le _⟩
  case round =>
    obtain ⟨j, rfl, rfl, hj⟩ := hrel
    by_cases hlt : j < n
    · rcases HC.out with h0 | ⟨b, o, rfl, g1, g2, g3⟩
      · omega
      have c1 := g3 j hlt
      have s1 := HS.out j hj
      have s2 := HS.out (j + 1) hlt
      have e2 : tot d (j + 1) = tot d j + d j := rfl
      have s3 : 0 ≤ tot d j + d j ∧ tot d j + d j ≤ 1000000000000 := by omega
      clear g3 s2 e2
      go_wp2_with fail
      go_round
      case rel => exact ⟨j + 1, rfl, by go_num, hlt⟩
      case measure => simp [intOf]; omega
    · obtain rfl : j = n := by omega
      go_wp2_with fail
      go_ret
      exact ⟨rfl, rfl⟩

theorem inRange_any (x lo hi : Int) (w : World) : Calls Try.prog 39 #[.int .i64 x, .int .i64 lo, .int .i64 hi] w fun e w' => e = .returned (.bool (num.inR x lo hi)) ∧ w = w' := by
  by_cases h1 : lo ≤ x <;> by_cases h2 : x ≤ hi
  all_goals
    go_enter Try.func39, Try.ntmps39
    go_wp2
    go_ret
    exact ⟨by simp [num.inR, h1, h2], rfl⟩
theorem l01In_any (x lo hi : Int) (w : World) : Calls Try.prog 45 #[.int .i64 x, .int .i64 lo, .int .i64 hi] w fun e w' => e = .returned (.bool (num.inR x lo hi)) ∧ w = w' := by
  by_cases h1 : lo ≤ x <;> by_cases h2 : x ≤ hi
  all_goals
    go_enter Try.func45, Try.ntmps45
    go_wp2
    go_ret
    exact ⟨by simp [num.inR, h1, h2], rfl⟩

/-- the code that the shares of a total have -/
noncomputable def code (T : Int) (n : Nat) (d : Nat → Int) : Int :=
  if n = 0 ∨ 64 < n then 3 else if num.inR T 0 1000000000 = false then 2 else if (∃ k, k < n ∧ num.inR (d k) 0 1000000000 = false) then 2 else if tot d n = 0 then 5 else 0

/-- do all these numbers lie between two bounds? -/
def irB (x y : Int) (d : Nat → Int) : Nat → Bool
  | 0 => true
  | k + 1 => irB x y d k && num.inR (d k) x y
theorem irB_iff {x y : Int} {d : Nat → Int} : ∀ {n : Nat}, irB x y d n = true ↔ ∀ k, k < n → num.inR (d k) x y = true
  | 0 => by simp [irB]
  | n + 1 => by
    unfold irB
    rw [Bool.and_eq_true, irB_iff]
    constructor
    · rintro ⟨h1, h2⟩ k hk
      by_cases e : k = n
      · subst e; exact h2
      · exact h1 k (by omega)
    · intro h
      exact ⟨fun k hk => h k (by omega), h n (by omega)⟩
theorem irB_no {x y : Int} {d : Nat → Int} {n k : Nat} (hk : k < n) (h : num.inR (d k) x y = false) : irB x y d n = false := by
  rw [Bool.eq_false_iff]
  intro g
  rw [irB_iff.1 g k hk] at h
  cases h
theorem ret_bb {a b : Bool} (h : a = b) : Ending.returned (.bool a) = .returned (.bool b) := by rw [h]
set_option maxHeartbeats 4000000 in
theorem areInRange_any (x y : Int) (w : World) (v : Value) (n : Nat) (d : Nat → Int) (lo hi : Nat) (h : Sl w v n d lo hi) (hn : n ≤ 9223372036854775807) :
    Calls Try.prog 57 #[.int .i64 x, .int .i64 y, v] w fun e w' => e = .returned (.bool (irB x y d n)) ∧ w = w' := by
  obtain ⟨p, cap, rfl, hc⟩ := h
  have HC := Lib.hid hc
  clear hc
  go_enter Try.func57, Try.ntmps57
  go_wp2_with fail
  go_loopw [11] (fun iv wr => ∃ k : Nat, iv = .int .i64 k ∧ k ≤ n ∧ irB x y d k = true ∧ w = wr) (fun iv _ => n - (intOf iv).toNat)
  case atStart => exact ⟨0, rfl, Nat.zero_le _, rfl, rfl⟩
  case round =>
    obtain ⟨k, rfl, hk, hb, rfl⟩ := hrel
    generalize hQ : Exit.then _ _ = Q
    have HQ := Lib.hid hQ
    clear hQ
    have HF := Lib.hid hb
    clear hb
    have k0 : (0 : Int) ≤ (k : Int) := Int.natCast_nonneg _
    by_cases hlt : k < n
    · have k1 : (k : Int) < (n : Int) := by omega
      obtain ⟨b, o, rfl, _, _, hx⟩ : ∃ b o, p = some ⟨b, o, none⟩ ∧ lo ≤ b ∧ b < hi ∧ ∀ k, k < n → w.cell? ⟨b, o + k, none⟩ = some (.int .i64 (d k)) := by
        rcases HC.out with e | e
        · omega
        · exact e
      have y0 := hx k hlt
      have HX := Lib.hid hx
      clear hx
      cases hq : num.inR (d k) x y
      · have HR := Lib.hid (irB_no hlt hq)
        go_wp2_with (go_at_call 39; refine (inRange_any _ _ _ _).mono ?_; rintro e w' ⟨rfl, rfl⟩)
        rw [← HQ.out]
        go_wp2_with fail
        go_ret
        exact ⟨ret_bb HR.out.symm, rfl⟩
      · have HR := Lib.hid (show irB x y d (k + 1) = true by unfold irB; rw [HF.out, hq]; rfl)
        go_wp2_with (go_at_call 39; refine (inRange_any _ _ _ _).mono ?_; rintro e w' ⟨rfl, rfl⟩)
        rw [← HQ.out]
        refine ⟨⟨_, _, _, _, _, _, _, _, _, _, _, _, ?rel, rfl⟩, ?measure⟩
        case rel => exact ⟨k + 1, by go_num, hlt, HR.out, rfl⟩
        case measure => simp [intOf]; omega
    · have hkn : n = k := by omega
      subst hkn
      have k1 : ¬ ((n : Int) < (n : Int)) := by omega
      go_wp2_with fail
      rw [← HQ.out]
      go_wp2_with fail
      go_ret
      exact ⟨ret_bb HF.out.symm, rfl⟩

theorem irB_ex {x y : Int} {d : Nat → Int} : ∀ {n : Nat}, irB x y d n = false → ∃ k, k < n ∧ num.inR (d k) x y = false
  | 0, h => by cases h
  | n + 1, h => by
    unfold irB at h
    cases hq : num.inR (d n) x y
    · exact ⟨n, Nat.lt_succ_self n, hq⟩
    · rw [hq, Bool.and_true] at h
      obtain ⟨k, hk, e⟩ := irB_ex h
      exact ⟨k, Nat.lt_succ_of_lt hk, e⟩
end Go.Proofs.Ytpgindeoiibgpaa.share
