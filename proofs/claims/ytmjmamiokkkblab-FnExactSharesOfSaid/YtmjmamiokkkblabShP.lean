/-
  The contract of the specification's SharesOf: the same as the program's. Condition: the weights read as a slice of integers.
-/
import Derived.Test.YtmjmamiokkkblabRows
import Derived.Test.YtmjmamiokkkblabShS
import Derived.WalkKit
import Derived.ProofKit
import Derived.Lib.Hide
namespace Go.Proofs.Ytmjmamiokkkblab.share
open Go.RowKit Go.Proofs.Ytmjmamiokkkblab.mem Go.Proofs.Ytmjmamiokkkblab.sort
set_option linter.unusedVariables false

theorem bad {w : World} {T : Int} {n : Nat} {d : Nat → Int} {c : Int} {e : Ending} (h : code T n d = c) (h0 : c ≠ 0) (he : e = .returned (.tuple #[.slice none 0 0, .int .i64 c])) : SharesPost w T n d e w :=
  ⟨Below.refl _ _, .inl ⟨by rw [h]; exact h0, by rw [h]; exact he⟩⟩

set_option maxHeartbeats 4000000 in
theorem shares_spec (w : World) (v : Value) (T : Int) (n : Nat) (d : Nat → Int) (lo hi : Nat) (h : Sl w v n d lo hi) (hhi : hi ≤ w.heap.size) (hn : n ≤ 9223372036854775807) :
    Calls Try.prog 8 #[.int .i64 T, v] w (SharesPost w T n d) := by
  have H := Lib.hid h
  obtain ⟨p, cap, rfl, hc⟩ := h
  have HC := Lib.hid hc
  clear hc
  cases h0 : num.inR (n : Int) 1 64
  · have hcd : code T n d = 3 := by
      unfold code
      rw [if_pos]
      rcases Classical.em (n = 0 ∨ 64 < n) with e | e
      · exact e
      · have : num.inR (n : Int) 1 64 = true := num.inR_iff.2 ⟨by omega, by omega⟩
        rw [this] at h0; cases h0
    have HCD := Lib.hid hcd
    clear hcd
    go_enter Try.func8, Try.ntmps8
    go_wp2_with (go_at_call 21; refine (l01In_any _ _ _ _).mono ?_; rintro e w' ⟨rfl, rfl⟩)
    go_ret2
    exact bad HCD.out (by omega) rfl
  have hn1 : 1 ≤ n ∧ n ≤ 64 := by have := num.inR_iff.1 h0; omega
  have hno3 : ¬ (n = 0 ∨ 64 < n) := by omega
  cases hT : num.inR T 0 1000000000
  · have HCD := Lib.hid (show code T n d = 2 by unfold code; rw [if_neg hno3, if_pos hT])
    go_enter Try.func8, Try.ntmps8
    go_wp2_with (go_at_call 21; refine (l01In_any _ _ _ _).mono ?_; rintro e w' ⟨rfl, rfl⟩)
    go_ret2
    exact bad HCD.out (by omega) rfl
  go_enter Try.func8, Try.ntmps8
  go_wp2_with (go_at_call 21; refine (l01In_any _ _ _ _).mono ?_; rintro e w' ⟨rfl, rfl⟩)
  go_loop [6] (fun i => ∃ j : Nat, i = .int .i64 j ∧ j ≤ n ∧ ∀ k, k < j → num.inR (d k) 0 1000000000 = true) (fun i => n - (intOf i).toNat)
  case atStart => exact ⟨0, rfl, Nat.zero_le _, fun k hk => by omega⟩
  case round =>
    obtain ⟨j, rfl, hj, hall⟩ := hrel
    have HA := Lib.hid hall
    clear hall
    by_cases hlt : j < n
    · rcases HC.out with g0 | ⟨b, o, rfl, g1, g2, g3⟩
      · omega
      have c1 := g3 j hlt
      clear g3
      cases hd : num.inR (d j) 0 1000000000
      · have HCD := Lib.hid (show code T n d = 2 by unfold code; rw [if_neg hno3, if_neg (by rw [hT]; simp), if_pos ⟨j, hlt, hd⟩])
        go_wp2_with (go_at_call 21; refine (l01In_any _ _ _ _).mono ?_; rintro e w' ⟨rfl, rfl⟩)
        go_ret2
        exact bad HCD.out (by omega) rfl
      · have HD := Lib.hid hd
        go_wp2_with (go_at_call 21; refine (l01In_any _ _ _ _).mono ?_; rintro e w' ⟨rfl, rfl⟩)
        go_round
        case rel =>
          refine ⟨j + 1, by go_num, hlt, fun k hk => ?_⟩
          by_cases e : k = j
          · rw [e]; exact HD.out
          · exact HA.out k (by omega)
        case measure => simp [intOf]; omega
    · obtain rfl : j = n := by omega
      have hs : Sums d j := sums_of (fun k hk => num.inR_iff.1 (HA.out k hk)) (by omega)
      have HS := Lib.hid hs
      clear hs
      have hno : ¬ ∃ k, k < j ∧ num.inR (d k) 0 1000000000 = false := fun ⟨k, hk, e⟩ => by rw [HA.out k hk] at e; cases e
      have HCD := Lib.hid (show code T j d = if tot d j = 0 then 5 else 0 by unfold code; rw [if_neg hno3, if_neg (by rw [hT]; simp), if_neg hno])
      clear hno
      by_cases hz : tot d j = 0
      · have hzb : (tot d j == 0) = true := by rw [beq_iff_eq]; exact hz
        have HZ := Lib.hid hz
        clear hz
        go_wp2_with (go_at_call 22; refine (l01Sum_any _ _ j d lo hi H.out HS.out (by omega)).mono ?_; rintro e w' ⟨rfl, rfl⟩)
        go_ret2
        exact bad (HCD.out.trans (if_pos HZ.out)) (by omega) rfl
      · have hzb : (tot d j == 0) = false := by rw [beq_eq_false_iff_ne]; exact hz
        have HC0 := Lib.hid (show code T j d = 0 from HCD.out.trans (if_neg hz))
        clear hz
        go_wp2_with (first | (go_at_call 22; refine (l01Sum_any _ _ j d lo hi H.out HS.out (by omega)).mono ?_; rintro e w' ⟨rfl, rfl⟩) | (go_at_call 23; refine (l01Shares_any _ _ T j d lo hi H.out hhi HC0.out).mono ?_; rintro e w' ⟨r1, b2, cap2, rfl, r2, r3, r4⟩))
        go_ret2
        exact ⟨r1, .inr ⟨HC0.out, b2, cap2, rfl, r2, r3, r4⟩⟩
end Go.Proofs.Ytmjmamiokkkblab.share
