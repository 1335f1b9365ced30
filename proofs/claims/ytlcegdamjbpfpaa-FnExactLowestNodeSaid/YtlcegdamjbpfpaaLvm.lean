/-
  The library's Min and Index over a list of numbers of one's own. Conditions: as each states.
-/
import Derived.Test.YtlcegdamjbpfpaaRows
import Derived.Test.YtlcegdamjbpfpaaLvd
namespace Go.Proofs.Ytlcegdamjbpfpaa.mem
open Go.RowKit
set_option linter.unusedVariables false

set_option maxRecDepth 100000 in
set_option maxHeartbeats 4000000 in
theorem min_any (w : World) (n : Nat) (x : Nat → Int) (g : Nat) (h : Own w (.slice (some ⟨g, 0, none⟩) n n) n x g) (h1 : 1 ≤ n) (h24 : n ≤ 24) :
    Calls Try.prog 80 #[.slice (some ⟨g, 0, none⟩) n n] w fun e w' => e = .returned (.int .i64 (x (bst x (n - 1)))) ∧ w = w' := by
  have HO := Lib.hid h
  have y0 := h.row.cell 0 (by omega)
  have n1 : ¬ ((n : Int) < 1) := by omega
  have n0 : (0 : Int) < (n : Int) := by omega
  clear h
  go_enter Try.func80, Try.ntmps80
  go_wp2_with fail
  go_loopw [3, 4] (fun bv iv wr => ∃ k : Nat, iv = .int .i64 (k : Nat) ∧ bv = .int .i64 (x (bst x (k - 1))) ∧ 1 ≤ k ∧ k ≤ n ∧ w = wr) (fun _ iv _ => n - (intOf iv).toNat)
  case atStart => exact ⟨1, rfl, rfl, Nat.le_refl _, h1, rfl⟩
  case round =>
    obtain ⟨k, rfl, rfl, hk1, hk, rfl⟩ := hrel
    clear y0
    have k0 : (0 : Int) ≤ (k : Int) := Int.natCast_nonneg _
    generalize hQ : Exit.then _ _ = Q
    have HQ := Lib.hid hQ
    clear hQ
    by_cases hlt : k < n
    · have k1 : (k : Int) < (n : Int) := by omega
      have HR := Lib.hid (show min (x (bst x (k - 1))) (x k) = x (bst x k) by
        obtain ⟨q, rfl⟩ : ∃ q, k = q + 1 := ⟨k - 1, by omega⟩
        rw [show q + 1 - 1 = q by omega, bst]
        split <;> omega)
      have y0 := HO.out.row.cell k hlt
      go_wp2_with fail
      rw [← HQ.out]
      refine ⟨⟨_, _, _, _, _, _, _, _, _, _, _, _, _, _, ?rel, rfl⟩, ?measure⟩
      case rel => exact ⟨k + 1, by go_num, by rw [show k + 1 - 1 = k by omega, HR.out], by omega, hlt, rfl⟩
      case measure => simp [intOf]; omega
    · have hkn : n = k := by omega
      subst hkn
      have k1 : ¬ ((n : Int) < (n : Int)) := by omega
      go_wp2_with fail
      rw [← HQ.out]
      go_wp2_with fail
      go_ret
      exact ⟨rfl, rfl⟩
set_option maxRecDepth 100000 in
set_option maxHeartbeats 4000000 in
theorem indexOf_any (w : World) (n : Nat) (x : Nat → Int) (g : Nat) (h : Own w (.slice (some ⟨g, 0, none⟩) n n) n x g) (h1 : 1 ≤ n) (h24 : n ≤ 24) :
    Calls Try.prog 79 #[.slice (some ⟨g, 0, none⟩) n n, .int .i64 (x (bst x (n - 1)))] w fun e w' => e = .returned (.int .i64 ((bst x (n - 1) : Nat) : Int)) ∧ w = w' := by
  have HO := Lib.hid h
  have HF := Lib.hid (bst_first x (n - 1))
  have hle := bst_le x (n - 1)
  obtain ⟨b, hb⟩ : ∃ b, bst x (n - 1) = b := ⟨_, rfl⟩
  rw [hb] at HF hle ⊢
  clear h hb
  go_enter Try.func79, Try.ntmps79
  go_wp2_with fail
  go_loopw [8] (fun iv wr => ∃ k : Nat, iv = .int .i64 (k : Nat) ∧ k ≤ b ∧ w = wr) (fun iv _ => n - (intOf iv).toNat)
  case atStart => exact ⟨0, rfl, Nat.zero_le _, rfl⟩
  case round =>
    obtain ⟨k, rfl, hk, rfl⟩ := hrel
    have k0 : (0 : Int) ≤ (k : Int) := Int.natCast_nonneg _
    generalize hQ : Exit.then _ _ = Q
    have HQ := Lib.hid hQ
    clear hQ
    have hlt : k < n := by omega
    have k1 : (k : Int) < (n : Int) := by omega
    have y0 := HO.out.row.cell k hlt
    by_cases hkb : k < b
    · have hb1 : (x b == x k) = false := by
        have := HF.out k hkb
        simp only [beq_eq_false_iff_ne, ne_eq]
        omega
      go_wp2_with fail
      rw [← HQ.out]
      refine ⟨⟨_, _, _, _, _, _, _, _, _, _, _, _, _, ?rel, rfl⟩, ?measure⟩
      case rel => exact ⟨k + 1, by go_num, hkb, rfl⟩
      case measure => simp [intOf]; omega
    · obtain rfl : k = b := by omega
      have hb1 : (x k == x k) = true := by simp
      go_wp2_with fail
      rw [← HQ.out]
      go_wp2_with fail
      go_ret
      exact ⟨rfl, rfl⟩
end Go.Proofs.Ytlcegdamjbpfpaa.mem
