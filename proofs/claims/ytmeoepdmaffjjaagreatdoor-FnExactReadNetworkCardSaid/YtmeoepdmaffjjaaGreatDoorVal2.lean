/-
  The contract of the model's l01Value: it reads a number below 10^18 as l01Dec writes it. Condition: the string's length is an int.
-/
import Derived.Test.YtmeoepdmaffjjaaGreatDoorDig
import Derived.WalkKit
import Derived.ProofKit
import Derived.Lib.Hide
namespace Go.Proofs.YtmeoepdmaffjjaaGreatDoor.text
open Go.RowKit
set_option linter.unusedVariables false

def ValPost (w : World) (l : List UInt8) (e : Ending) (w' : World) : Prop :=
  ∃ (v : Nat) (b : Bool), e = .returned (.tuple #[.int .i64 v, .bool b]) ∧ v < 1000000000000000000 ∧ (b = true → Lib.decDigits v = l) ∧ (b = false → ∀ m, m < 1000000000000000000 → Lib.decDigits m ≠ l) ∧ Below w.heap.size w w'

theorem take_snoc (s : ByteArray) (k : Nat) (h : k < s.size) : s.data.toList.take (k + 1) = s.data.toList.take k ++ [s[k]] := by
  rw [List.take_succ_eq_append_getElem (by simpa using h)]; rfl
theorem val_lt : ∀ (l : List UInt8), (∀ c ∈ l, isDig c = true) → ∀ acc, val acc l + 1 ≤ (acc + 1) * 10 ^ l.length
  | [], _, acc => by simp [val]
  | c :: l, h, acc => by
    have hc := isDig_iff.1 (h c (List.mem_cons_self ..))
    have ih := val_lt l (fun x hx => h x (List.mem_cons_of_mem _ hx)) (10 * acc + (c.toNat - 48))
    show val (10 * acc + (c.toNat - 48)) l + 1 ≤ _
    rw [List.length_cons, Nat.pow_succ]
    have h1 : (10 * acc + (c.toNat - 48) + 1) * 10 ^ l.length ≤ ((acc + 1) * 10) * 10 ^ l.length := Nat.mul_le_mul_right _ (by omega)
    have h2 : (acc + 1) * 10 * 10 ^ l.length = (acc + 1) * (10 ^ l.length * 10) := by rw [Nat.mul_assoc, Nat.mul_comm 10]
    omega
theorem val_bound {l : List UInt8} (h : ∀ c ∈ l, isDig c = true) (hl : l.length ≤ 18) : val 0 l < 1000000000000000000 := by
  have h1 := val_lt l h 0
  have h2 : 10 ^ l.length ≤ 10 ^ 18 := Nat.pow_le_pow_right (by omega) hl
  omega
theorem val_bound17 {l : List UInt8} (h : ∀ c ∈ l, isDig c = true) (hl : l.length ≤ 17) : val 0 l < 100000000000000000 := by
  have h1 := val_lt l h 0
  have h2 : 10 ^ l.length ≤ 10 ^ 17 := Nat.pow_le_pow_right (by omega) hl
  omega
theorem dec_len18 {m : Nat} (h : m < 1000000000000000000) : 1 ≤ (Lib.decDigits m).length ∧ (Lib.decDigits m).length ≤ 18 :=
  ⟨dec_pos m, by rw [Lib.decDigits_length]; exact nDigits_le 17 m (by omega)⟩
theorem dig_snoc {l : List UInt8} {c : UInt8} (h : ∀ x ∈ l, isDig x = true) (hc : 48 ≤ c.toNat ∧ c.toNat ≤ 57) : ∀ x ∈ l ++ [c], isDig x = true := by
  intro x hx
  rcases List.mem_append.1 hx with h1 | h1
  · exact h x h1
  · obtain rfl : x = c := by simpa using h1
    exact isDig_iff.2 hc

set_option maxHeartbeats 1000000 in
theorem value_any (s : ByteArray) (w : World) (hs : s.size ≤ 9223372036854775807) :
    Calls Tryz.prog 57 #[.string s] w (ValPost w s.data.toList) := by
  have hsz : s.data.toList.length = s.size := by rw [Array.length_toList]; rfl
  have HZ := Lib.hid hsz
  clear hsz
  by_cases h1 : (s.size : Int) < 1
  · go_enter Tryz.func57, Tryz.ntmps57
    go_wp2_with fail
    go_ret2
    refine ⟨0, false, rfl, by omega, by simp, fun _ m hm e => ?_, Below.refl _ _⟩
    have := dec_len18 hm
    rw [e, HZ.out] at this
    omega
  by_cases h2 : 18 < (s.size : Int)
  · go_enter Tryz.func57, Tryz.ntmps57
    go_wp2_with fail
    go_ret2
    refine ⟨0, false, rfl, by omega, by simp, fun _ m hm e => ?_, Below.refl _ _⟩
    have := dec_len18 hm
    rw [e, HZ.out] at this
    omega
  go_enter Tryz.func57, Tryz.ntmps57
  go_wp2_with fail
  go_loop [4, 5] (fun n i => ∃ k : Nat, k ≤ s.size ∧ i = .int .i64 k ∧ n = .int .i64 (val 0 (s.data.toList.take k)) ∧ ∀ c ∈ s.data.toList.take k, isDig c = true) (fun _ i => s.size - (intOf i).toNat)
  case atStart => exact ⟨0, Nat.zero_le _, rfl, rfl, by simp⟩
  case round =>
    obtain ⟨k, hk, rfl, rfl, hd⟩ := hrel
    have HD := Lib.hid hd
    have hlen : (s.data.toList.take k).length = k := by rw [List.length_take, HZ.out]; omega
    have HL := Lib.hid hlen
    clear hd hlen
    by_cases hlt : k < s.size
    · have hts := take_snoc s k hlt
      have HT := Lib.hid hts
      clear hts
      have hv := val_bound17 HD.out (by rw [HL.out]; omega)
      by_cases g1 : (s[k].toNat : Int) < 48
      · go_wp2_with fail
        go_ret2
        refine ⟨0, false, rfl, by omega, by simp, fun _ m hm e => ?_, Below.refl _ _⟩
        have := isDig_iff.1 (dec_dig m s[k] (by rw [e]; simp [ByteArray.getElem_eq_getElem_data]))
        omega
      · by_cases g2 : 57 < (s[k].toNat : Int)
        · go_wp2_with fail
          go_ret2
          refine ⟨0, false, rfl, by omega, by simp, fun _ m hm e => ?_, Below.refl _ _⟩
          have := isDig_iff.1 (dec_dig m s[k] (by rw [e]; simp [ByteArray.getElem_eq_getElem_data]))
          omega
        · go_wp2_with fail
          go_round
          case rel => exact ⟨k + 1, by omega, by go_num, by rw [HT.out, val_append, val_one]; congr 1; omega, by rw [HT.out]; exact dig_snoc HD.out ⟨by omega, by omega⟩⟩
          case measure => simp [intOf]; omega
    · have hv := val_bound HD.out (by rw [HL.out]; omega)
      have hk2 : s.data.toList.take k = s.data.toList := List.take_of_length_le (by rw [HZ.out]; omega)
      have HK := Lib.hid hk2
      clear hk2
      by_cases he : Lib.decDigits (val 0 (s.data.toList.take k)) = s.data.toList
      · have HE := Lib.hid he
        have he2 : (Lib.decDigits (val 0 (s.data.toList.take k)) == s.toList) = true := by rw [beq_iff_eq, Go.ByteArray.toList_eq]; exact he
        clear he
        go_wp2_with (go_at_call 74; refine (decI _ (val 0 (s.data.toList.take k)) _ rfl (by omega)).mono ?_; rintro e w1 ⟨rfl, hb1⟩; have HB := Lib.hid hb1; clear hb1)
        go_ret2
        exact ⟨_, true, rfl, hv, fun _ => HE.out, by simp, HB.out⟩
      · have HE := Lib.hid he
        have he2 : (Lib.decDigits (val 0 (s.data.toList.take k)) == s.toList) = false := by rw [beq_eq_false_iff_ne, Go.ByteArray.toList_eq]; exact he
        clear he
        go_wp2_with (go_at_call 74; refine (decI _ (val 0 (s.data.toList.take k)) _ rfl (by omega)).mono ?_; rintro e w1 ⟨rfl, hb1⟩; have HB := Lib.hid hb1; clear hb1)
        go_ret2
        refine ⟨_, false, rfl, hv, by simp, fun _ m hm e => HE.out ?_, HB.out⟩
        rw [HK.out, ← e, dec_val]
end Go.Proofs.YtmeoepdmaffjjaaGreatDoor.text
