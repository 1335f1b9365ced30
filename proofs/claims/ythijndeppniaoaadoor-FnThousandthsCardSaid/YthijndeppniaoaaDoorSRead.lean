/-
  The contract of the model's ReadThousandths: it answers with the number whose text the string is, if there is one. Condition: the string's length is an int.
-/
import Derived.Test.YthijndeppniaoaaDoorTextMath
import Derived.Test.YthijndeppniaoaaDoorValue
import Derived.WalkKit
import Derived.WalkSpells
import Derived.ProofKit
import Derived.Lib.Hide
import Derived.Laws.Concat
import Derived.Deep.DeepCutAuto
namespace Go.Proofs.YthijndeppniaoaaDoor.text
open Go.RowKit
set_option linter.unusedVariables false

theorem th_parts {n : Int} (h : Big n) : (n < 0 ↔ (thText n).head? = some 45) ∧ thText n = sgn n ++ (Lib.decDigits (n.natAbs / 1000) ++ 46 :: frac n) ∧ (Lib.decDigits (n.natAbs / 1000)).length ≤ 16 := by
  unfold Big at h
  refine ⟨?_, by rw [thText_eq]; simp, ?_⟩
  · rw [thText_eq]
    unfold sgn
    by_cases hn : n < 0
    · simp [hn]
    · rw [if_neg hn]
      have hd := dec_dig (n.natAbs / 1000)
      have hp := dec_pos (n.natAbs / 1000)
      cases hl : Lib.decDigits (n.natAbs / 1000) with
      | nil => rw [hl] at hp; simp at hp
      | cons c r =>
        have := isDig_iff.1 (hd c (by rw [hl]; exact List.mem_cons_self ..))
        simp [hn]
        intro e
        subst e
        exact absurd this (by decide)
  · rw [Lib.decDigits_length]
    exact nDigits_le 15 _ (by omega)

/-- the string without its sign, and the sign -/
def Rest (s B : ByteArray) (g : Int) : Prop :=
  (g = -1 ∧ s.data.toList = 45 :: B.data.toList) ∨ (g = 1 ∧ s.data.toList = B.data.toList ∧ s.data.toList.head? ≠ some 45)
theorem rest_body {s B : ByteArray} {g n : Int} (h : Rest s B g) (hn : Big n) (he : thText n = s.data.toList) :
    B.data.toList = Lib.decDigits (n.natAbs / 1000) ++ 46 :: frac n ∧ g = (if n < 0 then -1 else 1) := by
  obtain ⟨p1, p2, _⟩ := th_parts hn
  rw [he] at p1 p2
  rcases h with ⟨rfl, h1⟩ | ⟨rfl, h1, h2⟩
  · have hneg : n < 0 := p1.2 (by rw [h1]; rfl)
    unfold sgn at p2
    rw [if_pos hneg, h1] at p2
    rw [if_pos hneg]
    exact ⟨by simpa using p2, rfl⟩
  · have hneg : ¬ n < 0 := fun h => h2 (p1.1 h)
    unfold sgn at p2
    rw [if_neg hneg, h1] at p2
    rw [if_neg hneg]
    exact ⟨by simpa using p2, rfl⟩
theorem rest_facts {s B : ByteArray} {g n : Int} (h : Rest s B g) (hn : Big n) (he : thText n = s.data.toList) :
    5 ≤ B.size ∧ B.size ≤ 20 ∧ B.data.toList[B.size - 4]? = some 46 ∧ B.data.toList.take (B.size - 4) = Lib.decDigits (n.natAbs / 1000) ∧ 49 :: B.data.toList.drop (B.size - 3) = Lib.decDigits (1000 + n.natAbs % 1000) ∧ g = (if n < 0 then -1 else 1) := by
  obtain ⟨h1, h2⟩ := rest_body h hn he
  obtain ⟨_, _, l1⟩ := th_parts hn
  have l0 := dec_pos (n.natAbs / 1000)
  obtain ⟨f1, f2, _, _⟩ := frac_facts n
  have hsz : B.data.toList.length = B.size := by rw [Array.length_toList]; rfl
  have hl : B.size = (Lib.decDigits (n.natAbs / 1000)).length + 4 := by
    rw [← hsz, h1, List.length_append, List.length_cons, f1]
  refine ⟨by omega, by omega, ?_, ?_, ?_, h2⟩
  · rw [h1, hl, Nat.add_sub_cancel]
    simp
  · rw [h1, hl, Nat.add_sub_cancel]
    simp
  · rw [h1, hl, show (Lib.decDigits (n.natAbs / 1000)).length + 4 - 3 = (Lib.decDigits (n.natAbs / 1000)).length + 1 by omega, ← f2]
    simp
theorem extract_head (B : ByteArray) (k : Nat) (h : k ≤ B.size) : (B.extract 0 k).data.toList = B.data.toList.take k := by
  simp [ByteArray.data_extract]
theorem extract_end (B : ByteArray) (k : Nat) : (B.extract k B.size).data.toList = B.data.toList.drop k := Lib.extract_to_end B k

theorem one_end (B : ByteArray) (k : Nat) : (ByteArray.mk #[49] ++ B.extract k B.size).data.toList = 49 :: B.data.toList.drop k := by
  rw [ByteArray.data_append, Array.toList_append, extract_end]; rfl
theorem one_size (B : ByteArray) (k : Nat) : (ByteArray.mk #[49] ++ B.extract k B.size).size = 1 + (B.size - k) := by
  rw [ByteArray.size_append]
  show 1 + (B.extract k B.size).size = _
  simp
theorem big_q {n : Int} (h : Big n) : n.natAbs / 1000 < 1000000000000000000 := by unfold Big at h; omega
theorem at_index (B : ByteArray) (k : Nat) (h : k < B.size) : B.data.toList[k]? = some B[k] := by
  have h' : k < B.data.toList.length := by rw [Array.length_toList]; exact h
  rw [List.getElem?_eq_getElem h']
  rfl

set_option maxHeartbeats 4000000 in
theorem sRead_any (s : ByteArray) (w : World) (hs : s.size ≤ 9223372036854775807) :
    Calls Tryd.prog 9 #[.string s] w (ReadPost w s.data.toList) := by
  have hsz : s.data.toList.length = s.size := by rw [Array.length_toList]; rfl
  have HZ := Lib.hid hsz
  clear hsz
  by_cases h0 : 0 < s.size
  · by_cases h45 : (s[0].toNat : Int) = 45
    · have hcons : s.data.toList = 45 :: (s.extract 1 s.size).data.toList := by
        have h1 := at_index s 0 h0
        rw [extract_end]
        cases hl : s.data.toList with
        | nil => rw [hl] at h1; simp at h1
        | cons c r =>
          rw [hl] at h1
          have e1 : c = s[0] := by simpa using h1
          have e2 : c.toNat = 45 := by rw [e1]; omega
          have e3 : c = 45 := UInt8.toNat_inj.1 e2
          rw [e3]; rfl
      have hr : Rest s (s.extract 1 s.size) (-1) := .inl ⟨rfl, hcons⟩
      have hle : (s.extract 1 s.size).size ≤ s.size := by simp
      have HR := Lib.hid hr
      clear hcons hr
      go_enter Tryd.func9, Tryd.ntmps9
      go_upto_region 4 with (fail)
      generalize s.extract 1 s.size = B at *
      by_cases c1 : B.size < 5
      · go_wp2_with fail
        go_ret2
        refine ⟨0, false, rfl, .inr ⟨rfl, rfl, fun n hn he => ?_⟩, Below.refl _ _⟩
        have := (rest_facts HR.out hn he).1
        omega
      by_cases c2 : 20 < B.size
      · go_wp2_with fail
        go_ret2
        refine ⟨0, false, rfl, .inr ⟨rfl, rfl, fun n hn he => ?_⟩, Below.refl _ _⟩
        have := (rest_facts HR.out hn he).2.1
        omega
      have hlt : B.size - 4 < B.size := by omega
      have hidx := at_index B (B.size - 4) hlt
      have HI := Lib.hid hidx
      clear hidx
      by_cases c3 : (B[B.size - 4].toNat : Int) ≠ 46
      · have c3' : ((B[B.size - 4].toNat : Int) == 46) = false := beq_eq_false_iff_ne.2 c3
        have c3'' : ((B[B.size - 4].toNat : Int) != 46) = true := by rw [bne_iff_ne]; exact c3
        go_wp2_with fail
        go_ret2
        refine ⟨0, false, rfl, .inr ⟨rfl, rfl, fun n hn he => ?_⟩, Below.refl _ _⟩
        have h := (rest_facts HR.out hn he).2.2.1
        rw [HI.out] at h
        injection h with h
        rw [h] at c3
        exact c3 rfl
      have c3 := Decidable.of_not_not c3
      have c3' : ((B[B.size - 4].toNat : Int) == 46) = true := beq_iff_eq.2 c3
      have c3'' : ((B[B.size - 4].toNat : Int) != 46) = false := by simp [c3]
      clear c3
      have hb4 : (B.extract 0 (B.size - 4)).size ≤ 9223372036854775807 := by simp; omega
      go_wp2_with fail
      refine (value_any _ _ hb4).mono ?_
      rintro e w1 ⟨v1, b1, rfl, p1, q1, r1, hb1⟩
      rw [extract_head _ _ (by omega)] at q1 r1
      have Q1 := Lib.hid q1
      have R1 := Lib.hid r1
      have HB1 := Lib.hid hb1
      clear q1 r1 hb1 hb4
      have hb5 : (ByteArray.mk #[49] ++ B.extract (B.size - 3) B.size).size ≤ 9223372036854775807 := by rw [one_size]; omega
      go_wp2_with fail
      refine (value_any _ _ hb5).mono ?_
      rintro e w2 ⟨v2, b2, rfl, p2, q2, r2, hb2⟩
      rw [one_end] at q2 r2
      have Q2 := Lib.hid q2
      have R2 := Lib.hid r2
      have HB2 := Lib.hid hb2
      clear q2 r2 hb2 hb5
      cases b1
      · go_wp2_with fail
        go_ret2
        refine ⟨0, false, rfl, .inr ⟨rfl, rfl, fun n hn he => ?_⟩, below_2 HB1.out HB2.out⟩
        exact R1.out (by trivial) _ (big_q hn) (rest_facts HR.out hn he).2.2.2.1.symm
      cases b2
      · go_wp2_with fail
        go_ret2
        refine ⟨0, false, rfl, .inr ⟨rfl, rfl, fun n hn he => ?_⟩, below_2 HB1.out HB2.out⟩
        exact R2.out (by trivial) _ (by omega) (rest_facts HR.out hn he).2.2.2.2.1.symm
      by_cases c4 : 1000000000000000 < (v1 : Int)
      · go_wp2_with fail
        go_ret2
        refine ⟨0, false, rfl, .inr ⟨rfl, rfl, fun n hn he => ?_⟩, below_2 HB1.out HB2.out⟩
        have e1 := dec_inj ((Q1.out (by trivial)).trans (rest_facts HR.out hn he).2.2.2.1)
        unfold Big at hn
        omega
      have hz : ∃ z : Int, 1000 * (v1 : Int) + (v2 : Int) - 1000 = z := ⟨_, rfl⟩
      obtain ⟨z, hz⟩ := hz
      have HZZ := Lib.hid hz
      have hzb : -1000 ≤ z ∧ z ≤ 2000000000000000000 := by omega
      have hall : ∀ n, Big n → thText n = s.data.toList → n = -z := by
        intro n hn he
        have f := rest_facts HR.out hn he
        have e1 := dec_inj ((Q1.out (by trivial)).trans f.2.2.2.1)
        have e2 := dec_inj ((Q2.out (by trivial)).trans f.2.2.2.2.1)
        have e3 := f.2.2.2.2.2
        split at e3 <;> omega
      have HA := Lib.hid hall
      clear hall
      by_cases hq : thTextB (-z) = s.data.toList
      · have hs0 : s.data.toList ≠ [] := fun e => by have := HZ.out; rw [e] at this; simp at this; omega
        have HQ := Lib.hid (big_of_thB hq hs0)
        have hq2 : (thTextB (-z) == s.toList) = true := by rw [beq_iff_eq, Go.ByteArray.toList_eq]; exact hq
        clear hq hs0
        go_wp2_with fail
        refine (sThousandths_any _ _).mono ?_
        rintro e w3 ⟨rfl, hb3⟩
        have HB3 := Lib.hid hb3
        clear hb3
        go_wp2_with fail
        go_ret2
        exact ⟨-z, true, rfl, .inl ⟨rfl, HQ.out⟩, below_2 (below_2 HB1.out HB2.out) HB3.out⟩
      have HQ := Lib.hid hq
      have hq2 : (thTextB (-z) == s.toList) = false := by rw [beq_eq_false_iff_ne, Go.ByteArray.toList_eq]; exact hq
      clear hq
      go_wp2_with fail
      refine (sThousandths_any _ _).mono ?_
      rintro e w3 ⟨rfl, hb3⟩
      have HB3 := Lib.hid hb3
      clear hb3
      go_wp2_with fail
      go_ret2
      refine ⟨0, false, rfl, .inr ⟨rfl, rfl, fun n hn he => ?_⟩, below_2 (below_2 HB1.out HB2.out) HB3.out⟩
      have e1 := HA.out n hn he
      subst e1
      exact HQ.out ((thB_of_big hn).trans he)
    · have hr : Rest s s 1 := by
        refine .inr ⟨rfl, rfl, ?_⟩
        have h1 := at_index s 0 h0
        cases hl : s.data.toList with
        | nil => simp
        | cons c r =>
          rw [hl] at h1
          have e1 : c = s[0] := by simpa using h1
          intro e
          have e2 : c = 45 := by simpa using e
          apply h45
          rw [← e1, e2]
          rfl
      have HR := Lib.hid hr
      have h45' : ((s[0].toNat : Int) == 45) = false := beq_eq_false_iff_ne.2 h45
      clear hr h45
      go_enter Tryd.func9, Tryd.ntmps9
      go_upto_region 4 with (fail)
      by_cases c1 : s.size < 5
      · go_wp2_with fail
        go_ret2
        refine ⟨0, false, rfl, .inr ⟨rfl, rfl, fun n hn he => ?_⟩, Below.refl _ _⟩
        have := (rest_facts HR.out hn he).1
        omega
      by_cases c2 : 20 < s.size
      · go_wp2_with fail
        go_ret2
        refine ⟨0, false, rfl, .inr ⟨rfl, rfl, fun n hn he => ?_⟩, Below.refl _ _⟩
        have := (rest_facts HR.out hn he).2.1
        omega
      have hlt : s.size - 4 < s.size := by omega
      have hidx := at_index s (s.size - 4) hlt
      have HI := Lib.hid hidx
      clear hidx
      by_cases c3 : (s[s.size - 4].toNat : Int) ≠ 46
      · have c3' : ((s[s.size - 4].toNat : Int) == 46) = false := beq_eq_false_iff_ne.2 c3
        have c3'' : ((s[s.size - 4].toNat : Int) != 46) = true := by rw [bne_iff_ne]; exact c3
        go_wp2_with fail
        go_ret2
        refine ⟨0, false, rfl, .inr ⟨rfl, rfl, fun n hn he => ?_⟩, Below.refl _ _⟩
        have h := (rest_facts HR.out hn he).2.2.1
        rw [HI.out] at h
        injection h with h
        rw [h] at c3
        exact c3 rfl
      have c3 := Decidable.of_not_not c3
      have c3' : ((s[s.size - 4].toNat : Int) == 46) = true := beq_iff_eq.2 c3
      have c3'' : ((s[s.size - 4].toNat : Int) != 46) = false := by simp [c3]
      clear c3
      have hb4 : (s.extract 0 (s.size - 4)).size ≤ 9223372036854775807 := by simp; omega
      go_wp2_with fail
      refine (value_any _ _ hb4).mono ?_
      rintro e w1 ⟨v1, b1, rfl, p1, q1, r1, hb1⟩
      rw [extract_head _ _ (by omega)] at q1 r1
      have Q1 := Lib.hid q1
      have R1 := Lib.hid r1
      have HB1 := Lib.hid hb1
      clear q1 r1 hb1 hb4
      have hb5 : (ByteArray.mk #[49] ++ s.extract (s.size - 3) s.size).size ≤ 9223372036854775807 := by rw [one_size]; omega
      go_wp2_with fail
      refine (value_any _ _ hb5).mono ?_
      rintro e w2 ⟨v2, b2, rfl, p2, q2, r2, hb2⟩
      rw [one_end] at q2 r2
      have Q2 := Lib.hid q2
      have R2 := Lib.hid r2
      have HB2 := Lib.hid hb2
      clear q2 r2 hb2 hb5
      cases b1
      · go_wp2_with fail
        go_ret2
        refine ⟨0, false, rfl, .inr ⟨rfl, rfl, fun n hn he => ?_⟩, below_2 HB1.out HB2.out⟩
        exact R1.out (by trivial) _ (big_q hn) (rest_facts HR.out hn he).2.2.2.1.symm
      cases b2
      · go_wp2_with fail
        go_ret2
        refine ⟨0, false, rfl, .inr ⟨rfl, rfl, fun n hn he => ?_⟩, below_2 HB1.out HB2.out⟩
        exact R2.out (by trivial) _ (by omega) (rest_facts HR.out hn he).2.2.2.2.1.symm
      by_cases c4 : 1000000000000000 < (v1 : Int)
      · go_wp2_with fail
        go_ret2
        refine ⟨0, false, rfl, .inr ⟨rfl, rfl, fun n hn he => ?_⟩, below_2 HB1.out HB2.out⟩
        have e1 := dec_inj ((Q1.out (by trivial)).trans (rest_facts HR.out hn he).2.2.2.1)
        unfold Big at hn
        omega
      have hz : ∃ z : Int, 1000 * (v1 : Int) + (v2 : Int) - 1000 = z := ⟨_, rfl⟩
      obtain ⟨z, hz⟩ := hz
      have HZZ := Lib.hid hz
      have hzb : -1000 ≤ z ∧ z ≤ 2000000000000000000 := by omega
      have hall : ∀ n, Big n → thText n = s.data.toList → n = z := by
        intro n hn he
        have f := rest_facts HR.out hn he
        have e1 := dec_inj ((Q1.out (by trivial)).trans f.2.2.2.1)
        have e2 := dec_inj ((Q2.out (by trivial)).trans f.2.2.2.2.1)
        have e3 := f.2.2.2.2.2
        split at e3 <;> omega
      have HA := Lib.hid hall
      clear hall
      by_cases hq : thTextB (z) = s.data.toList
      · have hs0 : s.data.toList ≠ [] := fun e => by have := HZ.out; rw [e] at this; simp at this; omega
        have HQ := Lib.hid (big_of_thB hq hs0)
        have hq2 : (thTextB (z) == s.toList) = true := by rw [beq_iff_eq, Go.ByteArray.toList_eq]; exact hq
        clear hq hs0
        go_wp2_with fail
        refine (sThousandths_any _ _).mono ?_
        rintro e w3 ⟨rfl, hb3⟩
        have HB3 := Lib.hid hb3
        clear hb3
        go_wp2_with fail
        go_ret2
        exact ⟨z, true, rfl, .inl ⟨rfl, HQ.out⟩, below_2 (below_2 HB1.out HB2.out) HB3.out⟩
      have HQ := Lib.hid hq
      have hq2 : (thTextB (z) == s.toList) = false := by rw [beq_eq_false_iff_ne, Go.ByteArray.toList_eq]; exact hq
      clear hq
      go_wp2_with fail
      refine (sThousandths_any _ _).mono ?_
      rintro e w3 ⟨rfl, hb3⟩
      have HB3 := Lib.hid hb3
      clear hb3
      go_wp2_with fail
      go_ret2
      refine ⟨0, false, rfl, .inr ⟨rfl, rfl, fun n hn he => ?_⟩, below_2 (below_2 HB1.out HB2.out) HB3.out⟩
      have e1 := HA.out n hn he
      subst e1
      exact HQ.out ((thB_of_big hn).trans he)
  · have hr : Rest s s 1 := by
      refine .inr ⟨rfl, rfl, ?_⟩
      have hn : s.data.toList = [] := List.eq_nil_of_length_eq_zero (by rw [HZ.out]; omega)
      rw [hn]; simp
    go_enter Tryd.func9, Tryd.ntmps9
    go_wp2_with fail
    go_ret2
    refine ⟨0, false, rfl, .inr ⟨rfl, rfl, fun n hn he => ?_⟩, Below.refl _ _⟩
    have := (rest_facts hr hn he).1
    omega
end Go.Proofs.YthijndeppniaoaaDoor.text
