/-
  Contracts of ThousandthsText, the model's and the program's: both write the same text. Condition for the program's: the library's table of powers of ten is as its text lays it.
-/
import Derived.Test.YthijndeppniaoaaDoorRows
import Derived.Test.YthijndeppniaoaaDoorNumMath
import Derived.Test.YthijndeppniaoaaDoorText
import Derived.Test.YthijndeppniaoaaDoorShelfF
import Derived.WalkKit
import Derived.ProofKit
import Derived.Lib.Hide
import Derived.Lib.LaidTab
import Derived.Lib.AppendIntMem
import Derived.Deep.RegionWith
namespace Go.Proofs.YthijndeppniaoaaDoor.text
open Go.RowKit
set_option linter.unusedVariables false

theorem var_below {P : Program} {w w' : World} {n : String} {cs : Array Value} (h : w.var? P n = some cs) (hb : Below w.heap.size w w') : w'.var? P n = some cs := by
  unfold World.var? at h ⊢
  cases hg : P.globalNamed n with
  | none => simp [hg] at h
  | some g =>
    simp only [hg, Option.bind_some] at h ⊢
    have hlt : g < w.heap.size := by
      rcases Nat.lt_or_ge g w.heap.size with h1 | h1
      · exact h1
      · simp [Array.getElem?_eq_none h1] at h
    rw [hb.block g hlt]
    exact h

/-- the library's table of powers of ten -/
def Pow (w : World) : Prop := Lib.TabIs Tryd.prog w "internal/strconv.uint64pow10" .u64 Lib.pow10Tab
theorem pow_below {w w' : World} (h : Pow w) (hb : Below w.heap.size w w') : Pow w' := var_below h hb

def thText (n : Int) : List UInt8 := (if n < 0 then [45] else []) ++ Lib.decDigits (n.natAbs / 1000) ++ [46] ++ (Lib.decDigits (1000 + n.natAbs % 1000)).tail
def thTextB (n : Int) : List UInt8 := if num.inR n (-1000000000000000000) 1000000000000000000 then thText n else []

theorem formatInt_any (n : Nat) (w : World) (h1 : n ≤ 9223372036854775807) (hp : Pow w) :
    Calls Tryd.prog 15 #[.int .i64 n, .int .i64 10] w (StrPost w (Lib.decDigits n)) := by
  refine (Tryd.strconv_FormatInt_10 n (by omega) (by omega) w hp).mono ?_
  rintro e w' ⟨rfl, k, os, rfl⟩
  refine ⟨?_, Lib.below_grow _ _ (Nat.le_refl _) _ _⟩
  have e1 : Lib.itoa (n : Int) = Lib.decDigits n := by unfold Lib.itoa; rw [if_neg (by omega)]; rfl
  rw [e1]

theorem formatInt_int (z : Int) (m : Nat) (w : World) (h0 : z = (m : Int)) (h1 : m ≤ 9223372036854775807) (hp : Pow w) : Calls Tryd.prog 15 #[.int .i64 z, .int .i64 10] w (StrPost w (Lib.decDigits m)) := by
  subst h0
  exact formatInt_any m w h1 hp
theorem dec_int (z : Int) (m : Nat) (w : World) (h0 : z = (m : Int)) (h1 : m ≤ 9223372036854775807) : Calls Tryd.prog 22 #[.int .i64 z] w (StrPost w (Lib.decDigits m)) := by
  subst h0
  exact dec_any m m w (Nat.le_refl _) h1
theorem l01In_any (x lo hi : Int) (w : World) : Calls Tryd.prog 27 #[.int .i64 x, .int .i64 lo, .int .i64 hi] w fun e w' => e = .returned (.bool (num.inR x lo hi)) ∧ w = w' := by
  by_cases h1 : lo ≤ x <;> by_cases h2 : x ≤ hi
  all_goals
    go_enter Tryd.func27, Tryd.ntmps27
    go_wp2
    go_ret
    exact ⟨by simp [num.inR, h1, h2], rfl⟩
theorem l01Big_any (x : Int) (w : World) : Calls Tryd.prog 21 #[.int .i64 x] w fun e w' => e = .returned (.bool (num.inR x (-1000000000000000000) 1000000000000000000)) ∧ w = w' := by
  go_enter Tryd.func21, Tryd.ntmps21
  go_wp2_with (go_at_call 27; refine (l01In_any _ _ _ _).mono ?_; rintro e w' ⟨rfl, rfl⟩)
  go_ret
  exact ⟨rfl, rfl⟩
theorem inRange_any (x lo hi : Int) (w : World) : Calls Tryd.prog 13 #[.int .i64 x, .int .i64 lo, .int .i64 hi] w fun e w' => e = .returned (.bool (num.inR x lo hi)) ∧ w = w' := by
  by_cases h1 : lo ≤ x <;> by_cases h2 : x ≤ hi
  all_goals
    go_enter Tryd.func13, Tryd.ntmps13
    go_wp2
    go_ret
    exact ⟨by simp [num.inR, h1, h2], rfl⟩

theorem tail_len {m : Nat} (h : m < 1000) : (Lib.decDigits (1000 + m)).length = 4 := by
  rw [Lib.decDigits_length]
  exact Lib.nDigits_unique 3 _ (by omega) (by omega)

theorem extract_tail (b : List UInt8) : (ByteArray.mk b.toArray).extract 1 b.length = ByteArray.mk b.tail.toArray := by
  apply ByteArray.ext
  simp [ByteArray.data_extract]
  exact List.take_of_length_le (by simp)
theorem cat_text (s a b : List UInt8) : (ByteArray.mk s.toArray ++ ByteArray.mk a.toArray ++ ByteArray.mk #[46] ++ (ByteArray.mk b.toArray).extract 1 b.length) = ByteArray.mk (s ++ a ++ [46] ++ b.tail).toArray := by
  rw [extract_tail]
  apply ByteArray.ext
  simp [ByteArray.data_append]
theorem below_2 {w w1 w2 : World} (h1 : Below w.heap.size w w1) (h2 : Below w1.heap.size w1 w2) : Below w.heap.size w w2 := h1.trans (h2.mono h1.size)
theorem below_2d {w w1 w2 : World} (h1 : Below w.heap.size w w1) (h2 : Below w1.drew.heap.size w1.drew w2) : Below w.heap.size w w2 := below_2 h1 ⟨h2.os, h2.tape, h2.output, h2.size, h2.block⟩

set_option maxHeartbeats 1000000 in
theorem sThousandths_any (n : Int) (w : World) : Calls Tryd.prog 10 #[.int .i64 n] w (StrPost w (thTextB n)) := by
  cases hr : num.inR n (-1000000000000000000) 1000000000000000000
  · go_enter Tryd.func10, Tryd.ntmps10
    go_wp2_with (go_at_call 21; refine (l01Big_any _ _).mono ?_; rintro e w' ⟨rfl, rfl⟩)
    go_ret
    exact ⟨by simp [thTextB, hr], Below.refl _ _⟩
  · have g := num.inR_iff.1 hr
    obtain ⟨m, hm⟩ : ∃ m : Nat, m = n.natAbs := ⟨_, rfl⟩
    obtain ⟨q, hq⟩ : ∃ q : Nat, q = m / 1000 := ⟨_, rfl⟩
    obtain ⟨r, hr2⟩ : ∃ r : Nat, r = m % 1000 := ⟨_, rfl⟩
    have q2 : q ≤ 9223372036854775807 := by omega
    have r3 : r < 1000 := by omega
    have l1 := dec_length q q2
    have l2 := tail_len r3
    have L2 := Lib.hid l2
    have l3 : (Lib.decDigits (1000 + r)).length ≤ 4 := by omega
    have l4 : 1 ≤ (Lib.decDigits (1000 + r)).length := by omega
    have l5 : (Lib.decDigits (1000 + r)).length - 1 ≤ 4 := by omega
    clear l2
    have fin : Hid (thTextB n = (if n < 0 then [45] else []) ++ Lib.decDigits q ++ [46] ++ (Lib.decDigits (1000 + r)).tail) := by
      show _ = _
      simp only [thTextB, hr, if_true, thText, ← hm, hq, hr2]
    by_cases hn : n < 0
    · obtain rfl : n = -(m : Int) := by omega
      have m0 : 0 < (m : Int) := by omega
      have m1 : (m : Int) ≤ 1000000000000000000 := by omega
      have w1 : (m : Int) % 1000 = (r : Int) := by omega
      have w2 : (m : Int) / 1000 = (q : Int) := by omega
      have w3 : IntKind.i64.wrap (q : Int) = (q : Int) := IntWalk.i64_in _ (by omega)
      clear hq hr2 hm
      go_enter Tryd.func10, Tryd.ntmps10
      go_wp2_with (go_at_call 21; refine (l01Big_any _ _).mono ?_; rintro e w' ⟨rfl, rfl⟩)
      refine (dec_int _ (1000 + r) _ (by omega) (by omega)).mono ?_
      rintro e w1 ⟨rfl, hb1⟩
      go_wp2_with fail
      go_region_with (go_at_call 22; refine (dec_int _ q _ (by omega) q2).mono ?_; rintro e w2 ⟨rfl, hb2⟩)
      all_goals go_wp2
      all_goals go_ret
      all_goals exact ⟨ret_str (by rw [fin.out, if_pos (by omega), ← cat_text]), below_2d hb1 (by assumption)⟩
    · obtain rfl : n = (m : Int) := by omega
      have hn' : 0 ≤ (m : Int) := by omega
      have m1 : (m : Int) ≤ 1000000000000000000 := by omega
      have w1 : (m : Int) % 1000 = (r : Int) := by omega
      have w2 : (m : Int) / 1000 = (q : Int) := by omega
      have w3 : IntKind.i64.wrap (q : Int) = (q : Int) := IntWalk.i64_in _ (by omega)
      clear hq hr2 hm
      go_enter Tryd.func10, Tryd.ntmps10
      go_wp2_with (go_at_call 21; refine (l01Big_any _ _).mono ?_; rintro e w' ⟨rfl, rfl⟩)
      refine (dec_int _ (1000 + r) _ (by omega) (by omega)).mono ?_
      rintro e w1 ⟨rfl, hb1⟩
      go_wp2_with fail
      go_region_with (go_at_call 22; refine (dec_int _ q _ (by omega) q2).mono ?_; rintro e w2 ⟨rfl, hb2⟩)
      all_goals go_wp2
      all_goals go_ret
      all_goals exact ⟨ret_str (by rw [fin.out, if_neg (by omega), ← cat_text]), below_2d hb1 (by assumption)⟩

theorem ret_i {k : IntKind} {a b : Int} (h : a = b) : Ending.returned (.int k a) = .returned (.int k b) := by rw [h]
theorem absolute_any (x : Int) (w : World) (h1 : -9223372036854775807 ≤ x) (h2 : x ≤ 9223372036854775807) : Calls Tryd.prog 14 #[.int .i64 x] w fun e w' => e = .returned (.int .i64 (x.natAbs : Int)) ∧ w = w' := by
  by_cases h : x < 0
  all_goals
    go_enter Tryd.func14, Tryd.ntmps14
    go_wp2
    go_ret
    exact ⟨ret_i (by omega), rfl⟩

set_option maxHeartbeats 1000000 in
theorem Thousandths_any (n : Int) (w : World) (hp : Pow w) : Calls Tryd.prog 6 #[.int .i64 n] w (StrPost w (thTextB n)) := by
  cases hr : num.inR n (-1000000000000000000) 1000000000000000000
  · go_enter Tryd.func6, Tryd.ntmps6
    go_wp2_with (go_at_call 13; refine (inRange_any _ _ _ _).mono ?_; rintro e w' ⟨rfl, rfl⟩)
    go_ret
    exact ⟨by simp [thTextB, hr], Below.refl _ _⟩
  · have g := num.inR_iff.1 hr
    obtain ⟨m, hm⟩ : ∃ m : Nat, m = n.natAbs := ⟨_, rfl⟩
    obtain ⟨q, hq⟩ : ∃ q : Nat, q = m / 1000 := ⟨_, rfl⟩
    obtain ⟨r, hr2⟩ : ∃ r : Nat, r = m % 1000 := ⟨_, rfl⟩
    have q2 : q ≤ 9223372036854775807 := by omega
    have r3 : r < 1000 := by omega
    have l1 := dec_length q q2
    have l2 := tail_len r3
    have l3 : (Lib.decDigits (1000 + r)).length ≤ 4 := by omega
    have l4 : 1 ≤ (Lib.decDigits (1000 + r)).length := by omega
    have l5 : (Lib.decDigits (1000 + r)).length - 1 ≤ 4 := by omega
    clear l2
    have fin : Hid (thTextB n = (if n < 0 then [45] else []) ++ Lib.decDigits q ++ [46] ++ (Lib.decDigits (1000 + r)).tail) := by
      show _ = _
      simp only [thTextB, hr, if_true, thText, ← hm, hq, hr2]
    have m1 : (m : Int) ≤ 1000000000000000000 := by omega
    have hb : (n.natAbs : Int) = (m : Int) := by omega
    have w1 : (m : Int) % 1000 = (r : Int) := by omega
    have w2 : (m : Int) / 1000 = (q : Int) := by omega
    clear hq hr2
    by_cases hn : n < 0
    all_goals
      have HM := Lib.hid hm
      clear hm
      go_enter Tryd.func6, Tryd.ntmps6
      go_wp2_with (first | (go_at_call 13; refine (inRange_any _ _ _ _).mono ?_; rintro e w' ⟨rfl, rfl⟩) | (go_at_call 14; refine (absolute_any _ _ (by omega) (by omega)).mono ?_; rintro e w' ⟨rfl, rfl⟩))
      refine (formatInt_int _ (1000 + r) _ (by omega) (by omega) hp).mono ?_
      rintro e w1 ⟨rfl, hb1⟩
      have hp1 := pow_below hp hb1
      go_wp2_with fail
      refine (formatInt_int _ q _ (by omega) q2 hp1).mono ?_
      rintro e w2 ⟨rfl, hb2⟩
      go_wp2_with fail
      go_ret
      first
      | exact ⟨ret_str (by rw [fin.out, if_pos (by omega), ← cat_text, extract_tail]), below_2 hb1 hb2⟩
      | exact ⟨ret_str (by rw [fin.out, if_neg (by omega), ← cat_text, extract_tail]), below_2 hb1 hb2⟩
end Go.Proofs.YthijndeppniaoaaDoor.text
