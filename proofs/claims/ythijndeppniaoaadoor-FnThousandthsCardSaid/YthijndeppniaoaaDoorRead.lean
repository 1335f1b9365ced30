/-
  The contract of the program's ReadThousandths: it answers with the number whose text the string is, if there is one. Conditions: the string is shorter than 2^32 - 15 bytes; the library's listed variables are as its text lays them.
-/
import Derived.Test.YthijndeppniaoaaDoorTextMath
import Derived.Test.YthijndeppniaoaaDoorShelfP
import Derived.WalkKit
import Derived.ProofKit
import Derived.Lib.Hide
import Derived.Laws.Concat
import Derived.Lib.AppendIntMem
import Derived.Lib.AtoiErrMem
namespace Go.Proofs.YthijndeppniaoaaDoor.text
open Go.RowKit
set_option linter.unusedVariables false

/-- the library's variables that a reading looks at -/
structure Env (w : World) : Prop where
  pow : Pow w
  maxlen : ∃ m : Int, w.cell? ⟨1, 0, none⟩ = some (.int .i64 m)
  syn : ∃ t p, w.var? Tryd.prog "strconv.ErrSyntax" = some #[.iface t p]
  rng : ∃ t p, w.var? Tryd.prog "strconv.ErrRange" = some #[.iface t p]
theorem env_below {w w' : World} (h : Env w) (hb : Below w.heap.size w w') : Env w' := by
  obtain ⟨h1, ⟨m, h2⟩, ⟨t3, p3, h3⟩, ⟨t4, p4, h4⟩⟩ := h
  exact ⟨pow_below h1 hb, ⟨m, (hb.cell (p := ⟨_, 0, none⟩) (World.block_lt_of_cell? w _ h2)).trans h2⟩, ⟨t3, p3, var_below h3 hb⟩, ⟨t4, p4, var_below h4 hb⟩⟩

def ParsePost (w : World) (l : List UInt8) (e : Ending) (w' : World) : Prop :=
  (∃ v : Int, e = .returned (.tuple #[.int .i64 v, .nilIface]) ∧ Lib.parseIntB 64 l = .ok v ∧ Below w.heap.size w w') ∨
  (∃ (v : Int) (t : TypeId) (x : Value), e = .returned (.tuple #[.int .i64 v, .iface t x]) ∧ (∀ u, Lib.parseIntB 64 l ≠ .ok u) ∧ Below w.heap.size w w')

theorem parse_cases (x : Lib.NumEnd Int) : (∃ v, x = .ok v) ∨ x = Lib.NumEnd.syntax ∨ x = .range := by cases x <;> simp

theorem parseInt_any (l : List UInt8) (w : World) (hl : l.length ≤ 281474976710656) (he : Env w) :
    Calls Tryd.prog 17 #[.string ⟨l.toArray⟩, .int .i64 10, .int .i64 64] w (ParsePost w l) := by
  obtain ⟨h1, h2, ⟨t3, p3, h3⟩, ⟨t4, p4, h4⟩⟩ := he
  rcases parse_cases (Lib.parseIntB 64 l) with ⟨v, hp⟩ | hp | hp
  · refine (Tryd.strconv_ParseInt_10_at64_ok ⟨l.toArray⟩ (by simp [ByteArray.size]; omega) v hp w).mono ?_
    rintro e w' ⟨rfl, hw⟩
    refine .inl ⟨v, rfl, hp, ?_⟩
    rcases hw with rfl | ⟨t, rfl⟩
    · exact Below.refl _ _
    · exact Lib.bytesWorld_below _ _ _
  · refine (Tryd.strconv_ParseInt_10_at64_syntax_var ⟨l.toArray⟩ (by simp [ByteArray.size]; omega) hp t3 p3 w h3).mono ?_
    rintro e w' ⟨N, rfl, _, _, hb⟩
    exact .inr ⟨_, _, _, rfl, fun u => by rw [hp]; simp, hb⟩
  · refine (Tryd.strconv_ParseInt_10_at64_range_var ⟨l.toArray⟩ (by simp [ByteArray.size]; omega) hp t4 p4 w h4).mono ?_
    rintro e w' ⟨N, rfl, _, _, hb⟩
    exact .inr ⟨_, _, _, rfl, fun u => by rw [hp]; simp, hb⟩

/-- what the program reads: the part before the first period and the part behind it, together -/
def joined (s : List UInt8) : List UInt8 := (Lib.cut s [46]).1 ++ (Lib.cut s [46]).2.1
theorem joined_le (s : List UInt8) : (joined s).length ≤ s.length ∧ (Lib.cut s [46]).1.length ≤ s.length ∧ (Lib.cut s [46]).2.1.length ≤ s.length := by
  unfold joined Lib.cut
  split
  · simp only [List.length_append, List.length_take, List.length_drop, List.length_cons, List.length_nil]; omega
  · simp
theorem joined_none {s : List UInt8} (h : ∀ u, Lib.parseIntB 64 (joined s) ≠ .ok u) : ∀ n, Big n → thText n ≠ s := by
  intro n hn e
  subst e
  refine h n ?_
  unfold joined
  rw [cut_th]
  exact parse_th n hn
theorem joined_some {s : List UInt8} {v : Int} (h : Lib.parseIntB 64 (joined s) = .ok v) : (thTextB v = s → ReadsAs s v true) ∧ (thTextB v ≠ s → ReadsAs s 0 false) := by
  constructor
  · intro e
    have hs : s ≠ [] := by
      intro e0
      rw [e0] at h
      have : Lib.parseIntB 64 (joined []) = Lib.NumEnd.syntax := by decide
      rw [this] at h
      cases h
    obtain ⟨h1, h2⟩ := big_of_thB e hs
    exact .inl ⟨rfl, h1, h2⟩
  · intro hne
    refine .inr ⟨rfl, rfl, fun n hn e => ?_⟩
    subst e
    have h2 : Lib.parseIntB 64 (joined (thText n)) = .ok n := by
      unfold joined
      rw [cut_th]
      exact parse_th n hn
    rw [h2] at h
    injection h with h
    subst h
    exact hne (thB_of_big hn)

set_option maxHeartbeats 1000000 in
theorem Read_any (s : ByteArray) (w : World) (hs : s.size < 4294967281) (he : Env w) :
    Calls Tryd.prog 7 #[.string s] w (ReadPost w s.data.toList) := by
  have hj := joined_le s.data.toList
  have hsz : s.data.toList.length = s.size := by rw [Array.length_toList]; rfl
  obtain ⟨m, hm⟩ := he.maxlen
  have HE := Lib.hid he
  have HZ := Lib.hid hsz
  have hj1 : (joined s.data.toList).length < 4294967281 := by omega
  have hj2 : (Lib.cut s.data.toList [46]).1.length < 4294967281 := by omega
  have hj3 : (Lib.cut s.data.toList [46]).2.1.length < 4294967281 := by omega
  clear hsz hj he
  go_enter Tryd.func7, Tryd.ntmps7
  go_wp2_with fail
  refine (Tryd.strings_Cut s ⟨#[46]⟩ m w hs hm).mono ?_
  rintro e w1 ⟨rfl, n1, rfl⟩
  have hbd : Below w.heap.size w (w.drewN n1) := ⟨rfl, rfl, rfl, Nat.le_refl _, fun _ _ => rfl⟩
  have HB1 := Lib.hid hbd
  clear hbd
  go_wp2_with fail
  rw [ByteArray.mk_append_mk]
  refine (parseInt_any (joined s.data.toList) _ (by omega) (env_below HE.out HB1.out)).mono ?_
  rintro e w2 (⟨v, rfl, hp, hb2⟩ | ⟨v, t, x, rfl, hp, hb2⟩)
  · have HP := Lib.hid (joined_some hp)
    have HB2 := Lib.hid hb2
    clear hp hb2
    by_cases hq : thTextB v = s.data.toList
    · have HQ := Lib.hid (HP.out.1 hq)
      have hq1 : (⟨(thTextB v).toArray⟩ : ByteArray) = s := by rw [hq]
      clear hq
      have hq2 : (s.data.toList == s.data.toList) = true := by simp
      go_wp2_with (go_at_call 6; refine (Thousandths_any _ _ (pow_below (pow_below HE.out.pow HB1.out) HB2.out)).mono ?_; rintro e w3 ⟨rfl, hb3⟩; have HB3 := Lib.hid hb3; clear hb3)
      go_ret2
      exact ⟨v, true, rfl, HQ.out, below_2 (below_2 HB1.out HB2.out) HB3.out⟩
    · have HQ := Lib.hid (HP.out.2 hq)
      have hq2 : (thTextB v == s.data.toList) = false := beq_eq_false_iff_ne.2 hq
      have hq3 : (thTextB v == s.toList) = false := by rw [beq_eq_false_iff_ne, Go.ByteArray.toList_eq]; exact hq
      clear hq
      go_wp2_with (go_at_call 6; refine (Thousandths_any _ _ (pow_below (pow_below HE.out.pow HB1.out) HB2.out)).mono ?_; rintro e w3 ⟨rfl, hb3⟩; have HB3 := Lib.hid hb3; clear hb3)
      go_ret2
      exact ⟨0, false, rfl, HQ.out, below_2 (below_2 HB1.out HB2.out) HB3.out⟩
  · have HP := Lib.hid (joined_none hp)
    go_wp2_with fail
    go_ret2
    exact ⟨0, false, rfl, .inr ⟨rfl, rfl, HP.out⟩, below_2 HB1.out hb2⟩
end Go.Proofs.YthijndeppniaoaaDoor.text
