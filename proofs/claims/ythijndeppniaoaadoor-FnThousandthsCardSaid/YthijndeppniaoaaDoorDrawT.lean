/-
  The draws of texts of thousandths; the law's facts on them. Conditions: the source lies in memory as l01From lays it.
-/
import Derived.Test.YthijndeppniaoaaDoorRows
import Derived.Test.YthijndeppniaoaaDoorDraw
import Derived.Test.YthijndeppniaoaaDoorDrawB
import Derived.Test.YthijndeppniaoaaDoorDamage
import Derived.Test.YthijndeppniaoaaDoorSRead
import Derived.Test.YthijndeppniaoaaDoorRead
import Derived.Test.YthijndeppniaoaaDoorCode
import Derived.Deep.RegionWith
import Derived.WalkKit
import Derived.WalkSpells
import Derived.Laws.Concat
import Derived.Lib.IndexBytes
import Derived.ProofKit
import Derived.Lib.Hide
import Derived.RegionTactic
import Derived.BigRegion
import Derived.Deep.QuietTactic
import Derived.BigQuiet
namespace Go.Proofs.YthijndeppniaoaaDoor.draw
open Go.RowKit
set_option linter.unusedVariables false




theorem codeAt_mono {w : World} {cv : Value} {len B B' : Nat} (h : CodeAt w cv len B) (hB : B ≤ B') : CodeAt w cv len B' := by
  rcases h with h | ⟨cb, co, cap, h1, h2, h3, h4⟩
  · exact .inl h
  · exact .inr ⟨cb, co, cap, h1, by omega, h3, h4⟩
def I64 (v : Int) : Prop := -9223372036854775808 ≤ v ∧ v ≤ 9223372036854775807
def OnePost (w : World) (e : Ending) (w' : World) : Prop :=
  ∃ a : Int, e = .returned (.int .i64 a) ∧ I64 a ∧ Below w.heap.size w w'
def TextPost (w : World) (e : Ending) (w' : World) : Prop :=
  ∃ x : ByteArray, e = .returned (.string x) ∧ x.size ≤ 100 ∧ Below w.heap.size w w'

set_option maxHeartbeats 1000000 in
theorem drawThText_any (w : World) (cv : Value) (len : Nat) (hc : CodeAt w cv len w.heap.size) :
    Calls Tryd.prog 5 #[cv] w (OnePost w) := by
  go_enter Tryd.func5, Tryd.ntmps5
  go_wp2_with fail
  refine (from_any w cv len hc).mono ?_
  rintro e w1 ⟨s, rfl, h1, b1, z1⟩
  have hc1 := codeAt_below hc b1
  clear z1
  go_wp2_with fail
  refine (drawBig_any w1 w.heap.size w.heap.size cv len 0 s h1 hc1 (Nat.le_refl _)).mono ?_
  rintro e w2 ⟨a, i2, s2, rfl, a0, a1, h2, b2⟩
  go_wp2_with fail
  go_ret
  exact ⟨a, rfl, ⟨a0, a1⟩, b1.trans b2⟩

theorem thB_len (n : Int) : (text.thTextB n).length ≤ 21 := by
  unfold text.thTextB
  split
  · rename_i h
    have hb : text.Big n := num.inR_iff.1 h
    obtain ⟨_, p2, p3⟩ := text.th_parts hb
    obtain ⟨f1, _⟩ := text.frac_facts n
    have : (text.sgn n).length ≤ 1 := by unfold text.sgn; split <;> simp
    rw [p2, List.length_append, List.length_append, List.length_cons, f1]
    omega
  · simp

set_option maxHeartbeats 1000000 in
theorem drawRead_any (w : World) (cv : Value) (len : Nat) (hc : CodeAt w cv len w.heap.size) :
    Calls Tryd.prog 8 #[cv] w (TextPost w) := by
  go_enter Tryd.func8, Tryd.ntmps8
  go_wp2_with fail
  refine (from_any w cv len hc).mono ?_
  rintro e w1 ⟨s, rfl, h1, b1, z1⟩
  have hc1 := codeAt_below hc b1
  clear z1
  go_wp2_with fail
  refine (drawBig_any w1 w.heap.size w.heap.size cv len 0 s h1 hc1 (Nat.le_refl _)).mono ?_
  rintro e w2 ⟨a, i2, s2, rfl, a0, a1, h2, b2⟩
  have hc2 := codeAt_below hc1 b2
  have hlt2 := src_lt h2
  go_wp2_with fail
  refine (text.sThousandths_any a w2).mono ?_
  rintro e w3 ⟨rfl, b3⟩
  have b3' := b3.mono (Nat.le_of_lt hlt2)
  have hc3 := codeAt_below hc2 b3'
  have h3 := src_only (c := 0) h2 (fun x hx => b3.block _ (by omega))
  have hb := Lib.hid ((b1.trans b2).trans b3')
  have hl := thB_len a
  clear b1 b2 b3 b3' hc hc1 hc2 h1 h2
  go_wp2_with fail
  refine (next_any w3 w.heap.size w.heap.size cv len i2 s2 3 h3 hc3 (Nat.le_refl _) (by omega)).mono ?_
  rintro e w4 ⟨v, i4, s4, rfl, v0, v1, h4, o4⟩
  have b4 := only_below o4 (Nat.le_refl w.heap.size)
  have hc4 := codeAt_below hc3 b4
  have HB4 := Lib.hid (hb.out.trans b4)
  clear o4 b4 v1
  by_cases hv : v = 0
  · subst hv
    go_wp2_with fail
    refine (damage_any w4 w.heap.size w.heap.size cv len i4 s4 _ 21 (by simp [ByteArray.size]; omega) (by omega) h4 hc4 (Nat.le_refl _)).mono ?_
    rintro e w5 ⟨x, i5, s5, rfl, hx, h5, b5⟩
    go_wp2_with fail
    go_ret
    exact ⟨x, rfl, by omega, HB4.out.trans b5⟩
  · go_wp2_with fail
    go_ret
    exact ⟨_, rfl, by simp [ByteArray.size]; omega, HB4.out⟩

/-- what the law asks of a number's text and its reading -/
theorem law_facts {n x : Int} {b : Bool} (h : text.ReadsAs (text.thTextB n) x b) : (b == (text.thTextB n != [])) = true ∧ (b = true → x = n) := by
  by_cases hb : text.Big n
  · have e := text.thB_of_big hb
    have hne : text.thTextB n ≠ [] := by
      rw [e, text.thText_eq]; simp
    rw [e] at h hne ⊢
    rcases h with ⟨rfl, h1, h2⟩ | ⟨rfl, _, h2⟩
    · exact ⟨by simpa using hne, fun _ => text.th_inj h1 hb h2⟩
    · exact absurd rfl (h2 n hb)
  · have e : text.thTextB n = [] := by
      unfold text.thTextB
      rw [if_neg]
      intro hr
      exact hb (num.inR_iff.1 hr)
    rw [e] at h ⊢
    rcases h with ⟨rfl, h1, h2⟩ | ⟨rfl, _, h2⟩
    · rw [text.thText_eq] at h2; simp at h2
    · exact ⟨rfl, by simp⟩
end Go.Proofs.YthijndeppniaoaaDoor.draw
