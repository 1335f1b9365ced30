/-
  The contract of l01Damage: a text is changed slightly, or not. Conditions: the source lies in memory as l01From lays it.
-/
import Derived.Test.YtbenloeomjdkcaaGreatDoorRows
import Derived.Test.YtbenloeomjdkcaaGreatDoorDraw
import Derived.Test.YtbenloeomjdkcaaGreatDoorDrawB
import Derived.Deep.RegionWith
import Derived.WalkKit
import Derived.WalkSpells
import Derived.Laws.Concat
import Derived.Lib.IndexBytes
import Derived.ProofKit
import Derived.Lib.Hide
import Derived.RegionTactic
import Derived.BigRegion
import Derived.Deep.QuietTactic
import Derived.BigQuiet
namespace Go.Proofs.YtbenloeomjdkcaaGreatDoor.draw
open Go.RowKit
set_option linter.unusedVariables false



theorem cell_made (c : Array Value) (t : TypeId) (k : Nat) (v : Value) (h : c[k]? = some v) (w : World) : (w.alloc (.cells c t)).cell? ⟨w.heap.size, k, none⟩ = some v := by
  have e := heap_alloc_new w (.cells c t)
  simp only [World.cell?, e]
  simpa using h
theorem only_undrew {b : Nat} {w w' : World} (h : Only b w.drew w') : Only b w w' := ⟨h.os, h.tape, h.output, h.size, h.block⟩
theorem src_drew {w : World} {b : Nat} {cv : Value} {len : Nat} {i s : Int} (h : Src w b cv len i s) : Src w.drew b cv len i s := src_drawn h 1
theorem codeAt_drew {w : World} {cv : Value} {len B : Nat} (h : CodeAt w cv len B) : CodeAt w.drew cv len B := codeAt_below h ((Below.refl B w).drew)

def StrPost (w : World) (b : Nat) (cv : Value) (len B n : Nat) (e : Ending) (w' : World) : Prop :=
  ∃ (x : ByteArray) (i s : Int), e = .returned (.string x) ∧ x.size ≤ n ∧ Src w' b cv len i s ∧ Below B w w'

theorem cell_eight (k : Nat) (hk : (k : Int) < 8) : ∃ x : ByteArray, x.size ≤ 1 ∧ (#[Value.string ⟨#[48]⟩, .string ⟨#[49]⟩, .string ⟨#[32]⟩, .string ⟨#[46]⟩, .string ⟨#[45]⟩, .string ⟨#[97]⟩, .string ⟨#[47]⟩, .string ⟨#[10]⟩] : Array Value)[k]? = some (.string x) := by
  rcases (by omega : k = 0 ∨ k = 1 ∨ k = 2 ∨ k = 3 ∨ k = 4 ∨ k = 5 ∨ k = 6 ∨ k = 7) with rfl | rfl | rfl | rfl | rfl | rfl | rfl | rfl
  all_goals refine ⟨_, ?_, rfl⟩
  all_goals exact Nat.le_refl 1

set_option maxHeartbeats 2000000 in
theorem damage_any (w : World) (b B : Nat) (cv : Value) (len : Nat) (i s : Int) (t : ByteArray) (n : Nat) (ht : t.size ≤ n) (hn : n ≤ 1000000) (h : Src w b cv len i s) (hc : CodeAt w cv len B) (hB : B ≤ b) :
    Calls Tryz.prog 39 #[.pointer (some ⟨b, 0, none⟩), .string t] w (StrPost w b cv len B (n + 1)) := by
  have HN := Lib.hid ht
  have hts : (t.size : Int) ≤ 1000000 := by omega
  clear ht
  go_enter Tryz.func39, Tryz.ntmps39
  go_wp2_with fail
  refine (next_any w b B cv len i s _ h hc hB (by omega)).mono ?_
  rintro e w1 ⟨k, i1, s1, rfl, k0, k1, h1, o1⟩
  have b1 := only_below o1 hB
  have hc1 := codeAt_below hc b1
  obtain ⟨k, rfl⟩ := Int.eq_ofNat_of_zero_le k0
  have k2 : (k : Int) ≤ t.size := by omega
  clear o1 k0 k1
  go_wp2_with fail
  refine (next_any w1 b B cv len i1 s1 8 h1 hc1 hB (by omega)).mono ?_
  rintro e w2 ⟨v, i2, s2, rfl, v0, v1, h2, o2⟩
  have b2 := only_below o2 hB
  have hc2 := codeAt_below hc1 b2
  have hbel := Lib.hid (b1.trans b2)
  have hlt := src_lt h2
  clear o2 b1 b2 hc hc1 h h1 v1
  by_cases v0' : v = 0
  · subst v0'
    go_wp2_with fail
    go_ret
    exact ⟨_, i2, s2, rfl, by have := HN.out; simp; omega, h2, hbel.out⟩
  by_cases v1' : v = 1
  · subst v1'
    have hne : b ≠ w2.heap.size := by omega
    have hcA := codeAt_below hc2 ((Below.refl B w2).alloc (by omega) (.cells #[Value.string ⟨#[48]⟩, .string ⟨#[49]⟩, .string ⟨#[32]⟩, .string ⟨#[46]⟩, .string ⟨#[45]⟩, .string ⟨#[97]⟩, .string ⟨#[47]⟩, .string ⟨#[10]⟩] 9))
    have hhA := src_alloc h2 hlt (.cells #[Value.string ⟨#[48]⟩, .string ⟨#[49]⟩, .string ⟨#[32]⟩, .string ⟨#[46]⟩, .string ⟨#[45]⟩, .string ⟨#[97]⟩, .string ⟨#[47]⟩, .string ⟨#[10]⟩] 9)
    go_wp2_with fail
    go_region_with (go_at_call 38; (first | (with_reducible refine (next_any _ b B cv len i2 s2 8 (src_drew h2) (codeAt_drew hc2) hB (by omega)).mono ?_) | (with_reducible refine (next_any _ b B cv len i2 s2 8 (src_drew hhA) (codeAt_drew hcA) hB (by omega)).mono ?_)); rintro e w4 ⟨v, i4, s4, rfl, u0, u1, h4, o4⟩; obtain ⟨j, rfl⟩ := Int.eq_ofNat_of_zero_le u0; obtain ⟨x, hx, hk⟩ := cell_eight j (by omega); have hj8 : (j : Int) < 8 := (by omega); (first | have hcell := cell_new (only_undrew o4) hne hk | skip); have hkl : ([Value.string ⟨#[48]⟩, .string ⟨#[49]⟩, .string ⟨#[32]⟩, .string ⟨#[46]⟩, .string ⟨#[45]⟩, .string ⟨#[97]⟩, .string ⟨#[47]⟩, .string ⟨#[10]⟩] : List Value)[j]? = some (.string x) := (by simpa using hk); clear hk u1; (first | have hb4 : Below B w2 w4 := only_below (only_undrew o4) hB | have hb4 : Below B w2 w4 := ((Below.refl B w2).alloc (by omega) _).trans (only_below (only_undrew o4) hB)))
    all_goals go_wp2
    all_goals go_ret
    all_goals first | exact ⟨_, _, _, rfl, by have := HN.out; simp; omega, by assumption, hbel.out.trans (by assumption)⟩ | exact ⟨_, _, _, rfl, by have := HN.out; simp; omega, src_alloc (by assumption) (src_lt (by assumption)) _, (hbel.out.trans (by assumption)).alloc (Nat.le_of_lt (Nat.lt_of_le_of_lt hB (src_lt (by assumption)))) _⟩
  by_cases v2' : v = 2
  · subst v2'
    by_cases hkt : (k : Int) < t.size
    · go_wp2_with fail
      go_quiet (fail)
      go_wp2
      go_ret
      exact ⟨_, i2, s2, rfl, by have := HN.out; simp; omega, src_drawn h2 _, hbel.out.trans ⟨rfl, rfl, rfl, Nat.le_refl _, fun _ _ => rfl⟩⟩
    · go_wp2_with fail
      go_ret
      exact ⟨_, i2, s2, rfl, by have := HN.out; omega, h2, hbel.out⟩
  · have f0 : (v == 0) = false := beq_eq_false_iff_ne.2 v0'
    have f1 : (v == 1) = false := beq_eq_false_iff_ne.2 v1'
    have f2 : (v == 2) = false := beq_eq_false_iff_ne.2 v2'
    go_wp2_with fail
    go_ret
    exact ⟨_, i2, s2, rfl, by have := HN.out; omega, h2, hbel.out⟩
end Go.Proofs.YtbenloeomjdkcaaGreatDoor.draw
