/-
  Contracts of the draws of chapter 1's integer arguments. Conditions: the source lies in memory as l01From lays it.
-/
import Derived.Test.YthijndeppniaoaaRows
import Derived.Test.YthijndeppniaoaaDraw
import Derived.Test.YthijndeppniaoaaDrawB
import Derived.Deep.RegionWith
import Derived.WalkKit
import Derived.ProofKit
import Derived.Lib.Hide
import Derived.RegionTactic
import Derived.BigRegion
import Derived.Deep.QuietTactic
import Derived.BigQuiet
namespace Go.Proofs.Ythijndeppniaoaa.draw
open Go.RowKit
set_option linter.unusedVariables false


theorem cell_four (a0 a1 a2 a3 : Int) (k : Nat) (hk : (k : Int) < 4) : ∃ x : Int, (x = a0 ∨ x = a1 ∨ x = a2 ∨ x = a3) ∧ (#[Value.int .i64 a0, .int .i64 a1, .int .i64 a2, .int .i64 a3] : Array Value)[k]? = some (.int .i64 x) := by
  rcases (by omega : k = 0 ∨ k = 1 ∨ k = 2 ∨ k = 3) with rfl | rfl | rfl | rfl
  · exact ⟨a0, .inl rfl, rfl⟩
  · exact ⟨a1, .inr (.inl rfl), rfl⟩
  · exact ⟨a2, .inr (.inr (.inl rfl)), rfl⟩
  · exact ⟨a3, .inr (.inr (.inr rfl)), rfl⟩
theorem cell_made (c : Array Value) (t : TypeId) (k : Nat) (v : Value) (h : c[k]? = some v) (w : World) : (w.alloc (.cells c t)).cell? ⟨w.heap.size, k, none⟩ = some v := by
  have e := heap_alloc_new w (.cells c t)
  simp only [World.cell?, e]
  simpa using h

theorem only_undrew {b : Nat} {w w' : World} (h : Only b w.drew w') : Only b w w' := ⟨h.os, h.tape, h.output, h.size, h.block⟩
theorem src_drew {w : World} {b : Nat} {cv : Value} {len : Nat} {i s : Int} (h : Src w b cv len i s) : Src w.drew b cv len i s := src_drawn h 1
theorem codeAt_drew {w : World} {cv : Value} {len B : Nat} (h : CodeAt w cv len B) : CodeAt w.drew cv len B := codeAt_below h ((Below.refl B w).drew)
def I64 (v : Int) : Prop := -9223372036854775808 ≤ v ∧ v ≤ 9223372036854775807
def TwoPost (w : World) (e : Ending) (w' : World) : Prop :=
  ∃ a b : Int, e = .returned (.tuple #[.int .i64 a, .int .i64 b]) ∧ I64 a ∧ I64 b ∧ Below w.heap.size w w'
def ThreePost (w : World) (e : Ending) (w' : World) : Prop :=
  ∃ a b c : Int, e = .returned (.tuple #[.int .i64 a, .int .i64 b, .int .i64 c]) ∧ I64 a ∧ I64 b ∧ I64 c ∧ Below w.heap.size w w'
def OnePost (w : World) (e : Ending) (w' : World) : Prop :=
  ∃ a : Int, e = .returned (.int .i64 a) ∧ I64 a ∧ Below w.heap.size w w'

set_option maxHeartbeats 1000000 in
theorem drawFloorDiv_any (w : World) (cv : Value) (len : Nat) (hc : CodeAt w cv len w.heap.size) :
    Calls Try.prog 15 #[cv] w (TwoPost w) := by
  go_enter Try.func15, Try.ntmps15
  go_wp2_with fail
  refine (from_any w cv len hc).mono ?_
  rintro e w1 ⟨s, rfl, h1, b1, z1⟩
  have hc1 := codeAt_below hc b1
  have hw1 := Lib.hid z1
  clear z1
  go_wp2_with fail
  refine (drawBig_any w1 w.heap.size w.heap.size cv len 0 s h1 hc1 (Nat.le_refl _)).mono ?_
  rintro e w2 ⟨a, i2, s2, rfl, a0, a1, h2, b2⟩
  have hc2 := codeAt_below hc1 b2
  go_wp2_with fail
  refine (next_any w2 w.heap.size w.heap.size cv len i2 s2 8 h2 hc2 (Nat.le_refl _) (by omega)).mono ?_
  rintro e w3 ⟨v, i3, s3, rfl, v0, v1, h3, o3⟩
  have b3 := only_below o3 (Nat.le_refl _)
  have hc3 := codeAt_below hc2 b3
  have hbel := (b1.trans b2).trans b3
  clear o3
  by_cases hv : v = 0
  · subst hv
    have hlt := src_lt h3
    have hne : w.heap.size ≠ w3.heap.size := by omega
    have hcA := codeAt_below hc3 ((Below.refl w.heap.size w3).alloc (by omega) (.cells #[.int .i64 0, .int .i64 1, .int .i64 1000000000, .int .i64 1000000001] 2))
    have hhA := src_alloc h3 hlt (.cells #[.int .i64 0, .int .i64 1, .int .i64 1000000000, .int .i64 1000000001] 2)
    go_wp2_with fail
    go_region_with (go_at_call 39; (first | (with_reducible refine (next_any _ w.heap.size w.heap.size cv len i3 s3 4 (src_drew h3) (codeAt_drew hc3) (Nat.le_refl _) (by omega)).mono ?_) | (with_reducible refine (next_any _ w.heap.size w.heap.size cv len i3 s3 4 (src_drew hhA) (codeAt_drew hcA) (Nat.le_refl _) (by omega)).mono ?_)); rintro e w4 ⟨v, i4, s4, rfl, u0, u1, h4, o4⟩; obtain ⟨k, rfl⟩ := Int.eq_ofNat_of_zero_le u0; obtain ⟨x, hx, hk⟩ := cell_four 0 1 1000000000 1000000001 k (by omega); have hk4 : (k : Int) < 4 := (by omega); have hxx : I64 x := (by unfold I64; omega); have hmade := cell_made _ 2 k _ hk; (first | have hcell := cell_new (only_undrew o4) hne hk | skip); have hkl : [Value.int .i64 0, .int .i64 1, .int .i64 1000000000, .int .i64 1000000001][k]? = some (.int .i64 x) := (by simpa using hk); clear hx hk u1 hmade; (first | have hb4 : Below w.heap.size w3 w4 := only_below (only_undrew o4) (Nat.le_refl _) | have hb4 : Below w.heap.size w3 w4 := ((Below.refl w.heap.size w3).alloc (by omega) _).trans (only_below (only_undrew o4) (Nat.le_refl _))))
    all_goals go_wp2
    all_goals go_ret2
    all_goals first | exact ⟨a, _, rfl, ⟨a0, a1⟩, by assumption, hbel.trans (by assumption)⟩ | exact ⟨a, _, rfl, ⟨a0, a1⟩, by assumption, hbel.trans (Below.alloc (by assumption) (Nat.le_of_lt (src_lt (by assumption))) _)⟩
  · go_wp2_with fail
    refine (next_any w3 w.heap.size w.heap.size cv len i3 s3 60 h3 hc3 (Nat.le_refl _) (by omega)).mono ?_
    rintro e w4 ⟨u, i4, s4, rfl, u0, u1, h4, o4⟩
    have b4 := only_below o4 (Nat.le_refl _)
    have u2 : u < 60 := by omega
    clear o4
    go_wp2_with fail
    go_ret2
    exact ⟨a, _, rfl, ⟨a0, a1⟩, ⟨by omega, by omega⟩, hbel.trans b4⟩
set_option maxHeartbeats 1000000 in
theorem drawMulDiv_any (w : World) (cv : Value) (len : Nat) (hc : CodeAt w cv len w.heap.size) :
    Calls Try.prog 21 #[cv] w (ThreePost w) := by
  go_enter Try.func21, Try.ntmps21
  go_wp2_with fail
  refine (from_any w cv len hc).mono ?_
  rintro e w1 ⟨s, rfl, h1, b1, z1⟩
  have hc1 := codeAt_below hc b1
  have hw1 := Lib.hid z1
  clear z1
  go_wp2_with fail
  refine (drawFactor_any w1 w.heap.size w.heap.size cv len 0 s h1 hc1 (Nat.le_refl _)).mono ?_
  rintro e w1' ⟨a, i1', s1', rfl, a0, a1, h1', b1'⟩
  have hc1' := codeAt_below hc1 b1'
  go_wp2_with fail
  refine (drawFactor_any w1' w.heap.size w.heap.size cv len i1' s1' h1' hc1' (Nat.le_refl _)).mono ?_
  rintro e w2 ⟨c, i2, s2, rfl, d0, d1, h2, b2'⟩
  have b2 := b1'.trans b2'
  have hc2 := codeAt_below hc1 b2
  go_wp2_with fail
  refine (next_any w2 w.heap.size w.heap.size cv len i2 s2 8 h2 hc2 (Nat.le_refl _) (by omega)).mono ?_
  rintro e w3 ⟨v, i3, s3, rfl, v0, v1, h3, o3⟩
  have b3 := only_below o3 (Nat.le_refl _)
  have hc3 := codeAt_below hc2 b3
  have hbel := (b1.trans b2).trans b3
  clear o3
  by_cases hv : v = 0
  · subst hv
    have hlt := src_lt h3
    have hne : w.heap.size ≠ w3.heap.size := by omega
    have hcA := codeAt_below hc3 ((Below.refl w.heap.size w3).alloc (by omega) (.cells #[.int .i64 0, .int .i64 1, .int .i64 1000000000, .int .i64 1000000001] 2))
    have hhA := src_alloc h3 hlt (.cells #[.int .i64 0, .int .i64 1, .int .i64 1000000000, .int .i64 1000000001] 2)
    go_wp2_with fail
    go_region_with (go_at_call 39; (first | (with_reducible refine (next_any _ w.heap.size w.heap.size cv len i3 s3 4 (src_drew h3) (codeAt_drew hc3) (Nat.le_refl _) (by omega)).mono ?_) | (with_reducible refine (next_any _ w.heap.size w.heap.size cv len i3 s3 4 (src_drew hhA) (codeAt_drew hcA) (Nat.le_refl _) (by omega)).mono ?_)); rintro e w4 ⟨v, i4, s4, rfl, u0, u1, h4, o4⟩; obtain ⟨k, rfl⟩ := Int.eq_ofNat_of_zero_le u0; obtain ⟨x, hx, hk⟩ := cell_four 0 1 1000000000 1000000001 k (by omega); have hk4 : (k : Int) < 4 := (by omega); have hxx : I64 x := (by unfold I64; omega); have hmade := cell_made _ 2 k _ hk; (first | have hcell := cell_new (only_undrew o4) hne hk | skip); have hkl : [Value.int .i64 0, .int .i64 1, .int .i64 1000000000, .int .i64 1000000001][k]? = some (.int .i64 x) := (by simpa using hk); clear hx hk u1 hmade; (first | have hb4 : Below w.heap.size w3 w4 := only_below (only_undrew o4) (Nat.le_refl _) | have hb4 : Below w.heap.size w3 w4 := ((Below.refl w.heap.size w3).alloc (by omega) _).trans (only_below (only_undrew o4) (Nat.le_refl _))))
    all_goals go_wp2
    all_goals go_ret3
    all_goals first | exact ⟨a, c, _, rfl, ⟨a0, a1⟩, ⟨d0, d1⟩, by assumption, hbel.trans (by assumption)⟩ | exact ⟨a, c, _, rfl, ⟨a0, a1⟩, ⟨d0, d1⟩, by assumption, hbel.trans (Below.alloc (by assumption) (Nat.le_of_lt (src_lt (by assumption))) _)⟩
  · go_wp2_with fail
    refine (next_any w3 w.heap.size w.heap.size cv len i3 s3 60 h3 hc3 (Nat.le_refl _) (by omega)).mono ?_
    rintro e w4 ⟨u, i4, s4, rfl, u0, u1, h4, o4⟩
    have b4 := only_below o4 (Nat.le_refl _)
    have u2 : u < 60 := by omega
    clear o4
    go_wp2_with fail
    go_ret3
    exact ⟨a, c, _, rfl, ⟨a0, a1⟩, ⟨d0, d1⟩, ⟨by omega, by omega⟩, hbel.trans b4⟩

set_option maxHeartbeats 1000000 in
theorem drawSignedSquare_any (w : World) (cv : Value) (len : Nat) (hc : CodeAt w cv len w.heap.size) :
    Calls Try.prog 29 #[cv] w (OnePost w) := by
  go_enter Try.func29, Try.ntmps29
  go_wp2_with fail
  refine (from_any w cv len hc).mono ?_
  rintro e w1 ⟨s, rfl, h1, b1, z1⟩
  have hc1 := codeAt_below hc b1
  clear z1
  go_wp2_with fail
  refine (drawFactor_any w1 w.heap.size w.heap.size cv len 0 s h1 hc1 (Nat.le_refl _)).mono ?_
  rintro e w2 ⟨a, i2, s2, rfl, a0, a1, h2, b2⟩
  go_wp2_with fail
  go_ret
  exact ⟨a, rfl, ⟨a0, a1⟩, b1.trans b2⟩

theorem cell_six (a0 a1 a2 a3 a4 a5 : Int) (k : Nat) (hk : (k : Int) < 6) : ∃ x : Int, (x = a0 ∨ x = a1 ∨ x = a2 ∨ x = a3 ∨ x = a4 ∨ x = a5) ∧ (#[Value.int .i64 a0, .int .i64 a1, .int .i64 a2, .int .i64 a3, .int .i64 a4, .int .i64 a5] : Array Value)[k]? = some (.int .i64 x) := by
  rcases (by omega : k = 0 ∨ k = 1 ∨ k = 2 ∨ k = 3 ∨ k = 4 ∨ k = 5) with rfl | rfl | rfl | rfl | rfl | rfl
  · exact ⟨a0, .inl rfl, rfl⟩
  · exact ⟨a1, .inr (.inl rfl), rfl⟩
  · exact ⟨a2, .inr (.inr (.inl rfl)), rfl⟩
  · exact ⟨a3, .inr (.inr (.inr (.inl rfl))), rfl⟩
  · exact ⟨a4, .inr (.inr (.inr (.inr (.inl rfl)))), rfl⟩
  · exact ⟨a5, .inr (.inr (.inr (.inr (.inr rfl)))), rfl⟩

set_option maxHeartbeats 1000000 in
theorem drawRootOf_any (w : World) (cv : Value) (len : Nat) (hc : CodeAt w cv len w.heap.size) :
    Calls Try.prog 24 #[cv] w (OnePost w) := by
  go_enter Try.func24, Try.ntmps24
  go_wp2_with fail
  refine (from_any w cv len hc).mono ?_
  rintro e w1 ⟨s, rfl, h1, b1, z1⟩
  have hc1 := codeAt_below hc b1
  clear z1
  go_wp2_with fail
  refine (next_any w1 w.heap.size w.heap.size cv len 0 s 2000 h1 hc1 (Nat.le_refl _) (by omega)).mono ?_
  rintro e w3 ⟨r, i3, s3, rfl, v0, v1, h3, o3⟩
  have b3 := only_below o3 (Nat.le_refl _)
  have hc3 := codeAt_below hc1 b3
  have hbel := b1.trans b3
  have r2 : r < 2000 := by omega
  clear o3 v1
  have hlt := src_lt h3
  have hne : w.heap.size ≠ w3.heap.size := by omega
  have hrr : 0 ≤ r * r ∧ r * r ≤ 4000000 := ⟨Int.mul_nonneg v0 v0, by
    have := Int.mul_le_mul (show r ≤ 2000 by omega) (show r ≤ 2000 by omega) v0 (by omega); omega⟩
  go_wp2_with fail
  refine (next_any _ w.heap.size w.heap.size cv len i3 s3 6 (src_alloc h3 hlt _) (codeAt_below hc3 ((Below.refl _ _).alloc (by omega) _)) (Nat.le_refl _) (by omega)).mono ?_
  rintro e w4 ⟨v, i4, s4, rfl, u0, u1, h4, o4⟩
  obtain ⟨k, rfl⟩ := Int.eq_ofNat_of_zero_le u0
  have hk : (k : Int) < 6 := by omega
  have hcell : ∃ x : Int, I64 x ∧ w4.cell? ⟨w3.heap.size, k, none⟩ = some (.int .i64 x) := by
    obtain ⟨x, hx, hk⟩ := cell_six _ _ _ _ _ _ k hk
    exact ⟨x, by unfold I64; omega, cell_new o4 hne hk⟩
  obtain ⟨x, x0, hx⟩ := hcell
  have hb4 : Below w.heap.size w3 w4 := ((Below.refl w.heap.size w3).alloc (by omega) _).trans (only_below o4 (Nat.le_refl _))
  clear o4 u1
  go_wp2_with fail
  go_ret
  exact ⟨x, rfl, x0, hbel.trans hb4⟩
end Go.Proofs.Ythijndeppniaoaa.draw
