/-
  The draws of chapter 9's laws. Condition: the code lies in memory.
-/
import Derived.Test.YtpgindeoiibgpaaRdr
namespace Go.Proofs.Ytpgindeoiibgpaa.draw
open Go.RowKit
set_option linter.unusedVariables false
set_option maxRecDepth 100000

theorem codeUp {W w : World} {cv : Value} {len : Nat} (h : Below W.heap.size W w) (hc : CodeAt w cv len W.heap.size) : CodeAt w cv len w.heap.size := by
  rcases hc with h1 | ⟨cb, co, cap, h1, h2, h3, h4⟩
  · exact .inl h1
  · exact .inr ⟨cb, co, cap, h1, Nat.lt_of_lt_of_le h2 h.size, h3, h4⟩
/-- a list and a number have been drawn -/
def PairIn (w : World) (lo hi : Int) (e : Ending) (w' : World) : Prop :=
  ∃ (v : Value) (f : Int) (n : Nat) (d : Nat → Int) (g : Nat), e = .returned (.tuple #[v, .int .i64 f]) ∧ n ≤ 9 ∧ mem.Res w' v n d g ∧ w.heap.size ≤ g ∧ lo ≤ f ∧ f ≤ hi ∧ Below w.heap.size w w'

set_option maxHeartbeats 4000000 in
theorem dropDraw (w : World) (cv : Value) (len : Nat) (hc : CodeAt w cv len w.heap.size) : Calls Try.prog 13 #[cv] w (PairIn w (-1) 30001) := by
  have HC := Lib.hid hc
  go_enter Try.func13, Try.ntmps13
  go_wp2_with fail
  refine (from_any w cv len hc).mono ?_
  rintro e w1 ⟨s1, rfl, hS1, B1, z1⟩
  clear hc
  obtain ⟨b, hbe⟩ : ∃ b, b = w.heap.size := ⟨_, rfl⟩
  rw [← hbe] at hS1 z1 ⊢
  replace hbe := Nat.le_antisymm_iff.1 hbe
  replace z1 := Nat.le_antisymm_iff.1 z1
  go_wp2_with fail
  refine (l09Draw_any w1 b w.heap.size cv len 0 s1 hS1 (codeAt_below HC.out B1) (by omega) (by omega)).mono ?_
  rintro e w2 ⟨v, n, d, g, i2, s2, rfl, hn, R2, lg, S2, U2⟩
  have B2 := B1.trans (U2.below (B := w.heap.size) (by omega) (by omega))
  have hz := U2.size
  obtain ⟨p, c, rfl⟩ := R2.shape
  clear U2 hS1 B1
  go_wp2_with fail
  refine (l09DrawFlow_any w2 b w.heap.size cv len i2 s2 S2 (codeAt_below HC.out B2) (by omega)).mono ?_
  rintro e w3 ⟨f, i3, s3, rfl, f0, f1, S3, U3⟩
  have B3 := Lib.hid (B2.trans (U3.below (B := w.heap.size) (by omega) (by omega)))
  have R3 := Lib.hid (R2.upb U3 (by omega))
  clear U3 B2 R2 S3 S2
  go_wp2_with fail
  go_ret2
  exact ⟨_, f, n, d, g, rfl, hn, R3.out, by omega, f0, f1, B3.out⟩

set_option maxHeartbeats 4000000 in
theorem parDraw (w : World) (cv : Value) (len : Nat) (hc : CodeAt w cv len w.heap.size) : Calls Try.prog 26 #[cv] w (PairIn w (-1) 1000000000000000001) := by
  have HC := Lib.hid hc
  go_enter Try.func26, Try.ntmps26
  go_wp2_with fail
  refine (from_any w cv len hc).mono ?_
  rintro e w1 ⟨s1, rfl, hS1, B1, z1⟩
  clear hc
  obtain ⟨b, hbe⟩ : ∃ b, b = w.heap.size := ⟨_, rfl⟩
  rw [← hbe] at hS1 z1 ⊢
  replace hbe := Nat.le_antisymm_iff.1 hbe
  replace z1 := Nat.le_antisymm_iff.1 z1
  go_wp2_with fail
  refine (l09Draw_any w1 b w.heap.size cv len 0 s1 hS1 (codeAt_below HC.out B1) (by omega) (by omega)).mono ?_
  rintro e w2 ⟨v, n, d, g, i2, s2, rfl, hn, R2, lg, S2, U2⟩
  have B2 := B1.trans (U2.below (B := w.heap.size) (by omega) (by omega))
  have hz := U2.size
  obtain ⟨p, c, rfl⟩ := R2.shape
  clear U2 hS1 B1
  go_wp2_with fail
  refine (l09DrawDrop_any w2 b w.heap.size cv len i2 s2 S2 (codeAt_below HC.out B2) (by omega)).mono ?_
  rintro e w3 ⟨f, i3, s3, rfl, f0, f1, S3, U3⟩
  have B3 := Lib.hid (B2.trans (U3.below (B := w.heap.size) (by omega) (by omega)))
  have R3 := Lib.hid (R2.upb U3 (by omega))
  clear U3 B2 R2 S3 S2
  go_wp2_with fail
  go_ret2
  exact ⟨_, f, n, d, g, rfl, hn, R3.out, by omega, f0, f1, B3.out⟩

set_option maxHeartbeats 4000000 in
theorem splitDraw (w : World) (cv : Value) (len : Nat) (hc : CodeAt w cv len w.heap.size) : Calls Try.prog 17 #[cv] w (PairIn w (-1) 30001) := by
  have HC := Lib.hid hc
  clear hc
  go_enter Try.func17, Try.ntmps17
  go_wp2_with fail
  refine (dropDraw w cv len HC.out).mono ?_
  rintro e w1 ⟨v, f, n, d, g, rfl, hn, R, lg, f0, f1, B⟩
  obtain ⟨p, c, rfl⟩ := R.shape
  have HR := Lib.hid R
  have HB := Lib.hid B
  clear R B
  go_wp2_with fail
  go_ret2
  exact ⟨_, f, n, d, g, rfl, hn, HR.out, lg, f0, f1, HB.out⟩
/-- a flow and a drop have been drawn -/
def BestIn (w : World) (e : Ending) (w' : World) : Prop :=
  ∃ f x : Int, e = .returned (.tuple #[.int .i64 f, .int .i64 x]) ∧ -1 ≤ f ∧ f ≤ 30001 ∧ -1 ≤ x ∧ x ≤ 1000000000000000001 ∧ Below w.heap.size w w'
theorem sq_bd {f : Int} (h0 : -1 ≤ f) (h1 : f ≤ 30001) : 0 ≤ f * f ∧ f * f ≤ 900060001 := by
  rcases Int.lt_or_le f 0 with h | h
  · obtain rfl : f = -1 := by omega
    omega
  · have a := Int.mul_nonneg h h
    have b : f * f ≤ 30001 * 30001 := Int.mul_le_mul h1 h1 h (by omega)
    omega
set_option maxHeartbeats 4000000 in
theorem bestDraw (w : World) (cv : Value) (len : Nat) (hc : CodeAt w cv len w.heap.size) : Calls Try.prog 23 #[cv] w (BestIn w) := by
  have HC := Lib.hid hc
  go_enter Try.func23, Try.ntmps23
  go_wp2_with fail
  refine (from_any w cv len hc).mono ?_
  rintro e w1 ⟨s1, rfl, hS1, B1, z1⟩
  clear hc
  obtain ⟨b, hbe⟩ : ∃ b, b = w.heap.size := ⟨_, rfl⟩
  rw [← hbe] at hS1 z1 ⊢
  replace hbe := Nat.le_antisymm_iff.1 hbe
  replace z1 := Nat.le_antisymm_iff.1 z1
  go_wp2_with fail
  refine (l09DrawFlow_any w1 b w.heap.size cv len 0 s1 hS1 (codeAt_below HC.out B1) (by omega)).mono ?_
  rintro e w2 ⟨f, i2, s2, rfl, f0, f1, S2, U2⟩
  have B2 := B1.trans (U2.below (B := w.heap.size) (by omega) (by omega))
  have hz := U2.size
  clear U2 hS1 B1
  go_wp2_with fail
  refine (next_any w2 b w.heap.size cv len i2 s2 2 S2 (codeAt_below HC.out B2) (by omega) (by omega)).mono ?_
  rintro e w3 ⟨q, i3, s3, rfl, q0, q1, S3, o3⟩
  have B3 := B2.trans (only_below o3 (by omega))
  have hz3 := o3.size
  clear o3 B2 S2
  by_cases hq : q = 0
  · have hqb : (q == 0) = true := by simpa using hq
    go_wp2_with fail
    refine (l09DrawDrop_any w3 b w.heap.size cv len i3 s3 S3 (codeAt_below HC.out B3) (by omega)).mono ?_
    rintro e w4 ⟨x, i4, s4, rfl, x0, x1, S4, U4⟩
    have B4 := Lib.hid (B3.trans (U4.below (B := w.heap.size) (by omega) (by omega)))
    clear U4 B3 S3 S4
    go_wp2_with fail
    go_ret2
    exact ⟨f, x, rfl, f0, f1, x0, x1, B4.out⟩
  · have hqb : (q == 0) = false := by simpa using hq
    obtain ⟨a0, a1⟩ := sq_bd f0 f1
    have e1 : IntKind.i64.wrap (f * f) = f * f := IntWalk.i64_in _ (by omega)
    go_wp2_with fail
    refine (next_any w3 b w.heap.size cv len i3 s3 20 S3 (codeAt_below HC.out B3) (by omega) (by omega)).mono ?_
    rintro e w4 ⟨y, i4, s4, rfl, y0, y1, S4, o4⟩
    have B4 := Lib.hid (B3.trans (only_below o4 (by omega)))
    have b0 := Int.mul_nonneg a0 (show 0 ≤ 1 + y by omega)
    have b1 : f * f * (1 + y) ≤ 900060001 * 20 := Int.mul_le_mul a1 (by omega) (by omega) (by omega)
    have e2 : IntKind.i64.wrap (1 + y) = 1 + y := IntWalk.i64_in _ (by omega)
    have e3 : IntKind.i64.wrap (f * f * (1 + y)) = f * f * (1 + y) := IntWalk.i64_in _ (by omega)
    clear o4 B3 S3 S4
    go_wp2_with fail
    go_ret2
    exact ⟨f, _, rfl, f0, f1, by omega, by omega, B4.out⟩
end Go.Proofs.Ytpgindeoiibgpaa.draw
