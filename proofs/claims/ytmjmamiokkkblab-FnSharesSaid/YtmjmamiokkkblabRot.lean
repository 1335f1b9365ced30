/-
  Contracts of the library's swapRange and rotate over a row of integers: which cell holds what behind the call. Conditions: the ranges lie within the row.
-/
import Derived.Test.YtmjmamiokkkblabRows
import Derived.Test.YtmjmamiokkkblabMem
import Derived.WalkKit
import Derived.ProofKit
import Derived.Lib.Hide
import Derived.RegionTactic
import Derived.BigRegion
namespace Go.Proofs.Ytmjmamiokkkblab.sort
open Go.RowKit Go.Proofs.Ytmjmamiokkkblab.mem
set_option linter.unusedVariables false

def swapR (d : Nat → Int) (a b m : Nat) : Nat → Int := fun k =>
  if a ≤ k ∧ k < a + m then d (k + (b - a)) else if b ≤ k ∧ k < b + m then d (k - (b - a)) else d k
theorem swapR_step (d : Nat → Int) (a b m i : Nat) (h : a + m ≤ b) (hi : i < m) : swap (swapR d a b i) (a + i) (b + i) = swapR d a b (i + 1) := by
  funext k
  unfold swap swapR
  repeat' split
  all_goals first | rfl | (exfalso; omega) | (congr 1; omega)
theorem swap_upd (d : Nat → Int) (i j : Nat) (h : i ≠ j) : upd (upd d i (d j)) j (d i) = swap d i j := by
  funext k
  unfold upd swap
  repeat' split
  all_goals first | rfl | (exfalso; omega)
theorem swap_upd' (d : Nat → Int) (i j : Nat) (h : i ≠ j) : upd (upd d j (d i)) i (d j) = swap d i j := by
  funext k
  unfold upd swap
  repeat' split
  all_goals first | rfl | (exfalso; omega)

def RowPost (w : World) (blk n : Nat) (d : Nat → Int) (e : Ending) (w' : World) : Prop := e = .returned (.tuple #[]) ∧ Row w' blk n d ∧ Only blk w w'

set_option maxHeartbeats 1000000 in
theorem swapRange_any (w : World) (blk n cap : Nat) (d : Nat → Int) (a b m : Nat) (f : Value) (hr : Row w blk n d) (h1 : a + m ≤ b) (h2 : b + m ≤ n) (hn : n ≤ 1000000) :
    Calls Try.prog 34 #[.slice (some ⟨blk, 0, none⟩) n cap, .int .i64 a, .int .i64 b, .int .i64 m, f] w (RowPost w blk n (swapR d a b m)) := by
  have HR := Lib.hid hr
  clear hr
  go_enter Try.func34, Try.ntmps34
  go_wp2_with fail
  go_loopw [10] (fun i wr => ∃ k : Nat, i = .int .i64 k ∧ k ≤ m ∧ Row wr blk n (swapR d a b k) ∧ Only blk w wr) (fun i _ => m - (intOf i).toNat)
  case atStart => exact ⟨0, rfl, Nat.zero_le _, HR.out.congr (fun k hk => by unfold swapR; rw [if_neg (by omega), if_neg (by omega)]), Only.refl _ _⟩
  case round =>
    obtain ⟨k, rfl, hk, hrow, honly⟩ := hrel
    have HW := Lib.hid hrow
    have HO := Lib.hid honly
    by_cases hlt : k < m
    · have ca := hrow.cell (a + k) (by omega)
      have cb := hrow.cell (b + k) (by omega)
      have fa := hrow.free (a + k) (by omega)
      have fb := hrow.free (b + k) (by omega)
      have hne : a + k ≠ b + k := by omega
      clear hrow honly
      go_wp2_with fail
      go_region
      go_wp2
      go_roundw
      case rel =>
        have hs := ((HW.out.set (a + k) (swapR d a b k (b + k)) (by omega)).set (b + k) (swapR d a b k (a + k)) (by omega)).drew
        rw [swap_upd _ _ _ hne, swapR_step d a b m k h1 hlt] at hs
        exact ⟨k + 1, by go_num, hlt, hs, ((HO.out.setCell _ _).setCell _ _).drew⟩
      case measure => simp [intOf]; omega
    · clear hrow honly
      obtain rfl : k = m := by omega
      go_wp2_with fail
      go_end0
      exact ⟨rfl, HW.out, HO.out⟩

theorem swapRange_int (w : World) (blk n cap : Nat) (d : Nat → Int) (A B M : Int) (a b m : Nat) (f : Value) (hr : Row w blk n d) (ha : A = a) (hb : B = b) (hm : M = m) (h1 : a + m ≤ b) (h2 : b + m ≤ n) (hn : n ≤ 1000000) :
    Calls Try.prog 34 #[.slice (some ⟨blk, 0, none⟩) n cap, .int .i64 A, .int .i64 B, .int .i64 M, f] w (RowPost w blk n (swapR d a b m)) := by
  subst ha hb hm
  exact swapRange_any w blk n cap d a b m f hr h1 h2 hn

/-- the blocks [a, m) and [m, b) exchanged -/
def rotR (d : Nat → Int) (a m b : Nat) : Nat → Int := fun k =>
  if a ≤ k ∧ k < a + (b - m) then d (k + (m - a)) else if a + (b - m) ≤ k ∧ k < b then d (k - (b - m)) else d k
theorem rot_eq (d : Nat → Int) (m i : Nat) (h : i ≤ m) : swapR d (m - i) m i = rotR d (m - i) m (m + i) := by
  funext k
  simp only [swapR, rotR]
  repeat' split
  all_goals first | rfl | (exfalso; omega) | (congr 1; omega)
theorem rot_left (d : Nat → Int) (m i j : Nat) (h : i ≤ m) (hij : j < i) : rotR (swapR d (m - i) m j) (m - (i - j)) m (m + j) = rotR d (m - i) m (m + j) := by
  funext k
  simp only [swapR, rotR]
  repeat' split
  all_goals first | rfl | (exfalso; omega) | (congr 1; omega)
theorem rot_right (d : Nat → Int) (m i j : Nat) (h : i ≤ m) (hij : i < j) : rotR (swapR d (m - i) (m + j - i) i) (m - i) m (m + (j - i)) = rotR d (m - i) m (m + j) := by
  funext k
  simp only [swapR, rotR]
  repeat' split
  all_goals first | rfl | (exfalso; omega) | (congr 1; omega)

set_option maxHeartbeats 1000000 in
theorem rotate_any (w : World) (blk n cap : Nat) (d : Nat → Int) (a m b : Nat) (f : Value) (hr : Row w blk n d) (h1 : a < m) (h2 : m < b) (h3 : b ≤ n) (hn : n ≤ 1000000) :
    Calls Try.prog 33 #[.slice (some ⟨blk, 0, none⟩) n cap, .int .i64 a, .int .i64 m, .int .i64 b, f] w (RowPost w blk n (rotR d a m b)) := by
  have HR := Lib.hid hr
  clear hr
  go_enter Try.func33, Try.ntmps33
  go_wp2_with fail
  go_loopw [10, 11] (fun x y wr => ∃ (i j : Nat) (c : Nat → Int), x = .int .i64 i ∧ y = .int .i64 j ∧ 0 < i ∧ 0 < j ∧ i ≤ m - a ∧ j ≤ b - m ∧ rotR c (m - i) m (m + j) = rotR d a m b ∧ Row wr blk n c ∧ Only blk w wr) (fun x y _ => (intOf x + intOf y).toNat)
  case atStart => exact ⟨m - a, b - m, d, by congr 1; omega, by congr 1; omega, by omega, by omega, by omega, by omega, by rw [show m - (m - a) = a by omega, show m + (b - m) = b by omega], HR.out, Only.refl _ _⟩
  case round =>
    obtain ⟨i, j, c, rfl, rfl, i0, j0, i1, j1, hc, hrow, honly⟩ := hrel
    have HC := Lib.hid hc
    have HW := Lib.hid hrow
    have HO := Lib.hid honly
    clear hc hrow honly
    by_cases heq : (i : Int) = j
    · obtain rfl : i = j := by omega
      have hb : ((i : Int) == i) = true := by simp
      go_wp2_with fail
      refine (swapRange_int wr blk n cap c _ _ _ (m - i) m i f HW.out (by omega) rfl rfl (by omega) (by omega) hn).mono ?_
      rintro e w2 ⟨rfl, r2, o2⟩
      rw [rot_eq c m i (by omega), HC.out] at r2
      go_wp2_with fail
      go_end0
      exact ⟨rfl, r2, HO.out.trans o2⟩
    · have hb : ((i : Int) == j) = false := beq_eq_false_iff_ne.2 heq
      by_cases hij : (j : Int) < i
      · go_wp2_with fail
        refine (swapRange_int wr blk n cap c _ _ _ (m - i) m j f HW.out (by omega) rfl rfl (by omega) (by omega) hn).mono ?_
        rintro e w2 ⟨rfl, r2, o2⟩
        have hrl := rot_left c m i j (by omega) (by omega)
        have HL := Lib.hid (hrl.trans HC.out)
        have R2 := Lib.hid r2
        have O2 := Lib.hid o2
        clear hrl r2 o2
        go_wp2_with fail
        go_roundw
        case rel => exact ⟨i - j, j, _, by congr 1; omega, rfl, by omega, by omega, by omega, by omega, HL.out, R2.out, HO.out.trans O2.out⟩
        case measure => simp [intOf]; omega
      · go_wp2_with fail
        refine (swapRange_int wr blk n cap c _ _ _ (m - i) (m + j - i) i f HW.out (by omega) (by omega) rfl (by omega) (by omega) hn).mono ?_
        rintro e w2 ⟨rfl, r2, o2⟩
        have hrl := rot_right c m i j (by omega) (by omega)
        have HL := Lib.hid (hrl.trans HC.out)
        have R2 := Lib.hid r2
        have O2 := Lib.hid o2
        clear hrl r2 o2
        go_wp2_with fail
        go_roundw
        case rel => exact ⟨i, j - i, _, rfl, by congr 1; omega, by omega, by omega, by omega, by omega, HL.out, R2.out, HO.out.trans O2.out⟩
        case measure => simp [intOf]; omega
theorem rotate_int (w : World) (blk n cap : Nat) (d : Nat → Int) (A M B : Int) (a m b : Nat) (f : Value) (hr : Row w blk n d) (ha : A = a) (hm : M = m) (hb : B = b) (h1 : a < m) (h2 : m < b) (h3 : b ≤ n) (hn : n ≤ 1000000) :
    Calls Try.prog 33 #[.slice (some ⟨blk, 0, none⟩) n cap, .int .i64 A, .int .i64 M, .int .i64 B, f] w (RowPost w blk n (rotR d a m b)) := by
  subst ha hb hm
  exact rotate_any w blk n cap d a m b f hr h1 h2 h3 hn
end Go.Proofs.Ytmjmamiokkkblab.sort
