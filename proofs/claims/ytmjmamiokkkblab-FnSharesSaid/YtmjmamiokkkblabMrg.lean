/-
  The contract of the library's merge of two sorted parts of a row, where the left part is one element. Conditions: the parts lie within the row.
-/
import Derived.Test.YtmjmamiokkkblabRows
import Derived.Test.YtmjmamiokkkblabSortMath2
import Derived.Test.YtmjmamiokkkblabIns
import Derived.WalkKit
import Derived.ProofKit
import Derived.Lib.Hide
import Derived.RegionTactic
import Derived.BigRegion
import Derived.Deep.QuietTactic
import Derived.BigQuiet
namespace Go.Proofs.Ytmjmamiokkkblab.sort
open Go.RowKit Go.Proofs.Ytmjmamiokkkblab.mem
set_option linter.unusedVariables false

/-- what a merge is handed -/
structure Hand (w : World) (blk n cb rb N capr : Nat) (rem c : Nat → Int) (a m b : Nat) : Prop where
  row : Row w blk n c
  rems : Rems w cb rb N capr rem
  n1 : cb ≠ blk
  n2 : rb ≠ blk
  am : a < m
  mb : m < b
  bn : b ≤ n
  nb : n ≤ 1000
  nn : N = n
  pre : Pre rem c a m b
  vals : Vals c a b 0 N

def FindL (w : World) (blk n : Nat) (rem c : Nat → Int) (a m b : Nat) (i j : Value) (wr : World) : Prop :=
  ∃ (x y : Nat), i = .int .i64 x ∧ j = .int .i64 y ∧ m ≤ x ∧ x ≤ y ∧ y ≤ b ∧ Row wr blk n c ∧ Only blk w wr ∧ (m < x → lt rem (c (x - 1)) (c a)) ∧ (y < b → lt rem (c a) (c y))

theorem one_left' {rem c : Nat → Int} {a m b i : Nat} (hm : m = a + 1) (h : Pre rem c a m b) (h1 : m ≤ i) (h2 : i ≤ b) (g1 : m < i → lt rem (c (i - 1)) (c a)) (g2 : i < b → lt rem (c a) (c i)) : Sorted rem (rotR c a m i) a b := by
  subst hm; exact one_left h h1 h2 g1 g2
theorem rot_up' (c : Nat → Int) (a m k : Nat) (hm : m = a + 1) (h : a ≤ k) : swap (rotR c a m (k + 1)) k (k + 1) = rotR c a m (k + 1 + 1) := by
  subst hm; exact rot_up c a k h
set_option maxRecDepth 100000 in
set_option maxHeartbeats 2000000 in
theorem merge_left (w : World) (blk n cap cb rb N capr : Nat) (rem c : Nat → Int) (a m b : Nat) (h : Hand w blk n cb rb N capr rem c a m b) (hm : m = a + 1) :
    Calls Try.prog 32 #[.slice (some ⟨blk, 0, none⟩) n cap, .int .i64 a, .int .i64 m, .int .i64 b, less cb] w (SortPost w blk n rem c a b) := by
  obtain ⟨hr, hms, n1, n2, am, mb, bn, nb, nn, hp, hv⟩ := h
  have HR := Lib.hid hr
  have HM := Lib.hid hms
  have HP := Lib.hid hp
  have HV := Lib.hid hv
  have HN := Lib.hid nn
  have hone : ((m : Int) - a == 1) = true := by rw [beq_iff_eq]; omega
  have HMM := Lib.hid hm
  have hma : m ≤ a + 1 := by omega
  have hma2 : a + 1 ≤ m := by omega
  clear hr hms hp hv nn hm
  go_enter Try.func32, Try.ntmps32
  go_wp2_with fail
  go_loopw [10, 11] (fun i j wr => FindL w blk n rem c a m b i j wr) (fun i j _ => (intOf j - intOf i).toNat)
  case atStart => exact ⟨m, b, rfl, rfl, Nat.le_refl _, by omega, Nat.le_refl _, HR.out, Only.refl _ _, fun h => by omega, fun h => by omega⟩
  case round =>
    obtain ⟨x, y, rfl, rfl, x1, x2, x3, hrow, honly, g1, g2⟩ := hrel
    have G1 := Lib.hid g1
    have G2 := Lib.hid g2
    have HRW := Lib.hid hrow
    have HOW := Lib.hid honly
    have HMW := Lib.hid (HM.out.only honly n1 n2)
    clear g1 g2 hrow honly
    by_cases hlt : x < y
    · obtain ⟨z, hz⟩ : ∃ z : Nat, z = (x + y) / 2 := ⟨_, rfl⟩
      have z1 : x ≤ z := by omega
      have z2 : z < y := by omega
      have hz' : ((x : Int) + y) / 2 = (z : Int) := by omega
      have cz := HRW.out.cell z (by omega)
      have ca := HRW.out.cell a (by omega)
      have vz := HV.out z (by omega) (by omega)
      have va := HV.out a (by omega) (by omega)
      have hlk : c a < c z := HP.out.sep a z (Nat.le_refl _) (by omega) (by omega) (by omega)
      have hzn : (z : Int) < (n : Int) := by omega
      have han : (a : Int) < (n : Int) := by omega
      have hzn' : z < n := by omega
      have han' : a < n := by omega
      clear hz
      by_cases hc : cmpV (rem (c a).toNat) (rem (c z).toNat) < 0
      · have HL := Lib.hid (cmp_yes hlk hc)
        go_wp2_with fail
        go_quiet ((go_at_call 27; exact Calls.quiet_of (less_int _ cb rb N capr rem _ _ (HMW.out.drewN _) vz va (by have := HN.out; omega))))
        go_wp2_with fail
        go_roundw
        case rel => exact ⟨z + 1, y, by go_num, rfl, by omega, by omega, x3, HRW.out.drewN _, HOW.out.drewN _, fun _ => by rw [Nat.add_sub_cancel]; exact HL.out, G2.out⟩
        case measure => simp [intOf]; omega
      · have HL := Lib.hid (cmp_no hlk hc)
        go_wp2_with fail
        go_quiet ((go_at_call 27; exact Calls.quiet_of (less_int _ cb rb N capr rem _ _ (HMW.out.drewN _) vz va (by have := HN.out; omega))))
        go_wp2_with fail
        go_roundw
        case rel => exact ⟨x, z, rfl, rfl, x1, z1, by omega, HRW.out.drewN _, HOW.out.drewN _, G1.out, fun _ => HL.out⟩
        case measure => simp [intOf]; omega
    · obtain rfl : x = y := by omega
      have HF := Lib.hid (one_left' HMM.out HP.out x1 x3 G1.out G2.out)
      have HS := Lib.hid (Same.rot c a m x a b (Nat.le_refl _) (by omega) x1 x3)
      go_wp2_with fail
      go_loopw [13] (fun k wr => ∃ z : Nat, k = .int .i64 z ∧ a ≤ z ∧ z + 1 ≤ x ∧ Row wr blk n (rotR c a m (z + 1)) ∧ Only blk w wr) (fun k _ => x - (intOf k).toNat)
      case atStart => exact ⟨a, rfl, Nat.le_refl _, by omega, by rw [← HMM.out, rot_triv c (.inr rfl)]; exact HRW.out, HOW.out⟩
      case round =>
        obtain ⟨z, rfl, k1, k2, hrow, honly⟩ := hrel
        have HW := Lib.hid hrow
        have HO := Lib.hid honly
        by_cases hk : z + 1 < x
        · have c1 := hrow.cell z (by omega)
          have c2 := hrow.cell (z + 1) (by omega)
          have f1 := hrow.free z (by omega)
          have f2 := hrow.free (z + 1) (by omega)
          have hne : z ≠ z + 1 := by omega
          clear hrow honly
          go_wp2_with fail
          go_region
          go_wp2
          go_roundw
          case rel =>
            have hs := ((HW.out.set z (rotR c a m (z + 1) (z + 1)) (by omega)).set (z + 1) (rotR c a m (z + 1) z) (by omega)).drew
            rw [swap_upd _ _ _ hne, rot_up' c a m z HMM.out k1] at hs
            exact ⟨z + 1, by go_num, by omega, by omega, hs, ((HO.out.setCell _ _).setCell _ _).drew⟩
          case measure => simp [intOf]; omega
        · have e : z + 1 = x := by omega
          clear hrow honly
          have HE := Lib.hid e
          clear e
          go_wp2_with fail
          go_end0
          have hw := HW.out
          rw [HE.out] at hw
          exact ⟨_, rfl, hw, HO.out, HF.out, HS.out⟩
end Go.Proofs.Ytmjmamiokkkblab.sort
