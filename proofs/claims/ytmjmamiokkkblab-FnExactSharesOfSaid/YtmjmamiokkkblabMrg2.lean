/-
  The contract of the library's merge of two sorted parts of a row, where the right part is one element. Conditions: the parts lie within the row.
-/
import Derived.Test.YtmjmamiokkkblabRows
import Derived.Test.YtmjmamiokkkblabSortMath2
import Derived.Test.YtmjmamiokkkblabIns
import Derived.Test.YtmjmamiokkkblabMrg
import Derived.WalkKit
import Derived.ProofKit
import Derived.Lib.Hide
import Derived.RegionTactic
import Derived.BigRegion
import Derived.Deep.QuietTactic
import Derived.BigQuiet
namespace Go.Proofs.Ytmjmamiokkkblab.sort
open Go.RowKit Go.Proofs.Ytmjmamiokkkblab.mem
set_option linter.unusedVariables false

def FindR (w : World) (blk n : Nat) (rem c : Nat → Int) (a m b : Nat) (i j : Value) (wr : World) : Prop :=
  ∃ (x y : Nat), i = .int .i64 x ∧ j = .int .i64 y ∧ a ≤ x ∧ x ≤ y ∧ y ≤ m ∧ Row wr blk n c ∧ Only blk w wr ∧ (a < x → lt rem (c (x - 1)) (c m)) ∧ (y < m → lt rem (c m) (c y))
theorem one_right' {rem c : Nat → Int} {a m b i : Nat} (hm : b = m + 1) (h : Pre rem c a m b) (h1 : a ≤ i) (h2 : i ≤ m) (g1 : a < i → lt rem (c (i - 1)) (c m)) (g2 : i < m → lt rem (c m) (c i)) : Sorted rem (rotR c i m b) a b := by
  subst hm; exact one_right h h1 h2 g1 g2
theorem rot_down' (c : Nat → Int) (m k b : Nat) (hm : b = m + 1) (h : k ≤ m) (hk : 0 < k) : swap (rotR c k m b) k (k - 1) = rotR c (k - 1) m b := by
  subst hm; exact rot_down c m k h hk

set_option maxRecDepth 100000 in
set_option maxHeartbeats 2000000 in
theorem merge_right (w : World) (blk n cap cb rb N capr : Nat) (rem c : Nat → Int) (a m b : Nat) (h : Hand w blk n cb rb N capr rem c a m b) (hna : ¬ m = a + 1) (hm : b = m + 1) :
    Calls Try.prog 32 #[.slice (some ⟨blk, 0, none⟩) n cap, .int .i64 a, .int .i64 m, .int .i64 b, less cb] w (SortPost w blk n rem c a b) := by
  obtain ⟨hr, hms, n1, n2, am, mb, bn, nb, nn, hp, hv⟩ := h
  have HR := Lib.hid hr
  have HM := Lib.hid hms
  have HP := Lib.hid hp
  have HV := Lib.hid hv
  have HN := Lib.hid nn
  have hone : ((m : Int) - a == 1) = false := by rw [beq_eq_false_iff_ne]; omega
  have hone2 : ((b : Int) - m == 1) = true := by rw [beq_iff_eq]; omega
  have HMM := Lib.hid hm
  have hma : b ≤ m + 1 := by omega
  have hma2 : m + 1 ≤ b := by omega
  clear hr hms hp hv nn hm hna
  go_enter Try.func32, Try.ntmps32
  go_wp2_with fail
  go_loopw [14, 15] (fun i j wr => FindR w blk n rem c a m b i j wr) (fun i j _ => (intOf j - intOf i).toNat)
  case atStart => exact ⟨a, m, rfl, rfl, Nat.le_refl _, by omega, Nat.le_refl _, HR.out, Only.refl _ _, fun h => by omega, fun h => by omega⟩
  case round =>
    obtain ⟨x, y, rfl, rfl, x1, x2, x3, hrow, honly, g1, g2⟩ := hrel
    have G1 := Lib.hid g1
    have G2 := Lib.hid g2
    have HRW := Lib.hid hrow
    have HOW := Lib.hid honly
    have HMW := Lib.hid (HM.out.only honly n1 n2)
    clear g1 g2 hrow honly
    by_cases hlt : x < y
    · obtain ⟨z, hz⟩ : ∃ z : Nat, z = (x + y) / 2 := ⟨_, rfl⟩
      have z1 : x ≤ z := by omega
      have z2 : z < y := by omega
      have hz' : ((x : Int) + y) / 2 = (z : Int) := by omega
      have cz := HRW.out.cell z (by omega)
      have ca := HRW.out.cell m (by omega)
      have vz := HV.out z (by omega) (by omega)
      have va := HV.out m (by omega) (by omega)
      have hlk : c z < c m := HP.out.sep z m (by omega) (by omega) (Nat.le_refl _) (by omega)
      have hzn : (z : Int) < (n : Int) := by omega
      have han : (m : Int) < (n : Int) := by omega
      have hzn' : z < n := by omega
      have han' : m < n := by omega
      clear hz
      by_cases hc : cmpV (rem (c z).toNat) (rem (c m).toNat) < 0
      · have HL := Lib.hid (cmp_yes hlk hc)
        go_wp2_with fail
        go_quiet ((go_at_call 27; exact Calls.quiet_of (less_int _ cb rb N capr rem _ _ (HMW.out.drewN _) va vz (by have := HN.out; omega))))
        go_wp2_with fail
        go_roundw
        case rel => exact ⟨x, z, rfl, rfl, x1, z1, by omega, HRW.out.drewN _, HOW.out.drewN _, G1.out, fun _ => HL.out⟩
        case measure => simp [intOf]; omega
      · have HL := Lib.hid (cmp_no hlk hc)
        have hcb : decide (cmpV (rem (c z).toNat) (rem (c m).toNat) < 0) = false := decide_eq_false hc
        go_wp2_with fail
        go_quiet ((go_at_call 27; exact Calls.quiet_of (less_int _ cb rb N capr rem _ _ (HMW.out.drewN _) va vz (by have := HN.out; omega))))
        go_wp2_with fail
        go_roundw
        case rel => exact ⟨z + 1, y, by go_num, rfl, by omega, by omega, x3, HRW.out.drewN _, HOW.out.drewN _, fun _ => by rw [Nat.add_sub_cancel]; exact HL.out, G2.out⟩
        case measure => simp [intOf]; omega
    · obtain rfl : x = y := by omega
      have HF := Lib.hid (one_right' HMM.out HP.out x1 x3 G1.out G2.out)
      have HS := Lib.hid (Same.rot c x m b a b x1 x3 (by omega) (Nat.le_refl _))
      go_wp2_with fail
      go_loopw [17] (fun k wr => ∃ z : Nat, k = .int .i64 z ∧ x ≤ z ∧ z ≤ m ∧ Row wr blk n (rotR c z m b) ∧ Only blk w wr) (fun k _ => (intOf k).toNat)
      case atStart => exact ⟨m, rfl, x3, Nat.le_refl _, by rw [rot_triv c (.inl rfl)]; exact HRW.out, HOW.out⟩
      case round =>
        obtain ⟨z, rfl, k1, k2, hrow, honly⟩ := hrel
        have HW := Lib.hid hrow
        have HO := Lib.hid honly
        by_cases hk : x < z
        · have c1 := hrow.cell z (by omega)
          have c2 := hrow.cell (z - 1) (by omega)
          have f1 := hrow.free z (by omega)
          have f2 := hrow.free (z - 1) (by omega)
          have hne : z ≠ z - 1 := by omega
          clear hrow honly
          go_wp2_with fail
          go_region
          go_wp2
          go_roundw
          case rel =>
            have hs := ((HW.out.set z (rotR c z m b (z - 1)) (by omega)).set (z - 1) (rotR c z m b z) (by omega)).drew
            rw [swap_upd _ _ _ hne, rot_down' c m z b HMM.out k2 (by omega)] at hs
            exact ⟨z - 1, by congr 1; omega, by omega, by omega, hs, ((HO.out.setCell _ _).setCell _ _).drew⟩
          case measure => simp [intOf]; omega
        · have e : z = x := by omega
          clear hrow honly
          have HE := Lib.hid e
          clear e
          go_wp2_with fail
          go_end0
          have hw := HW.out
          rw [HE.out] at hw
          exact ⟨_, rfl, hw, HO.out, HF.out, HS.out⟩
end Go.Proofs.Ytmjmamiokkkblab.sort
