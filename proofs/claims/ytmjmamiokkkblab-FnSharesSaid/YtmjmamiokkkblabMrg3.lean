/-
  The contract of the library's merge of two sorted parts of a row, in general. Conditions: the parts lie within the row.
-/
import Derived.Test.YtmjmamiokkkblabRows
import Derived.Test.YtmjmamiokkkblabSortMath2
import Derived.Test.YtmjmamiokkkblabIns
import Derived.Test.YtmjmamiokkkblabMrg
import Derived.Test.YtmjmamiokkkblabMrg2
import Derived.WalkKit
import Derived.ProofKit
import Derived.Lib.Hide
import Derived.RegionTactic
import Derived.BigRegion
import Derived.Deep.QuietTactic
import Derived.BigQuiet
namespace Go.Proofs.Ytmjmamiokkkblab.sort
open Go.RowKit Go.Proofs.Ytmjmamiokkkblab.mem
set_option linter.unusedVariables false

def FindM (w : World) (blk n : Nat) (rem c : Nat → Int) (lo hi S : Nat) (i j : Value) (wr : World) : Prop :=
  ∃ (x y : Nat), i = .int .i64 x ∧ j = .int .i64 y ∧ lo ≤ x ∧ x ≤ y ∧ y ≤ hi ∧ Row wr blk n c ∧ Only blk w wr ∧ (lo < x → lt rem (c (x - 1)) (c (S - x))) ∧ (y < hi → lt rem (c (S - 1 - y)) (c y))

theorem Pre.congr {rem c d : Nat → Int} {a m b : Nat} (h : Pre rem c a m b) (e : ∀ k, a ≤ k → k < b → d k = c k) (hm : a ≤ m) (hb : m ≤ b) : Pre rem d a m b :=
  ⟨fun p q h1 h2 h3 => by rw [e p (by omega) (by omega), e q (by omega) (by omega)]; exact h.l p q h1 h2 h3,
   fun p q h1 h2 h3 => by rw [e p (by omega) (by omega), e q (by omega) (by omega)]; exact h.r p q h1 h2 h3,
   fun p q h1 h2 h3 h4 => by rw [e p (by omega) (by omega), e q (by omega) (by omega)]; exact h.sep p q h1 h2 h3 h4⟩
theorem fin_merge {rem c c2 c3 : Nat → Int} {a m b s e mid : Nat} (hmid : s + (e - m) = mid) (h : Pre rem c a m b) (k : Cut rem c a m b s e) (h1 : Sorted rem c2 a mid) (s1 : Same c2 (rotR c s m e) a mid) (h2 : Sorted rem c3 mid b) (s2 : Same c3 c2 mid b) (ham : a ≤ mid) (hmb : mid ≤ b) : Sorted rem c3 a b ∧ Same c3 c a b := by
  have hm := cut_mid h k
  rw [hmid] at hm
  refine ⟨halves (c := rotR c s m e) ?_ h2 ?_ ?_ hm, (s2.mono ham (Nat.le_refl _)).trans ((s1.mono (Nat.le_refl _) hmb).trans (Same.rot c s m e a b k.ha k.sm k.me k.eb))⟩
  · intro p q g1 g2 g3
    rw [s2.out p (by omega), s2.out q (by omega)]
    exact h1 p q g1 g2 g3
  · intro p g1 g2
    rw [s2.out p (by omega)]
    exact s1.bwd p g1 g2
  · intro q g1 g2
    obtain ⟨j, j1, j2, ej⟩ := s2.bwd q g1 g2
    exact ⟨j, j1, j2, by rw [ej, s1.out j (by omega)]⟩

theorem not_left {rem c : Nat → Int} {a s mid : Nat} (q : ¬ (a < s ∧ s < mid)) (h : Pre rem c a s mid) (h1 : a ≤ s) (h2 : s ≤ mid) : Sorted rem c a mid := by
  intro p r g1 g2 g3
  by_cases e : s = mid
  · exact h.l p r g1 g2 (by omega)
  · exact h.r p r (by omega) g2 g3
theorem not_right {rem c : Nat → Int} {mid e b : Nat} (q : ¬ (mid < e ∧ e < b)) (h : Pre rem c mid e b) (h1 : mid ≤ e) (h2 : e ≤ b) : Sorted rem c mid b := not_left q h h1 h2

set_option maxRecDepth 100000 in
set_option maxHeartbeats 8000000 in
theorem merge_any (k : Nat) : ∀ (w : World) (blk n cap cb rb N capr : Nat) (rem c : Nat → Int) (a m b : Nat) (h : Hand w blk n cb rb N capr rem c a m b), b - a ≤ k →
    Calls Try.prog 32 #[.slice (some ⟨blk, 0, none⟩) n cap, .int .i64 a, .int .i64 m, .int .i64 b, less cb] w (SortPost w blk n rem c a b) := by
  induction k with
  | zero => intro w blk n cap cb rb N capr rem c a m b h hk; have := h.am; have := h.mb; omega
  | succ k ih =>
  intro w blk n cap cb rb N capr rem c a m b h hk
  by_cases hma : m = a + 1
  · exact merge_left w blk n cap cb rb N capr rem c a m b h hma
  by_cases hmb : b = m + 1
  · exact merge_right w blk n cap cb rb N capr rem c a m b h hma hmb
  obtain ⟨hr, hms, n1, n2, am, mb, bn, nb, nn, hp, hv⟩ := h
  have IH := Lib.hid ih
  have HR := Lib.hid hr
  have HM := Lib.hid hms
  have HP := Lib.hid hp
  have HV := Lib.hid hv
  have HN := Lib.hid nn
  have hone : ((m : Int) - a == 1) = false := by rw [beq_eq_false_iff_ne]; omega
  have hone2 : ((b : Int) - m == 1) = false := by rw [beq_eq_false_iff_ne]; omega
  obtain ⟨mid, hmid⟩ : ∃ mid : Nat, mid = (a + b) / 2 := ⟨_, rfl⟩
  have hmid' : ((a : Int) + b) / 2 = (mid : Int) := by omega
  have md1 : 2 * mid ≤ a + b := by omega
  have md2 : a + b ≤ 2 * mid + 1 := by omega
  have md3 : a < mid := by omega
  have md4 : mid < b := by omega
  clear ih hr hms hp hv nn hma hmb hmid
  by_cases hgt : (mid : Int) < m
  · obtain ⟨lo, hlo⟩ : ∃ lo : Nat, lo = mid + m - b := ⟨_, rfl⟩
    have lo1 : a ≤ lo := by omega
    have lo2 : mid + m ≤ lo + b := by omega
    have lo3 : lo ≤ mid := by omega
    have hlo4 : lo = a ∨ lo + b = mid + m := by omega
    have HL4 := Lib.hid hlo4
    have HLO := Lib.hid hlo
    clear hlo hlo4
    go_enter Try.func32, Try.ntmps32
    go_wp2_with fail
    go_loopw [20, 21] (fun i j wr => FindM w blk n rem c lo mid (mid + m) i j wr) (fun i j _ => (intOf j - intOf i).toNat)
    case atStart => exact ⟨lo, mid, by have := HLO.out; congr 1; omega, rfl, Nat.le_refl _, lo3, Nat.le_refl _, HR.out, Only.refl _ _, fun h => by omega, fun h => by omega⟩
    case round =>
      obtain ⟨x, y, rfl, rfl, x1, x2, x3, hrow, honly, g1, g2⟩ := hrel
      have G1 := Lib.hid g1
      have G2 := Lib.hid g2
      have HRW := Lib.hid hrow
      have HOW := Lib.hid honly
      have HMW := Lib.hid (HM.out.only honly n1 n2)
      clear g1 g2 hrow honly
      by_cases hlt : x < y
      · obtain ⟨z, hz⟩ : ∃ z : Nat, z = (x + y) / 2 := ⟨_, rfl⟩
        have z1 : x ≤ z := by omega
        have z2 : z < y := by omega
        have hz' : ((x : Int) + y) / 2 = (z : Int) := by omega
        obtain ⟨u, hu⟩ : ∃ u : Nat, u = mid + m - 1 - z := ⟨_, rfl⟩
        have hu' : (mid : Int) + m - 1 - z = (u : Int) := by omega
        have u1 : m ≤ u := by omega
        have u2 : u < b := by omega
        have cz := HRW.out.cell z (by omega)
        have ca := HRW.out.cell u (by omega)
        have vz := HV.out z (by omega) (by omega)
        have va := HV.out u (by omega) (by omega)
        have hlk : c z < c u := HP.out.sep z u (by omega) (by omega) u1 u2
        have hzn : (z : Int) < (n : Int) := by omega
        have han : (u : Int) < (n : Int) := by omega
        have hzn' : z < n := by omega
        have han' : u < n := by omega
        have HU := Lib.hid hu
        clear hz hu
        by_cases hc : cmpV (rem (c z).toNat) (rem (c u).toNat) < 0
        · have HL := Lib.hid (cmp_yes hlk hc)
          go_wp2_with fail
          go_quiet ((go_at_call 27; exact Calls.quiet_of (less_int _ cb rb N capr rem _ _ (HMW.out.drewN _) va vz (by have := HN.out; omega))))
          go_wp2_with fail
          go_roundw
          case rel => exact ⟨x, z, rfl, rfl, x1, z1, by omega, HRW.out.drewN _, HOW.out.drewN _, G1.out, fun _ => by rw [← HU.out]; exact HL.out⟩
          case measure => simp [intOf]; omega
        · have HL := Lib.hid (cmp_no hlk hc)
          have hcb : decide (cmpV (rem (c z).toNat) (rem (c u).toNat) < 0) = false := decide_eq_false hc
          go_wp2_with fail
          go_quiet ((go_at_call 27; exact Calls.quiet_of (less_int _ cb rb N capr rem _ _ (HMW.out.drewN _) va vz (by have := HN.out; omega))))
          go_wp2_with fail
          go_roundw
          case rel => exact ⟨z + 1, y, by go_num, rfl, by omega, by omega, x3, HRW.out.drewN _, HOW.out.drewN _, fun _ => by rw [Nat.add_sub_cancel, show mid + m - (z + 1) = u by have := HU.out; omega]; exact HL.out, G2.out⟩
          case measure => simp [intOf]; omega
      · obtain rfl : x = y := by omega
        obtain ⟨e, he⟩ : ∃ e : Nat, e = mid + m - x := ⟨_, rfl⟩
        have he' : (mid : Int) + m - x = (e : Int) := by omega
        have e1 : m ≤ e := by omega
        have e2 : e ≤ b := by omega
        have hmm : x + (e - m) = mid := by omega
        have HE := Lib.hid he
        have hcut : Cut rem c a m b x e := by
          refine ⟨by omega, by omega, e1, e2, fun g1 g2 => ?_, fun g1 g2 => ?_⟩
          · rw [he]
            exact G1.out (by have := HL4.out; omega)
          · rw [show e - 1 = mid + m - 1 - x by omega]
            exact G2.out (by omega)
        have hl := cut_left HP.out hcut
        have hrr := cut_right HP.out hcut
        rw [hmm] at hl hrr
        have vr := (Same.rot c x m e a b (by omega) (by omega) e1 e2).vals HV.out
        have HC := Lib.hid hcut
        have HL := Lib.hid hl
        have HRR := Lib.hid hrr
        have HMM := Lib.hid hmm
        have VR := Lib.hid vr
        clear he hcut hl hrr hmm vr
        by_cases q0 : x < m ∧ m < e
        · have q0a := q0.1
          have q0b := q0.2
          clear q0
          go_wp2_with fail
          all_goals
            refine (rotate_int _ blk n cap c _ _ _ x m e _ HRW.out rfl rfl rfl q0a q0b (by omega) (by omega)).mono ?_
            rintro e2 w2 ⟨rfl, r2, o2⟩
            have R2 := Lib.hid r2
            have O2 := Lib.hid (Only.trans HOW.out o2)
            clear r2 o2
            by_cases q1 : a < x ∧ x < mid
            · have q1a := q1.1
              have q1b := q1.2
              clear q1
              go_wp2_with fail
              all_goals
                refine (IH.out _ blk n cap cb rb N capr rem _ a x mid ⟨R2.out, HM.out.only O2.out n1 n2, n1, n2, q1a, q1b, by omega, nb, HN.out, HL.out, fun k h1 h2 => VR.out k h1 (by omega)⟩ (by omega)).mono ?_
                rintro e3 w3 ⟨c2, rfl, r3, o3, s3, m3⟩
                have R3 := Lib.hid r3
                have O3 := Lib.hid (Only.trans O2.out o3)
                have S3 := Lib.hid s3
                have M3 := Lib.hid m3
                clear r3 o3 s3 m3
                by_cases q2 : mid < e ∧ e < b
                · have q2a := q2.1
                  have q2b := q2.2
                  clear q2
                  have P3 := Lib.hid (HRR.out.congr (fun k h1 h2 => M3.out.out k (.inr h1)) (by omega) (by omega))
                  have V3 := Lib.hid ((M3.out.mono (Nat.le_refl _) (Nat.le_of_lt md4)).vals VR.out)
                  go_wp2_with fail
                  all_goals
                    refine (IH.out _ blk n cap cb rb N capr rem _ mid e b ⟨R3.out, HM.out.only O3.out n1 n2, n1, n2, q2a, q2b, bn, nb, HN.out, P3.out, fun k h1 h2 => V3.out k (by omega) h2⟩ (by omega)).mono ?_
                    rintro e4 w4 ⟨c3, rfl, r4, o4, s4, m4⟩
                    have FN := Lib.hid (fin_merge HMM.out HP.out HC.out S3.out M3.out s4 m4 (by omega) (by omega))
                    have R4 := Lib.hid r4
                    have O4 := Lib.hid (Only.trans O3.out o4)
                    clear r4 o4 s4 m4
                    go_wp2_with fail
                    all_goals go_end0
                    all_goals exact ⟨_, rfl, R4.out, O4.out, FN.out.1, FN.out.2⟩
                · have FN := Lib.hid (fin_merge HMM.out HP.out HC.out S3.out M3.out (not_right q2 (HRR.out.congr (fun k h1 h2 => M3.out.out k (.inr h1)) (by omega) (by omega)) (by omega) (by omega)) (Same.refl _ _ _) (by omega) (by omega))
                  by_cases q2' : mid < e
                  · have q2b : b ≤ e := by omega
                    clear q2
                    go_wp2_with fail
                    all_goals go_end0
                    all_goals exact ⟨_, rfl, R3.out, O3.out, FN.out.1, FN.out.2⟩
                  · have q2b : e ≤ mid := by omega
                    clear q2
                    go_wp2_with fail
                    all_goals go_end0
                    all_goals exact ⟨_, rfl, R3.out, O3.out, FN.out.1, FN.out.2⟩
            · have S3 := Lib.hid (not_left q1 HL.out (by omega) (by omega))
              have M3 := Lib.hid (Same.refl (rotR c x m e) a mid)
              have R3 := Lib.hid R2.out
              have O3 := Lib.hid O2.out
              by_cases q1' : a < x
              · have q1b : mid ≤ x := by omega
                clear q1
                by_cases q2 : mid < e ∧ e < b
                · have q2a := q2.1
                  have q2b := q2.2
                  clear q2
                  have P3 := Lib.hid (HRR.out.congr (fun k h1 h2 => M3.out.out k (.inr h1)) (by omega) (by omega))
                  have V3 := Lib.hid ((M3.out.mono (Nat.le_refl _) (Nat.le_of_lt md4)).vals VR.out)
                  go_wp2_with fail
                  all_goals
                    refine (IH.out _ blk n cap cb rb N capr rem _ mid e b ⟨R3.out, HM.out.only O3.out n1 n2, n1, n2, q2a, q2b, bn, nb, HN.out, P3.out, fun k h1 h2 => V3.out k (by omega) h2⟩ (by omega)).mono ?_
                    rintro e4 w4 ⟨c3, rfl, r4, o4, s4, m4⟩
                    have FN := Lib.hid (fin_merge HMM.out HP.out HC.out S3.out M3.out s4 m4 (by omega) (by omega))
                    have R4 := Lib.hid r4
                    have O4 := Lib.hid (Only.trans O3.out o4)
                    clear r4 o4 s4 m4
                    go_wp2_with fail
                    all_goals go_end0
                    all_goals exact ⟨_, rfl, R4.out, O4.out, FN.out.1, FN.out.2⟩
                · have FN := Lib.hid (fin_merge HMM.out HP.out HC.out S3.out M3.out (not_right q2 (HRR.out.congr (fun k h1 h2 => M3.out.out k (.inr h1)) (by omega) (by omega)) (by omega) (by omega)) (Same.refl _ _ _) (by omega) (by omega))
                  by_cases q2' : mid < e
                  · have q2b : b ≤ e := by omega
                    clear q2
                    go_wp2_with fail
                    all_goals go_end0
                    all_goals exact ⟨_, rfl, R3.out, O3.out, FN.out.1, FN.out.2⟩
                  · have q2b : e ≤ mid := by omega
                    clear q2
                    go_wp2_with fail
                    all_goals go_end0
                    all_goals exact ⟨_, rfl, R3.out, O3.out, FN.out.1, FN.out.2⟩
              · have q1b : x ≤ a := by omega
                clear q1
                by_cases q2 : mid < e ∧ e < b
                · have q2a := q2.1
                  have q2b := q2.2
                  clear q2
                  have P3 := Lib.hid (HRR.out.congr (fun k h1 h2 => M3.out.out k (.inr h1)) (by omega) (by omega))
                  have V3 := Lib.hid ((M3.out.mono (Nat.le_refl _) (Nat.le_of_lt md4)).vals VR.out)
                  go_wp2_with fail
                  all_goals
                    refine (IH.out _ blk n cap cb rb N capr rem _ mid e b ⟨R3.out, HM.out.only O3.out n1 n2, n1, n2, q2a, q2b, bn, nb, HN.out, P3.out, fun k h1 h2 => V3.out k (by omega) h2⟩ (by omega)).mono ?_
                    rintro e4 w4 ⟨c3, rfl, r4, o4, s4, m4⟩
                    have FN := Lib.hid (fin_merge HMM.out HP.out HC.out S3.out M3.out s4 m4 (by omega) (by omega))
                    have R4 := Lib.hid r4
                    have O4 := Lib.hid (Only.trans O3.out o4)
                    clear r4 o4 s4 m4
                    go_wp2_with fail
                    all_goals go_end0
                    all_goals exact ⟨_, rfl, R4.out, O4.out, FN.out.1, FN.out.2⟩
                · have FN := Lib.hid (fin_merge HMM.out HP.out HC.out S3.out M3.out (not_right q2 (HRR.out.congr (fun k h1 h2 => M3.out.out k (.inr h1)) (by omega) (by omega)) (by omega) (by omega)) (Same.refl _ _ _) (by omega) (by omega))
                  by_cases q2' : mid < e
                  · have q2b : b ≤ e := by omega
                    clear q2
                    go_wp2_with fail
                    all_goals go_end0
                    all_goals exact ⟨_, rfl, R3.out, O3.out, FN.out.1, FN.out.2⟩
                  · have q2b : e ≤ mid := by omega
                    clear q2
                    go_wp2_with fail
                    all_goals go_end0
                    all_goals exact ⟨_, rfl, R3.out, O3.out, FN.out.1, FN.out.2⟩
        · have hrt : rotR c x m e = c := rot_triv c (by omega)
          have R2 := Lib.hid (show Row _ blk n (rotR c x m e) by rw [hrt]; exact HRW.out)
          clear hrt
          by_cases q0' : x < m
          · have q0b : e ≤ m := by omega
            clear q0
            by_cases q1 : a < x ∧ x < mid
            · have q1a := q1.1
              have q1b := q1.2
              clear q1
              go_wp2_with fail
              all_goals
                refine (IH.out _ blk n cap cb rb N capr rem _ a x mid ⟨R2.out, HM.out.only HOW.out n1 n2, n1, n2, q1a, q1b, by omega, nb, HN.out, HL.out, fun k h1 h2 => VR.out k h1 (by omega)⟩ (by omega)).mono ?_
                rintro e3 w3 ⟨c2, rfl, r3, o3, s3, m3⟩
                have R3 := Lib.hid r3
                have O3 := Lib.hid (Only.trans HOW.out o3)
                have S3 := Lib.hid s3
                have M3 := Lib.hid m3
                clear r3 o3 s3 m3
                by_cases q2 : mid < e ∧ e < b
                · have q2a := q2.1
                  have q2b := q2.2
                  clear q2
                  have P3 := Lib.hid (HRR.out.congr (fun k h1 h2 => M3.out.out k (.inr h1)) (by omega) (by omega))
                  have V3 := Lib.hid ((M3.out.mono (Nat.le_refl _) (Nat.le_of_lt md4)).vals VR.out)
                  go_wp2_with fail
                  all_goals
                    refine (IH.out _ blk n cap cb rb N capr rem _ mid e b ⟨R3.out, HM.out.only O3.out n1 n2, n1, n2, q2a, q2b, bn, nb, HN.out, P3.out, fun k h1 h2 => V3.out k (by omega) h2⟩ (by omega)).mono ?_
                    rintro e4 w4 ⟨c3, rfl, r4, o4, s4, m4⟩
                    have FN := Lib.hid (fin_merge HMM.out HP.out HC.out S3.out M3.out s4 m4 (by omega) (by omega))
                    have R4 := Lib.hid r4
                    have O4 := Lib.hid (Only.trans O3.out o4)
                    clear r4 o4 s4 m4
                    go_wp2_with fail
                    all_goals go_end0
                    all_goals exact ⟨_, rfl, R4.out, O4.out, FN.out.1, FN.out.2⟩
                · have FN := Lib.hid (fin_merge HMM.out HP.out HC.out S3.out M3.out (not_right q2 (HRR.out.congr (fun k h1 h2 => M3.out.out k (.inr h1)) (by omega) (by omega)) (by omega) (by omega)) (Same.refl _ _ _) (by omega) (by omega))
                  by_cases q2' : mid < e
                  · have q2b : b ≤ e := by omega
                    clear q2
                    go_wp2_with fail
                    all_goals go_end0
                    all_goals exact ⟨_, rfl, R3.out, O3.out, FN.out.1, FN.out.2⟩
                  · have q2b : e ≤ mid := by omega
                    clear q2
                    go_wp2_with fail
                    all_goals go_end0
                    all_goals exact ⟨_, rfl, R3.out, O3.out, FN.out.1, FN.out.2⟩
            · have S3 := Lib.hid (not_left q1 HL.out (by omega) (by omega))
              have M3 := Lib.hid (Same.refl (rotR c x m e) a mid)
              have R3 := Lib.hid R2.out
              have O3 := Lib.hid HOW.out
              by_cases q1' : a < x
              · have q1b : mid ≤ x := by omega
                clear q1
                by_cases q2 : mid < e ∧ e < b
                · have q2a := q2.1
                  have q2b := q2.2
                  clear q2
                  have P3 := Lib.hid (HRR.out.congr (fun k h1 h2 => M3.out.out k (.inr h1)) (by omega) (by omega))
                  have V3 := Lib.hid ((M3.out.mono (Nat.le_refl _) (Nat.le_of_lt md4)).vals VR.out)
                  go_wp2_with fail
                  all_goals
                    refine (IH.out _ blk n cap cb rb N capr rem _ mid e b ⟨R3.out, HM.out.only O3.out n1 n2, n1, n2, q2a, q2b, bn, nb, HN.out, P3.out, fun k h1 h2 => V3.out k (by omega) h2⟩ (by omega)).mono ?_
                    rintro e4 w4 ⟨c3, rfl, r4, o4, s4, m4⟩
                    have FN := Lib.hid (fin_merge HMM.out HP.out HC.out S3.out M3.out s4 m4 (by omega) (by omega))
                    have R4 := Lib.hid r4
                    have O4 := Lib.hid (Only.trans O3.out o4)
                    clear r4 o4 s4 m4
                    go_wp2_with fail
                    all_goals go_end0
                    all_goals exact ⟨_, rfl, R4.out, O4.out, FN.out.1, FN.out.2⟩
                · have FN := Lib.hid (fin_merge HMM.out HP.out HC.out S3.out M3.out (not_right q2 (HRR.out.congr (fun k h1 h2 => M3.out.out k (.inr h1)) (by omega) (by omega)) (by omega) (by omega)) (Same.refl _ _ _) (by omega) (by omega))
                  by_cases q2' : mid < e
                  · have q2b : b ≤ e := by omega
                    clear q2
                    go_wp2_with fail
                    all_goals go_end0
                    all_goals exact ⟨_, rfl, R3.out, O3.out, FN.out.1, FN.out.2⟩
                  · have q2b : e ≤ mid := by omega
                    clear q2
                    go_wp2_with fail
                    all_goals go_end0
                    all_goals exact ⟨_, rfl, R3.out, O3.out, FN.out.1, FN.out.2⟩
              · have q1b : x ≤ a := by omega
                clear q1
                by_cases q2 : mid < e ∧ e < b
                · have q2a := q2.1
                  have q2b := q2.2
                  clear q2
                  have P3 := Lib.hid (HRR.out.congr (fun k h1 h2 => M3.out.out k (.inr h1)) (by omega) (by omega))
                  have V3 := Lib.hid ((M3.out.mono (Nat.le_refl _) (Nat.le_of_lt md4)).vals VR.out)
                  go_wp2_with fail
                  all_goals
                    refine (IH.out _ blk n cap cb rb N capr rem _ mid e b ⟨R3.out, HM.out.only O3.out n1 n2, n1, n2, q2a, q2b, bn, nb, HN.out, P3.out, fun k h1 h2 => V3.out k (by omega) h2⟩ (by omega)).mono ?_
                    rintro e4 w4 ⟨c3, rfl, r4, o4, s4, m4⟩
                    have FN := Lib.hid (fin_merge HMM.out HP.out HC.out S3.out M3.out s4 m4 (by omega) (by omega))
                    have R4 := Lib.hid r4
                    have O4 := Lib.hid (Only.trans O3.out o4)
                    clear r4 o4 s4 m4
                    go_wp2_with fail
                    all_goals go_end0
                    all_goals exact ⟨_, rfl, R4.out, O4.out, FN.out.1, FN.out.2⟩
                · have FN := Lib.hid (fin_merge HMM.out HP.out HC.out S3.out M3.out (not_right q2 (HRR.out.congr (fun k h1 h2 => M3.out.out k (.inr h1)) (by omega) (by omega)) (by omega) (by omega)) (Same.refl _ _ _) (by omega) (by omega))
                  by_cases q2' : mid < e
                  · have q2b : b ≤ e := by omega
                    clear q2
                    go_wp2_with fail
                    all_goals go_end0
                    all_goals exact ⟨_, rfl, R3.out, O3.out, FN.out.1, FN.out.2⟩
                  · have q2b : e ≤ mid := by omega
                    clear q2
                    go_wp2_with fail
                    all_goals go_end0
                    all_goals exact ⟨_, rfl, R3.out, O3.out, FN.out.1, FN.out.2⟩
          · have q0b : m ≤ x := by omega
            clear q0
            by_cases q1 : a < x ∧ x < mid
            · have q1a := q1.1
              have q1b := q1.2
              clear q1
              go_wp2_with fail
              all_goals
                refine (IH.out _ blk n cap cb rb N capr rem _ a x mid ⟨R2.out, HM.out.only HOW.out n1 n2, n1, n2, q1a, q1b, by omega, nb, HN.out, HL.out, fun k h1 h2 => VR.out k h1 (by omega)⟩ (by omega)).mono ?_
                rintro e3 w3 ⟨c2, rfl, r3, o3, s3, m3⟩
                have R3 := Lib.hid r3
                have O3 := Lib.hid (Only.trans HOW.out o3)
                have S3 := Lib.hid s3
                have M3 := Lib.hid m3
                clear r3 o3 s3 m3
                by_cases q2 : mid < e ∧ e < b
                · have q2a := q2.1
                  have q2b := q2.2
                  clear q2
                  have P3 := Lib.hid (HRR.out.congr (fun k h1 h2 => M3.out.out k (.inr h1)) (by omega) (by omega))
                  have V3 := Lib.hid ((M3.out.mono (Nat.le_refl _) (Nat.le_of_lt md4)).vals VR.out)
                  go_wp2_with fail
                  all_goals
                    refine (IH.out _ blk n cap cb rb N capr rem _ mid e b ⟨R3.out, HM.out.only O3.out n1 n2, n1, n2, q2a, q2b, bn, nb, HN.out, P3.out, fun k h1 h2 => V3.out k (by omega) h2⟩ (by omega)).mono ?_
                    rintro e4 w4 ⟨c3, rfl, r4, o4, s4, m4⟩
                    have FN := Lib.hid (fin_merge HMM.out HP.out HC.out S3.out M3.out s4 m4 (by omega) (by omega))
                    have R4 := Lib.hid r4
                    have O4 := Lib.hid (Only.trans O3.out o4)
                    clear r4 o4 s4 m4
                    go_wp2_with fail
                    all_goals go_end0
                    all_goals exact ⟨_, rfl, R4.out, O4.out, FN.out.1, FN.out.2⟩
                · have FN := Lib.hid (fin_merge HMM.out HP.out HC.out S3.out M3.out (not_right q2 (HRR.out.congr (fun k h1 h2 => M3.out.out k (.inr h1)) (by omega) (by omega)) (by omega) (by omega)) (Same.refl _ _ _) (by omega) (by omega))
                  by_cases q2' : mid < e
                  · have q2b : b ≤ e := by omega
                    clear q2
                    go_wp2_with fail
                    all_goals go_end0
                    all_goals exact ⟨_, rfl, R3.out, O3.out, FN.out.1, FN.out.2⟩
                  · have q2b : e ≤ mid := by omega
                    clear q2
                    go_wp2_with fail
                    all_goals go_end0
                    all_goals exact ⟨_, rfl, R3.out, O3.out, FN.out.1, FN.out.2⟩
            · have S3 := Lib.hid (not_left q1 HL.out (by omega) (by omega))
              have M3 := Lib.hid (Same.refl (rotR c x m e) a mid)
              have R3 := Lib.hid R2.out
              have O3 := Lib.hid HOW.out
              by_cases q1' : a < x
              · have q1b : mid ≤ x := by omega
                clear q1
                by_cases q2 : mid < e ∧ e < b
                · have q2a := q2.1
                  have q2b := q2.2
                  clear q2
                  have P3 := Lib.hid (HRR.out.congr (fun k h1 h2 => M3.out.out k (.inr h1)) (by omega) (by omega))
                  have V3 := Lib.hid ((M3.out.mono (Nat.le_refl _) (Nat.le_of_lt md4)).vals VR.out)
                  go_wp2_with fail
                  all_goals
                    refine (IH.out _ blk n cap cb rb N capr rem _ mid e b ⟨R3.out, HM.out.only O3.out n1 n2, n1, n2, q2a, q2b, bn, nb, HN.out, P3.out, fun k h1 h2 => V3.out k (by omega) h2⟩ (by omega)).mono ?_
                    rintro e4 w4 ⟨c3, rfl, r4, o4, s4, m4⟩
                    have FN := Lib.hid (fin_merge HMM.out HP.out HC.out S3.out M3.out s4 m4 (by omega) (by omega))
                    have R4 := Lib.hid r4
                    have O4 := Lib.hid (Only.trans O3.out o4)
                    clear r4 o4 s4 m4
                    go_wp2_with fail
                    all_goals go_end0
                    all_goals exact ⟨_, rfl, R4.out, O4.out, FN.out.1, FN.out.2⟩
                · have FN := Lib.hid (fin_merge HMM.out HP.out HC.out S3.out M3.out (not_right q2 (HRR.out.congr (fun k h1 h2 => M3.out.out k (.inr h1)) (by omega) (by omega)) (by omega) (by omega)) (Same.refl _ _ _) (by omega) (by omega))
                  by_cases q2' : mid < e
                  · have q2b : b ≤ e := by omega
                    clear q2
                    go_wp2_with fail
                    all_goals go_end0
                    all_goals exact ⟨_, rfl, R3.out, O3.out, FN.out.1, FN.out.2⟩
                  · have q2b : e ≤ mid := by omega
                    clear q2
                    go_wp2_with fail
                    all_goals go_end0
                    all_goals exact ⟨_, rfl, R3.out, O3.out, FN.out.1, FN.out.2⟩
              · have q1b : x ≤ a := by omega
                clear q1
                by_cases q2 : mid < e ∧ e < b
                · have q2a := q2.1
                  have q2b := q2.2
                  clear q2
                  have P3 := Lib.hid (HRR.out.congr (fun k h1 h2 => M3.out.out k (.inr h1)) (by omega) (by omega))
                  have V3 := Lib.hid ((M3.out.mono (Nat.le_refl _) (Nat.le_of_lt md4)).vals VR.out)
                  go_wp2_with fail
                  all_goals
                    refine (IH.out _ blk n cap cb rb N capr rem _ mid e b ⟨R3.out, HM.out.only O3.out n1 n2, n1, n2, q2a, q2b, bn, nb, HN.out, P3.out, fun k h1 h2 => V3.out k (by omega) h2⟩ (by omega)).mono ?_
                    rintro e4 w4 ⟨c3, rfl, r4, o4, s4, m4⟩
                    have FN := Lib.hid (fin_merge HMM.out HP.out HC.out S3.out M3.out s4 m4 (by omega) (by omega))
                    have R4 := Lib.hid r4
                    have O4 := Lib.hid (Only.trans O3.out o4)
                    clear r4 o4 s4 m4
                    go_wp2_with fail
                    all_goals go_end0
                    all_goals exact ⟨_, rfl, R4.out, O4.out, FN.out.1, FN.out.2⟩
                · have FN := Lib.hid (fin_merge HMM.out HP.out HC.out S3.out M3.out (not_right q2 (HRR.out.congr (fun k h1 h2 => M3.out.out k (.inr h1)) (by omega) (by omega)) (by omega) (by omega)) (Same.refl _ _ _) (by omega) (by omega))
                  by_cases q2' : mid < e
                  · have q2b : b ≤ e := by omega
                    clear q2
                    go_wp2_with fail
                    all_goals go_end0
                    all_goals exact ⟨_, rfl, R3.out, O3.out, FN.out.1, FN.out.2⟩
                  · have q2b : e ≤ mid := by omega
                    clear q2
                    go_wp2_with fail
                    all_goals go_end0
                    all_goals exact ⟨_, rfl, R3.out, O3.out, FN.out.1, FN.out.2⟩
  · obtain ⟨lo, hlo⟩ : ∃ lo : Nat, lo = a := ⟨_, rfl⟩
    have lo1 : a ≤ lo := by omega
    have lo2 : mid + m ≤ lo + b := by omega
    have lo3 : lo ≤ m := by omega
    have hlo4 : lo = a ∨ lo + b = mid + m := by omega
    have HL4 := Lib.hid hlo4
    have HLO := Lib.hid hlo
    clear hlo hlo4
    go_enter Try.func32, Try.ntmps32
    go_wp2_with fail
    go_loopw [20, 21] (fun i j wr => FindM w blk n rem c lo m (mid + m) i j wr) (fun i j _ => (intOf j - intOf i).toNat)
    case atStart => exact ⟨lo, m, by have := HLO.out; congr 1; omega, rfl, Nat.le_refl _, lo3, Nat.le_refl _, HR.out, Only.refl _ _, fun h => by omega, fun h => by omega⟩
    case round =>
      obtain ⟨x, y, rfl, rfl, x1, x2, x3, hrow, honly, g1, g2⟩ := hrel
      have G1 := Lib.hid g1
      have G2 := Lib.hid g2
      have HRW := Lib.hid hrow
      have HOW := Lib.hid honly
      have HMW := Lib.hid (HM.out.only honly n1 n2)
      clear g1 g2 hrow honly
      by_cases hlt : x < y
      · obtain ⟨z, hz⟩ : ∃ z : Nat, z = (x + y) / 2 := ⟨_, rfl⟩
        have z1 : x ≤ z := by omega
        have z2 : z < y := by omega
        have hz' : ((x : Int) + y) / 2 = (z : Int) := by omega
        obtain ⟨u, hu⟩ : ∃ u : Nat, u = mid + m - 1 - z := ⟨_, rfl⟩
        have hu' : (mid : Int) + m - 1 - z = (u : Int) := by omega
        have u1 : m ≤ u := by omega
        have u2 : u < b := by omega
        have cz := HRW.out.cell z (by omega)
        have ca := HRW.out.cell u (by omega)
        have vz := HV.out z (by omega) (by omega)
        have va := HV.out u (by omega) (by omega)
        have hlk : c z < c u := HP.out.sep z u (by omega) (by omega) u1 u2
        have hzn : (z : Int) < (n : Int) := by omega
        have han : (u : Int) < (n : Int) := by omega
        have hzn' : z < n := by omega
        have han' : u < n := by omega
        have HU := Lib.hid hu
        clear hz hu
        by_cases hc : cmpV (rem (c z).toNat) (rem (c u).toNat) < 0
        · have HL := Lib.hid (cmp_yes hlk hc)
          go_wp2_with fail
          go_quiet ((go_at_call 27; exact Calls.quiet_of (less_int _ cb rb N capr rem _ _ (HMW.out.drewN _) va vz (by have := HN.out; omega))))
          go_wp2_with fail
          go_roundw
          case rel => exact ⟨x, z, rfl, rfl, x1, z1, by omega, HRW.out.drewN _, HOW.out.drewN _, G1.out, fun _ => by rw [← HU.out]; exact HL.out⟩
          case measure => simp [intOf]; omega
        · have HL := Lib.hid (cmp_no hlk hc)
          have hcb : decide (cmpV (rem (c z).toNat) (rem (c u).toNat) < 0) = false := decide_eq_false hc
          go_wp2_with fail
          go_quiet ((go_at_call 27; exact Calls.quiet_of (less_int _ cb rb N capr rem _ _ (HMW.out.drewN _) va vz (by have := HN.out; omega))))
          go_wp2_with fail
          go_roundw
          case rel => exact ⟨z + 1, y, by go_num, rfl, by omega, by omega, x3, HRW.out.drewN _, HOW.out.drewN _, fun _ => by rw [Nat.add_sub_cancel, show mid + m - (z + 1) = u by have := HU.out; omega]; exact HL.out, G2.out⟩
          case measure => simp [intOf]; omega
      · obtain rfl : x = y := by omega
        obtain ⟨e, he⟩ : ∃ e : Nat, e = mid + m - x := ⟨_, rfl⟩
        have he' : (mid : Int) + m - x = (e : Int) := by omega
        have e1 : m ≤ e := by omega
        have e2 : e ≤ b := by omega
        have hmm : x + (e - m) = mid := by omega
        have HE := Lib.hid he
        have hcut : Cut rem c a m b x e := by
          refine ⟨by omega, by omega, e1, e2, fun g1 g2 => ?_, fun g1 g2 => ?_⟩
          · rw [he]
            exact G1.out (by have := HL4.out; omega)
          · rw [show e - 1 = mid + m - 1 - x by omega]
            exact G2.out (by omega)
        have hl := cut_left HP.out hcut
        have hrr := cut_right HP.out hcut
        rw [hmm] at hl hrr
        have vr := (Same.rot c x m e a b (by omega) (by omega) e1 e2).vals HV.out
        have HC := Lib.hid hcut
        have HL := Lib.hid hl
        have HRR := Lib.hid hrr
        have HMM := Lib.hid hmm
        have VR := Lib.hid vr
        clear he hcut hl hrr hmm vr
        by_cases q0 : x < m ∧ m < e
        · have q0a := q0.1
          have q0b := q0.2
          clear q0
          go_wp2_with fail
          all_goals
            refine (rotate_int _ blk n cap c _ _ _ x m e _ HRW.out rfl rfl rfl q0a q0b (by omega) (by omega)).mono ?_
            rintro e2 w2 ⟨rfl, r2, o2⟩
            have R2 := Lib.hid r2
            have O2 := Lib.hid (Only.trans HOW.out o2)
            clear r2 o2
            by_cases q1 : a < x ∧ x < mid
            · have q1a := q1.1
              have q1b := q1.2
              clear q1
              go_wp2_with fail
              all_goals
                refine (IH.out _ blk n cap cb rb N capr rem _ a x mid ⟨R2.out, HM.out.only O2.out n1 n2, n1, n2, q1a, q1b, by omega, nb, HN.out, HL.out, fun k h1 h2 => VR.out k h1 (by omega)⟩ (by omega)).mono ?_
                rintro e3 w3 ⟨c2, rfl, r3, o3, s3, m3⟩
                have R3 := Lib.hid r3
                have O3 := Lib.hid (Only.trans O2.out o3)
                have S3 := Lib.hid s3
                have M3 := Lib.hid m3
                clear r3 o3 s3 m3
                by_cases q2 : mid < e ∧ e < b
                · have q2a := q2.1
                  have q2b := q2.2
                  clear q2
                  have P3 := Lib.hid (HRR.out.congr (fun k h1 h2 => M3.out.out k (.inr h1)) (by omega) (by omega))
                  have V3 := Lib.hid ((M3.out.mono (Nat.le_refl _) (Nat.le_of_lt md4)).vals VR.out)
                  go_wp2_with fail
                  all_goals
                    refine (IH.out _ blk n cap cb rb N capr rem _ mid e b ⟨R3.out, HM.out.only O3.out n1 n2, n1, n2, q2a, q2b, bn, nb, HN.out, P3.out, fun k h1 h2 => V3.out k (by omega) h2⟩ (by omega)).mono ?_
                    rintro e4 w4 ⟨c3, rfl, r4, o4, s4, m4⟩
                    have FN := Lib.hid (fin_merge HMM.out HP.out HC.out S3.out M3.out s4 m4 (by omega) (by omega))
                    have R4 := Lib.hid r4
                    have O4 := Lib.hid (Only.trans O3.out o4)
                    clear r4 o4 s4 m4
                    go_wp2_with fail
                    all_goals go_end0
                    all_goals exact ⟨_, rfl, R4.out, O4.out, FN.out.1, FN.out.2⟩
                · have FN := Lib.hid (fin_merge HMM.out HP.out HC.out S3.out M3.out (not_right q2 (HRR.out.congr (fun k h1 h2 => M3.out.out k (.inr h1)) (by omega) (by omega)) (by omega) (by omega)) (Same.refl _ _ _) (by omega) (by omega))
                  by_cases q2' : mid < e
                  · have q2b : b ≤ e := by omega
                    clear q2
                    go_wp2_with fail
                    all_goals go_end0
                    all_goals exact ⟨_, rfl, R3.out, O3.out, FN.out.1, FN.out.2⟩
                  · have q2b : e ≤ mid := by omega
                    clear q2
                    go_wp2_with fail
                    all_goals go_end0
                    all_goals exact ⟨_, rfl, R3.out, O3.out, FN.out.1, FN.out.2⟩
            · have S3 := Lib.hid (not_left q1 HL.out (by omega) (by omega))
              have M3 := Lib.hid (Same.refl (rotR c x m e) a mid)
              have R3 := Lib.hid R2.out
              have O3 := Lib.hid O2.out
              by_cases q1' : a < x
              · have q1b : mid ≤ x := by omega
                clear q1
                by_cases q2 : mid < e ∧ e < b
                · have q2a := q2.1
                  have q2b := q2.2
                  clear q2
                  have P3 := Lib.hid (HRR.out.congr (fun k h1 h2 => M3.out.out k (.inr h1)) (by omega) (by omega))
                  have V3 := Lib.hid ((M3.out.mono (Nat.le_refl _) (Nat.le_of_lt md4)).vals VR.out)
                  go_wp2_with fail
                  all_goals
                    refine (IH.out _ blk n cap cb rb N capr rem _ mid e b ⟨R3.out, HM.out.only O3.out n1 n2, n1, n2, q2a, q2b, bn, nb, HN.out, P3.out, fun k h1 h2 => V3.out k (by omega) h2⟩ (by omega)).mono ?_
                    rintro e4 w4 ⟨c3, rfl, r4, o4, s4, m4⟩
                    have FN := Lib.hid (fin_merge HMM.out HP.out HC.out S3.out M3.out s4 m4 (by omega) (by omega))
                    have R4 := Lib.hid r4
                    have O4 := Lib.hid (Only.trans O3.out o4)
                    clear r4 o4 s4 m4
                    go_wp2_with fail
                    all_goals go_end0
                    all_goals exact ⟨_, rfl, R4.out, O4.out, FN.out.1, FN.out.2⟩
                · have FN := Lib.hid (fin_merge HMM.out HP.out HC.out S3.out M3.out (not_right q2 (HRR.out.congr (fun k h1 h2 => M3.out.out k (.inr h1)) (by omega) (by omega)) (by omega) (by omega)) (Same.refl _ _ _) (by omega) (by omega))
                  by_cases q2' : mid < e
                  · have q2b : b ≤ e := by omega
                    clear q2
                    go_wp2_with fail
                    all_goals go_end0
                    all_goals exact ⟨_, rfl, R3.out, O3.out, FN.out.1, FN.out.2⟩
                  · have q2b : e ≤ mid := by omega
                    clear q2
                    go_wp2_with fail
                    all_goals go_end0
                    all_goals exact ⟨_, rfl, R3.out, O3.out, FN.out.1, FN.out.2⟩
              · have q1b : x ≤ a := by omega
                clear q1
                by_cases q2 : mid < e ∧ e < b
                · have q2a := q2.1
                  have q2b := q2.2
                  clear q2
                  have P3 := Lib.hid (HRR.out.congr (fun k h1 h2 => M3.out.out k (.inr h1)) (by omega) (by omega))
                  have V3 := Lib.hid ((M3.out.mono (Nat.le_refl _) (Nat.le_of_lt md4)).vals VR.out)
                  go_wp2_with fail
                  all_goals
                    refine (IH.out _ blk n cap cb rb N capr rem _ mid e b ⟨R3.out, HM.out.only O3.out n1 n2, n1, n2, q2a, q2b, bn, nb, HN.out, P3.out, fun k h1 h2 => V3.out k (by omega) h2⟩ (by omega)).mono ?_
                    rintro e4 w4 ⟨c3, rfl, r4, o4, s4, m4⟩
                    have FN := Lib.hid (fin_merge HMM.out HP.out HC.out S3.out M3.out s4 m4 (by omega) (by omega))
                    have R4 := Lib.hid r4
                    have O4 := Lib.hid (Only.trans O3.out o4)
                    clear r4 o4 s4 m4
                    go_wp2_with fail
                    all_goals go_end0
                    all_goals exact ⟨_, rfl, R4.out, O4.out, FN.out.1, FN.out.2⟩
                · have FN := Lib.hid (fin_merge HMM.out HP.out HC.out S3.out M3.out (not_right q2 (HRR.out.congr (fun k h1 h2 => M3.out.out k (.inr h1)) (by omega) (by omega)) (by omega) (by omega)) (Same.refl _ _ _) (by omega) (by omega))
                  by_cases q2' : mid < e
                  · have q2b : b ≤ e := by omega
                    clear q2
                    go_wp2_with fail
                    all_goals go_end0
                    all_goals exact ⟨_, rfl, R3.out, O3.out, FN.out.1, FN.out.2⟩
                  · have q2b : e ≤ mid := by omega
                    clear q2
                    go_wp2_with fail
                    all_goals go_end0
                    all_goals exact ⟨_, rfl, R3.out, O3.out, FN.out.1, FN.out.2⟩
        · have hrt : rotR c x m e = c := rot_triv c (by omega)
          have R2 := Lib.hid (show Row _ blk n (rotR c x m e) by rw [hrt]; exact HRW.out)
          clear hrt
          by_cases q0' : x < m
          · have q0b : e ≤ m := by omega
            clear q0
            by_cases q1 : a < x ∧ x < mid
            · have q1a := q1.1
              have q1b := q1.2
              clear q1
              go_wp2_with fail
              all_goals
                refine (IH.out _ blk n cap cb rb N capr rem _ a x mid ⟨R2.out, HM.out.only HOW.out n1 n2, n1, n2, q1a, q1b, by omega, nb, HN.out, HL.out, fun k h1 h2 => VR.out k h1 (by omega)⟩ (by omega)).mono ?_
                rintro e3 w3 ⟨c2, rfl, r3, o3, s3, m3⟩
                have R3 := Lib.hid r3
                have O3 := Lib.hid (Only.trans HOW.out o3)
                have S3 := Lib.hid s3
                have M3 := Lib.hid m3
                clear r3 o3 s3 m3
                by_cases q2 : mid < e ∧ e < b
                · have q2a := q2.1
                  have q2b := q2.2
                  clear q2
                  have P3 := Lib.hid (HRR.out.congr (fun k h1 h2 => M3.out.out k (.inr h1)) (by omega) (by omega))
                  have V3 := Lib.hid ((M3.out.mono (Nat.le_refl _) (Nat.le_of_lt md4)).vals VR.out)
                  go_wp2_with fail
                  all_goals
                    refine (IH.out _ blk n cap cb rb N capr rem _ mid e b ⟨R3.out, HM.out.only O3.out n1 n2, n1, n2, q2a, q2b, bn, nb, HN.out, P3.out, fun k h1 h2 => V3.out k (by omega) h2⟩ (by omega)).mono ?_
                    rintro e4 w4 ⟨c3, rfl, r4, o4, s4, m4⟩
                    have FN := Lib.hid (fin_merge HMM.out HP.out HC.out S3.out M3.out s4 m4 (by omega) (by omega))
                    have R4 := Lib.hid r4
                    have O4 := Lib.hid (Only.trans O3.out o4)
                    clear r4 o4 s4 m4
                    go_wp2_with fail
                    all_goals go_end0
                    all_goals exact ⟨_, rfl, R4.out, O4.out, FN.out.1, FN.out.2⟩
                · have FN := Lib.hid (fin_merge HMM.out HP.out HC.out S3.out M3.out (not_right q2 (HRR.out.congr (fun k h1 h2 => M3.out.out k (.inr h1)) (by omega) (by omega)) (by omega) (by omega)) (Same.refl _ _ _) (by omega) (by omega))
                  by_cases q2' : mid < e
                  · have q2b : b ≤ e := by omega
                    clear q2
                    go_wp2_with fail
                    all_goals go_end0
                    all_goals exact ⟨_, rfl, R3.out, O3.out, FN.out.1, FN.out.2⟩
                  · have q2b : e ≤ mid := by omega
                    clear q2
                    go_wp2_with fail
                    all_goals go_end0
                    all_goals exact ⟨_, rfl, R3.out, O3.out, FN.out.1, FN.out.2⟩
            · have S3 := Lib.hid (not_left q1 HL.out (by omega) (by omega))
              have M3 := Lib.hid (Same.refl (rotR c x m e) a mid)
              have R3 := Lib.hid R2.out
              have O3 := Lib.hid HOW.out
              by_cases q1' : a < x
              · have q1b : mid ≤ x := by omega
                clear q1
                by_cases q2 : mid < e ∧ e < b
                · have q2a := q2.1
                  have q2b := q2.2
                  clear q2
                  have P3 := Lib.hid (HRR.out.congr (fun k h1 h2 => M3.out.out k (.inr h1)) (by omega) (by omega))
                  have V3 := Lib.hid ((M3.out.mono (Nat.le_refl _) (Nat.le_of_lt md4)).vals VR.out)
                  go_wp2_with fail
                  all_goals
                    refine (IH.out _ blk n cap cb rb N capr rem _ mid e b ⟨R3.out, HM.out.only O3.out n1 n2, n1, n2, q2a, q2b, bn, nb, HN.out, P3.out, fun k h1 h2 => V3.out k (by omega) h2⟩ (by omega)).mono ?_
                    rintro e4 w4 ⟨c3, rfl, r4, o4, s4, m4⟩
                    have FN := Lib.hid (fin_merge HMM.out HP.out HC.out S3.out M3.out s4 m4 (by omega) (by omega))
                    have R4 := Lib.hid r4
                    have O4 := Lib.hid (Only.trans O3.out o4)
                    clear r4 o4 s4 m4
                    go_wp2_with fail
                    all_goals go_end0
                    all_goals exact ⟨_, rfl, R4.out, O4.out, FN.out.1, FN.out.2⟩
                · have FN := Lib.hid (fin_merge HMM.out HP.out HC.out S3.out M3.out (not_right q2 (HRR.out.congr (fun k h1 h2 => M3.out.out k (.inr h1)) (by omega) (by omega)) (by omega) (by omega)) (Same.refl _ _ _) (by omega) (by omega))
                  by_cases q2' : mid < e
                  · have q2b : b ≤ e := by omega
                    clear q2
                    go_wp2_with fail
                    all_goals go_end0
                    all_goals exact ⟨_, rfl, R3.out, O3.out, FN.out.1, FN.out.2⟩
                  · have q2b : e ≤ mid := by omega
                    clear q2
                    go_wp2_with fail
                    all_goals go_end0
                    all_goals exact ⟨_, rfl, R3.out, O3.out, FN.out.1, FN.out.2⟩
              · have q1b : x ≤ a := by omega
                clear q1
                by_cases q2 : mid < e ∧ e < b
                · have q2a := q2.1
                  have q2b := q2.2
                  clear q2
                  have P3 := Lib.hid (HRR.out.congr (fun k h1 h2 => M3.out.out k (.inr h1)) (by omega) (by omega))
                  have V3 := Lib.hid ((M3.out.mono (Nat.le_refl _) (Nat.le_of_lt md4)).vals VR.out)
                  go_wp2_with fail
                  all_goals
                    refine (IH.out _ blk n cap cb rb N capr rem _ mid e b ⟨R3.out, HM.out.only O3.out n1 n2, n1, n2, q2a, q2b, bn, nb, HN.out, P3.out, fun k h1 h2 => V3.out k (by omega) h2⟩ (by omega)).mono ?_
                    rintro e4 w4 ⟨c3, rfl, r4, o4, s4, m4⟩
                    have FN := Lib.hid (fin_merge HMM.out HP.out HC.out S3.out M3.out s4 m4 (by omega) (by omega))
                    have R4 := Lib.hid r4
                    have O4 := Lib.hid (Only.trans O3.out o4)
                    clear r4 o4 s4 m4
                    go_wp2_with fail
                    all_goals go_end0
                    all_goals exact ⟨_, rfl, R4.out, O4.out, FN.out.1, FN.out.2⟩
                · have FN := Lib.hid (fin_merge HMM.out HP.out HC.out S3.out M3.out (not_right q2 (HRR.out.congr (fun k h1 h2 => M3.out.out k (.inr h1)) (by omega) (by omega)) (by omega) (by omega)) (Same.refl _ _ _) (by omega) (by omega))
                  by_cases q2' : mid < e
                  · have q2b : b ≤ e := by omega
                    clear q2
                    go_wp2_with fail
                    all_goals go_end0
                    all_goals exact ⟨_, rfl, R3.out, O3.out, FN.out.1, FN.out.2⟩
                  · have q2b : e ≤ mid := by omega
                    clear q2
                    go_wp2_with fail
                    all_goals go_end0
                    all_goals exact ⟨_, rfl, R3.out, O3.out, FN.out.1, FN.out.2⟩
          · have q0b : m ≤ x := by omega
            clear q0
            by_cases q1 : a < x ∧ x < mid
            · have q1a := q1.1
              have q1b := q1.2
              clear q1
              go_wp2_with fail
              all_goals
                refine (IH.out _ blk n cap cb rb N capr rem _ a x mid ⟨R2.out, HM.out.only HOW.out n1 n2, n1, n2, q1a, q1b, by omega, nb, HN.out, HL.out, fun k h1 h2 => VR.out k h1 (by omega)⟩ (by omega)).mono ?_
                rintro e3 w3 ⟨c2, rfl, r3, o3, s3, m3⟩
                have R3 := Lib.hid r3
                have O3 := Lib.hid (Only.trans HOW.out o3)
                have S3 := Lib.hid s3
                have M3 := Lib.hid m3
                clear r3 o3 s3 m3
                by_cases q2 : mid < e ∧ e < b
                · have q2a := q2.1
                  have q2b := q2.2
                  clear q2
                  have P3 := Lib.hid (HRR.out.congr (fun k h1 h2 => M3.out.out k (.inr h1)) (by omega) (by omega))
                  have V3 := Lib.hid ((M3.out.mono (Nat.le_refl _) (Nat.le_of_lt md4)).vals VR.out)
                  go_wp2_with fail
                  all_goals
                    refine (IH.out _ blk n cap cb rb N capr rem _ mid e b ⟨R3.out, HM.out.only O3.out n1 n2, n1, n2, q2a, q2b, bn, nb, HN.out, P3.out, fun k h1 h2 => V3.out k (by omega) h2⟩ (by omega)).mono ?_
                    rintro e4 w4 ⟨c3, rfl, r4, o4, s4, m4⟩
                    have FN := Lib.hid (fin_merge HMM.out HP.out HC.out S3.out M3.out s4 m4 (by omega) (by omega))
                    have R4 := Lib.hid r4
                    have O4 := Lib.hid (Only.trans O3.out o4)
                    clear r4 o4 s4 m4
                    go_wp2_with fail
                    all_goals go_end0
                    all_goals exact ⟨_, rfl, R4.out, O4.out, FN.out.1, FN.out.2⟩
                · have FN := Lib.hid (fin_merge HMM.out HP.out HC.out S3.out M3.out (not_right q2 (HRR.out.congr (fun k h1 h2 => M3.out.out k (.inr h1)) (by omega) (by omega)) (by omega) (by omega)) (Same.refl _ _ _) (by omega) (by omega))
                  by_cases q2' : mid < e
                  · have q2b : b ≤ e := by omega
                    clear q2
                    go_wp2_with fail
                    all_goals go_end0
                    all_goals exact ⟨_, rfl, R3.out, O3.out, FN.out.1, FN.out.2⟩
                  · have q2b : e ≤ mid := by omega
                    clear q2
                    go_wp2_with fail
                    all_goals go_end0
                    all_goals exact ⟨_, rfl, R3.out, O3.out, FN.out.1, FN.out.2⟩
            · have S3 := Lib.hid (not_left q1 HL.out (by omega) (by omega))
              have M3 := Lib.hid (Same.refl (rotR c x m e) a mid)
              have R3 := Lib.hid R2.out
              have O3 := Lib.hid HOW.out
              by_cases q1' : a < x
              · have q1b : mid ≤ x := by omega
                clear q1
                by_cases q2 : mid < e ∧ e < b
                · have q2a := q2.1
                  have q2b := q2.2
                  clear q2
                  have P3 := Lib.hid (HRR.out.congr (fun k h1 h2 => M3.out.out k (.inr h1)) (by omega) (by omega))
                  have V3 := Lib.hid ((M3.out.mono (Nat.le_refl _) (Nat.le_of_lt md4)).vals VR.out)
                  go_wp2_with fail
                  all_goals
                    refine (IH.out _ blk n cap cb rb N capr rem _ mid e b ⟨R3.out, HM.out.only O3.out n1 n2, n1, n2, q2a, q2b, bn, nb, HN.out, P3.out, fun k h1 h2 => V3.out k (by omega) h2⟩ (by omega)).mono ?_
                    rintro e4 w4 ⟨c3, rfl, r4, o4, s4, m4⟩
                    have FN := Lib.hid (fin_merge HMM.out HP.out HC.out S3.out M3.out s4 m4 (by omega) (by omega))
                    have R4 := Lib.hid r4
                    have O4 := Lib.hid (Only.trans O3.out o4)
                    clear r4 o4 s4 m4
                    go_wp2_with fail
                    all_goals go_end0
                    all_goals exact ⟨_, rfl, R4.out, O4.out, FN.out.1, FN.out.2⟩
                · have FN := Lib.hid (fin_merge HMM.out HP.out HC.out S3.out M3.out (not_right q2 (HRR.out.congr (fun k h1 h2 => M3.out.out k (.inr h1)) (by omega) (by omega)) (by omega) (by omega)) (Same.refl _ _ _) (by omega) (by omega))
                  by_cases q2' : mid < e
                  · have q2b : b ≤ e := by omega
                    clear q2
                    go_wp2_with fail
                    all_goals go_end0
                    all_goals exact ⟨_, rfl, R3.out, O3.out, FN.out.1, FN.out.2⟩
                  · have q2b : e ≤ mid := by omega
                    clear q2
                    go_wp2_with fail
                    all_goals go_end0
                    all_goals exact ⟨_, rfl, R3.out, O3.out, FN.out.1, FN.out.2⟩
              · have q1b : x ≤ a := by omega
                clear q1
                by_cases q2 : mid < e ∧ e < b
                · have q2a := q2.1
                  have q2b := q2.2
                  clear q2
                  have P3 := Lib.hid (HRR.out.congr (fun k h1 h2 => M3.out.out k (.inr h1)) (by omega) (by omega))
                  have V3 := Lib.hid ((M3.out.mono (Nat.le_refl _) (Nat.le_of_lt md4)).vals VR.out)
                  go_wp2_with fail
                  all_goals
                    refine (IH.out _ blk n cap cb rb N capr rem _ mid e b ⟨R3.out, HM.out.only O3.out n1 n2, n1, n2, q2a, q2b, bn, nb, HN.out, P3.out, fun k h1 h2 => V3.out k (by omega) h2⟩ (by omega)).mono ?_
                    rintro e4 w4 ⟨c3, rfl, r4, o4, s4, m4⟩
                    have FN := Lib.hid (fin_merge HMM.out HP.out HC.out S3.out M3.out s4 m4 (by omega) (by omega))
                    have R4 := Lib.hid r4
                    have O4 := Lib.hid (Only.trans O3.out o4)
                    clear r4 o4 s4 m4
                    go_wp2_with fail
                    all_goals go_end0
                    all_goals exact ⟨_, rfl, R4.out, O4.out, FN.out.1, FN.out.2⟩
                · have FN := Lib.hid (fin_merge HMM.out HP.out HC.out S3.out M3.out (not_right q2 (HRR.out.congr (fun k h1 h2 => M3.out.out k (.inr h1)) (by omega) (by omega)) (by omega) (by omega)) (Same.refl _ _ _) (by omega) (by omega))
                  by_cases q2' : mid < e
                  · have q2b : b ≤ e := by omega
                    clear q2
                    go_wp2_with fail
                    all_goals go_end0
                    all_goals exact ⟨_, rfl, R3.out, O3.out, FN.out.1, FN.out.2⟩
                  · have q2b : e ≤ mid := by omega
                    clear q2
                    go_wp2_with fail
                    all_goals go_end0
                    all_goals exact ⟨_, rfl, R3.out, O3.out, FN.out.1, FN.out.2⟩
end Go.Proofs.Ytmjmamiokkkblab.sort
