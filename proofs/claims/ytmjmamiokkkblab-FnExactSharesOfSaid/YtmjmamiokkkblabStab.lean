/-
  The contract of the library's stable sort over a row of at most 64 indices that stand in their places: behind the call they stand by their keys, greater ones first, and equal ones by their indices. Conditions: as said.
-/
import Derived.Test.YtmjmamiokkkblabRows
import Derived.Test.YtmjmamiokkkblabMrg3
import Derived.WalkKit
import Derived.ProofKit
import Derived.Lib.Hide
namespace Go.Proofs.Ytmjmamiokkkblab.sort
open Go.RowKit Go.Proofs.Ytmjmamiokkkblab.mem
set_option linter.unusedVariables false

/-- the block from lo to hi, as far as it lies below n, is sorted and holds its own indices -/
structure B (rem c : Nat → Int) (n lo hi : Nat) : Prop where
  srt : Sorted rem c (min lo n) (min hi n)
  val : Vals c (min lo n) (min hi n) (min lo n : Nat) (min hi n : Nat)
theorem B.out {rem c d : Nat → Int} {n lo hi a b : Nat} (h : B rem c n lo hi) (s : Same d c a b) (hd : hi ≤ a ∨ b ≤ lo ∨ n ≤ lo) : B rem d n lo hi := by
  refine ⟨fun p q h1 h2 h3 => ?_, fun k h1 h2 => ?_⟩
  · rw [s.out p (by omega), s.out q (by omega)]; exact h.srt p q h1 h2 h3
  · rw [s.out k (by omega)]; exact h.val k h1 h2
theorem B.mk' {rem c d : Nat → Int} {n a b lo hi : Nat} (hs : Sorted rem d a b) (s : Same d c a b) (hv : Vals c a b a b) (h1 : min lo n = a) (h2 : min hi n = b) : B rem d n lo hi := by
  subst h1 h2
  exact ⟨hs, s.vals hv⟩
theorem B.empty {rem c : Nat → Int} {n lo hi : Nat} (h : n ≤ lo) : B rem c n lo hi := ⟨fun p q h1 h2 h3 => by omega, fun k h1 h2 => by omega⟩
theorem B.same {rem c : Nat → Int} {n lo hi hi' : Nat} (h : B rem c n lo hi) (e : min hi n = min hi' n) : B rem c n lo hi' := by
  obtain ⟨h1, h2⟩ := h
  rw [e] at h1 h2
  exact ⟨h1, h2⟩
theorem B.hand {rem c : Nat → Int} {n lo m hi : Nat} (h1 : B rem c n lo m) (h2 : B rem c n m hi) : Pre rem c (min lo n) (min m n) (min hi n) ∧ Vals c (min lo n) (min hi n) (min lo n : Nat) (min hi n : Nat) ∨ ¬ (lo ≤ m ∧ m ≤ hi) := by
  by_cases e : lo ≤ m ∧ m ≤ hi
  · left
    refine ⟨⟨h1.srt, h2.srt, fun p q p1 p2 q1 q2 => ?_⟩, fun k k1 k2 => ?_⟩
    · have := h1.val p p1 p2
      have := h2.val q q1 q2
      omega
    · rcases Nat.lt_or_ge k (min m n) with g | g
      · have := h1.val k k1 g; omega
      · have := h2.val k g k2; omega
  · exact .inr e

theorem B.pre {rem c : Nat → Int} {n lo m hi a m' b : Nat} (h1 : B rem c n lo m) (h2 : B rem c n m hi) (h : lo ≤ m ∧ m ≤ hi) (ea : min lo n = a) (em : min m n = m') (eb : min hi n = b) : Pre rem c a m' b ∧ Vals c a b (a : Nat) (b : Nat) := by
  subst ea em eb
  exact (B.hand h1 h2).resolve_right (fun g => g h)
theorem B.fin {rem c : Nat → Int} {n hi : Nat} (h : B rem c n 0 hi) (hn : n ≤ hi) : Sorted rem c 0 n := by
  have := h.srt
  rw [show min 0 n = 0 by omega, show min hi n = n by omega] at this
  exact this

def One (w : World) (blk n : Nat) (rem d : Nat → Int) (i j : Value) (wr : World) : Prop :=
  ∃ (a : Nat) (c : Nat → Int), i = .int .i64 a ∧ j = .int .i64 ((a : Int) + 20) ∧ (a = 0 ∨ a = 20 ∨ a = 40 ∨ a = 60) ∧ a ≤ n ∧ Row wr blk n c ∧ Only blk w wr ∧ Same c d 0 n ∧
    (∀ k, a ≤ k → k < n → c k = d k) ∧ (20 ≤ a → B rem c n 0 20) ∧ (40 ≤ a → B rem c n 20 40) ∧ (60 ≤ a → B rem c n 40 60)
def Two (w : World) (blk n : Nat) (rem d : Nat → Int) (s : Value) (wr : World) : Prop :=
  ∃ (c : Nat → Int), Row wr blk n c ∧ Only blk w wr ∧ Same c d 0 n ∧
    ((s = .int .i64 20 ∧ B rem c n 0 20 ∧ B rem c n 20 40 ∧ B rem c n 40 60 ∧ B rem c n 60 80) ∨ (s = .int .i64 40 ∧ B rem c n 0 40 ∧ B rem c n 40 80) ∨ (s = .int .i64 80 ∧ B rem c n 0 80))

def Three (w : World) (blk n : Nat) (rem d : Nat → Int) (i j : Value) (wr : World) : Prop :=
  ∃ (a : Nat) (c : Nat → Int), i = .int .i64 a ∧ j = .int .i64 ((a : Int) + 40) ∧ (a = 0 ∨ a = 40) ∧ a ≤ n ∧ Row wr blk n c ∧ Only blk w wr ∧ Same c d 0 n ∧
    (a = 0 → B rem c n 0 20 ∧ B rem c n 20 40) ∧ (40 ≤ a → B rem c n 0 40) ∧ B rem c n 40 60 ∧ B rem c n 60 80
theorem insertion_int (w : World) (blk n cap cb rb N capr : Nat) (rem d : Nat → Int) (A E : Int) (a b : Nat) (hr : Row w blk n d) (hm : Rems w cb rb N capr rem) (n1 : cb ≠ blk) (n2 : rb ≠ blk) (ha : A = a) (hb : E = b) (h1 : a ≤ b) (h2 : b ≤ n) (hn : n ≤ 1000) (hN : N = n)
    (hd : ∀ k, a ≤ k → k < b → d k = (k : Int)) :
    Calls Try.prog 31 #[.slice (some ⟨blk, 0, none⟩) n cap, .int .i64 A, .int .i64 E, less cb] w (SortPost w blk n rem d a b) := by
  subst ha hb
  exact insertion_any w blk n cap cb rb N capr rem d a b hr hm n1 n2 h1 h2 hn hN hd
theorem merge_int (w : World) (blk n cap cb rb N capr : Nat) (rem c : Nat → Int) (A M E : Int) (a m b : Nat) (ha : A = a) (hm : M = m) (hb : E = b) (h : Hand w blk n cb rb N capr rem c a m b) :
    Calls Try.prog 32 #[.slice (some ⟨blk, 0, none⟩) n cap, .int .i64 A, .int .i64 M, .int .i64 E, less cb] w (SortPost w blk n rem c a b) := by
  subst ha hm hb
  exact merge_any (b - a) w blk n cap cb rb N capr rem c a m b h (Nat.le_refl _)

set_option maxRecDepth 100000 in
set_option maxHeartbeats 4000000 in
theorem stable_any (w : World) (blk n cap cb rb N capr : Nat) (rem d : Nat → Int) (hr : Row w blk n d) (hm : Rems w cb rb N capr rem) (n1 : cb ≠ blk) (n2 : rb ≠ blk) (hn : n ≤ 64) (hN : N = n) (hd : ∀ k, k < n → d k = (k : Int)) :
    Calls Try.prog 29 #[.slice (some ⟨blk, 0, none⟩) n cap, .int .i64 n, less cb] w (SortPost w blk n rem d 0 n) := by
  have HR := Lib.hid hr
  have HM := Lib.hid hm
  have HN := Lib.hid hN
  have HD := Lib.hid hd
  clear hr hm hN hd
  go_enter Try.func29, Try.ntmps29
  go_wp2_with fail
  go_loopw [7, 8] (fun i j wr => One w blk n rem d i j wr) (fun i _ _ => 64 - (intOf i).toNat)
  case atStart => exact ⟨0, d, rfl, by go_num, by omega, by omega, HR.out, Only.refl _ _, Same.refl _ _ _, fun _ _ _ => rfl, fun h => by omega, fun h => by omega, fun h => by omega⟩
  case round =>
    obtain ⟨a, c, rfl, rfl, ha, han, hrow, honly, hs, hid, b1, b2, b3⟩ := hrel
    have HW := Lib.hid hrow
    have HO := Lib.hid honly
    have HS := Lib.hid hs
    have HI := Lib.hid hid
    have B1 := Lib.hid b1
    have B2 := Lib.hid b2
    have B3 := Lib.hid b3
    clear hrow honly hs hid b1 b2 b3
    by_cases hlt : a + 20 ≤ n
    · go_wp2_with fail
      refine (insertion_int wr blk n cap cb rb N capr rem c _ _ a (a + 20) HW.out (HM.out.only HO.out n1 n2) n1 n2 rfl (by omega) (by omega) hlt (by omega) HN.out (fun k h1 h2 => (HI.out k h1 (by omega)).trans (HD.out k (by omega)))).mono ?_
      rintro e w2 ⟨c2, rfl, r2, o2, s2, m2⟩
      have R2 := Lib.hid r2
      have O2 := Lib.hid (HO.out.trans o2)
      have S2 := Lib.hid s2
      have M2 := Lib.hid m2
      have VV := Lib.hid (show Vals c a (a + 20) a (a + 20 : Nat) from fun k h1 h2 => by rw [HI.out k h1 (by omega), HD.out k (by omega)]; omega)
      clear r2 o2 s2 m2
      go_wp2_with fail
      go_roundw
      case rel =>
        have hb := B.mk' (n := n) (lo := a) (hi := a + 20) S2.out M2.out VV.out (by omega) (by omega)
        refine ⟨a + 20, c2, by go_num, by congr 1, by omega, hlt, R2.out, O2.out, (M2.out.mono (Nat.zero_le _) hlt).trans HS.out, fun k h1 h2 => (M2.out.out k (by omega)).trans (HI.out k (by omega) h2), fun h => ?_, fun h => ?_, fun h => ?_⟩
        · by_cases e : a = 0
          · subst e; exact hb
          · exact (B1.out (by omega)).out M2.out (by omega)
        · by_cases e : a = 20
          · subst e; exact hb
          · exact (B2.out (by omega)).out M2.out (by omega)
        · by_cases e : a = 40
          · subst e; exact hb
          · exact (B3.out (by omega)).out M2.out (by omega)
      case measure => simp [intOf]; omega
    · go_wp2_with fail
      refine (insertion_int wr blk n cap cb rb N capr rem c _ _ a n HW.out (HM.out.only HO.out n1 n2) n1 n2 rfl rfl han (Nat.le_refl _) (by omega) HN.out (fun k h1 h2 => (HI.out k h1 (by omega)).trans (HD.out k (by omega)))).mono ?_
      rintro e w2 ⟨c2, rfl, r2, o2, s2, m2⟩
      have R2 := Lib.hid r2
      have O2 := Lib.hid (HO.out.trans o2)
      have hv : Vals c a n a n := fun k h1 h2 => by rw [HI.out k h1 (by omega), HD.out k (by omega)]; omega
      have SS := Lib.hid ((m2.mono (Nat.zero_le _) (Nat.le_refl _)).trans HS.out)
      have hb : ∀ hi, n ≤ hi → B rem c2 n a hi := fun hi h => B.mk' (n := n) (lo := a) (hi := hi) s2 m2 hv (by omega) (by omega)
      have C1 : Hid (B rem c2 n 0 20) := by
        by_cases e : a = 0
        · subst e; exact hb 20 (by omega)
        · exact (B1.out (by omega)).out m2 (by omega)
      have C2 : Hid (B rem c2 n 20 40) := by
        by_cases e : a = 20
        · subst e; exact hb 40 (by omega)
        · by_cases e2 : a = 0
          · exact B.empty (by omega)
          · exact (B2.out (by omega)).out m2 (by omega)
      have C3 : Hid (B rem c2 n 40 60) := by
        by_cases e : a = 40
        · subst e; exact hb 60 (by omega)
        · by_cases e2 : a = 60
          · exact (B3.out (by omega)).out m2 (by omega)
          · exact B.empty (by omega)
      have C4 : Hid (B rem c2 n 60 80) := by
        by_cases e : a = 60
        · subst e; exact hb 80 (by omega)
        · exact B.empty (by omega)
      clear r2 o2 s2 m2 hb hv
      go_wp2_with fail
      go_loopw [6] (fun s wr => Two w blk n rem d s wr) (fun s _ => 100 - (intOf s).toNat)
      case atStart => exact ⟨c2, R2.out, O2.out, SS.out, .inl ⟨rfl, C1.out, C2.out, C3.out, C4.out⟩⟩
      case round =>
        obtain ⟨c, hrow, honly, hs, hst⟩ := hrel
        have HW := Lib.hid hrow
        have HO := Lib.hid honly
        have HS := Lib.hid hs
        have HMW := Lib.hid (HM.out.only honly n1 n2)
        clear hrow honly hs
        rcases hst with ⟨rfl, d1, d2, d3, d4⟩ | ⟨rfl, d1, d2⟩ | ⟨rfl, d1⟩
        · have D1 := Lib.hid d1
          have D2 := Lib.hid d2
          have D3 := Lib.hid d3
          have D4 := Lib.hid d4
          clear d1 d2 d3 d4
          by_cases h20 : (20 : Int) < n
          · go_wp2_with fail
            go_loopw [7, 8] (fun i j wq => Three w blk n rem d i j wq) (fun i _ _ => 64 - (intOf i).toNat)
            case atStart => exact ⟨0, c, rfl, by go_num, .inl rfl, by omega, HW.out, HO.out, HS.out, fun _ => ⟨D1.out, D2.out⟩, fun h => by omega, D3.out, D4.out⟩
            case round =>
              obtain ⟨a, c, rfl, rfl, ha, han, hrow, honly, hs, e1, e2, e3, e4⟩ := hrel
              have HW := Lib.hid hrow
              have HO := Lib.hid honly
              have HS := Lib.hid hs
              have HMW := Lib.hid (HM.out.only honly n1 n2)
              have E1 := Lib.hid e1
              have E2 := Lib.hid e2
              have E3 := Lib.hid e3
              have E4 := Lib.hid e4
              clear hrow honly hs e1 e2 e3 e4
              by_cases hle : a + 40 ≤ n
              · obtain rfl : a = 0 := by omega
                have hpv := B.pre (E1.out rfl).1 (E1.out rfl).2 ⟨by omega, by omega⟩ (a := 0) (m' := 20) (b := 40) (by omega) (by omega) (by omega)
                have PV := Lib.hid hpv
                clear hpv
                go_wp2_with fail
                refine (merge_int _ blk n cap cb rb N capr rem c _ _ _ 0 20 40 (by omega) (by omega) (by omega) ⟨HW.out, HMW.out, n1, n2, by omega, by omega, by omega, by omega, HN.out, PV.out.1, fun k h1 h2 => by have := PV.out.2 k h1 h2; have := HN.out; omega⟩).mono ?_
                rintro e w2 ⟨c2, rfl, r2, o2, s2, m2⟩
                have R2 := Lib.hid r2
                have O2 := Lib.hid (HO.out.trans o2)
                have S2 := Lib.hid s2
                have M2 := Lib.hid m2
                have NB := Lib.hid (B.mk' (n := n) (lo := 0) (hi := 40) s2 m2 PV.out.2 (by omega) (by omega))
                clear r2 o2 s2 m2
                go_wp2_with fail
                go_roundw
                case rel => exact ⟨40, c2, rfl, by go_num, .inr rfl, by omega, R2.out, O2.out, (M2.out.mono (Nat.zero_le _) (by omega)).trans HS.out, fun h => by omega, fun _ => NB.out, E3.out.out M2.out (by omega), E4.out.out M2.out (by omega)⟩
                case measure => simp [intOf]
              · by_cases hmn : a + 20 < n
                · rcases ha with rfl | rfl
                  · have hpv := B.pre (E1.out rfl).1 ((E1.out rfl).2) ⟨by omega, by omega⟩ (a := 0) (m' := 20) (b := n) (by omega) (by omega) (by omega)
                    have PV := Lib.hid hpv
                    clear hpv
                    go_wp2_with fail
                    refine (merge_int _ blk n cap cb rb N capr rem c _ _ _ 0 20 n (by omega) (by omega) (by omega) ⟨HW.out, HMW.out, n1, n2, by omega, by omega, by omega, by omega, HN.out, PV.out.1, fun k h1 h2 => by have := PV.out.2 k h1 h2; have := HN.out; omega⟩).mono ?_
                    rintro e w2 ⟨c2, rfl, r2, o2, s2, m2⟩
                    have R2 := Lib.hid r2
                    have O2 := Lib.hid (HO.out.trans o2)
                    have S2 := Lib.hid s2
                    have M2 := Lib.hid m2
                    have NB := Lib.hid (B.mk' (n := n) (lo := 0) (hi := 40) s2 m2 PV.out.2 (by omega) (by omega))
                    clear r2 o2 s2 m2
                    go_wp2_with fail
                    go_roundw
                    case rel => exact ⟨c2, R2.out, O2.out, M2.out.trans HS.out, .inr (.inl ⟨rfl, NB.out, B.empty (by omega)⟩)⟩
                    case measure => simp [intOf]
                  · have hpv := B.pre E3.out E4.out ⟨by omega, by omega⟩ (a := 40) (m' := 60) (b := n) (by omega) (by omega) (by omega)
                    have PV := Lib.hid hpv
                    clear hpv
                    go_wp2_with fail
                    refine (merge_int _ blk n cap cb rb N capr rem c _ _ _ 40 60 n (by omega) (by omega) (by omega) ⟨HW.out, HMW.out, n1, n2, by omega, by omega, by omega, by omega, HN.out, PV.out.1, fun k h1 h2 => by have := PV.out.2 k h1 h2; have := HN.out; omega⟩).mono ?_
                    rintro e w2 ⟨c2, rfl, r2, o2, s2, m2⟩
                    have R2 := Lib.hid r2
                    have O2 := Lib.hid (HO.out.trans o2)
                    have S2 := Lib.hid s2
                    have M2 := Lib.hid m2
                    have NB := Lib.hid (B.mk' (n := n) (lo := 40) (hi := 80) s2 m2 PV.out.2 (by omega) (by omega))
                    clear r2 o2 s2 m2
                    go_wp2_with fail
                    go_roundw
                    case rel => exact ⟨c2, R2.out, O2.out, (M2.out.mono (Nat.zero_le _) (Nat.le_refl _)).trans HS.out, .inr (.inl ⟨rfl, (E2.out (by omega)).out M2.out (by omega), NB.out⟩)⟩
                    case measure => simp [intOf]
                · rcases ha with rfl | rfl
                  · exfalso; omega
                  · go_wp2_with fail
                    go_roundw
                    case rel => exact ⟨c, HW.out, HO.out, HS.out, .inr (.inl ⟨rfl, E2.out (by omega), E3.out.same (by omega)⟩)⟩
                    case measure => simp [intOf]
          · go_wp2_with fail
            go_end0
            exact ⟨c, rfl, HW.out, HO.out, D1.out.fin (by omega), HS.out⟩
        · have D1 := Lib.hid d1
          have D2 := Lib.hid d2
          clear d1 d2
          by_cases h40 : (40 : Int) < n
          · go_wp2_with fail
            go_loopw [7, 8] (fun i j wq => i = .int .i64 0 ∧ j = .int .i64 80 ∧ Row wq blk n c ∧ Only blk w wq) (fun _ _ _ => 0)
            case atStart => exact ⟨rfl, rfl, HW.out, HO.out⟩
            case round =>
              obtain ⟨rfl, rfl, hrow, honly⟩ := hrel
              have HW := Lib.hid hrow
              have HO := Lib.hid honly
              have HMW := Lib.hid (HM.out.only honly n1 n2)
              clear hrow honly
              have hpv := B.pre D1.out D2.out ⟨by omega, by omega⟩ (a := 0) (m' := 40) (b := n) (by omega) (by omega) (by omega)
              have PV := Lib.hid hpv
              clear hpv
              go_wp2_with fail
              refine (merge_int _ blk n cap cb rb N capr rem c _ _ _ 0 40 n (by omega) (by omega) (by omega) ⟨HW.out, HMW.out, n1, n2, by omega, by omega, by omega, by omega, HN.out, PV.out.1, fun k h1 h2 => by have := PV.out.2 k h1 h2; have := HN.out; omega⟩).mono ?_
              rintro e w2 ⟨c2, rfl, r2, o2, s2, m2⟩
              have R2 := Lib.hid r2
              have O2 := Lib.hid (HO.out.trans o2)
              have S2 := Lib.hid s2
              have M2 := Lib.hid m2
              have NB := Lib.hid (B.mk' (n := n) (lo := 0) (hi := 80) s2 m2 PV.out.2 (by omega) (by omega))
              clear r2 o2 s2 m2
              go_wp2_with fail
              go_roundw
              case rel => exact ⟨c2, R2.out, O2.out, M2.out.trans HS.out, .inr (.inr ⟨rfl, NB.out⟩)⟩
              case measure => simp [intOf]
          · go_wp2_with fail
            go_end0
            exact ⟨c, rfl, HW.out, HO.out, D1.out.fin (by omega), HS.out⟩
        · go_wp2_with fail
          go_end0
          exact ⟨c, rfl, HW.out, HO.out, d1.fin (by omega), HS.out⟩
end Go.Proofs.Ytmjmamiokkkblab.sort
