/-
  Several texts in one: Kpb3, Kpb4, Kpb5, Kpb6, Kps1, Kps2, Kps3, Kps4, Kps5, Kpg.
-/
import Derived.Test.YtebbnhnggjmbiaaRows
import Derived.Test.YtebbnhnggjmbiaaTxM
import Derived.Test.YtebbnhnggjmbiaaKpM
import Derived.IntWalk
import Derived.BigQuiet
import Derived.WalkKit
import Derived.ProofKit
import Derived.Deep.RegionHeld3
import Derived.Laws.Cover1
import Derived.Test.YtebbnhnggjmbiaaNum
namespace Go.Proofs.Ytebbnhnggjmbiaa.mem
open Go.RowKit
set_option linter.unusedVariables false

set_option maxRecDepth 100000 in
set_option maxHeartbeats 8000000 in
theorem missedByI_any (w : World) (v : Value) (n : Nat) (N : Nat → Nod) (m : Nat) (P : Nat → Pip) (lo hi : Nat) (h : NetAt w v n N m P lo hi) (hhi : hi ≤ w.heap.size) (hN : ∀ i, i < n → (N i).s.size ≤ 9223372036854775807) (va : Value) (K : Nat) (d : Nat → Int) (la ha : Nat) (hv : Sl w va K d la ha) (hha : ha ≤ w.heap.size) (hK9 : K ≤ 9223372036854775807) (r l : Int) :
    Calls Try.prog 15 #[v, va, .int .i64 r, .int .i64 l] w (IIPost w (msA n N m P K d r l) (fvC n N m P K d r l)) := by
  obtain ⟨p0, c0, p1, c1, rfl, hn9, hm9⟩ := h.parts
  have HC0 : Hid (n = 0 ∨ ∃ b o, p0 = some ⟨b, o, none⟩ ∧ lo ≤ b ∧ b < hi ∧ At w b o n 3 (nodC N)) := by
    obtain ⟨v0, v1, he, g0, g1⟩ := h.ex
    simp only [Value.agg.injEq, Array.mk.injEq, List.cons.injEq, and_true] at he
    obtain ⟨rfl, rfl⟩ := he
    obtain ⟨p, cap, hv, _, _, hc⟩ := g0.ex
    injection hv with e1 _ e2
    subst e1
    exact Lib.hid hc
  have HV := Lib.hid h
  have HN := Lib.hid hN
  obtain ⟨pa, ca, rfl⟩ := hv.sh
  have HSV := Lib.hid hv
  have A0 := boxed w (.slice p0 n c0) (.slice p1 m c1) 32
  have B0 := below_new w (.cells #[.slice p0 n c0, .slice p1 m c1] 32)
  have hs0 : (w.alloc (.cells #[.slice p0 n c0, .slice p1 m c1] 32)).heap.size = w.heap.size + 1 := by simp
  clear h hN hv
  go_enter Try.func15, Try.ntmps15
  have e0 := A0.b0
  have e1 := A0.b1
  go_wp2_with fail
  refine (forestLevelsI_any _ _ n N m P lo hi (HV.out.below B0 hhi) (by omega) HN.out _ K d la ha (HSV.out.below B0 hha) (by omega) hK9 r l).mono ?_
  rintro e w1 ⟨vl, g, rfl, ol, hg, b1⟩
  have A1 := A0.below b1 (by omega)
  have B1 := B0.trans (b1.mono (by omega))
  have hs1 := b1.size
  have f2 : w.heap.size < w1.heap.size := by omega
  clear A0 B0 b1 e0 e1 hs0 hs1
  have e0 := A1.b0
  have e1 := A1.b1
  by_cases hc : fvC n N m P K d r l = 0
  rotate_left 1
  · obtain ⟨p9, c9, rfl⟩ := ownS_sh ol
    have hb1 : (fvC n N m P K d r l != 0) = true := by simpa using hc
    have HE := Lib.hid hc
    clear hc ol
    go_wp2_with fail
    go_ret2
    have H3 := Lib.hid (show msA n N m P K d r l = 0 by unfold msA; rw [if_neg HE.out])
    exact ⟨ret_2 H3.out.symm rfl, B1⟩
  obtain ⟨hB, hKm, hn1, hn24, hr0, hr1, hl0, hl1, hfn, hbd⟩ := fv_ok hc
  rw [hfn] at ol
  obtain ⟨p9, c9, rfl⟩ := ownS_sh ol
  obtain ⟨rfl, hgl, hgc, hrow⟩ := own_row ol (by omega)
  have HOL := Lib.hid ol
  have HC := Lib.hid hc
  rw [hc]
  obtain ⟨x, hx⟩ : ∃ x : Nat → Int, (fun j : Nat => lvl n P m d r l (j : Nat)) = x := ⟨_, rfl⟩
  have HX := Lib.hid (show xl n m P d r l = x from hx)
  have hbd2 : ∀ j, j < n → -600000000000000000 ≤ x j ∧ x j ≤ 600000000000000000 := fun j hj => by rw [← hx]; exact hbd j hj
  have hrow2 : ∀ k, k < n → w1.cell? ⟨g, k, none⟩ = some (.int .i64 (x k)) := fun k hk => by rw [← hx]; exact hrow k hk
  have HR := Lib.hid hrow2
  have HBD := Lib.hid hbd2
  have HND := Lib.hid (nod_bounds hB)
  rw [hx] at HOL
  clear hc ol hrow hrow2 hbd hbd2 hx hfn
  obtain ⟨bn, on, rfl, hbl, hbh, hat⟩ : ∃ b o, p0 = some ⟨b, o, none⟩ ∧ lo ≤ b ∧ b < hi ∧ At w b o n 3 (nodC N) := by
    rcases HC0.out with h0 | h0
    · omega
    · exact h0
  have HAT := Lib.hid hat
  clear hat HC0
  clear hKm
  have H3 := Lib.hid (show msA n N m P K d r l = mxF (miF N x) 0 n by unfold msA; rw [if_pos HC.out, HX.out])
  go_wp2_with fail
  go_loopw [29, 12, 13, 14] (fun iv mv _ _ wr => ∃ k : Nat, iv = .int .i64 (k : Nat) ∧ mv = .int .i64 (mxF (miF N x) 0 k) ∧ k ≤ n ∧ w1.heap.size ≤ wr.heap.size ∧ Below w1.heap.size w1 wr) (fun iv _ _ _ _ => n - (intOf iv).toNat)
  case atStart => exact ⟨0, rfl, rfl, Nat.zero_le _, Nat.le_refl _, Below.refl _ _⟩
  case round =>
    obtain ⟨k, rfl, rfl, hk, hsz, hb⟩ := hrel
    have HBB := Lib.hid hb
    clear hb
    have k0 : (0 : Int) ≤ (k : Int) := Int.natCast_nonneg _
    by_cases hlt : k < n
    · have k1 : (k : Int) < (n : Int) := by omega
      have HLT := hlt
      have BW := Lib.hid (B1.trans (HBB.out.mono (by omega)))
      have yn0 : wr.cell? ⟨bn, on + k * 3, none⟩ = some (.string (N k).s) := (BW.out.cell (p := ⟨bn, on + k * 3, none⟩) (Nat.lt_of_lt_of_le hbh hhi)).trans (HAT.out.cell k 0 HLT (by omega))
      have yn1 : wr.cell? ⟨bn, on + k * 3 + 1, none⟩ = some (.int .i64 (N k).lo) := (BW.out.cell (p := ⟨bn, on + k * 3 + 1, none⟩) (Nat.lt_of_lt_of_le hbh hhi)).trans (HAT.out.cell k 1 HLT (by omega))
      have yn2 : wr.cell? ⟨bn, on + k * 3 + 2, none⟩ = some (.int .i64 (N k).hi) := (BW.out.cell (p := ⟨bn, on + k * 3 + 2, none⟩) (Nat.lt_of_lt_of_le hbh hhi)).trans (HAT.out.cell k 2 HLT (by omega))
      have yl : wr.cell? ⟨g, k, none⟩ = some (.int .i64 (x k)) := (HBB.out.cell (p := ⟨g, k, none⟩) hgl).trans (HR.out k hlt)
      obtain ⟨b0, b1, b2, b3⟩ := HND.out k hlt
      obtain ⟨x0, x1⟩ := HBD.out k hlt
      have HS := Lib.hid (show mxF (miF N x) 0 (k + 1) = max (max (mxF (miF N x) 0 k) ((N k).lo - x k)) (x k - (N k).hi) by
        show max (mxF (miF N x) 0 k) (max ((N k).lo - x k) (x k - (N k).hi)) = _
        omega)
      have HS2 := Lib.hid (show mxF (miF N x) 0 (k + 1) = if x k - (N k).hi > (if (N k).lo - x k > mxF (miF N x) 0 k then (N k).lo - x k else mxF (miF N x) 0 k) then x k - (N k).hi else if (N k).lo - x k > mxF (miF N x) 0 k then (N k).lo - x k else mxF (miF N x) 0 k by
        rw [HS.out]
        split <;> split at * <;> omega)
      have wa : IntKind.i64.wrap ((N k).lo - x k) = (N k).lo - x k := IntWalk.i64_in _ (by omega)
      have wb : IntKind.i64.wrap (x k - (N k).hi) = x k - (N k).hi := IntWalk.i64_in _ (by omega)
      obtain ⟨wn, hwn⟩ : ∃ wn, wn = wr.alloc (.cells #[.string (N k).s, .int .i64 (N k).lo, .int .i64 (N k).hi] 56) := ⟨_, rfl⟩
      have RN : Ob wn wr.heap.size 3 (fun k' => if k' = 0 then .string (N k).s else if k' = 1 then .int .i64 (N k).lo else .int .i64 (N k).hi) := by rw [hwn]; exact boxN wr (N k) _
      have BN : Below wr.heap.size wr wn := by rw [hwn]; exact below_new _ _
      have zn : wn.heap.size = wr.heap.size + 1 := by rw [hwn]; simp
      have yl2 : wn.cell? ⟨g, k, none⟩ = some (.int .i64 (x k)) := (BN.cell (p := ⟨g, k, none⟩) (by show g < _; omega)).trans yl
      have HB9 := Lib.hid (HBB.out.trans (BN.mono (by omega)))
      have q1 := RN.cell 1 (by omega)
      have q2 := RN.cell 2 (by omega)
      simp only [Nat.one_ne_zero, if_true, if_false, show ¬ ((2 : Nat) = 0) by omega, show ¬ ((2 : Nat) = 1) by omega] at q1 q2
      have hwn2 := hwn.symm
      clear hwn yl RN BN
      generalize mxF (miF N x) 0 k = M at *
      clear x0 x1 b0 b1 b2 b3
      go_wp2_with fail
      go_quiet (fail)
      go_wp2_with fail
      go_roundw
      case rel => exact ⟨k + 1, by go_num, by rw [HS2.out], hlt, by show w1.heap.size ≤ wn.heap.size; omega, below_drN1 HB9.out _⟩
      case measure => simp [intOf]; omega
    · have hkn : n = k := by omega
      subst hkn
      have k1 : ¬ ((n : Int) < (n : Int)) := by omega
      go_wp2_with fail
      go_ret2
      exact ⟨ret_2 H3.out.symm HC.out.symm, B1.trans (HBB.out.mono (by omega))⟩
end Go.Proofs.Ytebbnhnggjmbiaa.mem

namespace Go.Proofs.Ytebbnhnggjmbiaa.mem
open Go.RowKit
set_option linter.unusedVariables false

end Go.Proofs.Ytebbnhnggjmbiaa.mem

namespace Go.Proofs.Ytebbnhnggjmbiaa.mem
open Go.RowKit
set_option linter.unusedVariables false

set_option maxRecDepth 100000 in
set_option maxHeartbeats 8000000 in
theorem blockingPairI_any (w : World) (v : Value) (n : Nat) (N : Nat → Nod) (m : Nat) (P : Nat → Pip) (lo hi : Nat) (h : NetAt w v n N m P lo hi) (hhi : hi ≤ w.heap.size) (hN : ∀ i, i < n → (N i).s.size ≤ 9223372036854775807) (va : Value) (K : Nat) (d : Nat → Int) (la ha : Nat) (hv : Sl w va K d la ha) (hha : ha ≤ w.heap.size) (hK9 : K ≤ 9223372036854775807) :
    Calls Try.prog 17 #[v, va] w (IIIPost w (bpA n N m P K d) (bpB n N m P K d) (bpC n N m P K d)) := by
  obtain ⟨p0, c0, p1, c1, rfl, hn9, hm9⟩ := h.parts
  have HC0 : Hid (n = 0 ∨ ∃ b o, p0 = some ⟨b, o, none⟩ ∧ lo ≤ b ∧ b < hi ∧ At w b o n 3 (nodC N)) := by
    obtain ⟨v0, v1, he, g0, g1⟩ := h.ex
    simp only [Value.agg.injEq, Array.mk.injEq, List.cons.injEq, and_true] at he
    obtain ⟨rfl, rfl⟩ := he
    obtain ⟨p, cap, hv, _, _, hc⟩ := g0.ex
    injection hv with e1 _ e2
    subst e1
    exact Lib.hid hc
  have HV := Lib.hid h
  have HN := Lib.hid hN
  obtain ⟨pa, ca, rfl⟩ := hv.sh
  have HSV := Lib.hid hv
  have A0 := boxed w (.slice p0 n c0) (.slice p1 m c1) 32
  have B0 := below_new w (.cells #[.slice p0 n c0, .slice p1 m c1] 32)
  have hs0 : (w.alloc (.cells #[.slice p0 n c0, .slice p1 m c1] 32)).heap.size = w.heap.size + 1 := by simp
  clear h hN hv
  go_enter Try.func17, Try.ntmps17
  have e0 := A0.b0
  have e1 := A0.b1
  go_wp2_with fail
  refine (forestLevelsI_any _ _ n N m P lo hi (HV.out.below B0 hhi) (by omega) HN.out _ K d la ha (HSV.out.below B0 hha) (by omega) hK9 0 0).mono ?_
  rintro e w1 ⟨vl, g, rfl, ol, hg, b1⟩
  have A1 := A0.below b1 (by omega)
  have B1 := B0.trans (b1.mono (by omega))
  have hs1 := b1.size
  have f2 : w.heap.size < w1.heap.size := by omega
  clear A0 B0 b1 e0 e1 hs0 hs1
  have e0 := A1.b0
  have e1 := A1.b1
  by_cases hc : fvC n N m P K d 0 0 = 0
  rotate_left 1
  · obtain ⟨p9, c9, rfl⟩ := ownS_sh ol
    have hb1 : (fvC n N m P K d 0 0 != 0) = true := by simpa using hc
    have HE := Lib.hid hc
    clear hc ol
    go_wp2_with fail
    go_ret3
    have H3 := Lib.hid (show bpC n N m P K d = fvC n N m P K d 0 0 by unfold bpC; rw [if_neg HE.out])
    have H4 := Lib.hid (show bpA n N m P K d = 0 by unfold bpA; rw [H3.out, if_neg HE.out])
    have H5 := Lib.hid (show bpB n N m P K d = 0 by unfold bpB; rw [H3.out, if_neg HE.out])
    exact ⟨ret_3 H4.out.symm H5.out.symm H3.out.symm, B1⟩
  obtain ⟨hB, hKm, hn1, hn24, hr0, hr1, hl0, hl1, hfn, hbd⟩ := fv_ok hc
  rw [hfn] at ol
  obtain ⟨p9, c9, rfl⟩ := ownS_sh ol
  obtain ⟨rfl, hgl, hgc, hrow⟩ := own_row ol (by omega)
  have HOL := Lib.hid ol
  have HC := Lib.hid hc
  rw [hc]
  obtain ⟨x, hx⟩ : ∃ x : Nat → Int, (fun j : Nat => lvl n P m d 0 0 (j : Nat)) = x := ⟨_, rfl⟩
  have HX := Lib.hid (show xl n m P d 0 0 = x from hx)
  have hbd2 : ∀ j, j < n → -600000000000000000 ≤ x j ∧ x j ≤ 600000000000000000 := fun j hj => by rw [← hx]; exact hbd j hj
  have hrow2 : ∀ k, k < n → w1.cell? ⟨g, k, none⟩ = some (.int .i64 (x k)) := fun k hk => by rw [← hx]; exact hrow k hk
  have HR := Lib.hid hrow2
  have HBD := Lib.hid hbd2
  have HND := Lib.hid (nod_bounds hB)
  rw [hx] at HOL
  clear hc ol hrow hrow2 hbd hbd2 hx hfn
  obtain ⟨bn, on, rfl, hbl, hbh, hat⟩ : ∃ b o, p0 = some ⟨b, o, none⟩ ∧ lo ≤ b ∧ b < hi ∧ At w b o n 3 (nodC N) := by
    rcases HC0.out with h0 | h0
    · omega
    · exact h0
  have HAT := Lib.hid hat
  clear hat HC0
  clear hKm
  go_wp2_with fail
  refine (boundsOfRoot_any _ _ n N m P lo hi (HV.out.below B1 hhi) (by omega) HN.out _ x 0 w1.heap.size (owns_sl0 HOL.out) (Nat.le_refl _) (by omega) (by omega) HND.out HBD.out).mono ?_
  rintro e w4 ⟨g9, rfl, o9, hg9, b4⟩
  have hs4 := b4.size
  have B4 := B1.trans (b4.mono (by omega))
  have HO9 := Lib.hid o9
  clear o9 b4
  go_wp2_with fail
  go_loopw [26, 10, 11] (fun iv _ _ wr => ∃ a : Nat, iv = .int .i64 (a : Nat) ∧ a ≤ n ∧ (∀ i, i < a → bdR n N x i = n) ∧ w4.heap.size ≤ wr.heap.size ∧ Below w4.heap.size w4 wr) (fun iv _ _ _ => n - (intOf iv).toNat)
  case atStart => exact ⟨0, rfl, Nat.zero_le _, fun i hi => absurd hi (Nat.not_lt_zero _), Nat.le_refl _, Below.refl _ _⟩
  case round =>
    obtain ⟨a, rfl, ha, hall, hsz, hb⟩ := hrel
    have HA := Lib.hid hall
    have HB1 := Lib.hid hb
    clear hall hb
    have a0 : (0 : Int) ≤ (a : Int) := Int.natCast_nonneg _
    by_cases hlt : a < n
    · have a1 : (a : Int) < (n : Int) := by omega
      go_wp2_with fail
      go_loopw [31, 11] (fun iv _ wr => ∃ b : Nat, iv = .int .i64 (b : Nat) ∧ b ≤ n ∧ (∀ j, j < b → bdB N x a j = false) ∧ w4.heap.size ≤ wr.heap.size ∧ Below w4.heap.size w4 wr) (fun iv _ _ => n - (intOf iv).toNat)
      case atStart => exact ⟨0, rfl, Nat.zero_le _, fun i hi => absurd hi (Nat.not_lt_zero _), hsz, HB1.out⟩
      case round =>
        obtain ⟨b, rfl, hbn, hno, hsz2, hb2⟩ := hrel
        have HNO := Lib.hid hno
        have HBB := Lib.hid hb2
        clear hno hb2 HB1
        have b0 : (0 : Int) ≤ (b : Int) := Int.natCast_nonneg _
        by_cases hlt2 : b < n
        · have b1 : (b : Int) < (n : Int) := by omega
          obtain ⟨ya, _⟩ := lbRow (HO9.out.next HBB.out) hlt
          obtain ⟨_, yb⟩ := lbRow (HO9.out.next HBB.out) hlt2
          cases hp : bdB N x a b
          all_goals
            have HP := Lib.hid hp
            have hde : decide (hiF N x b < loF N x a) = _ := hp
            clear hp
            go_wp2_with fail
            go_quiet (fail)
            go_wp2_with fail
          · go_roundw
            case rel => exact ⟨b + 1, by go_num, hlt2, fun j hj => by
              rcases (by omega : j < b ∨ j = b) with h1 | h1
              · exact HNO.out j h1
              · rw [h1]; exact HP.out, hsz2, below_drN1 HBB.out _⟩
            case measure => simp [intOf]; omega
          · have hR := fi_hit HNO.out HP.out n hlt2
            have hA := fi_hit (p := fun i => decide (bdR n N x i < n)) (k := a) (fun j hj => by rw [HA.out j hj]; simp) (by show decide (bdR n N x a < n) = true; unfold bdR; rw [hR]; simpa using hlt2) n hlt
            have HAA := Lib.hid (show bdA n N x = a from hA)
            have HRR := Lib.hid (show bdR n N x a = b from hR)
            have H3 := Lib.hid (show bpC n N m P K d = 0 by unfold bpC; rw [if_pos HC.out, HX.out, HAA.out, if_pos hlt])
            have H4 := Lib.hid (show bpA n N m P K d = (a : Nat) by unfold bpA; rw [H3.out, HX.out, HAA.out]; rfl)
            have H5 := Lib.hid (show bpB n N m P K d = (b : Nat) by unfold bpB; rw [H3.out, HX.out, HAA.out, HRR.out]; rfl)
            clear hR hA
            have HW := Lib.hid (B4.trans (HBB.out.mono (by omega)))
            go_ret3
            exact ⟨ret_3 H4.out.symm H5.out.symm H3.out.symm, below_drN1 HW.out _⟩
        · have hbn2 : n = b := by omega
          subst hbn2
          have b1 : ¬ ((n : Int) < (n : Int)) := by omega
          go_wp2_with fail
          go_roundw
          case rel => exact ⟨a + 1, by go_num, hlt, fun i hi => by
            rcases (by omega : i < a ∨ i = a) with h1 | h1
            · exact HA.out i h1
            · rw [h1]; exact fi_no HNO.out, hsz2, HBB.out⟩
          case measure => simp [intOf]; omega
    · have han : n = a := by omega
      subst han
      have a1 : ¬ ((n : Int) < (n : Int)) := by omega
      have H0 := Lib.hid (show bdA n N x = n from fi_no (fun i hi => by rw [HA.out i hi]; simp))
      have H3 := Lib.hid (show bpC n N m P K d = 4 by unfold bpC; rw [if_pos HC.out, HX.out, H0.out, if_neg (Nat.lt_irrefl _)])
      have H4 := Lib.hid (show bpA n N m P K d = 0 by unfold bpA; rw [H3.out]; rfl)
      have H5 := Lib.hid (show bpB n N m P K d = 0 by unfold bpB; rw [H3.out]; rfl)
      go_wp2_with fail
      go_ret3
      exact ⟨ret_3 H4.out.symm H5.out.symm H3.out.symm, B4.trans (HB1.out.mono (by omega))⟩
end Go.Proofs.Ytebbnhnggjmbiaa.mem

namespace Go.Proofs.Ytebbnhnggjmbiaa.mem
open Go.RowKit
set_option linter.unusedVariables false

set_option maxRecDepth 100000 in
set_option maxHeartbeats 8000000 in
theorem isWithinI_any (w : World) (v : Value) (n : Nat) (N : Nat → Nod) (m : Nat) (P : Nat → Pip) (lo hi : Nat) (h : NetAt w v n N m P lo hi) (hhi : hi ≤ w.heap.size) (hN : ∀ i, i < n → (N i).s.size ≤ 9223372036854775807) (va : Value) (K : Nat) (d : Nat → Int) (la ha : Nat) (hv : Sl w va K d la ha) (hha : ha ≤ w.heap.size) (hK9 : K ≤ 9223372036854775807) :
    Calls Try.prog 11 #[v, va] w (BPost w (iwB n N m P K d)) := by
  obtain ⟨p0, c0, p1, c1, rfl, hn9, hm9⟩ := h.parts
  have HC0 : Hid (n = 0 ∨ ∃ b o, p0 = some ⟨b, o, none⟩ ∧ lo ≤ b ∧ b < hi ∧ At w b o n 3 (nodC N)) := by
    obtain ⟨v0, v1, he, g0, g1⟩ := h.ex
    simp only [Value.agg.injEq, Array.mk.injEq, List.cons.injEq, and_true] at he
    obtain ⟨rfl, rfl⟩ := he
    obtain ⟨p, cap, hv, _, _, hc⟩ := g0.ex
    injection hv with e1 _ e2
    subst e1
    exact Lib.hid hc
  have HV := Lib.hid h
  have HN := Lib.hid hN
  obtain ⟨pa, ca, rfl⟩ := hv.sh
  have HSV := Lib.hid hv
  have A0 := boxed w (.slice p0 n c0) (.slice p1 m c1) 32
  have B0 := below_new w (.cells #[.slice p0 n c0, .slice p1 m c1] 32)
  have hs0 : (w.alloc (.cells #[.slice p0 n c0, .slice p1 m c1] 32)).heap.size = w.heap.size + 1 := by simp
  clear h hN hv
  go_enter Try.func11, Try.ntmps11
  have e0 := A0.b0
  have e1 := A0.b1
  go_wp2_with fail
  refine (isNetwork_any _ _ n N m P lo hi (HV.out.below B0 hhi) (by omega) HN.out).mono ?_
  rintro e w1 ⟨rfl, b1⟩
  have A1 := A0.below b1 (by omega)
  have B1 := B0.trans (b1.mono (by omega))
  have hs1 := b1.size
  have f2 : w.heap.size < w1.heap.size := by omega
  clear A0 B0 b1 e0 e1 hs0 hs1 HC0
  have e0 := A1.b0
  have e1 := A1.b1
  cases hB : netB n N m P
  · have H := Lib.hid (show iwB n N m P K d = false by unfold iwB; rw [hB]; rfl)
    clear hB
    go_wp2_with fail
    go_ret
    exact ⟨by rw [H.out]; rfl, B1⟩
  obtain ⟨hn1, hn24, hm40⟩ := net_sz hB
  have HB := Lib.hid hB
  by_cases hK : K = n
  rotate_left 1
  · have hne : ((K : Int) != (n : Int)) = true := by simp; omega
    have H := Lib.hid (show iwB n N m P K d = false by unfold iwB; rw [hB, decide_eq_false hK]; rfl)
    clear hK hB
    go_wp2_with fail
    go_ret
    exact ⟨by rw [H.out]; rfl, B1⟩
  have hnK : n = K := hK.symm
  clear hK
  subst hnK
  have hne : ((n : Int) != (n : Int)) = false := by simp
  have H := Lib.hid (show iwB n N m P n d = decide ((fl (inB N d) n).length = n) by unfold iwB; rw [hB, decide_eq_true rfl]; rfl)
  clear hB
  go_wp2_with fail
  have K0 : Below w1.heap.size w1 w1.drew := ⟨rfl, rfl, rfl, Nat.le_refl _, fun _ _ => rfl⟩
  have BD := B1.trans (K0.mono (by omega))
  have HK : ∀ X : World, Below w1.heap.size w1 X → X.cell? ⟨w.heap.size, 0, none⟩ = some (.slice p0 n c0) ∧ X.cell? ⟨w.heap.size, 1, none⟩ = some (.slice p1 m c1) := fun X h => ⟨(A1.next h).b0, (A1.next h).b1⟩
  go_region_held3 (fun X : World => X.cell? ⟨w.heap.size, 0, none⟩ = some (.slice p0 n c0) ∧ X.cell? ⟨w.heap.size, 1, none⟩ = some (.slice p1 m c1)) (first | exact HK _ K0 | exact HK _ KX)
    (first | (go_at_call 27; refine (passIn_any _ _ n N m P lo hi (HV.out.below BD hhi) (by show hi ≤ w1.heap.size; omega) HN.out _ d la ha (HSV.out.below BD hha) (by show ha ≤ w1.heap.size; omega) (by omega) (by omega)).mono ?_; rintro e wC ⟨v2, g2, rfl, o2, hg2, b2⟩; obtain ⟨c2, rfl⟩ := o2.shape; have KX : Below w1.heap.size w1 wC := K0.trans (b2.mono K0.size); clear b2 o2))
  have HX := Lib.hid (B1.trans (KX.mono (by omega)))
  have hq : (((fl (inB N d) n).length : Int) == (n : Int)) = decide ((fl (inB N d) n).length = n) := by
    rw [Bool.eq_iff_iff, beq_iff_eq, decide_eq_true_eq]
    omega
  clear KX HK K0 BD
  go_wp2_with fail
  go_ret
  exact ⟨by rw [H.out, ← hq]; rfl, HX.out⟩
end Go.Proofs.Ytebbnhnggjmbiaa.mem

namespace Go.Proofs.Ytebbnhnggjmbiaa.mem
open Go.RowKit
set_option linter.unusedVariables false

set_option maxRecDepth 100000 in
set_option maxHeartbeats 8000000 in
theorem missedByS_any (w : World) (v : Value) (n : Nat) (N : Nat → Nod) (m : Nat) (P : Nat → Pip) (lo hi : Nat) (h : NetAt w v n N m P lo hi) (hhi : hi ≤ w.heap.size) (hN : ∀ i, i < n → (N i).s.size ≤ 9223372036854775807) (va : Value) (K : Nat) (d : Nat → Int) (la ha : Nat) (hv : Sl w va K d la ha) (hha : ha ≤ w.heap.size) (hK9 : K ≤ 9223372036854775807) (r l : Int) :
    Calls Try.prog 14 #[v, va, .int .i64 r, .int .i64 l] w (IIPost w (msA n N m P K d r l) (fvC n N m P K d r l)) := by
  obtain ⟨p0, c0, p1, c1, rfl, hn9, hm9⟩ := h.parts
  have HC0 : Hid (n = 0 ∨ ∃ b o, p0 = some ⟨b, o, none⟩ ∧ lo ≤ b ∧ b < hi ∧ At w b o n 3 (nodC N)) := by
    obtain ⟨v0, v1, he, g0, g1⟩ := h.ex
    simp only [Value.agg.injEq, Array.mk.injEq, List.cons.injEq, and_true] at he
    obtain ⟨rfl, rfl⟩ := he
    obtain ⟨p, cap, hv, _, _, hc⟩ := g0.ex
    injection hv with e1 _ e2
    subst e1
    exact Lib.hid hc
  have HV := Lib.hid h
  have HN := Lib.hid hN
  obtain ⟨pa, ca, rfl⟩ := hv.sh
  have HSV := Lib.hid hv
  have A0 := boxed w (.slice p0 n c0) (.slice p1 m c1) 32
  have B0 := below_new w (.cells #[.slice p0 n c0, .slice p1 m c1] 32)
  have hs0 : (w.alloc (.cells #[.slice p0 n c0, .slice p1 m c1] 32)).heap.size = w.heap.size + 1 := by simp
  clear h hN hv
  go_enter Try.func14, Try.ntmps14
  have e0 := A0.b0
  have e1 := A0.b1
  go_wp2_with fail
  refine (forestLevelsS_any _ _ n N m P lo hi (HV.out.below B0 hhi) (by omega) HN.out _ K d la ha (HSV.out.below B0 hha) (by omega) hK9 r l).mono ?_
  rintro e w1 ⟨vl, g, rfl, ol, hg, b1⟩
  have A1 := A0.below b1 (by omega)
  have B1 := B0.trans (b1.mono (by omega))
  have hs1 := b1.size
  have f2 : w.heap.size < w1.heap.size := by omega
  clear A0 B0 b1 e0 e1 hs0 hs1
  have e0 := A1.b0
  have e1 := A1.b1
  by_cases hc : fvC n N m P K d r l = 0
  rotate_left 1
  · obtain ⟨p9, c9, rfl⟩ := ownS_sh ol
    have hb1 : (fvC n N m P K d r l != 0) = true := by simpa using hc
    have HE := Lib.hid hc
    clear hc ol
    go_wp2_with fail
    go_ret2
    have H3 := Lib.hid (show msA n N m P K d r l = 0 by unfold msA; rw [if_neg HE.out])
    exact ⟨ret_2 H3.out.symm rfl, B1⟩
  obtain ⟨hB, hKm, hn1, hn24, hr0, hr1, hl0, hl1, hfn, hbd⟩ := fv_ok hc
  rw [hfn] at ol
  obtain ⟨p9, c9, rfl⟩ := ownS_sh ol
  obtain ⟨rfl, hgl, hgc, hrow⟩ := own_row ol (by omega)
  have HOL := Lib.hid ol
  have HC := Lib.hid hc
  rw [hc]
  obtain ⟨x, hx⟩ : ∃ x : Nat → Int, (fun j : Nat => lvl n P m d r l (j : Nat)) = x := ⟨_, rfl⟩
  have HX := Lib.hid (show xl n m P d r l = x from hx)
  have hbd2 : ∀ j, j < n → -600000000000000000 ≤ x j ∧ x j ≤ 600000000000000000 := fun j hj => by rw [← hx]; exact hbd j hj
  have hrow2 : ∀ k, k < n → w1.cell? ⟨g, k, none⟩ = some (.int .i64 (x k)) := fun k hk => by rw [← hx]; exact hrow k hk
  have HR := Lib.hid hrow2
  have HBD := Lib.hid hbd2
  have HND := Lib.hid (nod_bounds hB)
  rw [hx] at HOL
  clear hc ol hrow hrow2 hbd hbd2 hx hfn
  obtain ⟨bn, on, rfl, hbl, hbh, hat⟩ : ∃ b o, p0 = some ⟨b, o, none⟩ ∧ lo ≤ b ∧ b < hi ∧ At w b o n 3 (nodC N) := by
    rcases HC0.out with h0 | h0
    · omega
    · exact h0
  have HAT := Lib.hid hat
  clear hat HC0
  clear hKm
  have H3 := Lib.hid (show msA n N m P K d r l = mxF (miF N x) 0 n by unfold msA; rw [if_pos HC.out, HX.out])
  go_wp2_with fail
  go_loopw [12, 13] (fun mv iv wr => ∃ k : Nat, iv = .int .i64 (k : Nat) ∧ mv = .int .i64 (mxF (miF N x) 0 k) ∧ k ≤ n ∧ w1.heap.size ≤ wr.heap.size ∧ Below w1.heap.size w1 wr) (fun _ iv _ => n - (intOf iv).toNat)
  case atStart => exact ⟨0, rfl, rfl, Nat.zero_le _, Nat.le_refl _, Below.refl _ _⟩
  case round =>
    obtain ⟨k, rfl, rfl, hk, hsz, hb⟩ := hrel
    have HBB := Lib.hid hb
    clear hb
    have k0 : (0 : Int) ≤ (k : Int) := Int.natCast_nonneg _
    by_cases hlt : k < n
    · have k1 : (k : Int) < (n : Int) := by omega
      have HLT := hlt
      have BW := Lib.hid (B1.trans (HBB.out.mono (by omega)))
      have f0 : wr.cell? ⟨w.heap.size, 0, none⟩ = some (.slice (some ⟨bn, on, none⟩) n c0) := (HBB.out.cell (p := ⟨w.heap.size, 0, none⟩) f2).trans e0
      have yn1 : wr.cell? ⟨bn, on + k * 3 + 1, none⟩ = some (.int .i64 (N k).lo) := (BW.out.cell (p := ⟨bn, on + k * 3 + 1, none⟩) (Nat.lt_of_lt_of_le hbh hhi)).trans (HAT.out.cell k 1 HLT (by omega))
      have yn2 : wr.cell? ⟨bn, on + k * 3 + 2, none⟩ = some (.int .i64 (N k).hi) := (BW.out.cell (p := ⟨bn, on + k * 3 + 2, none⟩) (Nat.lt_of_lt_of_le hbh hhi)).trans (HAT.out.cell k 2 HLT (by omega))
      have yl : wr.cell? ⟨g, k, none⟩ = some (.int .i64 (x k)) := (HBB.out.cell (p := ⟨g, k, none⟩) hgl).trans (HR.out k hlt)
      obtain ⟨b0, b1, b2, b3⟩ := HND.out k hlt
      obtain ⟨x0, x1⟩ := HBD.out k hlt
      have HS := Lib.hid (show mxF (miF N x) 0 (k + 1) = max (mxF (miF N x) 0 k) (max ((N k).lo - x k) (x k - (N k).hi)) by rfl)
      have wa : IntKind.i64.wrap ((N k).lo - x k) = (N k).lo - x k := IntWalk.i64_in _ (by omega)
      have wb : IntKind.i64.wrap (x k - (N k).hi) = x k - (N k).hi := IntWalk.i64_in _ (by omega)
      generalize (N k).lo = lo' at *
      generalize (N k).hi = hi' at *
      generalize x k = xk at *
      generalize mxF (miF N x) 0 k = M at *
      clear x0 x1 b0 b1 b2 b3
      go_wp2_with fail
      go_quiet (fail)
      go_wp2_with fail
      go_roundw
      case rel => exact ⟨k + 1, by go_num, by rw [HS.out], hlt, hsz, below_drN1 HBB.out _⟩
      case measure => simp [intOf]; omega
    · have hkn : n = k := by omega
      subst hkn
      have k1 : ¬ ((n : Int) < (n : Int)) := by omega
      have HM := H3
      go_wp2_with fail
      go_ret2
      exact ⟨ret_2 HM.out.symm HC.out.symm, B1.trans (HBB.out.mono (by omega))⟩
end Go.Proofs.Ytebbnhnggjmbiaa.mem

namespace Go.Proofs.Ytebbnhnggjmbiaa.mem
open Go.RowKit
set_option linter.unusedVariables false

end Go.Proofs.Ytebbnhnggjmbiaa.mem

namespace Go.Proofs.Ytebbnhnggjmbiaa.mem
open Go.RowKit
set_option linter.unusedVariables false

end Go.Proofs.Ytebbnhnggjmbiaa.mem

namespace Go.Proofs.Ytebbnhnggjmbiaa.mem
open Go.RowKit
set_option linter.unusedVariables false

set_option maxRecDepth 100000 in
set_option maxHeartbeats 8000000 in
theorem blockingPairS_any (w : World) (v : Value) (n : Nat) (N : Nat → Nod) (m : Nat) (P : Nat → Pip) (lo hi : Nat) (h : NetAt w v n N m P lo hi) (hhi : hi ≤ w.heap.size) (hN : ∀ i, i < n → (N i).s.size ≤ 9223372036854775807) (va : Value) (K : Nat) (d : Nat → Int) (la ha : Nat) (hv : Sl w va K d la ha) (hha : ha ≤ w.heap.size) (hK9 : K ≤ 9223372036854775807) :
    Calls Try.prog 16 #[v, va] w (IIIPost w (bpA n N m P K d) (bpB n N m P K d) (bpC n N m P K d)) := by
  obtain ⟨p0, c0, p1, c1, rfl, hn9, hm9⟩ := h.parts
  have HC0 : Hid (n = 0 ∨ ∃ b o, p0 = some ⟨b, o, none⟩ ∧ lo ≤ b ∧ b < hi ∧ At w b o n 3 (nodC N)) := by
    obtain ⟨v0, v1, he, g0, g1⟩ := h.ex
    simp only [Value.agg.injEq, Array.mk.injEq, List.cons.injEq, and_true] at he
    obtain ⟨rfl, rfl⟩ := he
    obtain ⟨p, cap, hv, _, _, hc⟩ := g0.ex
    injection hv with e1 _ e2
    subst e1
    exact Lib.hid hc
  have HV := Lib.hid h
  have HN := Lib.hid hN
  obtain ⟨pa, ca, rfl⟩ := hv.sh
  have HSV := Lib.hid hv
  have A0 := boxed w (.slice p0 n c0) (.slice p1 m c1) 32
  have B0 := below_new w (.cells #[.slice p0 n c0, .slice p1 m c1] 32)
  have hs0 : (w.alloc (.cells #[.slice p0 n c0, .slice p1 m c1] 32)).heap.size = w.heap.size + 1 := by simp
  clear h hN hv
  go_enter Try.func16, Try.ntmps16
  have e0 := A0.b0
  have e1 := A0.b1
  go_wp2_with fail
  refine (forestLevelsS_any _ _ n N m P lo hi (HV.out.below B0 hhi) (by omega) HN.out _ K d la ha (HSV.out.below B0 hha) (by omega) hK9 0 0).mono ?_
  rintro e w1 ⟨vl, g, rfl, ol, hg, b1⟩
  have A1 := A0.below b1 (by omega)
  have B1 := B0.trans (b1.mono (by omega))
  have hs1 := b1.size
  have f2 : w.heap.size < w1.heap.size := by omega
  clear A0 B0 b1 e0 e1 hs0 hs1
  have e0 := A1.b0
  have e1 := A1.b1
  by_cases hc : fvC n N m P K d 0 0 = 0
  rotate_left 1
  · obtain ⟨p9, c9, rfl⟩ := ownS_sh ol
    have hb1 : (fvC n N m P K d 0 0 != 0) = true := by simpa using hc
    have HE := Lib.hid hc
    clear hc ol
    go_wp2_with fail
    go_ret3
    have H3 := Lib.hid (show bpC n N m P K d = fvC n N m P K d 0 0 by unfold bpC; rw [if_neg HE.out])
    have H4 := Lib.hid (show bpA n N m P K d = 0 by unfold bpA; rw [H3.out, if_neg HE.out])
    have H5 := Lib.hid (show bpB n N m P K d = 0 by unfold bpB; rw [H3.out, if_neg HE.out])
    exact ⟨ret_3 H4.out.symm H5.out.symm H3.out.symm, B1⟩
  obtain ⟨hB, hKm, hn1, hn24, hr0, hr1, hl0, hl1, hfn, hbd⟩ := fv_ok hc
  rw [hfn] at ol
  obtain ⟨p9, c9, rfl⟩ := ownS_sh ol
  obtain ⟨rfl, hgl, hgc, hrow⟩ := own_row ol (by omega)
  have HOL := Lib.hid ol
  have HC := Lib.hid hc
  rw [hc]
  obtain ⟨x, hx⟩ : ∃ x : Nat → Int, (fun j : Nat => lvl n P m d 0 0 (j : Nat)) = x := ⟨_, rfl⟩
  have HX := Lib.hid (show xl n m P d 0 0 = x from hx)
  have hbd2 : ∀ j, j < n → -600000000000000000 ≤ x j ∧ x j ≤ 600000000000000000 := fun j hj => by rw [← hx]; exact hbd j hj
  have hrow2 : ∀ k, k < n → w1.cell? ⟨g, k, none⟩ = some (.int .i64 (x k)) := fun k hk => by rw [← hx]; exact hrow k hk
  have HR := Lib.hid hrow2
  have HBD := Lib.hid hbd2
  have HND := Lib.hid (nod_bounds hB)
  rw [hx] at HOL
  clear hc ol hrow hrow2 hbd hbd2 hx hfn
  obtain ⟨bn, on, rfl, hbl, hbh, hat⟩ : ∃ b o, p0 = some ⟨b, o, none⟩ ∧ lo ≤ b ∧ b < hi ∧ At w b o n 3 (nodC N) := by
    rcases HC0.out with h0 | h0
    · omega
    · exact h0
  have HAT := Lib.hid hat
  clear hat HC0
  clear hKm
  go_wp2_with fail
  go_loopw [9, 10] (fun iv _ wr => ∃ a : Nat, iv = .int .i64 (a : Nat) ∧ a ≤ n ∧ (∀ i, i < a → bdR n N x i = n) ∧ w1.heap.size ≤ wr.heap.size ∧ Below w1.heap.size w1 wr) (fun iv _ _ => n - (intOf iv).toNat)
  case atStart => exact ⟨0, rfl, Nat.zero_le _, fun i hi => absurd hi (Nat.not_lt_zero _), Nat.le_refl _, Below.refl _ _⟩
  case round =>
    obtain ⟨a, rfl, ha, hall, hsz, hb⟩ := hrel
    have HA := Lib.hid hall
    have HB1 := Lib.hid hb
    clear hall hb
    have a0 : (0 : Int) ≤ (a : Int) := Int.natCast_nonneg _
    by_cases hlt : a < n
    · have a1 : (a : Int) < (n : Int) := by omega
      go_wp2_with fail
      go_loopw [10] (fun iv wr => ∃ b : Nat, iv = .int .i64 (b : Nat) ∧ b ≤ n ∧ (∀ j, j < b → bdB N x a j = false) ∧ w1.heap.size ≤ wr.heap.size ∧ Below w1.heap.size w1 wr) (fun iv _ => n - (intOf iv).toNat)
      case atStart => exact ⟨0, rfl, Nat.zero_le _, fun i hi => absurd hi (Nat.not_lt_zero _), hsz, HB1.out⟩
      case round =>
        obtain ⟨b, rfl, hbn, hno, hsz2, hb2⟩ := hrel
        have HNO := Lib.hid hno
        have HBB := Lib.hid hb2
        clear hno hb2 HB1
        have b0 : (0 : Int) ≤ (b : Int) := Int.natCast_nonneg _
        by_cases hlt2 : b < n
        · have b1 : (b : Int) < (n : Int) := by omega
          have BW := Lib.hid (B1.trans (HBB.out.mono (by omega)))
          have f0 : wr.cell? ⟨w.heap.size, 0, none⟩ = some (.slice (some ⟨bn, on, none⟩) n c0) := (HBB.out.cell (p := ⟨w.heap.size, 0, none⟩) f2).trans e0
          have HLT := hlt
          have yna1 : wr.cell? ⟨bn, on + a * 3 + 1, none⟩ = some (.int .i64 (N a).lo) := (BW.out.cell (p := ⟨bn, on + a * 3 + 1, none⟩) (Nat.lt_of_lt_of_le hbh hhi)).trans (HAT.out.cell a 1 HLT (by omega))
          have HLT := hlt2
          have ynb2 : wr.cell? ⟨bn, on + b * 3 + 2, none⟩ = some (.int .i64 (N b).hi) := (BW.out.cell (p := ⟨bn, on + b * 3 + 2, none⟩) (Nat.lt_of_lt_of_le hbh hhi)).trans (HAT.out.cell b 2 HLT (by omega))
          have yla : wr.cell? ⟨g, a, none⟩ = some (.int .i64 (x a)) := (HBB.out.cell (p := ⟨g, a, none⟩) hgl).trans (HR.out a hlt)
          have ylb : wr.cell? ⟨g, b, none⟩ = some (.int .i64 (x b)) := (HBB.out.cell (p := ⟨g, b, none⟩) hgl).trans (HR.out b hlt2)
          obtain ⟨c0', c1', c2', c3'⟩ := HND.out a hlt
          obtain ⟨d0', d1', d2', d3'⟩ := HND.out b hlt2
          obtain ⟨x0, x1⟩ := HBD.out a hlt
          obtain ⟨x2, x3⟩ := HBD.out b hlt2
          obtain ⟨A, hA⟩ : ∃ A, A = (N a).lo - (N b).hi := ⟨_, rfl⟩
          obtain ⟨D, hD⟩ : ∃ D, D = x a - x b := ⟨_, rfl⟩
          have wa : IntKind.i64.wrap ((N a).lo - (N b).hi) = A := by rw [hA]; exact IntWalk.i64_in _ (by omega)
          have wb : IntKind.i64.wrap (x a - x b) = D := by rw [hD]; exact IntWalk.i64_in _ (by omega)
          have hiff : (D < A) ↔ (hiF N x b < loF N x a) := by unfold hiF loF; omega
          clear hA hD
          clear c0' c1' c2' c3' d0' d1' d2' d3' x0 x1 x2 x3
          cases hp : bdB N x a b
          all_goals
            have HP := Lib.hid hp
            have hde : decide (D < A) = _ := (decide_eq_decide.2 hiff).trans hp
            clear hp hiff
            go_wp2_with fail
            go_quiet (fail)
            go_wp2_with fail
          · go_roundw
            case rel => exact ⟨b + 1, by go_num, hlt2, fun j hj => by
              rcases (by omega : j < b ∨ j = b) with h1 | h1
              · exact HNO.out j h1
              · rw [h1]; exact HP.out, hsz2, below_drN1 HBB.out _⟩
            case measure => simp [intOf]; omega
          · have hR := fi_hit HNO.out HP.out n hlt2
            have hA := fi_hit (p := fun i => decide (bdR n N x i < n)) (k := a) (fun j hj => by rw [HA.out j hj]; simp) (by show decide (bdR n N x a < n) = true; unfold bdR; rw [hR]; simpa using hlt2) n hlt
            have HAA := Lib.hid (show bdA n N x = a from hA)
            have HRR := Lib.hid (show bdR n N x a = b from hR)
            have H3 := Lib.hid (show bpC n N m P K d = 0 by unfold bpC; rw [if_pos HC.out, HX.out, HAA.out, if_pos hlt])
            have H4 := Lib.hid (show bpA n N m P K d = (a : Nat) by unfold bpA; rw [H3.out, HX.out, HAA.out]; rfl)
            have H5 := Lib.hid (show bpB n N m P K d = (b : Nat) by unfold bpB; rw [H3.out, HX.out, HAA.out, HRR.out]; rfl)
            clear hR hA
            have HW := Lib.hid (B1.trans (HBB.out.mono (by omega)))
            go_ret3
            exact ⟨ret_3 H4.out.symm H5.out.symm H3.out.symm, below_drN1 HW.out _⟩
        · have hbn2 : n = b := by omega
          subst hbn2
          have b1 : ¬ ((n : Int) < (n : Int)) := by omega
          go_wp2_with fail
          go_roundw
          case rel => exact ⟨a + 1, by go_num, hlt, fun i hi => by
            rcases (by omega : i < a ∨ i = a) with h1 | h1
            · exact HA.out i h1
            · rw [h1]; exact fi_no HNO.out, hsz2, HBB.out⟩
          case measure => simp [intOf]; omega
    · have han : n = a := by omega
      subst han
      have a1 : ¬ ((n : Int) < (n : Int)) := by omega
      have H0 := Lib.hid (show bdA n N x = n from fi_no (fun i hi => by rw [HA.out i hi]; simp))
      have H3 := Lib.hid (show bpC n N m P K d = 4 by unfold bpC; rw [if_pos HC.out, HX.out, H0.out, if_neg (Nat.lt_irrefl _)])
      have H4 := Lib.hid (show bpA n N m P K d = 0 by unfold bpA; rw [H3.out]; rfl)
      have H5 := Lib.hid (show bpB n N m P K d = 0 by unfold bpB; rw [H3.out]; rfl)
      go_wp2_with fail
      go_ret3
      exact ⟨ret_3 H4.out.symm H5.out.symm H3.out.symm, B1.trans (HB1.out.mono (by omega))⟩
end Go.Proofs.Ytebbnhnggjmbiaa.mem

namespace Go.Proofs.Ytebbnhnggjmbiaa.mem
open Go.RowKit
set_option linter.unusedVariables false

set_option maxRecDepth 100000 in
set_option maxHeartbeats 8000000 in
theorem l08Within_any (w : World) (v : Value) (n : Nat) (N : Nat → Nod) (m : Nat) (P : Nat → Pip) (lo hi : Nat) (h : NetAt w v n N m P lo hi) (hhi : hi ≤ w.heap.size) (hN : ∀ i, i < n → (N i).s.size ≤ 9223372036854775807) (va : Value) (x : Nat → Int) (la ha : Nat) (hv : Sl w va n x la ha) (hha : ha ≤ w.heap.size) (hn1 : 0 < n) (hn : n ≤ 1000000) :
    Calls Try.prog 23 #[v, va] w (BPost w (decide ((fl (inB N x) n).length = n))) := by
  obtain ⟨p0, c0, p1, c1, rfl, hn9, hm9⟩ := h.parts
  have hat0 : ∃ b o, p0 = some ⟨b, o, none⟩ ∧ lo ≤ b ∧ b < hi ∧ At w b o n 3 (nodC N) := by
    obtain ⟨v0, v1, he, g0, g1⟩ := h.ex
    simp only [Value.agg.injEq, Array.mk.injEq, List.cons.injEq, and_true] at he
    obtain ⟨rfl, rfl⟩ := he
    obtain ⟨p, cap, hv, _, _, hc⟩ := g0.ex
    injection hv with e1 _ e2
    subst e1
    rcases hc with h0 | h0
    · omega
    · exact h0
  obtain ⟨bn, on, rfl, hbl, hbh, hat⟩ := hat0
  have HAT := Lib.hid hat
  have hsl : ∃ ca b o, va = .slice (some ⟨b, o, none⟩) n ca ∧ la ≤ b ∧ b < ha ∧ ∀ k, k < n → w.cell? ⟨b, o + k, none⟩ = some (.int .i64 (x k)) := by
    obtain ⟨p, cap, hv0, h1⟩ := hv.ex
    rcases h1 with h1 | ⟨b, o, h1, h2, h3, h4⟩
    · omega
    · subst h1
      exact ⟨cap, b, o, hv0, h2, h3, h4⟩
  obtain ⟨ca, ba, oa, rfl, hla, hba, hrow⟩ := hsl
  have HR := Lib.hid hrow
  clear h hN hv hat hrow
  have A0 := boxed w (.slice (some ⟨bn, on, none⟩) n c0) (.slice p1 m c1) 32
  have B0 := below_new w (.cells #[.slice (some ⟨bn, on, none⟩) n c0, .slice p1 m c1] 32)
  have hs0 : (w.alloc (.cells #[.slice (some ⟨bn, on, none⟩) n c0, .slice p1 m c1] 32)).heap.size = w.heap.size + 1 := by simp
  go_enter Try.func23, Try.ntmps23
  have e0 := A0.b0
  go_wp2_with fail
  generalize hW : w.alloc (Obj.cells #[.slice (some ⟨bn, on, none⟩) n c0, .slice p1 m c1] 32) = w1 at *
  clear hW
  replace hs0 := Nat.le_antisymm_iff.1 hs0
  go_loopw [5] (fun iv wr => ∃ k : Nat, iv = .int .i64 (k : Nat) ∧ k ≤ n ∧ (∀ j, j < k → inB N x j = true) ∧ w1.heap.size ≤ wr.heap.size ∧ Below w1.heap.size w1 wr) (fun iv _ => n - (intOf iv).toNat)
  case atStart => exact ⟨0, rfl, Nat.zero_le _, fun j hj => absurd hj (Nat.not_lt_zero _), Nat.le_refl _, Below.refl _ _⟩
  case round =>
    obtain ⟨k, rfl, hk, hall, hsz, hb⟩ := hrel
    have HA := Lib.hid hall
    have HBB := Lib.hid hb
    clear hall hb
    have k0 : (0 : Int) ≤ (k : Int) := Int.natCast_nonneg _
    by_cases hlt : k < n
    · have k1 : (k : Int) < (n : Int) := by omega
      have HLT := hlt
      have BW := Lib.hid (B0.trans (HBB.out.mono (by omega)))
      have f0 : wr.cell? ⟨w.heap.size, 0, none⟩ = some (.slice (some ⟨bn, on, none⟩) n c0) := (HBB.out.cell (p := ⟨w.heap.size, 0, none⟩) (by show w.heap.size < _; omega)).trans e0
      have yn1 : wr.cell? ⟨bn, on + k * 3 + 1, none⟩ = some (.int .i64 (N k).lo) := (BW.out.cell (p := ⟨bn, on + k * 3 + 1, none⟩) (Nat.lt_of_lt_of_le hbh hhi)).trans (HAT.out.cell k 1 HLT (by omega))
      have yn2 : wr.cell? ⟨bn, on + k * 3 + 2, none⟩ = some (.int .i64 (N k).hi) := (BW.out.cell (p := ⟨bn, on + k * 3 + 2, none⟩) (Nat.lt_of_lt_of_le hbh hhi)).trans (HAT.out.cell k 2 HLT (by omega))
      have yl : wr.cell? ⟨ba, oa + k, none⟩ = some (.int .i64 (x k)) := (BW.out.cell (p := ⟨ba, oa + k, none⟩) (Nat.lt_of_lt_of_le hba hha)).trans (HR.out k hlt)
      cases hp : inB N x k
      all_goals
        have HP := Lib.hid hp
        have hpe : inR (x k) (N k).lo (N k).hi = _ := hp
        clear hp
        go_wp2_with fail
        go_quiet ((go_at_call 38; exact Calls.quiet_of_same ((l01In_any _ _ _ _).mono fun e w' h => ⟨h.1, h.2.symm⟩)))
        go_wp2_with fail
      · have HF := Lib.hid (show decide ((fl (inB N x) n).length = n) = false from decide_eq_false (fun h => by
          have := fl_all.1 h k hlt
          rw [HP.out] at this
          cases this))
        go_ret
        exact ⟨by rw [HF.out]; rfl, below_drN1 BW.out _⟩
      · go_roundw
        case rel => exact ⟨k + 1, by go_num, hlt, fun j hj => by
          rcases (by omega : j < k ∨ j = k) with h1 | h1
          · exact HA.out j h1
          · rw [h1]; exact HP.out, hsz, below_drN1 HBB.out _⟩
        case measure => simp [intOf]; omega
    · have hkn : n = k := by omega
      subst hkn
      have k1 : ¬ ((n : Int) < (n : Int)) := by omega
      have HF := Lib.hid (show decide ((fl (inB N x) n).length = n) = true from decide_eq_true (fl_all.2 HA.out))
      go_wp2_with fail
      go_ret
      exact ⟨by rw [HF.out]; rfl, B0.trans (HBB.out.mono (by omega))⟩
set_option maxRecDepth 100000 in
set_option maxHeartbeats 8000000 in
theorem isWithinS_any (w : World) (v : Value) (n : Nat) (N : Nat → Nod) (m : Nat) (P : Nat → Pip) (lo hi : Nat) (h : NetAt w v n N m P lo hi) (hhi : hi ≤ w.heap.size) (hN : ∀ i, i < n → (N i).s.size ≤ 9223372036854775807) (va : Value) (K : Nat) (d : Nat → Int) (la ha : Nat) (hv : Sl w va K d la ha) (hha : ha ≤ w.heap.size) (hK9 : K ≤ 9223372036854775807) :
    Calls Try.prog 8 #[v, va] w (BPost w (iwB n N m P K d)) := by
  obtain ⟨p0, c0, p1, c1, rfl, hn9, hm9⟩ := h.parts
  have HC0 : Hid (n = 0 ∨ ∃ b o, p0 = some ⟨b, o, none⟩ ∧ lo ≤ b ∧ b < hi ∧ At w b o n 3 (nodC N)) := by
    obtain ⟨v0, v1, he, g0, g1⟩ := h.ex
    simp only [Value.agg.injEq, Array.mk.injEq, List.cons.injEq, and_true] at he
    obtain ⟨rfl, rfl⟩ := he
    obtain ⟨p, cap, hv, _, _, hc⟩ := g0.ex
    injection hv with e1 _ e2
    subst e1
    exact Lib.hid hc
  have HV := Lib.hid h
  have HN := Lib.hid hN
  obtain ⟨pa, ca, rfl⟩ := hv.sh
  have HSV := Lib.hid hv
  have A0 := boxed w (.slice p0 n c0) (.slice p1 m c1) 32
  have B0 := below_new w (.cells #[.slice p0 n c0, .slice p1 m c1] 32)
  have hs0 : (w.alloc (.cells #[.slice p0 n c0, .slice p1 m c1] 32)).heap.size = w.heap.size + 1 := by simp
  clear h hN hv
  go_enter Try.func8, Try.ntmps8
  have e0 := A0.b0
  have e1 := A0.b1
  go_wp2_with fail
  refine (sIsNetwork_any _ _ n N m P lo hi (HV.out.below B0 hhi) (by omega) HN.out).mono ?_
  rintro e w1 ⟨rfl, b1⟩
  have A1 := A0.below b1 (by omega)
  have B1 := B0.trans (b1.mono (by omega))
  have hs1 := b1.size
  have f2 : w.heap.size < w1.heap.size := by omega
  clear A0 B0 b1 e0 e1 hs0 hs1 HC0
  have e0 := A1.b0
  have e1 := A1.b1
  cases hB : netB n N m P
  · have H := Lib.hid (show iwB n N m P K d = false by unfold iwB; rw [hB]; rfl)
    clear hB
    go_wp2_with fail
    go_ret
    exact ⟨by rw [H.out]; rfl, B1⟩
  obtain ⟨hn1, hn24, hm40⟩ := net_sz hB
  by_cases hK : K = n
  rotate_left 1
  · have hne : ((K : Int) == (n : Int)) = false := by simp; omega
    have H := Lib.hid (show iwB n N m P K d = false by unfold iwB; rw [hB, decide_eq_false hK]; rfl)
    clear hK hB
    go_wp2_with fail
    go_ret
    exact ⟨by rw [H.out]; rfl, B1⟩
  have hnK : n = K := hK.symm
  clear hK
  subst hnK
  have hne : ((n : Int) == (n : Int)) = true := by simp
  have H := Lib.hid (show iwB n N m P n d = decide ((fl (inB N d) n).length = n) by unfold iwB; rw [hB, decide_eq_true rfl]; rfl)
  clear hB
  go_wp2_with fail
  refine (l08Within_any _ _ n N m P lo hi (HV.out.below B1 hhi) (by omega) HN.out _ d la ha (HSV.out.below B1 hha) (by omega) (by omega) (by omega)).mono ?_
  rintro e w2 ⟨rfl, b2⟩
  have HX := Lib.hid (B1.trans (b2.mono (by omega)))
  clear b2
  rw [← H.out]
  go_wp2_with fail
  go_ret
  exact ⟨rfl, HX.out⟩
end Go.Proofs.Ytebbnhnggjmbiaa.mem

namespace Go.Proofs.Ytebbnhnggjmbiaa.mem
open Go.RowKit
set_option linter.unusedVariables false

theorem agreeIsWithin (n : Nat) (N : Nat → Nod) (m : Nat) (P : Nat → Pip) (K : Nat) (d : Nat → Int) (hN : ∀ i, i < n → (N i).s.size ≤ 9223372036854775807) (_hn : n ≤ 2000000) (hm : m ≤ 2000000) (hK : K ≤ 2000000) :
    ∃ rb, (∀ w v va, NetAt w v n N m P 0 w.heap.size → Sl w va K d 0 w.heap.size → Calls Try.prog 11 #[v, va] w (BPost w rb)) ∧ (∀ w v va, NetAt w v n N m P 0 w.heap.size → Sl w va K d 0 w.heap.size → Calls Try.prog 8 #[v, va] w (BPost w rb)) :=
  ⟨iwB n N m P K d, fun w v va h hv => isWithinI_any w v n N m P 0 _ h (Nat.le_refl _) hN va K d 0 _ hv (Nat.le_refl _) (by omega), fun w v va h hv => isWithinS_any w v n N m P 0 _ h (Nat.le_refl _) hN va K d 0 _ hv (Nat.le_refl _) (by omega)⟩
theorem agreeMissedBy (n : Nat) (N : Nat → Nod) (m : Nat) (P : Nat → Pip) (K : Nat) (d : Nat → Int) (r : Int) (l : Int) (hN : ∀ i, i < n → (N i).s.size ≤ 9223372036854775807) (_hn : n ≤ 2000000) (hm : m ≤ 2000000) (hK : K ≤ 2000000) :
    ∃ ra rc, (∀ w v va, NetAt w v n N m P 0 w.heap.size → Sl w va K d 0 w.heap.size → Calls Try.prog 15 #[v, va, .int .i64 r, .int .i64 l] w (IIPost w ra rc)) ∧ (∀ w v va, NetAt w v n N m P 0 w.heap.size → Sl w va K d 0 w.heap.size → Calls Try.prog 14 #[v, va, .int .i64 r, .int .i64 l] w (IIPost w ra rc)) :=
  ⟨msA n N m P K d r l, fvC n N m P K d r l, fun w v va h hv => missedByI_any w v n N m P 0 _ h (Nat.le_refl _) hN va K d 0 _ hv (Nat.le_refl _) (by omega) r l, fun w v va h hv => missedByS_any w v n N m P 0 _ h (Nat.le_refl _) hN va K d 0 _ hv (Nat.le_refl _) (by omega) r l⟩
theorem agreeBlockingPair (n : Nat) (N : Nat → Nod) (m : Nat) (P : Nat → Pip) (K : Nat) (d : Nat → Int) (hN : ∀ i, i < n → (N i).s.size ≤ 9223372036854775807) (_hn : n ≤ 2000000) (hm : m ≤ 2000000) (hK : K ≤ 2000000) :
    ∃ ra rb rc, (∀ w v va, NetAt w v n N m P 0 w.heap.size → Sl w va K d 0 w.heap.size → Calls Try.prog 17 #[v, va] w (IIIPost w ra rb rc)) ∧ (∀ w v va, NetAt w v n N m P 0 w.heap.size → Sl w va K d 0 w.heap.size → Calls Try.prog 16 #[v, va] w (IIIPost w ra rb rc)) :=
  ⟨bpA n N m P K d, bpB n N m P K d, bpC n N m P K d, fun w v va h hv => blockingPairI_any w v n N m P 0 _ h (Nat.le_refl _) hN va K d 0 _ hv (Nat.le_refl _) (by omega), fun w v va h hv => blockingPairS_any w v n N m P 0 _ h (Nat.le_refl _) hN va K d 0 _ hv (Nat.le_refl _) (by omega)⟩
end Go.Proofs.Ytebbnhnggjmbiaa.mem
