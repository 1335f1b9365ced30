/-
  Several texts in one: Loe, Df1, LWrs.
-/
import Derived.Test.YtfkacpphdnlkfaaRows
import Derived.Test.YtfkacpphdnlkfaaLop
import Derived.Test.YtfkacpphdnlkfaaEsM
import Derived.Lib.MinMax
import Derived.Test.YtfkacpphdnlkfaaDyM
import Derived.Test.YtfkacpphdnlkfaaDeM
import Derived.WalkKit
import Derived.ProofKit
import Derived.Lib.Hide
import Derived.OwnWalk
import Derived.Outline
import Derived.Deep.RegionHeld3
import Derived.Deep.Cut
import Derived.Deep.RegionWith
import Derived.IntWalk
import Derived.Test.YtfkacpphdnlkfaaLaw
import Derived.Test.YtfkacpphdnlkfaaCode
import Derived.OpenShut
import Derived.Deep.QuietTactic
import Derived.BigQuiet
import Derived.Deep.RegionHeldLaw
namespace Go.Proofs.Ytfkacpphdnlkfaa.mem
open Go.RowKit
set_option linter.unusedVariables false

/-- the greatest of the first numbers without sign -/
def leS (r : Nat → Int) : Nat → Int
  | 0 => 0
  | k + 1 => max (leS r k) ((r k).natAbs : Int)
theorem leS_congr {r s : Nat → Int} : ∀ {k : Nat}, (∀ j, j < k → r j = s j) → leS r k = leS s k
  | 0, _ => rfl
  | k + 1, h => by
    unfold leS
    rw [leS_congr (fun j hj => h j (by omega)), h k (by omega)]
theorem leS_bnd {r : Nat → Int} {B : Int} (hB : 0 ≤ B) : ∀ {k : Nat}, (∀ j, j < k → -B ≤ r j ∧ r j ≤ B) → 0 ≤ leS r k ∧ leS r k ≤ B
  | 0, _ => by unfold leS; omega
  | k + 1, h => by
    have ih := leS_bnd hB (k := k) (fun j hj => h j (by omega))
    have h1 := h k (by omega)
    unfold leS
    omega
theorem leS_max (r : Nat → Int) : ∀ k j, j < k → ((r j).natAbs : Int) ≤ leS r k
  | 0, j, h => by omega
  | k + 1, j, h => by
    unfold leS
    by_cases e : j = k
    · subst e; omega
    · have := leS_max r k j (by omega)
      omega
theorem leS_ws (r : Nat → Int) : ∀ k, 0 < k → leS r k = ((r (wsI r k)).natAbs : Int)
  | 0, h => by omega
  | k + 1, _ => by
    rcases Nat.eq_zero_or_pos k with e | e
    · subst e
      rw [wsI_one]
      unfold leS leS
      omega
    · have ih := leS_ws r k e
      unfold leS wsI
      rw [ih]
      split <;> omega
noncomputable def leV (n : Nat) (N : Nat → Nod) (m : Nat) (P : Nat → Pip) (K : Nat) (d : Nat → Int) : Int := if flC n N m P K d = 0 then leS (rsD n P m d) (chN n P m) else 0
theorem rsD_bnd {n : Nat} {N : Nat → Nod} {m : Nat} {P : Nat → Pip} (hB : netB n N m P = true) {d : Nat → Int} (hd : ∀ a, a < m → -30000 ≤ d a ∧ d a ≤ 30000) (j : Nat) (hj : j < chN n P m) : -36000000000000 ≤ rsD n P m d j ∧ rsD n P m d j ≤ 36000000000000 := by
  obtain ⟨hjm, hjp⟩ := chS_at (n := n) (P := P) (m := m) hj
  have := rsS_bnd (P := P) (x := d) (y := cyc P (fE n P m) (fD n P m) (chS n P m j)) (k := m) (fun a ha => drp_bnd (net_pip hB ha) (hd a ha).1 (hd a ha).2) (fun a _ => cyc_one hB hjm hjp a)
  have hm := (net_sz hB).2.2
  unfold rsD
  omega
set_option maxRecDepth 100000 in
set_option maxHeartbeats 8000000 in
theorem loopErrorI_any (w : World) (v : Value) (n : Nat) (N : Nat → Nod) (m : Nat) (P : Nat → Pip) (lo hi : Nat) (h : NetAt w v n N m P lo hi) (hhi : hi ≤ w.heap.size) (hN : ∀ i, i < n → (N i).s.size ≤ 9223372036854775807) (va : Value) (K : Nat) (d : Nat → Int) (la ha : Nat) (hv : Sl w va K d la ha) (hha : ha ≤ w.heap.size) (hK9 : K ≤ 9223372036854775807) :
    Calls Try.prog 22 #[v, va] w (IIPost w (leV n N m P K d) (flC n N m P K d)) := by
  obtain ⟨p0, c0, p1, c1, rfl, hn9, hm9⟩ := h.parts
  have HV := Lib.hid h
  have HN := Lib.hid hN
  have HSV := Lib.hid hv
  obtain ⟨pa, ca, rfl⟩ := hv.sh
  have A0 := (boxed w (.slice p0 n c0) (.slice p1 m c1) 33).keep (Below.heap_alloc _ (.cells #[.slice pa K ca] 26) _ (by rw [szal]; omega))
  have B0 := (below_new w (.cells #[.slice p0 n c0, .slice p1 m c1] 33)).trans ((below_new _ (.cells #[.slice pa K ca] 26)).mono (by rw [szal]; omega))
  have hs0 : ((w.alloc (.cells #[.slice p0 n c0, .slice p1 m c1] 33)).alloc (.cells #[.slice pa K ca] 26)).heap.size = w.heap.size + 1 + 1 := by simp
  have y0' := cell_newV (w.alloc (.cells #[.slice p0 n c0, .slice p1 m c1] 33)) (.slice pa K ca) 26
  simp only [szal] at y0'
  clear h hN hv
  go_enter Try.func22, Try.ntmps22
  have e0' := A0.b0
  have e1' := A0.b1
  go_wp2_with fail
  refine (checkFlows_any _ _ n N m P lo hi (HV.out.below B0 hhi) (by omega) HN.out _ _ y0' (by omega) K d la ha (HSV.out.below B0 hha) (by omega) hK9).mono ?_
  rintro e w1 ⟨rfl, b1⟩
  have A1 := A0.below b1 (by omega)
  have B1 := B0.trans (b1.mono (by omega))
  have hs1 := b1.size
  have e0 := A1.b0
  have e1 := A1.b1
  have e2 : w.heap.size < w1.heap.size := by omega
  clear A0 B0 b1 e0' e1'
  by_cases hc : flC n N m P K d = 0
  · obtain ⟨hB, rfl, hf⟩ := flC_ok hc
    have hm40 := (net_sz hB).2.2
    have HB := Lib.hid hB
    have HC := Lib.hid hc
    have HF := Lib.hid (show ∀ k, k < K → -30000 ≤ d k ∧ d k ≤ 30000 from fun k hk => flQ_iff.1 (flB_iff.1 hf k hk))
    rw [hc]
    clear hc hB hf
    have hcn := chN_le n P K
    have HR := Lib.hid (show leV n N K P K d = leS (rsD n P K (pad K d)) (chN n P K) by unfold leV; rw [if_pos HC.out, leS_congr (fun j _ => rsD_pad j)])
    have HDR := Lib.hid (rsD_bnd HB.out (d := pad K d) (fun a _ => pad_rng HF.out a))
    go_wp2_with (first
      | (go_at_call 47; refine (withFlows_any _ p0 p1 c0 c1 n K _ K d la ha (HSV.out.below B1 hha) (by omega) hm40).mono ?_; rintro e wX ⟨rfl, hbX⟩; have zX := hbX.size; have BX := B1.trans (hbX.mono (by omega)))
      | (go_at_call 64; refine (residuals_any _ p0 p1 c0 c1 n N K P lo hi (HV.out.below BX hhi) (by omega) HB.out (pad K d) (fun k hk => pad_rng HF.out k)).mono ?_; rintro e wY ⟨v2, g, rfl, ho, hg, hbY⟩; obtain ⟨c2, rfl⟩ := ho.shape))
    have zY := hbY.size
    have BY := Lib.hid (BX.trans (hbY.mono (by omega)))
    have HO := Lib.hid ho
    clear ho hbX hbY BX B1 A1 e0 e1
    go_loopw [7, 22] (fun bv iv wr => ∃ k : Nat, bv = .int .i64 (leS (rsD n P K (pad K d)) k) ∧ iv = .int .i64 k ∧ k ≤ chN n P K ∧ wY.heap.size ≤ wr.heap.size ∧ Below wY.heap.size wY wr) (fun _ iv _ => chN n P K - (intOf iv).toNat)
    case atStart => exact ⟨0, rfl, rfl, Nat.zero_le _, Nat.le_refl _, Below.refl _ _⟩
    case round =>
      obtain ⟨k, rfl, rfl, hk, hsz, hb⟩ := hrel
      have HL := Lib.hid hb
      clear hb
      have k0 : (0 : Int) ≤ (k : Int) := Int.natCast_nonneg _
      by_cases hlt : k < chN n P K
      · have k1 : (k : Int) < (chN n P K : Int) := by omega
        obtain ⟨q0, q1⟩ := HDR.out k hlt
        have y0 : wr.cell? ⟨g, k, none⟩ = some (.int .i64 (rsD n P K (pad K d) k)) := (HO.out.below HL.out (Nat.le_refl _)).row.cell k hlt
        have HS := Lib.hid (show leS (rsD n P K (pad K d)) (k + 1) = max (leS (rsD n P K (pad K d)) k) ((rsD n P K (pad K d) k).natAbs : Int) from rfl)
        have hl := leS_bnd (by omega) (fun j hj => HDR.out j (show j < chN n P K by have := (show j < k from hj); omega))
        generalize hI : leS (rsD n P K (pad K d)) k = I at *
        generalize hr0 : rsD n P K (pad K d) k = r0 at *
        clear hI hr0
        go_wp2_with (go_at_call 65; refine (absN_any _ _ (by omega) (by omega)).mono ?_; rintro e w' ⟨rfl, rfl⟩)
        go_roundw
        case rel => exact ⟨k + 1, by rw [HS.out], by go_num, hlt, by (first | omega | (simp; omega)), (by first | exact HL.out | exact below_drN1 HL.out _)⟩
        case measure => simp [intOf]; omega
      · have hkn : k = chN n P K := by omega
        have k1 : ¬ ((k : Int) < (chN n P K : Int)) := by omega
        have H5 := Lib.hid (show leV n N K P K d = leS (rsD n P K (pad K d)) k by rw [hkn]; exact HR.out)
        clear hkn
        go_wp2_with fail
        go_ret2
        exact ⟨ret_2 H5.out.symm (by first | rfl | exact HC.out.symm), BY.out.trans (HL.out.mono (by omega))⟩
  · have hb1 : (flC n N m P K d != 0) = true := by simpa using hc
    have H3 := Lib.hid (show leV n N m P K d = 0 by unfold leV; rw [if_neg hc])
    clear hc
    go_wp2_with fail
    go_ret2
    exact ⟨ret_2 H3.out.symm rfl, B1⟩
set_option maxRecDepth 100000 in
set_option maxHeartbeats 8000000 in
theorem loopErrorS_any (w : World) (v : Value) (n : Nat) (N : Nat → Nod) (m : Nat) (P : Nat → Pip) (lo hi : Nat) (h : NetAt w v n N m P lo hi) (hhi : hi ≤ w.heap.size) (hN : ∀ i, i < n → (N i).s.size ≤ 9223372036854775807) (va : Value) (K : Nat) (d : Nat → Int) (la ha : Nat) (hv : Sl w va K d la ha) (hha : ha ≤ w.heap.size) (hK9 : K ≤ 9223372036854775807) :
    Calls Try.prog 21 #[v, va] w (IIPost w (leV n N m P K d) (flC n N m P K d)) := by
  obtain ⟨p0, c0, p1, c1, rfl, hn9, hm9⟩ := h.parts
  have HV := Lib.hid h
  have HN := Lib.hid hN
  obtain ⟨pa, ca, rfl⟩ := hv.sh
  have HSV := Lib.hid hv
  have A0 := boxed w (.slice p0 n c0) (.slice p1 m c1) 33
  have B0 := below_new w (.cells #[.slice p0 n c0, .slice p1 m c1] 33)
  have hs0 : (w.alloc (.cells #[.slice p0 n c0, .slice p1 m c1] 33)).heap.size = w.heap.size + 1 := by simp
  clear h hN hv
  go_enter Try.func21, Try.ntmps21
  have e0' := A0.b0
  have e1' := A0.b1
  go_wp2_with fail
  refine (residualsOfS_any _ _ n N m P lo hi (HV.out.below B0 hhi) (by omega) HN.out _ K d la ha (HSV.out.below B0 hha) (by omega) hK9).mono ?_
  rintro e w1 ⟨vr, gr, rfl, or, hgr, b1⟩
  have A1 := A0.below b1 (by omega)
  have B1 := B0.trans (b1.mono (by omega))
  have hs1 := b1.size
  have e0 := A1.b0
  have e1 := A1.b1
  have e2 : w.heap.size < w1.heap.size := by omega
  clear A0 B0 b1 e0' e1'
  by_cases hc : flC n N m P K d = 0
  rotate_left 1
  · obtain ⟨p9, c9, rfl⟩ := ownS_shE or
    have hb1 : (flC n N m P K d != 0) = true := by simpa using hc
    have H3 := Lib.hid (show leV n N m P K d = 0 by unfold leV; rw [if_neg hc])
    clear hc or
    go_wp2_with fail
    go_ret2
    exact ⟨ret_2 H3.out.symm rfl, B1⟩
  · obtain ⟨hB, rfl, hf⟩ := flC_ok hc
    have hm40 := (net_sz hB).2.2
    have HB := Lib.hid hB
    have HC := Lib.hid hc
    have HF := Lib.hid (show ∀ k, k < K → -30000 ≤ d k ∧ d k ≤ 30000 from fun k hk => flQ_iff.1 (flB_iff.1 hf k hk))
    have H1 := Lib.hid (HSV.out.below B1 hha)
    rw [hc]
    clear hc hB hf
    have hcn := chN_le n P K
    rw [show cfN n N K P K d = chN n P K by unfold cfN; rw [if_pos HC.out]] at or
    obtain ⟨p9, c9, rfl⟩ := ownS_shE or
    have HR := Lib.hid (show leV n N K P K d = leS (rsD n P K d) (chN n P K) by unfold leV; rw [if_pos HC.out])
    have HDR := Lib.hid (rsD_bnd HB.out HF.out)
    have HRW := Lib.hid (show ∀ k, k < chN n P K → p9 = some ⟨gr, 0, none⟩ ∧ gr < w1.heap.size ∧ w1.cell? ⟨gr, k, none⟩ = some (.int .i64 (rsD n P K d k)) from fun k hk => by
      obtain ⟨h1, h2, h3, h4⟩ := own_rowE or (by omega)
      exact ⟨h1, h2, h4 k hk⟩)
    have HBB := Lib.hid B1
    clear or A1 B1 e0 e1
    go_wp2_with fail
    go_loopw [8, 9] (fun bv iv wr => ∃ k : Nat, bv = .int .i64 (leS (rsD n P K d) k) ∧ iv = .int .i64 k ∧ k ≤ chN n P K ∧ w1.heap.size ≤ wr.heap.size ∧ Below w1.heap.size w1 wr) (fun _ iv _ => chN n P K - (intOf iv).toNat)
    case atStart => exact ⟨0, rfl, rfl, Nat.zero_le _, Nat.le_refl _, Below.refl _ _⟩
    case round =>
      obtain ⟨k, rfl, rfl, hk, hsz, hb⟩ := hrel
      have HL := Lib.hid hb
      clear hb
      have k0 : (0 : Int) ≤ (k : Int) := Int.natCast_nonneg _
      by_cases hlt : k < chN n P K
      · have k1 : (k : Int) < (chN n P K : Int) := by omega
        obtain ⟨q0, q1⟩ := HDR.out k hlt
        obtain ⟨rfl, g2, g3⟩ := HRW.out k hlt
        have y0 : wr.cell? ⟨gr, k, none⟩ = some (.int .i64 (rsD n P K d k)) := (HL.out.cell (p := ⟨gr, k, none⟩) g2).trans g3
        have HS := Lib.hid (show leS (rsD n P K d) (k + 1) = max (leS (rsD n P K d) k) ((rsD n P K d k).natAbs : Int) from rfl)
        have hl := leS_bnd (by omega) (fun j hj => HDR.out j (show j < chN n P K by have := (show j < k from hj); omega))
        generalize hI : leS (rsD n P K d) k = I at *
        generalize hr0 : rsD n P K d k = r0 at *
        clear hI hr0
        go_wp2_with (go_at_call 63; refine (absS_any _ _ (by omega) (by omega)).mono ?_; rintro e w' ⟨rfl, rfl⟩)
        go_roundw
        case rel => exact ⟨k + 1, by rw [HS.out], by go_num, hlt, by (first | omega | (simp; omega)), (by first | exact HL.out | exact below_drN1 HL.out _)⟩
        case measure => simp [intOf]; omega
      · have hkn : k = chN n P K := by omega
        have k1 : ¬ ((k : Int) < (chN n P K : Int)) := by omega
        have H5 := Lib.hid (show leV n N K P K d = leS (rsD n P K d) k by rw [hkn]; exact HR.out)
        clear hkn
        go_wp2_with fail
        go_ret2
        exact ⟨ret_2 H5.out.symm (by first | rfl | exact HC.out.symm), HBB.out.trans (HL.out.mono (by omega))⟩
end Go.Proofs.Ytfkacpphdnlkfaa.mem

namespace Go.Proofs.Ytfkacpphdnlkfaa.draw
open Go.RowKit
open Go.Proofs.Ytfkacpphdnlkfaa.mem (range2 range_blockN there_blockN nthe0 nthe1 nthe2 nthe3 nthe4 nthe5 nthe6 nthe7 nthe8 nthe9 nthe10 nthe11 nthe12 nthe13 nthe14 nthe15)
set_option linter.unusedVariables false

set_option maxRecDepth 100000 in
set_option maxHeartbeats 8000000 in
theorem drawEnergyOf (w : World) (cv : Value) (len : Nat) (hc : CodeAt w cv len w.heap.size) : Calls Try.prog 66 #[cv] w (NLOnly w) := by
  have HC := Lib.hid hc
  have R1 := mem.boxed w (.slice none 0 0) (.slice none 0 0) 33
  have C1 := mem.below_new w (.cells #[.slice none 0 0, .slice none 0 0] 33)
  have hsz : (w.alloc (.cells #[.slice none 0 0, .slice none 0 0] 33)).heap.size = w.heap.size + 1 := by simp
  have UN := Try.underlying33
  go_enter Try.func66, Try.ntmps66
  go_wp2_with fail
  generalize hW : w.alloc (.cells #[.slice none 0 0, .slice none 0 0] 33) = Wa at *
  clear hW hc
  replace hsz := Nat.le_antisymm_iff.1 hsz
  refine (from_any Wa cv len (by have := codeAt_below HC.out C1; rcases this with h | ⟨cb, co, cap, h1, h2, h3⟩; exact .inl h; exact .inr ⟨cb, co, cap, h1, by omega, h3⟩)).mono ?_
  rintro e w1 ⟨s1, rfl, hS1, B1, z1⟩
  obtain ⟨b, hbe⟩ : ∃ b, b = Wa.heap.size := ⟨_, rfl⟩
  rw [← hbe] at hS1 z1 ⊢
  replace hbe := Nat.le_antisymm_iff.1 hbe
  replace z1 := Nat.le_antisymm_iff.1 z1
  have C2 := mem.belowNext C1 B1
  have R2 := R1.next B1
  clear B1 C1 R1
  go_wp2_with fail
  refine (l10Draw_any w1 b w.heap.size cv len 0 s1 hS1 (codeAt_below HC.out C2) (by omega)).mono ?_
  rintro e w2 ⟨v, n, m, N, P, b1, b2, vk, K, D, x, i2, s2, rfl, hn, hm, hK, hnm, hO, l1, l2, hL2, hS2, U2⟩
  obtain ⟨p0, c0, p1, c1, rfl⟩ := hO.shape
  obtain ⟨pk, ck, rfl⟩ := sl_sh hL2
  have xN := mem.below_new w2 (.cells #[.slice p0 n c0, .slice p1 m c1] 33)
  have hU := U2.size
  have C3 := (C2.trans (U2.below (by omega) (by rintro x _ rfl; omega))).trans (xN.mono (by omega))
  have R3 := (R2.keep (U2.block w.heap.size (by omega) (by omega))).next xN
  have T3 := mem.boxed w2 (.slice p0 n c0) (.slice p1 m c1) 33
  have O3 := hO.next xN
  have hz3 : (w2.alloc (.cells #[.slice p0 n c0, .slice p1 m c1] 33)).heap.size = w2.heap.size + 1 := by simp
  have L3 := (hL2.below xN (Nat.le_refl _)).mono (show w.heap.size ≤ w1.heap.size by omega) (show w2.heap.size ≤ (w2.alloc (.cells #[.slice p0 n c0, .slice p1 m c1] 33)).heap.size by omega)
  have L3' := (hL2.below xN (Nat.le_refl _)).mono (Nat.le_refl _) (show w2.heap.size ≤ (w2.alloc (.cells #[.slice p0 n c0, .slice p1 m c1] 33)).heap.size by omega)
  have S3 := src_alloc hS2 (src_lt hS2) (.cells #[.slice p0 n c0, .slice p1 m c1] 33)
  have hb2 := src_lt hS2
  have hbT : b ≠ w2.heap.size := by omega
  have hbR : b ≠ w.heap.size := by omega
  have hTR : w2.heap.size ≠ w.heap.size := by omega
  have hb1 : b < w1.heap.size := src_lt hS1
  have hl1 : b < b1 := by omega
  have hl2 : b < b2 := by omega
  clear C2 R2 hO hS2 hL2 U2 xN
  go_upto_region 2 with (fail)
  generalize hW : w2.alloc (.cells #[.slice p0 n c0, .slice p1 m c1] 33) = w3 at *
  clear hW
  replace hz3 := Nat.le_antisymm_iff.1 hz3
  have t0 := T3.b0
  have t1 := T3.b1
  have f0 := R3.b0
  have f1 := R3.b1
  have k0 := R3.free 0
  have k1 := R3.free 1
  have hO2 := ((mem.Only.refl w.heap.size w3).setCell 0 (.slice p0 n c0)).setCell 1 (.slice p1 m c1)
  have HO := Lib.hid (O3.upd (mem.Upd.of_only hO2) (.inr (by omega)) (.inr (by omega)))
  have HL := Lib.hid ((L3'.only hO2 (.inl (by omega))).mono (show w.heap.size ≤ w1.heap.size by omega) (Nat.le_of_eq hO2.size))
  have HB := Lib.hid (mem.below_only C3 hO2 (Nat.le_refl _))
  clear hO2
  go_wp2_with fail
  exact bodyPost_ret (v := .tuple #[.agg #[.slice p0 n c0, .slice p1 m c1], .slice pk K ck]) (by simp [results, Try.results66, go_sem, f0, f1]) rfl ⟨_, n, m, N, P, b1, b2, _, K, D, rfl, hn, hm, (by omega), hnm, HO.out, by omega, by omega, HL.out, HB.out⟩

set_option maxRecDepth 100000 in
set_option maxHeartbeats 8000000 in
theorem drawWorstResidual (w : World) (cv : Value) (len : Nat) (hc : CodeAt w cv len w.heap.size) : Calls Try.prog 24 #[cv] w (NLOnly w) := by
  have HC := Lib.hid hc
  have R1 := mem.boxed w (.slice none 0 0) (.slice none 0 0) 33
  have C1 := mem.below_new w (.cells #[.slice none 0 0, .slice none 0 0] 33)
  have hsz : (w.alloc (.cells #[.slice none 0 0, .slice none 0 0] 33)).heap.size = w.heap.size + 1 := by simp
  have UN := Try.underlying33
  go_enter Try.func24, Try.ntmps24
  go_wp2_with fail
  generalize hW : w.alloc (.cells #[.slice none 0 0, .slice none 0 0] 33) = Wa at *
  clear hW hc
  replace hsz := Nat.le_antisymm_iff.1 hsz
  refine (drawEnergyOf Wa cv len (by have := codeAt_below HC.out C1; rcases this with h | ⟨cb, co, cap, h1, h2, h3⟩; exact .inl h; exact .inr ⟨cb, co, cap, h1, by omega, h3⟩)).mono ?_
  rintro e w2 ⟨v, n, m, N, P, b1, b2, vk, K, D, rfl, hn, hm, hK, hnm, hO, l1, l2, hL2, B2⟩
  obtain ⟨p0, c0, p1, c1, rfl⟩ := hO.shape
  obtain ⟨pk, ck, rfl⟩ := sl_sh hL2
  have R2 := R1.next B2
  have f0 := R2.b0
  have f1 := R2.b1
  have k0 := R2.free 0
  have k1 := R2.free 1
  have lR := R2.lt
  have hO2 := ((mem.Only.refl w.heap.size w2).setCell 0 (.slice p0 n c0)).setCell 1 (.slice p1 m c1)
  have HO := Lib.hid (hO.upd (mem.Upd.of_only hO2) (.inr (by omega)) (.inr (by omega)))
  have HL := Lib.hid ((hL2.only hO2 (.inl (by omega))).mono (show w.heap.size ≤ Wa.heap.size by omega) (Nat.le_of_eq hO2.size))
  have HB := Lib.hid (mem.below_only (C1.trans (B2.mono (by omega))) hO2 (Nat.le_refl _))
  clear hO2 R1 R2 hO hL2 C1 B2
  go_wp2_with fail
  exact bodyPost_ret (v := .tuple #[.agg #[.slice p0 n c0, .slice p1 m c1], .slice pk K ck]) (by simp [results, Try.results24, go_sem, f0, f1]) rfl ⟨_, n, m, N, P, b1, b2, _, K, D, rfl, hn, hm, (by omega), hnm, HO.out, by omega, by omega, HL.out, HB.out⟩

/-- a network, flows and a number have been drawn (chapter 11) -/
def NLCOnly (w : World) (e : Ending) (w' : World) : Prop :=
  ∃ (v : Value) (n m : Nat) (N : Nat → mem.Nod) (P : Nat → mem.Pip) (b1 b2 : Nat) (vk : Value) (K : Nat) (D : Nat → Int) (x : Int), e = .returned (.tuple #[v, vk, .int .i64 x]) ∧ n ≤ 1000 ∧ m ≤ 1000 ∧ K ≤ 2000 ∧ (∀ i, i < n → (N i).s.size ≤ 9223372036854775807) ∧ mem.NetOwn w' v n N m P b1 b2 ∧ w.heap.size ≤ b1 ∧ w.heap.size ≤ b2 ∧ mem.Sl w' vk K D w.heap.size w'.heap.size ∧ Below w.heap.size w w'

set_option maxRecDepth 100000 in
set_option maxHeartbeats 8000000 in
theorem drawRelaxChord (w : World) (cv : Value) (len : Nat) (hc : CodeAt w cv len w.heap.size) : Calls Try.prog 34 #[cv] w (NLCOnly w) := by
  have HC := Lib.hid hc
  have R1 := mem.boxed w (.slice none 0 0) (.slice none 0 0) 33
  have C1 := mem.below_new w (.cells #[.slice none 0 0, .slice none 0 0] 33)
  have hsz : (w.alloc (.cells #[.slice none 0 0, .slice none 0 0] 33)).heap.size = w.heap.size + 1 := by simp
  have UN := Try.underlying33
  go_enter Try.func34, Try.ntmps34
  go_wp2_with fail
  generalize hW : w.alloc (.cells #[.slice none 0 0, .slice none 0 0] 33) = Wa at *
  clear hW hc
  replace hsz := Nat.le_antisymm_iff.1 hsz
  refine (from_any Wa cv len (by have := codeAt_below HC.out C1; rcases this with h | ⟨cb, co, cap, h1, h2, h3⟩; exact .inl h; exact .inr ⟨cb, co, cap, h1, by omega, h3⟩)).mono ?_
  rintro e w1 ⟨s1, rfl, hS1, B1, z1⟩
  obtain ⟨b, hbe⟩ : ∃ b, b = Wa.heap.size := ⟨_, rfl⟩
  rw [← hbe] at hS1 z1 ⊢
  replace hbe := Nat.le_antisymm_iff.1 hbe
  replace z1 := Nat.le_antisymm_iff.1 z1
  have C2 := mem.belowNext C1 B1
  have R2 := R1.next B1
  clear B1 C1 R1
  go_wp2_with fail
  refine (l10Draw_any w1 b w.heap.size cv len 0 s1 hS1 (codeAt_below HC.out C2) (by omega)).mono ?_
  rintro e w2 ⟨v, n, m, N, P, b1, b2, vk, K, D, x, i2, s2, rfl, hn, hm, hK, hnm, hO, l1, l2, hL2, hS2, U2⟩
  obtain ⟨p0, c0, p1, c1, rfl⟩ := hO.shape
  obtain ⟨pk, ck, rfl⟩ := sl_sh hL2
  have hU := U2.size
  have hb1 : b < w1.heap.size := src_lt hS1
  have C3 := C2.trans (U2.below (by omega) (by rintro x _ rfl; omega))
  have R3 := R2.keep (U2.block w.heap.size (by omega) (by omega))
  have f0 := R3.b0
  have f1 := R3.b1
  have k0 := R3.free 0
  have k1 := R3.free 1
  have lR := R3.lt
  have hl1 : b < b1 := by omega
  have hl2 : b < b2 := by omega
  have hO2 := ((mem.Only.refl w.heap.size w2).setCell 0 (.slice p0 n c0)).setCell 1 (.slice p1 m c1)
  have HO := Lib.hid (hO.upd (mem.Upd.of_only hO2) (.inr (by omega)) (.inr (by omega)))
  have HL := Lib.hid ((hL2.only hO2 (.inl (by omega))).mono (show w.heap.size ≤ w1.heap.size by omega) (Nat.le_of_eq hO2.size))
  have HB := Lib.hid (mem.below_only C3 hO2 (Nat.le_refl _))
  clear hO2 C2 R2 hO hS2 hL2 U2 C3 R3
  go_wp2_with fail
  exact bodyPost_ret (v := .tuple #[.agg #[.slice p0 n c0, .slice p1 m c1], .slice pk K ck, .int .i64 x]) (by simp [results, Try.results34, go_sem, f0, f1]) rfl ⟨_, n, m, N, P, b1, b2, _, K, D, x, rfl, hn, hm, (by omega), hnm, HO.out, by omega, by omega, HL.out, HB.out⟩
end Go.Proofs.Ytfkacpphdnlkfaa.draw

namespace Go.Proofs.Ytfkacpphdnlkfaa.fnWorstResiduals
open Go.ChangeShapes Go.WideShapes Go.ChangeAt Go.RowKit Go.Proofs.Ytfkacpphdnlkfaa.draw Go.Proofs.Ytfkacpphdnlkfaa.mem
set_option linter.unusedVariables false

theorem own : ownKnob Try.prog.godebug = none := by kernel_rfl
theorem laidOut : laidOutB Try.prog = true := by kernel_rfl

theorem own_at {w : World} {p : Option Addr} {n c b : Nat} {d : Nat → Int} (h : OwnS w (.slice p n c) n 1 (fun i _ => .int .i64 (d i)) b) {k : Nat} (hk : k < n) : p = some ⟨b, 0, none⟩ ∧ b < w.heap.size ∧ w.cell? ⟨b, k, none⟩ = some (.int .i64 (d k)) := by
  obtain ⟨p', cap, hv, h1, h2, h3⟩ := h.ex
  injection hv with e1 _ e3
  subst e1
  rcases h3 with h3 | ⟨h3, h4⟩
  · omega
  · refine ⟨h3, h4.lt, ?_⟩
    have := h4.cell k 0 hk (by omega)
    simpa using this
theorem owns_sl {w : World} {v : Value} {n b : Nat} {d : Nat → Int} (h : OwnS w v n 1 (fun i _ => .int .i64 (d i)) b) : Sl w v n d 0 w.heap.size := by
  obtain ⟨p', cap, hv, h1, h2, h3⟩ := h.ex
  refine ⟨p', cap, hv, ?_⟩
  rcases h3 with h3 | ⟨h3, h4⟩
  · exact .inl h3
  · refine .inr ⟨b, 0, h3, Nat.zero_le _, h4.lt, fun k hk => ?_⟩
    have := h4.cell k 0 hk (by omega)
    simpa using this
theorem sl_at {w : World} {p : Option Addr} {n c lo hi : Nat} {d : Nat → Int} (h : Sl w (.slice p n c) n d lo hi) {k : Nat} (hk : k < n) : ∃ b o, p = some ⟨b, o, none⟩ ∧ lo ≤ b ∧ b < hi ∧ w.cell? ⟨b, o + k, none⟩ = some (.int .i64 (d k)) := by
  obtain ⟨p', cap, hv, h3⟩ := h.ex
  injection hv with e1 _ e3
  subst e1
  rcases h3 with h3 | ⟨b, o, h3, h4, h5, h6⟩
  · omega
  · exact ⟨b, o, h3, h4, h5, h6 k hk⟩
theorem sizeN_any (x : Int) (w : World) (h1 : -4000000000000000000 ≤ x) (h2 : x ≤ 4000000000000000000) : Calls Try.prog 28 #[.int .i64 x] w fun e w' => e = .returned (.int .i64 (x.natAbs : Int)) ∧ w = w' := by
  have h3 : -4611686018427387904 ≤ -x ∧ -x ≤ 4611686018427387904 := by omega
  have h4 : max x (-x) = (x.natAbs : Int) := by omega
  have H4 := Lib.hid h4
  clear h4
  go_enter Try.func28, Try.ntmps28
  go_wp2_with fail
  go_ret
  exact ⟨by rw [← H4.out]; rfl, rfl⟩
theorem chB_at {n : Nat} {P : Nat → Pip} {m j : Nat} (hj : j < chN n P m) : chB n P m ((chS n P m j : Nat) : Int) = true := hasB_yes (k := j) hj (chS_fd n P m j)
theorem wrFacts (n : Nat) (N : Nat → Nod) (m : Nat) (P : Nat → Pip) (K : Nat) (d : Nat → Int) (hN : ∀ i, i < n → (N i).s.size ≤ 9223372036854775807) (hK : K ≤ 2000000) :
    ∃ (xa xc le lc : Int), (∀ w v va, NetAt w v n N m P 0 w.heap.size → Sl w va K d 0 w.heap.size → Calls Try.prog 25 #[v, va] w (IIPost w xa xc)) ∧ (∀ w v va, NetAt w v n N m P 0 w.heap.size → Sl w va K d 0 w.heap.size → Calls Try.prog 26 #[v, va] w (IIPost w xa xc)) ∧ (∀ w v va, NetAt w v n N m P 0 w.heap.size → Sl w va K d 0 w.heap.size → Calls Try.prog 22 #[v, va] w (IIPost w le lc)) ∧ (∀ w v va, NetAt w v n N m P 0 w.heap.size → Sl w va K d 0 w.heap.size → Calls Try.prog 21 #[v, va] w (IIPost w le lc)) ∧
      (xc ≠ 0 → le = 0) ∧ (xc = 0 → ∃ rv : Int, (∀ w v va, NetAt w v n N m P 0 w.heap.size → Sl w va K d 0 w.heap.size → Calls Try.prog 27 #[v, va, .int .i64 xa] w (IIPost w rv 0)) ∧ (-36000000000000 ≤ rv ∧ rv ≤ 36000000000000) ∧ (rv.natAbs : Int) = le) := by
  refine ⟨woV n N m P K d, woC n N m P K d, leV n N m P K d, flC n N m P K d, fun w v va h hv => worstResidualI_any w v n N m P 0 _ h (Nat.le_refl _) hN va K d 0 _ hv (Nat.le_refl _) (by omega), fun w v va h hv => worstResidualS_any w v n N m P 0 _ h (Nat.le_refl _) hN va K d 0 _ hv (Nat.le_refl _) (by omega), fun w v va h hv => loopErrorI_any w v n N m P 0 _ h (Nat.le_refl _) hN va K d 0 _ hv (Nat.le_refl _) (by omega), fun w v va h hv => loopErrorS_any w v n N m P 0 _ h (Nat.le_refl _) hN va K d 0 _ hv (Nat.le_refl _) (by omega), fun hc => ?_, fun hc => ?_⟩
  · unfold woC at hc
    unfold leV
    split at hc
    · next h0 =>
      split at hc
      · next h1 => rw [if_pos h0, h1]; rfl
      · exact absurd rfl hc
    · next h0 => rw [if_neg h0]
  have hv : woV n N m P K d = ((chS n P m (wsI (rsD n P m d) (chN n P m)) : Nat) : Int) := by unfold woV; rw [if_pos hc]
  unfold woC at hc
  split at hc
  · next h0 =>
    split at hc
    · omega
    · next h1 =>
      obtain ⟨hB, rfl, hf⟩ := flC_ok h0
      have hj := wsI_lt (rsD n P K d) (chN n P K) (by omega)
      have hfr : ∀ k, k < K → -30000 ≤ d k ∧ d k ≤ 30000 := fun k hk => flQ_iff.1 (flB_iff.1 hf k hk)
      have hck : ckC n N K P K d ((chS n P K (wsI (rsD n P K d) (chN n P K)) : Nat) : Int) = 0 := by
        unfold ckC
        rw [if_pos h0, if_pos (chB_at hj)]
      have hcy : cyD n P K ((chS n P K (wsI (rsD n P K d) (chN n P K)) : Nat) : Int) = cyc P (fE n P K) (fD n P K) (chS n P K (wsI (rsD n P K d) (chN n P K))) := by
        unfold cyD
        rw [Int.toNat_natCast]
      have v1 : rsV n N K P K d ((chS n P K (wsI (rsD n P K d) (chN n P K)) : Nat) : Int) = rsD n P K d (wsI (rsD n P K d) (chN n P K)) := by unfold rsV; rw [if_pos hck, hcy]; rfl
      have c1 := fun w v va (h : NetAt w v n N K P 0 w.heap.size) hv => residualOfI_any w v n N K P 0 _ h (Nat.le_refl _) hN va K d 0 _ hv (Nat.le_refl _) (by omega) ((chS n P K (wsI (rsD n P K d) (chN n P K)) : Nat) : Int)
      rw [v1, hck] at c1
      rw [hv]
      refine ⟨_, c1, rsD_bnd hB hfr _ hj, ?_⟩
      unfold leV
      rw [if_pos h0, leS_ws _ _ (by omega)]
  · next h0 => exact absurd hc h0
set_option maxRecDepth 100000 in
set_option maxHeartbeats 20000000 in
theorem walk (v : Value) (w : World) (hc : CodeArg w v) :
    Calls Try.prog 6 #[v] w fun e w' => e = .returned (.bool true) ∧ Below w.heap.size w w' := by
  obtain ⟨p, len, cap, rfl, hlen, hcode⟩ := hc
  by_cases h4 : (4096 : Int) < len
  · clear hcode
    go_enter Try.func6, Try.ntmps6
    go_wp2_with (go_at_call 23; refine (draw.big_any _ _ _ _).mono ?_; rintro e w' ⟨rfl, rfl⟩)
    go_ret
    exact ⟨rfl, Below.refl _ _⟩
  have hc := hcode (by omega)
  clear hcode
  go_enter Try.func6, Try.ntmps6
  go_wp2_with (go_at_call 23; refine (draw.big_any _ _ _ _).mono ?_; rintro e w' ⟨rfl, rfl⟩)
  refine (draw.drawWorstResidual w _ len hc).mono ?_
  rintro e w1 ⟨v, n, m, N, P, b1, b2, vl, K, D, rfl, hn, hm, hK, hnm, o1, l1, l2, hK1, C1⟩
  obtain ⟨xa, xc, le, lc, ti, ts, q1, q2, hne, hz⟩ := wrFacts n N m P K D hnm (by omega)
  have TI := Lib.hid ti
  have TS := Lib.hid ts
  have Q1 := Lib.hid q1
  have Q2 := Lib.hid q2
  have HZ := Lib.hid hz
  have HNE := Lib.hid hne
  clear ti ts q1 q2 hz hne
  clear hc
  obtain ⟨pk, ck, rfl⟩ := draw.sl_sh hK1
  have hb1 : (xa != xa) = false := by simp
  have hb2 : (xc != xc) = false := by simp
  have hb3 : (le != le) = false := by simp
  have hb4 : (lc != lc) = false := by simp
  have lxx := o1.lts
  obtain ⟨sx1, sx2, sx3, sx4, rfl⟩ := o1.shape
  go_wp2_with fail
  have bb := mem.below_new w1 (.cells #[.slice sx1 n sx2, .slice sx3 m sx4] 33)
  have B_x := boxed w1 (.slice sx1 n sx2) (.slice sx3 m sx4) 33
  have hs2 := bb.size
  have C2 := belowNext C1 bb
  have LK2 := hK1.next bb
  have x2 := o1.next bb
  clear bb C1 hK1 o1
  generalize hW2 : w1.alloc (Obj.cells #[.slice sx1 n sx2, .slice sx3 m sx4] 33) = w2 at *
  clear hW2
  have Bx2 := B_x
  clear B_x
  have lBx := Bx2.lt
  refine (TI.out _ _ _ x2.net LK2.zero).mono ?_
  rintro e w3 ⟨rfl, bb⟩
  have hs3 := bb.size
  have C3 := belowNext C2 bb
  have LK3 := LK2.next bb
  have x3 := x2.next bb
  have Bx3 := Bx2.next bb
  clear bb C2 LK2 x2 Bx2
  have qBx0 := Bx3.b0
  have qBx1 := Bx3.b1
  have qBx2 := Bx3.lt
  go_wp2_with fail
  refine (TS.out _ _ _ x3.net LK3.zero).mono ?_
  rintro e w4 ⟨rfl, bb⟩
  have hs4 := bb.size
  have C4 := belowNext C3 bb
  have LK4 := LK3.next bb
  have x4 := x3.next bb
  have Bx4 := Bx3.next bb
  clear qBx0 qBx1 qBx2
  clear bb C3 LK3 x3 Bx3
  have qBx0 := Bx4.b0
  have qBx1 := Bx4.b1
  have qBx2 := Bx4.lt
  go_wp2_with fail
  refine (Q1.out _ _ _ x4.net LK4.zero).mono ?_
  rintro e w5 ⟨rfl, bb⟩
  have hs5 := bb.size
  have C5 := belowNext C4 bb
  have LK5 := LK4.next bb
  have x5 := x4.next bb
  have Bx5 := Bx4.next bb
  clear qBx0 qBx1 qBx2
  clear bb C4 LK4 x4 Bx4
  have qBx0 := Bx5.b0
  have qBx1 := Bx5.b1
  have qBx2 := Bx5.lt
  go_wp2_with fail
  refine (Q2.out _ _ _ x5.net LK5.zero).mono ?_
  rintro e w6 ⟨rfl, bb⟩
  have hs6 := bb.size
  have C6 := belowNext C5 bb
  have LK6 := LK5.next bb
  have x6 := x5.next bb
  have Bx6 := Bx5.next bb
  clear qBx0 qBx1 qBx2
  clear bb C5 LK5 x5 Bx5
  by_cases hxc : xc = 0
  · subst hxc
    obtain ⟨rv, d1, ⟨d2, d3⟩, d4⟩ := HZ.out (by trivial)
    have D1 := Lib.hid d1
    clear d1
    clear HZ HNE
    have qBx0 := Bx6.b0
    have qBx1 := Bx6.b1
    have qBx2 := Bx6.lt
    go_wp2_with fail
    have hb5 : ((rv.natAbs : Int) == le) = true := by rw [d4]; simp
    refine (D1.out _ _ _ x6.net LK6.zero).mono ?_
    rintro e w7 ⟨rfl, bb⟩
    have hs7 := bb.size
    have C7 := belowNext C6 bb
    have LK7 := LK6.next bb
    have x7 := x6.next bb
    have Bx7 := Bx6.next bb
    clear qBx0 qBx1 qBx2
    clear bb C6 LK6 x6 Bx6
    have qBx0 := Bx7.b0
    have qBx1 := Bx7.b1
    have qBx2 := Bx7.lt
    go_wp2_with (go_at_call 28; refine (sizeN_any _ _ (by omega) (by omega)).mono ?_; rintro e w' ⟨rfl, rfl⟩)
    go_ret
    exact ⟨rfl, C7⟩
  · have hxc' : (xc != 0) = true := by simpa using hxc
    have hle := HNE.out hxc
    subst hle
    cases hx4 : (xc != 4)
    · skip
      have qBx0 := Bx6.b0
      have qBx1 := Bx6.b1
      have qBx2 := Bx6.lt
      go_wp2_with fail
      go_ret
      exact ⟨rfl, C6⟩
    · skip
      have qBx0 := Bx6.b0
      have qBx1 := Bx6.b1
      have qBx2 := Bx6.lt
      go_wp2_with fail
      go_ret
      exact ⟨rfl, C6⟩

set_option maxRecDepth 100000 in
theorem lifted (os : Os) (started : os.Started) (H : Type) (enc : TypeId × Value → H) :
    ReturnsInHanded {} Try.checked os 6 .any (Rows.fnWorstResidualsSpec.pre6 enc Try.prog Try.f6 Rows.fnWorstResidualsRow.domain false) (Rows.fnWorstResidualsSpec.post enc Try.prog Try.f6 false true false false) := by
  refine returnsInHanded_of_change (C := Try.checked) own started (by kernel_rfl) Try.func6
    (ChangeSpec.witness6 (enc := enc) (C := Try.checked) false ⟨#[], #[.slice none 0 0], []⟩ 8 (by kernel_rfl) (by kernel_rfl) (by kernel_rfl) (by kernel_rfl)) ?_
  intro W base args ds gs before hval0 hW hcnd _
  have hval : ∀ (j : Nat) t v, Try.f6.params[j]? = some t → args[j]? = some v → Value.okWide Try.prog W .any base t v := hval0
  have hW' := hW
  obtain ⟨p, q, hA0, hV, rfl, hfz, hnd⟩ := hW
  have hA : DataW.TrodAll enc Try.prog W 0 (fun _ => true) true Try.f6.params.toList args.toList ds p := hA0
  rw [Try.params6] at hA hval
  obtain ⟨v0, vs0, d0, ds0, p0, q0, hargs, rfl, rfl, h0, r0⟩ := trodAll_cons hA
  obtain ⟨rfl, rfl, rfl⟩ := trodAll_nil r0
  obtain rfl : args = #[v0] := by cases args; simp_all
  obtain ⟨rfl, rfl⟩ := trodVars_none hV
  have hc := open_code (hval 0 46 v0 rfl rfl) h0
  refine (walk v0 W hc).mono fun e W' ⟨he, hg⟩ => ?_
  subst he
  exact ⟨_, rfl, law.law_post hW' hg laidOut (by kernel_rfl) rfl rfl (by kernel_rfl) Try.underlying4⟩

theorem over : Rows.fnWorstResidualsRow.holds Try.pinned (OpenSpec.ofChange Rows.fnWorstResidualsSpec) :=
  OpenClaim.holds_of_wide 6 Try.f6 rfl rfl rfl rfl rfl rfl rfl ⟨rfl, rfl, rfl, rfl, rfl⟩ rfl rfl rfl rfl rfl (by kernel_rfl) Try.func6 (by kernel_rfl)
    (of_decide_eq_true (by kernel_rfl)) (by unfold Func.isWrapper; first | (rw [if_pos (by decide +kernel)]; kernel_rfl) | (rw [if_neg (by decide +kernel)]; exact ⟨rfl, rfl⟩))
    (fun os started H enc _ => lifted os started H enc)

theorem proved : Rows.FnWorstResidualsSaid :=
  over
#print axioms proved
end Go.Proofs.Ytfkacpphdnlkfaa.fnWorstResiduals
