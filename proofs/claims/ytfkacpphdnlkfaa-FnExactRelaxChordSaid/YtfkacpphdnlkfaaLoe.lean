/-
  LoopError, both. Conditions: as each states.
-/
import Derived.Test.YtfkacpphdnlkfaaRows
import Derived.Test.YtfkacpphdnlkfaaLop
import Derived.Test.YtfkacpphdnlkfaaEsM
import Derived.Lib.MinMax
namespace Go.Proofs.Ytfkacpphdnlkfaa.mem
open Go.RowKit
set_option linter.unusedVariables false

/-- the greatest of the first numbers without sign -/
def leS (r : Nat → Int) : Nat → Int
  | 0 => 0
  | k + 1 => max (leS r k) ((r k).natAbs : Int)
theorem leS_congr {r s : Nat → Int} : ∀ {k : Nat}, (∀ j, j < k → r j = s j) → leS r k = leS s k
  | 0, _ => rfl
  | k + 1, h => by
    unfold leS
    rw [leS_congr (fun j hj => h j (by omega)), h k (by omega)]
theorem leS_bnd {r : Nat → Int} {B : Int} (hB : 0 ≤ B) : ∀ {k : Nat}, (∀ j, j < k → -B ≤ r j ∧ r j ≤ B) → 0 ≤ leS r k ∧ leS r k ≤ B
  | 0, _ => by unfold leS; omega
  | k + 1, h => by
    have ih := leS_bnd hB (k := k) (fun j hj => h j (by omega))
    have h1 := h k (by omega)
    unfold leS
    omega
theorem leS_max (r : Nat → Int) : ∀ k j, j < k → ((r j).natAbs : Int) ≤ leS r k
  | 0, j, h => by omega
  | k + 1, j, h => by
    unfold leS
    by_cases e : j = k
    · subst e; omega
    · have := leS_max r k j (by omega)
      omega
theorem leS_ws (r : Nat → Int) : ∀ k, 0 < k → leS r k = ((r (wsI r k)).natAbs : Int)
  | 0, h => by omega
  | k + 1, _ => by
    rcases Nat.eq_zero_or_pos k with e | e
    · subst e
      rw [wsI_one]
      unfold leS leS
      omega
    · have ih := leS_ws r k e
      unfold leS wsI
      rw [ih]
      split <;> omega
noncomputable def leV (n : Nat) (N : Nat → Nod) (m : Nat) (P : Nat → Pip) (K : Nat) (d : Nat → Int) : Int := if flC n N m P K d = 0 then leS (rsD n P m d) (chN n P m) else 0
theorem rsD_bnd {n : Nat} {N : Nat → Nod} {m : Nat} {P : Nat → Pip} (hB : netB n N m P = true) {d : Nat → Int} (hd : ∀ a, a < m → -30000 ≤ d a ∧ d a ≤ 30000) (j : Nat) (hj : j < chN n P m) : -36000000000000 ≤ rsD n P m d j ∧ rsD n P m d j ≤ 36000000000000 := by
  obtain ⟨hjm, hjp⟩ := chS_at (n := n) (P := P) (m := m) hj
  have := rsS_bnd (P := P) (x := d) (y := cyc P (fE n P m) (fD n P m) (chS n P m j)) (k := m) (fun a ha => drp_bnd (net_pip hB ha) (hd a ha).1 (hd a ha).2) (fun a _ => cyc_one hB hjm hjp a)
  have hm := (net_sz hB).2.2
  unfold rsD
  omega
set_option maxRecDepth 100000 in
set_option maxHeartbeats 8000000 in
theorem loopErrorI_any (w : World) (v : Value) (n : Nat) (N : Nat → Nod) (m : Nat) (P : Nat → Pip) (lo hi : Nat) (h : NetAt w v n N m P lo hi) (hhi : hi ≤ w.heap.size) (hN : ∀ i, i < n → (N i).s.size ≤ 9223372036854775807) (va : Value) (K : Nat) (d : Nat → Int) (la ha : Nat) (hv : Sl w va K d la ha) (hha : ha ≤ w.heap.size) (hK9 : K ≤ 9223372036854775807) :
    Calls Try.prog 22 #[v, va] w (IIPost w (leV n N m P K d) (flC n N m P K d)) := by
  obtain ⟨p0, c0, p1, c1, rfl, hn9, hm9⟩ := h.parts
  have HV := Lib.hid h
  have HN := Lib.hid hN
  have HSV := Lib.hid hv
  obtain ⟨pa, ca, rfl⟩ := hv.sh
  have A0 := (boxed w (.slice p0 n c0) (.slice p1 m c1) 33).keep (Below.heap_alloc _ (.cells #[.slice pa K ca] 26) _ (by rw [szal]; omega))
  have B0 := (below_new w (.cells #[.slice p0 n c0, .slice p1 m c1] 33)).trans ((below_new _ (.cells #[.slice pa K ca] 26)).mono (by rw [szal]; omega))
  have hs0 : ((w.alloc (.cells #[.slice p0 n c0, .slice p1 m c1] 33)).alloc (.cells #[.slice pa K ca] 26)).heap.size = w.heap.size + 1 + 1 := by simp
  have y0' := cell_newV (w.alloc (.cells #[.slice p0 n c0, .slice p1 m c1] 33)) (.slice pa K ca) 26
  simp only [szal] at y0'
  clear h hN hv
  go_enter Try.func22, Try.ntmps22
  have e0' := A0.b0
  have e1' := A0.b1
  go_wp2_with fail
  refine (checkFlows_any _ _ n N m P lo hi (HV.out.below B0 hhi) (by omega) HN.out _ _ y0' (by omega) K d la ha (HSV.out.below B0 hha) (by omega) hK9).mono ?_
  rintro e w1 ⟨rfl, b1⟩
  have A1 := A0.below b1 (by omega)
  have B1 := B0.trans (b1.mono (by omega))
  have hs1 := b1.size
  have e0 := A1.b0
  have e1 := A1.b1
  have e2 : w.heap.size < w1.heap.size := by omega
  clear A0 B0 b1 e0' e1'
  by_cases hc : flC n N m P K d = 0
  · obtain ⟨hB, rfl, hf⟩ := flC_ok hc
    have hm40 := (net_sz hB).2.2
    have HB := Lib.hid hB
    have HC := Lib.hid hc
    have HF := Lib.hid (show ∀ k, k < K → -30000 ≤ d k ∧ d k ≤ 30000 from fun k hk => flQ_iff.1 (flB_iff.1 hf k hk))
    rw [hc]
    clear hc hB hf
    have hcn := chN_le n P K
    have HR := Lib.hid (show leV n N K P K d = leS (rsD n P K (pad K d)) (chN n P K) by unfold leV; rw [if_pos HC.out, leS_congr (fun j _ => rsD_pad j)])
    have HDR := Lib.hid (rsD_bnd HB.out (d := pad K d) (fun a _ => pad_rng HF.out a))
    go_wp2_with (first
      | (go_at_call 47; refine (withFlows_any _ p0 p1 c0 c1 n K _ K d la ha (HSV.out.below B1 hha) (by omega) hm40).mono ?_; rintro e wX ⟨rfl, hbX⟩; have zX := hbX.size; have BX := B1.trans (hbX.mono (by omega)))
      | (go_at_call 64; refine (residuals_any _ p0 p1 c0 c1 n N K P lo hi (HV.out.below BX hhi) (by omega) HB.out (pad K d) (fun k hk => pad_rng HF.out k)).mono ?_; rintro e wY ⟨v2, g, rfl, ho, hg, hbY⟩; obtain ⟨c2, rfl⟩ := ho.shape))
    have zY := hbY.size
    have BY := Lib.hid (BX.trans (hbY.mono (by omega)))
    have HO := Lib.hid ho
    clear ho hbX hbY BX B1 A1 e0 e1
    go_loopw [7, 22] (fun bv iv wr => ∃ k : Nat, bv = .int .i64 (leS (rsD n P K (pad K d)) k) ∧ iv = .int .i64 k ∧ k ≤ chN n P K ∧ wY.heap.size ≤ wr.heap.size ∧ Below wY.heap.size wY wr) (fun _ iv _ => chN n P K - (intOf iv).toNat)
    case atStart => exact ⟨0, rfl, rfl, Nat.zero_le _, Nat.le_refl _, Below.refl _ _⟩
    case round =>
      obtain ⟨k, rfl, rfl, hk, hsz, hb⟩ := hrel
      have HL := Lib.hid hb
      clear hb
      have k0 : (0 : Int) ≤ (k : Int) := Int.natCast_nonneg _
      by_cases hlt : k < chN n P K
      · have k1 : (k : Int) < (chN n P K : Int) := by omega
        obtain ⟨q0, q1⟩ := HDR.out k hlt
        have y0 : wr.cell? ⟨g, k, none⟩ = some (.int .i64 (rsD n P K (pad K d) k)) := (HO.out.below HL.out (Nat.le_refl _)).row.cell k hlt
        have HS := Lib.hid (show leS (rsD n P K (pad K d)) (k + 1) = max (leS (rsD n P K (pad K d)) k) ((rsD n P K (pad K d) k).natAbs : Int) from rfl)
        have hl := leS_bnd (by omega) (fun j hj => HDR.out j (show j < chN n P K by have := (show j < k from hj); omega))
        generalize hI : leS (rsD n P K (pad K d)) k = I at *
        generalize hr0 : rsD n P K (pad K d) k = r0 at *
        clear hI hr0
        go_wp2_with (go_at_call 65; refine (absN_any _ _ (by omega) (by omega)).mono ?_; rintro e w' ⟨rfl, rfl⟩)
        go_roundw
        case rel => exact ⟨k + 1, by rw [HS.out], by go_num, hlt, by (first | omega | (simp; omega)), (by first | exact HL.out | exact below_drN1 HL.out _)⟩
        case measure => simp [intOf]; omega
      · have hkn : k = chN n P K := by omega
        have k1 : ¬ ((k : Int) < (chN n P K : Int)) := by omega
        have H5 := Lib.hid (show leV n N K P K d = leS (rsD n P K (pad K d)) k by rw [hkn]; exact HR.out)
        clear hkn
        go_wp2_with fail
        go_ret2
        exact ⟨ret_2 H5.out.symm (by first | rfl | exact HC.out.symm), BY.out.trans (HL.out.mono (by omega))⟩
  · have hb1 : (flC n N m P K d != 0) = true := by simpa using hc
    have H3 := Lib.hid (show leV n N m P K d = 0 by unfold leV; rw [if_neg hc])
    clear hc
    go_wp2_with fail
    go_ret2
    exact ⟨ret_2 H3.out.symm rfl, B1⟩
set_option maxRecDepth 100000 in
set_option maxHeartbeats 8000000 in
theorem loopErrorS_any (w : World) (v : Value) (n : Nat) (N : Nat → Nod) (m : Nat) (P : Nat → Pip) (lo hi : Nat) (h : NetAt w v n N m P lo hi) (hhi : hi ≤ w.heap.size) (hN : ∀ i, i < n → (N i).s.size ≤ 9223372036854775807) (va : Value) (K : Nat) (d : Nat → Int) (la ha : Nat) (hv : Sl w va K d la ha) (hha : ha ≤ w.heap.size) (hK9 : K ≤ 9223372036854775807) :
    Calls Try.prog 21 #[v, va] w (IIPost w (leV n N m P K d) (flC n N m P K d)) := by
  obtain ⟨p0, c0, p1, c1, rfl, hn9, hm9⟩ := h.parts
  have HV := Lib.hid h
  have HN := Lib.hid hN
  obtain ⟨pa, ca, rfl⟩ := hv.sh
  have HSV := Lib.hid hv
  have A0 := boxed w (.slice p0 n c0) (.slice p1 m c1) 33
  have B0 := below_new w (.cells #[.slice p0 n c0, .slice p1 m c1] 33)
  have hs0 : (w.alloc (.cells #[.slice p0 n c0, .slice p1 m c1] 33)).heap.size = w.heap.size + 1 := by simp
  clear h hN hv
  go_enter Try.func21, Try.ntmps21
  have e0' := A0.b0
  have e1' := A0.b1
  go_wp2_with fail
  refine (residualsOfS_any _ _ n N m P lo hi (HV.out.below B0 hhi) (by omega) HN.out _ K d la ha (HSV.out.below B0 hha) (by omega) hK9).mono ?_
  rintro e w1 ⟨vr, gr, rfl, or, hgr, b1⟩
  have A1 := A0.below b1 (by omega)
  have B1 := B0.trans (b1.mono (by omega))
  have hs1 := b1.size
  have e0 := A1.b0
  have e1 := A1.b1
  have e2 : w.heap.size < w1.heap.size := by omega
  clear A0 B0 b1 e0' e1'
  by_cases hc : flC n N m P K d = 0
  rotate_left 1
  · obtain ⟨p9, c9, rfl⟩ := ownS_shE or
    have hb1 : (flC n N m P K d != 0) = true := by simpa using hc
    have H3 := Lib.hid (show leV n N m P K d = 0 by unfold leV; rw [if_neg hc])
    clear hc or
    go_wp2_with fail
    go_ret2
    exact ⟨ret_2 H3.out.symm rfl, B1⟩
  · obtain ⟨hB, rfl, hf⟩ := flC_ok hc
    have hm40 := (net_sz hB).2.2
    have HB := Lib.hid hB
    have HC := Lib.hid hc
    have HF := Lib.hid (show ∀ k, k < K → -30000 ≤ d k ∧ d k ≤ 30000 from fun k hk => flQ_iff.1 (flB_iff.1 hf k hk))
    have H1 := Lib.hid (HSV.out.below B1 hha)
    rw [hc]
    clear hc hB hf
    have hcn := chN_le n P K
    rw [show cfN n N K P K d = chN n P K by unfold cfN; rw [if_pos HC.out]] at or
    obtain ⟨p9, c9, rfl⟩ := ownS_shE or
    have HR := Lib.hid (show leV n N K P K d = leS (rsD n P K d) (chN n P K) by unfold leV; rw [if_pos HC.out])
    have HDR := Lib.hid (rsD_bnd HB.out HF.out)
    have HRW := Lib.hid (show ∀ k, k < chN n P K → p9 = some ⟨gr, 0, none⟩ ∧ gr < w1.heap.size ∧ w1.cell? ⟨gr, k, none⟩ = some (.int .i64 (rsD n P K d k)) from fun k hk => by
      obtain ⟨h1, h2, h3, h4⟩ := own_rowE or (by omega)
      exact ⟨h1, h2, h4 k hk⟩)
    have HBB := Lib.hid B1
    clear or A1 B1 e0 e1
    go_wp2_with fail
    go_loopw [8, 9] (fun bv iv wr => ∃ k : Nat, bv = .int .i64 (leS (rsD n P K d) k) ∧ iv = .int .i64 k ∧ k ≤ chN n P K ∧ w1.heap.size ≤ wr.heap.size ∧ Below w1.heap.size w1 wr) (fun _ iv _ => chN n P K - (intOf iv).toNat)
    case atStart => exact ⟨0, rfl, rfl, Nat.zero_le _, Nat.le_refl _, Below.refl _ _⟩
    case round =>
      obtain ⟨k, rfl, rfl, hk, hsz, hb⟩ := hrel
      have HL := Lib.hid hb
      clear hb
      have k0 : (0 : Int) ≤ (k : Int) := Int.natCast_nonneg _
      by_cases hlt : k < chN n P K
      · have k1 : (k : Int) < (chN n P K : Int) := by omega
        obtain ⟨q0, q1⟩ := HDR.out k hlt
        obtain ⟨rfl, g2, g3⟩ := HRW.out k hlt
        have y0 : wr.cell? ⟨gr, k, none⟩ = some (.int .i64 (rsD n P K d k)) := (HL.out.cell (p := ⟨gr, k, none⟩) g2).trans g3
        have HS := Lib.hid (show leS (rsD n P K d) (k + 1) = max (leS (rsD n P K d) k) ((rsD n P K d k).natAbs : Int) from rfl)
        have hl := leS_bnd (by omega) (fun j hj => HDR.out j (show j < chN n P K by have := (show j < k from hj); omega))
        generalize hI : leS (rsD n P K d) k = I at *
        generalize hr0 : rsD n P K d k = r0 at *
        clear hI hr0
        go_wp2_with (go_at_call 63; refine (absS_any _ _ (by omega) (by omega)).mono ?_; rintro e w' ⟨rfl, rfl⟩)
        go_roundw
        case rel => exact ⟨k + 1, by rw [HS.out], by go_num, hlt, by (first | omega | (simp; omega)), (by first | exact HL.out | exact below_drN1 HL.out _)⟩
        case measure => simp [intOf]; omega
      · have hkn : k = chN n P K := by omega
        have k1 : ¬ ((k : Int) < (chN n P K : Int)) := by omega
        have H5 := Lib.hid (show leV n N K P K d = leS (rsD n P K d) k by rw [hkn]; exact HR.out)
        clear hkn
        go_wp2_with fail
        go_ret2
        exact ⟨ret_2 H5.out.symm (by first | rfl | exact HC.out.symm), HBB.out.trans (HL.out.mono (by omega))⟩
end Go.Proofs.Ytfkacpphdnlkfaa.mem
