/-
  BridgesOf: the contracts of the program and of the specification. Conditions: as each states.
-/
import Derived.Test.YtpgcieefipjjfaaRows
import Derived.Test.YtpgcieefipjjfaaFoM
import Derived.Test.YtpgcieefipjjfaaNetWQ
namespace Go.Proofs.Ytpgcieefipjjfaa.mem
open Go.RowKit
set_option linter.unusedVariables false

theorem net_without {n : Nat} {N : Nat → Nod} {m : Nat} {P : Nat → Pip} {k : Nat} (h : netB n N m P = true) (hk : k < m) : netB n N (m - 1) (wpP P k) = true := by
  have h2 := h
  unfold netB at h ⊢
  simp only [Bool.and_eq_true] at h ⊢
  refine ⟨⟨szB_iff.2 ?_, h.1.2⟩, pipesB_iff.2 fun j hj => ?_⟩
  · have := szB_iff.1 h.1.1
    exact ⟨this.1, this.2.1, by omega⟩
  · unfold wpP
    split
    · exact net_pip h2 (by omega)
    · exact net_pip h2 (by omega)
/-- pipe k is a bridge -/
def brP (n : Nat) (P : Nat → Pip) (m : Nat) (k : Nat) : Bool := decide (cnt n P m < cnt n (wpP P k) (m - 1))
noncomputable def brN (n : Nat) (N : Nat → Nod) (m : Nat) (P : Nat → Pip) : Nat := if cmC (netB n N m P) = 0 then (fl (brP n P m) m).length else 0

set_option maxRecDepth 100000 in
set_option maxHeartbeats 4000000 in
theorem bridgesOfI_any (w : World) (v : Value) (n : Nat) (N : Nat → Nod) (m : Nat) (P : Nat → Pip) (lo hi : Nat) (h : NetAt w v n N m P lo hi) (hhi : hi ≤ w.heap.size) (hN : ∀ i, i < n → (N i).s.size ≤ 9223372036854775807) :
    Calls Try.prog 33 #[v] w (LIPost w (brN n N m P) (fd (brP n P m) m) (cmC (netB n N m P))) := by
  obtain ⟨p0, c0, p1, c1, rfl, hn9, hm9⟩ := h.parts
  have HV := Lib.hid h
  have HN := Lib.hid hN
  have A0 := boxed w (.slice p0 n c0) (.slice p1 m c1) 33
  have B0 := below_new w (.cells #[.slice p0 n c0, .slice p1 m c1] 33)
  have hs0 : (w.alloc (.cells #[.slice p0 n c0, .slice p1 m c1] 33)).heap.size = w.heap.size + 1 := by simp
  clear h hN
  go_enter Try.func33, Try.ntmps33
  go_wp2_with fail
  refine (isNetwork_any _ _ n N m P lo hi (HV.out.below B0 hhi) (by omega) HN.out).mono ?_
  rintro e w2 ⟨rfl, b2⟩
  have A2 := A0.below b2 (by omega)
  have B2 := B0.trans (b2.mono (by omega))
  have hs2 := b2.size
  have e0 := A2.b0
  have e1 := A2.b1
  have e2 : w.heap.size < w2.heap.size := by omega
  clear A0 B0 b2
  cases hB : netB n N m P
  · have H2 := Lib.hid (show brN n N m P = 0 by unfold brN; rw [hB]; rfl)
    have H3 := Lib.hid (show cmC (netB n N m P) = 1 by rw [hB]; rfl)
    clear hB
    go_wp2_with fail
    go_ret2
    exact li_err H2.out H3.out.symm rfl B2
  have H2 := Lib.hid (show brN n N m P = (fl (brP n P m) m).length by unfold brN; rw [hB]; rfl)
  have H3 := Lib.hid (show cmC (netB n N m P) = 0 by rw [hB]; rfl)
  have HWN := Lib.hid (fun k (hk : k < m) => net_without hB hk)
  obtain ⟨hn1, hn24, hm40⟩ := net_sz hB
  have HB := Lib.hid hB
  clear hB
  have b3 := below_new w2 (.cells #[] 2)
  have F0 := Own.nilled w2 (fd (brP n P m) 0)
  obtain ⟨w3, hw3⟩ : ∃ w3, w2.alloc (.cells #[] 2) = w3 := ⟨_, rfl⟩
  have hs3 : w3.heap.size = w2.heap.size + 1 := by rw [← hw3]; simp
  rw [hw3] at b3 F0
  have A3 := A2.below b3 (by omega)
  have B3 := B2.trans (b3.mono (by omega))
  have f0 := A3.b0
  have f1 := A3.b1
  have f2 : w.heap.size < w3.heap.size := by omega
  have HA := Lib.hid A3
  have HBB := Lib.hid B3
  have HF := Lib.hid F0
  clear A2 B2 A3 B3 b3 F0 hs3
  subst hw3
  go_wp2_with fail
  generalize hW : w2.alloc (.cells #[] 2) = w3 at *
  clear hW e0 e1 e2
  refine (leastNodes_any w3 _ n N m P lo hi (HV.out.below HBB.out hhi) (by omega) HB.out).mono ?_
  rintro e w4 ⟨vr, gr, rfl, orr, hgr, b4⟩
  obtain ⟨cr, rfl⟩ := orr.shape
  have hcn := cnt_le n P m
  have HA4 := Lib.hid (HA.out.below b4 f2)
  have HB4 := Lib.hid (HBB.out.trans (b4.mono (by omega)))
  have HF4 := Lib.hid (HF.out.below b4 (Nat.le_refl _))
  have g1 := HA4.out.b1
  have g2 := HA4.out.lt
  clear HA HBB HF f0 f1 orr b4
  go_wp2_with fail
  go_loopw [4, 17] (fun ov iv wr => ∃ (k g : Nat) (ov' : Value), ov' = ov ∧ iv = .int .i64 k ∧ k ≤ m ∧ Own wr ov' (fl (brP n P m) k).length (fd (brP n P m) k) g ∧ w.heap.size < g ∧ Ob wr w.heap.size 2 (bx (.slice p0 n c0) (.slice p1 m c1)) ∧ Below w.heap.size w wr) (fun _ iv _ => m - (intOf iv).toNat)
  case atStart => exact ⟨0, w2.heap.size, _, rfl, rfl, Nat.zero_le _, HF4.out, by omega, HA4.out, HB4.out⟩
  case round =>
    obtain ⟨k, g, ov, rfl, rfl, hk, ho, hg, ha, hb⟩ := hrel
    obtain ⟨co, rfl⟩ := ho.shape
    clear HF4 HA4 HB4 g1 g2
    have HO := Lib.hid ho
    have HA := Lib.hid ha
    have HBB := Lib.hid hb
    have lo1 := ho.lt
    have la := ha.lt
    clear ho ha hb
    have k0 : (0 : Int) ≤ (k : Int) := Int.natCast_nonneg _
    generalize hQ : Exit.then _ _ = Q
    have HQ := Lib.hid hQ
    clear hQ
    by_cases hlt : k < m
    · have k1 : (k : Int) < (m : Int) := by omega
      have y0 : wr.cell? ⟨w.heap.size, 0, none⟩ = some (.slice p0 n c0) := HA.out.b0
      have y1 : wr.cell? ⟨w.heap.size, 1, none⟩ = some (.slice p1 m c1) := HA.out.b1
      go_wp2_with fail
      refine (withoutPipe_any wr _ n N m P lo hi (HV.out.below HBB.out hhi) (by omega) HN.out (by omega) (by omega) k hlt).mono ?_
      rintro e w5 ⟨u, b1, b2, rfl, ou, l1, l2, b5⟩
      obtain ⟨u1, u2, u3, u4, rfl⟩ := ou.shape
      have HU := Lib.hid ou.net
      have HA5 := Lib.hid (HA.out.below b5 la)
      have HB5 := Lib.hid (HBB.out.trans (b5.mono (by omega)))
      have HO5 := Lib.hid (HO.out.below b5 (Nat.le_refl _))
      have hs5 := b5.size
      clear ou b5 y0 y1 HA HBB HO
      go_wp2_with fail
      refine (leastNodes_any w5 _ n N (m - 1) (wpP P k) 0 _ HU.out (Nat.le_refl _) (HWN.out k hlt)).mono ?_
      rintro e w6 ⟨vr6, gr6, rfl, or6, hgr6, b6⟩
      obtain ⟨cr6, rfl⟩ := or6.shape
      have hcn6 := cnt_le n (wpP P k) (m - 1)
      have HA6 := Lib.hid (HA5.out.below b6 (by omega))
      have HB6 := Lib.hid (HB5.out.trans (b6.mono (by omega)))
      have HO6 := Lib.hid (HO5.out.below b6 (Nat.le_refl _))
      have hs6 := b6.size
      have lo6 := HO6.out.lt
      clear or6 b6 HA5 HB5 HO5 HU
      by_cases hbr : cnt n P m < cnt n (wpP P k) (m - 1)
      · have hd : ((cnt n P m : Nat) : Int) < ((cnt n (wpP P k) (m - 1) : Nat) : Int) := by omega
        have HP := Lib.hid (show brP n P m k = true by unfold brP; exact decide_eq_true hbr)
        clear hbr
        obtain ⟨v7, w7, g7, hr, ap⟩ := coll_run w6 _ (brP n P m) k g HO6.out (by omega)
        have Y := Lib.hid (coll_below ap (B := w.heap.size + 1) (by omega) lo6)
        have O7 := Lib.hid (fl_app HP.out ap)
        have hoth := ap.other (c := w.heap.size) (by omega) (by rw [szal]; omega)
        have HA7 := Lib.hid ((HA6.out.keep (Below.heap_alloc _ (.cells #[.int .i64 (k : Nat)] 2) _ (by omega))).keep hoth.1)
        have hg7 := Y.out.2.1
        clear ap hoth
        go_wp2_with (at_builtin; refine wpList_app hr rfl _ _ rfl rfl rfl rfl ?_)
        rw [← HQ.out]
        refine ⟨⟨_, _, _, _, _, _, _, _, _, _, _, _, _, _, _, _, _, ?rel, rfl⟩, ?measure⟩
        case rel => exact ⟨k + 1, g7, _, rfl, by go_num, hlt, O7.out, by omega, HA7.out, HB6.out.trans (Y.out.1.mono (by omega))⟩
        case measure => simp [intOf]; omega
      · have hd : ¬ (((cnt n P m : Nat) : Int) < ((cnt n (wpP P k) (m - 1) : Nat) : Int)) := by omega
        have HP := Lib.hid (show brP n P m k = false by unfold brP; exact decide_eq_false hbr)
        clear hbr
        go_wp2
        rw [← HQ.out]
        refine ⟨⟨_, _, _, _, _, _, _, _, _, _, _, _, _, _, _, _, _, ?rel, rfl⟩, ?measure⟩
        case rel => exact ⟨k + 1, g, _, rfl, by go_num, hlt, fl_keep HP.out HO6.out, hg, HA6.out, HB6.out⟩
        case measure => simp [intOf]; omega
    · have hkn : m = k := by omega
      subst hkn
      have k1 : ¬ ((m : Int) < (m : Int)) := by omega
      go_wp2
      rw [← HQ.out]
      go_wp2
      go_ret2
      exact li_ok H2.out.symm (by rw [H3.out]; rfl) HO.out (by omega) HBB.out

set_option maxRecDepth 100000 in
set_option maxHeartbeats 4000000 in
theorem bridgesOfS_any (w : World) (v : Value) (n : Nat) (N : Nat → Nod) (m : Nat) (P : Nat → Pip) (lo hi : Nat) (h : NetAt w v n N m P lo hi) (hhi : hi ≤ w.heap.size) (hN : ∀ i, i < n → (N i).s.size ≤ 9223372036854775807) :
    Calls Try.prog 34 #[v] w (LIPost w (brN n N m P) (fd (brP n P m) m) (cmC (netB n N m P))) := by
  obtain ⟨p0, c0, p1, c1, rfl, hn9, hm9⟩ := h.parts
  have HV := Lib.hid h
  have HN := Lib.hid hN
  have A0 := boxed w (.slice p0 n c0) (.slice p1 m c1) 33
  have B0 := below_new w (.cells #[.slice p0 n c0, .slice p1 m c1] 33)
  have hs0 : (w.alloc (.cells #[.slice p0 n c0, .slice p1 m c1] 33)).heap.size = w.heap.size + 1 := by simp
  clear h hN
  go_enter Try.func34, Try.ntmps34
  go_wp2_with fail
  refine (sIsNetwork_any _ _ n N m P lo hi (HV.out.below B0 hhi) (by omega) HN.out).mono ?_
  rintro e w2 ⟨rfl, b2⟩
  have A2 := A0.below b2 (by omega)
  have B2 := B0.trans (b2.mono (by omega))
  have hs2 := b2.size
  have e0 := A2.b0
  have e1 := A2.b1
  have e2 : w.heap.size < w2.heap.size := by omega
  clear A0 B0 b2
  cases hB : netB n N m P
  · have H2 := Lib.hid (show brN n N m P = 0 by unfold brN; rw [hB]; rfl)
    have H3 := Lib.hid (show cmC (netB n N m P) = 1 by rw [hB]; rfl)
    clear hB
    go_wp2_with fail
    go_ret2
    exact li_err H2.out H3.out.symm rfl B2
  have H2 := Lib.hid (show brN n N m P = (fl (brP n P m) m).length by unfold brN; rw [hB]; rfl)
  have H3 := Lib.hid (show cmC (netB n N m P) = 0 by rw [hB]; rfl)
  have HWN := Lib.hid (fun k (hk : k < m) => net_without hB hk)
  obtain ⟨hn1, hn24, hm40⟩ := net_sz hB
  have HTC := Lib.hid (fun (k : Nat) (hk : k < m) => show tpC n N m P ((k : Nat) : Int) = 0 by unfold tpC; rw [hB, inR_iff.2 ⟨Int.natCast_nonneg _, by omega⟩]; rfl)
  have HTN := Lib.hid (fun (k j : Nat) (hk : k < m) => show tpN n N m P ((k : Nat) : Int) j = j by unfold tpN; rw [if_pos (HTC.out k hk)])
  have HB := Lib.hid hB
  clear hB
  have b3 := below_new w2 (.cells #[] 2)
  have F0 := Own.nilled w2 (fd (brP n P m) 0)
  obtain ⟨w3, hw3⟩ : ∃ w3, w2.alloc (.cells #[] 2) = w3 := ⟨_, rfl⟩
  have hs3 : w3.heap.size = w2.heap.size + 1 := by rw [← hw3]; simp
  rw [hw3] at b3 F0
  have HA := Lib.hid (A2.below b3 (by omega))
  have HBB := Lib.hid (B2.trans (b3.mono (by omega)))
  have HF := Lib.hid F0
  clear A2 B2 b3 F0 hs3
  subst hw3
  go_wp2_with fail
  generalize hW : w2.alloc (.cells #[] 2) = w3 at *
  clear hW e0 e1
  go_loopw [4, 5] (fun ov iv wr => ∃ (k g : Nat) (ov' : Value), ov' = ov ∧ iv = .int .i64 k ∧ k ≤ m ∧ Own wr ov' (fl (brP n P m) k).length (fd (brP n P m) k) g ∧ w.heap.size < g ∧ Ob wr w.heap.size 2 (bx (.slice p0 n c0) (.slice p1 m c1)) ∧ Below w.heap.size w wr) (fun _ iv _ => m - (intOf iv).toNat)
  case atStart => exact ⟨0, w2.heap.size, _, rfl, rfl, Nat.zero_le _, HF.out, by omega, HA.out, HBB.out⟩
  case round =>
    obtain ⟨k, g, ov, rfl, rfl, hk, ho, hg, ha, hb⟩ := hrel
    obtain ⟨co, rfl⟩ := ho.shape
    clear HF HA HBB
    have HO := Lib.hid ho
    have HA := Lib.hid ha
    have HBB := Lib.hid hb
    have lo1 := ho.lt
    have la := ha.lt
    clear ho ha hb
    have k0 : (0 : Int) ≤ (k : Int) := Int.natCast_nonneg _
    generalize hQ : Exit.then _ _ = Q
    have HQ := Lib.hid hQ
    clear hQ
    have y0 : wr.cell? ⟨w.heap.size, 0, none⟩ = some (.slice p0 n c0) := HA.out.b0
    have y1 : wr.cell? ⟨w.heap.size, 1, none⟩ = some (.slice p1 m c1) := HA.out.b1
    by_cases hlt : k < m
    · have k1 : (k : Int) < (m : Int) := by omega
      go_wp2_with fail
      refine (withoutS_any wr _ n N m P lo hi (HV.out.below HBB.out hhi) (by omega) HN.out (by omega) (by omega) ((k : Nat) : Int)).mono ?_
      rw [HTN.out k n hlt, HTN.out k (m - 1) hlt, HTC.out k hlt]
      rintro e w5 ⟨u, b1, b2, rfl, ou, l1, l2, b5⟩
      obtain ⟨u1, u2, u3, u4, rfl⟩ := ou.shape
      have HU := Lib.hid ou.net
      have HA5 := Lib.hid (HA.out.below b5 la)
      have HB5 := Lib.hid (HBB.out.trans (b5.mono (by omega)))
      have HO5 := Lib.hid (HO.out.below b5 (Nat.le_refl _))
      have hs5 := b5.size
      have b6 := below_new w5 (.cells #[.slice u1 n u2, .slice u3 (m - 1) u4] 33)
      have X6 := boxed w5 (.slice u1 n u2) (.slice u3 (m - 1) u4) 33
      have HU6 := Lib.hid (HU.out.below b6 (Nat.le_refl _))
      have HA6 := Lib.hid (HA5.out.below b6 (by omega))
      have HB6 := Lib.hid (HB5.out.trans (b6.mono (by omega)))
      have HO6 := Lib.hid (HO5.out.below b6 (Nat.le_refl _))
      have hs6 : (w5.alloc (.cells #[.slice u1 n u2, .slice u3 (m - 1) u4] 33)).heap.size = w5.heap.size + 1 := by simp
      clear ou b5 y0 y1 HA HBB HO HU HA5 HB5 HO5 b6
      go_wp2_with fail
      generalize hW6 : w5.alloc (.cells #[.slice u1 n u2, .slice u3 (m - 1) u4] 33) = w6 at *
      clear hW6
      have z0 := X6.b0
      have z1 := X6.b1
      have z2 := X6.lt
      have y0 := HA6.out.b0
      have y1 := HA6.out.b1
      have la6 := HA6.out.lt
      have lo6 := HO6.out.lt
      clear X6
      go_region_held3 (fun w' => w'.cell? ⟨w.heap.size, 0, none⟩ = some (.slice p0 n c0) ∧ w'.cell? ⟨w.heap.size, 1, none⟩ = some (.slice p1 m c1) ∧ w'.cell? ⟨w5.heap.size, 0, none⟩ = some (.slice u1 n u2) ∧ w'.cell? ⟨w5.heap.size, 1, none⟩ = some (.slice u3 (m - 1) u4))
        (first | exact ⟨y0, y1, z0, z1⟩ | exact hold4 hb2 la7 lz7 (hold4 hb1 la6 z2 ⟨y0, y1, z0, z1⟩) | exact hold4 hb1 la6 z2 ⟨y0, y1, z0, z1⟩)
        (first | (go_at_call 91; with_reducible refine (l04Count_any _ _ n N (m - 1) (wpP P k) 0 _ HU6.out.drew (by simp only [World.heap_drew]; omega) HN.out (HWN.out k hlt)).mono ?_; rintro e wa ⟨rfl, hb1⟩; have hsa := hb1.size; simp only [World.heap_drew] at hsa; have la7 := Nat.lt_of_lt_of_le la6 hsa; have lz7 := Nat.lt_of_lt_of_le z2 hsa) | (go_at_call 91; refine (l04Count_any _ _ n N m P lo hi ((HV.out.below HB6.out hhi).drew.below hb1 (by simp only [World.heap_drew]; omega)) (by omega) HN.out HB.out).mono ?_; rintro e wb ⟨rfl, hb2⟩))
      obtain ⟨w9, hwb⟩ : ∃ w', w' = wb := ⟨_, rfl⟩
      subst hwb
      have bb : Below w6.heap.size w6 w9 := below_dr0 (belowNext hb1 hb2)
      clear hb1 hb2 hsa la7 lz7 y0 y1 z0 z1
      have HA9 := Lib.hid (HA6.out.below bb la6)
      have HB9 := Lib.hid (HB6.out.trans (bb.mono (by omega)))
      have HO9 := Lib.hid (HO6.out.below bb (Nat.le_refl _))
      have hs9 := bb.size
      have lo9 := HO9.out.lt
      clear bb HA6 HB6 HO6 HU6
      by_cases hbr : cnt n P m < cnt n (wpP P k) (m - 1)
      · have hd : ((cnt n P m : Nat) : Int) < ((cnt n (wpP P k) (m - 1) : Nat) : Int) := by omega
        have HP := Lib.hid (show brP n P m k = true by unfold brP; exact decide_eq_true hbr)
        clear hbr
        obtain ⟨v7, w7, g7, hr, ap⟩ := coll_run w9 _ (brP n P m) k g HO9.out (by omega)
        have Y := Lib.hid (coll_below ap (B := w.heap.size + 1) (by omega) lo9)
        have O7 := Lib.hid (fl_app HP.out ap)
        have hoth := ap.other (c := w.heap.size) (by omega) (by rw [szal]; omega)
        have HA7 := Lib.hid ((HA9.out.keep (Below.heap_alloc _ (.cells #[.int .i64 (k : Nat)] 2) _ (by omega))).keep hoth.1)
        have hg7 := Y.out.2.1
        clear ap hoth
        go_wp2_with (at_builtin; refine wpList_app hr rfl _ _ rfl rfl rfl rfl ?_)
        rw [← HQ.out]
        refine ⟨⟨_, _, _, _, _, _, _, _, _, _, _, _, _, _, _, _, _, _, _, _, _, _, _, _, _, _, ?rel, rfl⟩, ?measure⟩
        case rel => exact ⟨k + 1, g7, _, rfl, by go_num, hlt, O7.out, by omega, HA7.out, HB9.out.trans (Y.out.1.mono (by omega))⟩
        case measure => simp [intOf]; omega
      · have hd : ¬ (((cnt n P m : Nat) : Int) < ((cnt n (wpP P k) (m - 1) : Nat) : Int)) := by omega
        have HP := Lib.hid (show brP n P m k = false by unfold brP; exact decide_eq_false hbr)
        clear hbr
        go_wp2
        rw [← HQ.out]
        refine ⟨⟨_, _, _, _, _, _, _, _, _, _, _, _, _, _, _, _, _, _, _, _, _, _, _, _, _, _, ?rel, rfl⟩, ?measure⟩
        case rel => exact ⟨k + 1, g, _, rfl, by go_num, hlt, fl_keep HP.out HO9.out, hg, HA9.out, HB9.out⟩
        case measure => simp [intOf]; omega
    · have hkn : m = k := by omega
      subst hkn
      have k1 : ¬ ((m : Int) < (m : Int)) := by omega
      go_wp2
      rw [← HQ.out]
      go_wp2
      go_ret2
      exact li_ok H2.out.symm (by rw [H3.out]; rfl) HO.out (by omega) HBB.out
theorem brN_le (n : Nat) (N : Nat → Nod) (m : Nat) (P : Nat → Pip) (hm : m ≤ 2000000) : brN n N m P ≤ 2000000 := by
  have := fl_le (brP n P m) m
  unfold brN
  split <;> omega
theorem agreeBridgesOf (n : Nat) (N : Nat → Nod) (m : Nat) (P : Nat → Pip) (hN : ∀ i, i < n → (N i).s.size ≤ 9223372036854775807) (_hn : n ≤ 2000000) (hm : m ≤ 2000000) :
    ∃ rn rd rc, rn ≤ 2000000 ∧ (∀ w v, NetAt w v n N m P 0 w.heap.size → Calls Try.prog 33 #[v] w (LIPost w rn rd rc)) ∧ (∀ w v, NetAt w v n N m P 0 w.heap.size → Calls Try.prog 34 #[v] w (LIPost w rn rd rc)) :=
  ⟨brN n N m P, fd (brP n P m) m, cmC (netB n N m P), brN_le n N m P hm, fun w v h => bridgesOfI_any w v n N m P 0 _ h (Nat.le_refl _) hN, fun w v h => bridgesOfS_any w v n N m P 0 _ h (Nat.le_refl _) hN⟩
end Go.Proofs.Ytpgcieefipjjfaa.mem
