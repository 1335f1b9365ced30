/-
  The specification's FromChords, and the agreement. Conditions: as each states.
-/
import Derived.Test.YtpgcieefipjjfaaRows
import Derived.Test.YtpgcieefipjjfaaCsw
namespace Go.Proofs.Ytpgcieefipjjfaa.mem
open Go.RowKit
set_option linter.unusedVariables false

theorem Bas.at_ {w : World} {v : Value} {K m B : Nat} {Y : Nat → Nat → Int} (h : Bas w v K m Y B) : K = 0 ∨ ∃ (q cap : Nat) (G C : Nat → Nat), v = .slice (some ⟨q, 0, none⟩) K cap ∧ q < w.heap.size ∧ ∀ k, k < K → w.cell? ⟨q, k, none⟩ = some (.slice (some ⟨G k, 0, none⟩) m (C k)) ∧ Own w (.slice (some ⟨G k, 0, none⟩) m (C k)) m (Y k) (G k) := by
  obtain ⟨G, C, h1, h2, _⟩ := h.ex
  obtain ⟨q, o, _⟩ := h1.ownS
  obtain ⟨p, cap, e, _, _, h4⟩ := o.ex
  rcases h4 with h4 | ⟨rfl, r⟩
  · exact .inl h4
  · refine .inr ⟨q, cap, G, C, e, r.lt, fun k hk => ⟨?_, (h2 k hk).1⟩⟩
    have := r.cell k 0 hk (by omega)
    rwa [Nat.mul_one, Nat.add_zero] at this
theorem tot_ext {P : Nat → Pip} {E D : Int → Int} {cs : Nat → Nat} {am am' : Nat → Int} (a : Nat) : ∀ k, (∀ j, j < k → am j = am' j) → tot P E D cs am k a = tot P E D cs am' k a
  | 0, _ => rfl
  | k + 1, h => by
    show tot P E D cs am k a + am k * cyc P E D (cs k) a = tot P E D cs am' k a + am' k * cyc P E D (cs k) a
    rw [tot_ext a k (fun j hj => h j (by omega)), h k (by omega)]
theorem flo_bd2 {n : Nat} {N : Nat → Nod} {P : Nat → Pip} {m : Nat} (hN : netB n N m P = true) {am : Nat → Int} (a k : Nat) (hk : k ≤ chN n P m) (ha : ∀ j, j < k → -30000 ≤ am j ∧ am j ≤ 30000) : -90000 * (k : Int) ≤ flo n P m am k a ∧ flo n P m am k a ≤ 90000 * (k : Int) := by
  have h := flo_bd hN (am := fun j => if j < k then am j else 0) (fun j _ => by
    split
    · exact ha j ‹_›
    · omega) a k hk
  unfold flo at h ⊢
  rwa [tot_ext (am' := am) a k (fun j hj => if_pos hj)] at h
set_option maxRecDepth 100000 in
set_option maxHeartbeats 8000000 in
theorem fromChordsS_any (w : World) (v : Value) (n : Nat) (N : Nat → Nod) (m : Nat) (P : Nat → Pip) (lo hi : Nat) (h : NetAt w v n N m P lo hi) (hhi : hi ≤ w.heap.size) (hN : ∀ i, i < n → (N i).s.size ≤ 9223372036854775807) (va : Value) (K : Nat) (d : Nat → Int) (la ha : Nat) (hv : Sl w va K d la ha) (hha : ha ≤ w.heap.size) (hK9 : K ≤ 9223372036854775807) :
    Calls Try.prog 25 #[v, va] w (LIPost w (frN n N m P K d) (frD n P m d) (frC n N m P K d)) := by
  obtain ⟨p0, c0, p1, c1, rfl, hn9, hm9⟩ := h.parts
  have HV := Lib.hid h
  have HN := Lib.hid hN
  have A0 := boxed w (.slice p0 n c0) (.slice p1 m c1) 33
  have B0 := below_new w (.cells #[.slice p0 n c0, .slice p1 m c1] 33)
  have hs0 : (w.alloc (.cells #[.slice p0 n c0, .slice p1 m c1] 33)).heap.size = w.heap.size + 1 := by simp
  clear h hN
  go_enter Try.func25, Try.ntmps25
  have e0' := A0.b0
  have e1' := A0.b1
  go_wp2_with fail
  refine (sIsNetwork_any _ _ n N m P lo hi (HV.out.below B0 hhi) (by omega) HN.out).mono ?_
  rintro e w1 ⟨rfl, b1⟩
  have A1 := A0.below b1 (by omega)
  have B1 := B0.trans (b1.mono (by omega))
  have hs1 := b1.size
  have e0 := A1.b0
  have e1 := A1.b1
  have e2 : w.heap.size < w1.heap.size := by omega
  clear A0 B0 b1 e0' e1'
  cases hB : netB n N m P
  · have H2 := Lib.hid (show frC n N m P K d = 1 by unfold frC; rw [hB]; rfl)
    have H3 := Lib.hid (show frN n N m P K d = 0 by unfold frN; rw [H2.out]; rfl)
    clear hB
    go_wp2_with fail
    go_ret2
    exact li_err H3.out H2.out.symm rfl B1
  · have hm40 := (net_sz hB).2.2
    have hcn := chN_le n P m
    have HB := Lib.hid hB
    have H1 := Lib.hid (hv.below B1 hha)
    obtain ⟨pa, ca, rfl, hva⟩ := hv
    clear hva
    go_wp2_with fail
    refine (l05Basis_any w1 _ n N m P lo hi (HV.out.below B1 hhi) (by omega) HN.out HB.out).mono ?_
    rintro e w2 ⟨vb, rfl, hb2, b2⟩
    obtain ⟨pb, cb, rfl⟩ := hb2.shape
    have A2 := A1.below b2 e2
    have B2 := B1.trans (b2.mono (by omega))
    have hs2 := b2.size
    have H2 := Lib.hid (H1.out.below b2 (by omega))
    have HBA := Lib.hid hb2
    have f0 := A2.b0
    have f1 := A2.b1
    clear e0 e1 A1 b2 H1 hb2
    by_cases hK : K = chN n P m
    · have hb1 : ((K : Int) != (chN n P m : Int)) = false := by simp [hK]
      have HFC := Lib.hid (show frC n N m P K d = (if flB d K = true then (if flB (flo n P m d K) m = true then 0 else 2) else 2) by unfold frC; rw [hB, if_pos rfl, if_pos hK, hK])
      have HFD := Lib.hid (show frD n P m d = flo n P m d K by unfold frD; rw [hK])
      have HKK := Lib.hid hK
      have m1 := make_int64 w2 m (by omega)
      have b3 := below_new w2 (.cells (zeros m) 2)
      have hs3 : (w2.alloc (.cells (zeros m) 2)).heap.size = w2.heap.size + 1 := by simp
      have HO := Lib.hid ((Own.made w2 m (by omega)).congr (e := flo n P m d 0) (fun k hk => rfl))
      have HB3 := Lib.hid b3
      have HBB := Lib.hid (B2.trans (b3.mono (by omega)))
      clear hB hK b3
      go_wp2_with fail
      clear hb1 m1
      obtain ⟨w3, hw3⟩ : ∃ w3, w2.alloc (.cells (zeros m) 2) = w3 := ⟨_, rfl⟩
      rw [hw3] at HO HB3 HBB hs3 ⊢
      clear hw3
      go_loopw [7, 8] (fun ov iv wr => ∃ (k g : Nat) (ov' : Value), ov' = ov ∧ iv = .int .i64 k ∧ k ≤ K ∧ flB d k = true ∧ Own wr ov' m (flo n P m d k) g ∧ w1.heap.size ≤ g ∧ Below w2.heap.size w2 wr) (fun _ iv _ => K - (intOf iv).toNat)
      case atStart => exact ⟨0, w2.heap.size, _, rfl, rfl, Nat.zero_le _, rfl, HO.out, by omega, HB3.out⟩
      case round =>
        obtain ⟨k, g, ov, rfl, rfl, hk, hfb, ho, hg, hb⟩ := hrel
        obtain ⟨co, rfl⟩ := ho.shape
        clear HO HB3
        have HO := Lib.hid ho
        have HL := Lib.hid hb
        have HFB := Lib.hid hfb
        have lg := ho.lt
        have hsz := hb.size
        have g0 : wr.cell? ⟨w.heap.size, 0, none⟩ = some (.slice p0 n c0) := (hb.cell (p := ⟨w.heap.size, 0, none⟩) (by show w.heap.size < _; omega)).trans f0
        have g1 : wr.cell? ⟨w.heap.size, 1, none⟩ = some (.slice p1 m c1) := (hb.cell (p := ⟨w.heap.size, 1, none⟩) (by show w.heap.size < _; omega)).trans f1
        clear ho hb hfb
        have k0 : (0 : Int) ≤ (k : Int) := Int.natCast_nonneg _
        generalize hQ : Exit.then _ _ = Q
        have HQ := Lib.hid hQ
        clear hQ
        by_cases hlt : k < K
        · have k1 : (k : Int) < (K : Int) := by omega
          obtain ⟨q, cap, G, C, ee, hql, hrow⟩ : ∃ (q cap : Nat) (G C : Nat → Nat), Value.slice pb (chN n P m) cb = .slice (some ⟨q, 0, none⟩) (chN n P m) cap ∧ q < w2.heap.size ∧ ∀ k, k < chN n P m → w2.cell? ⟨q, k, none⟩ = some (.slice (some ⟨G k, 0, none⟩) m (C k)) ∧ Own w2 (.slice (some ⟨G k, 0, none⟩) m (C k)) m ((fun i => cyc P (fE n P m) (fD n P m) (chS n P m i)) k) (G k) := by
            rcases HBA.out.at_ with e | e
            · have := HKK.out
              omega
            · exact e
          obtain ⟨rfl, rfl⟩ : pb = some ⟨q, 0, none⟩ ∧ cb = cap := by
            injection ee with h1 _ h3
            exact ⟨h1, h3⟩
          clear ee
          obtain ⟨ba, oa, ea, g3, g4, hx⟩ : ∃ b o, pa = some ⟨b, o, none⟩ ∧ la ≤ b ∧ b < ha ∧ ∀ k, k < K → w2.cell? ⟨b, o + k, none⟩ = some (.int .i64 (d k)) := by
            obtain ⟨pa', ca', e1, hc⟩ := H2.out
            injection e1 with h1 _ _
            subst h1
            rcases hc with e | e
            · omega
            · exact e
          subst ea
          obtain ⟨yr, yo⟩ := hrow k (by rw [← HKK.out]; exact hlt)
          have y1 : wr.cell? ⟨ba, oa + k, none⟩ = some (.int .i64 (d k)) := (HL.out.cell (p := ⟨ba, oa + k, none⟩) (by show ba < w2.heap.size; omega)).trans (hx k hlt)
          have y2 : wr.cell? ⟨q, k, none⟩ = some (.slice (some ⟨G k, 0, none⟩) m (C k)) := (HL.out.cell (p := ⟨q, k, none⟩) hql).trans yr
          have HY := Lib.hid (yo.below HL.out (Nat.le_refl _))
          have lG := HY.out.lt
          clear hx hrow yr yo
          have kc : (k : Int) < (chN n P m : Int) := by rw [← HKK.out]; exact k1
          cases hq : flQ (d k)
          · have H4 := Lib.hid (show frC n N m P K d = 2 by rw [HFC.out, flB_no hlt hq]; rfl)
            have H3 := Lib.hid (show frN n N m P K d = 0 by unfold frN; rw [H4.out]; rfl)
            go_wp2_with (go_at_call 77; refine (l05Flow_any _ _).mono ?_; rintro e w' ⟨rfl, rfl⟩; rw [hq])
            rw [← HQ.out]
            go_wp2_with fail
            go_ret2
            exact li_err H3.out H4.out.symm rfl (B2.trans (HL.out.mono (by omega)))
          · have HR := Lib.hid (show flB d (k + 1) = true by unfold flB; rw [HFB.out, hq]; rfl)
            have hqr := flQ_iff.1 hq
            have HPB := Lib.hid (show ∀ a, a < m → (-4611686018427387904 ≤ flo n P m d k a + d k * (fun i => cyc P (fE n P m) (fD n P m) (chS n P m i)) k a ∧ flo n P m d k a + d k * (fun i => cyc P (fE n P m) (fD n P m) (chS n P m i)) k a ≤ 4611686018427387904) ∧ (-4611686018427387904 ≤ d k * (fun i => cyc P (fE n P m) (fD n P m) (chS n P m i)) k a ∧ d k * (fun i => cyc P (fE n P m) (fD n P m) (chS n P m i)) k a ≤ 4611686018427387904) from fun a _ => by
              have hkc : k < chN n P m := by rw [← HKK.out]; exact hlt
              have h1 := flo_bd2 HB.out (am := d) a k (by omega) (fun j hj => flQ_iff.1 (flB_iff.1 HFB.out j hj))
              have h2 := mul3 hqr ((fo_net HB.out).cyc_rng (chS_at hkc).1 a)
              dsimp only
              omega)
            clear hqr
            have hAny : ∀ X : World, Below wr.heap.size wr X → X.cell? ⟨q, k, none⟩ = some (.slice (some ⟨G k, 0, none⟩) m (C k)) ∧ X.cell? ⟨ba, oa + k, none⟩ = some (.int .i64 (d k)) := fun X h => ⟨(h.cell (p := ⟨q, k, none⟩) (by show q < _; omega)).trans y2, (h.cell (p := ⟨ba, oa + k, none⟩) (by show ba < _; omega)).trans y1⟩
            go_wp2_with (go_at_call 77; refine (l05Flow_any _ _).mono ?_; rintro e w' ⟨rfl, rfl⟩; rw [hq])
            go_region_held3 (fun w' : World => w'.cell? ⟨q, k, none⟩ = some (.slice (some ⟨G k, 0, none⟩) m (C k)) ∧ w'.cell? ⟨ba, oa + k, none⟩ = some (.int .i64 (d k)))
              (first | exact hAny _ (below_drw (Below.refl _ _)) | exact hAny _ KX)
              (first | (go_at_call 78; refine (l05Add_any _ _ _ m (flo n P m d k) ((fun i => cyc P (fE n P m) (fD n P m) (chS n P m i)) k) (d k) g (g + 1) (G k) (G k + 1) (sl_dr HO.out.sl) (show g + 1 ≤ wr.heap.size by omega) (sl_dr HY.out.sl) (show G k + 1 ≤ wr.heap.size by omega) (by omega) (fun a ha => (HPB.out a ha).1) (fun a ha => (HPB.out a ha).2)).mono ?_; rintro e wX ⟨v5, g5, rfl, o5, hg5, hb5⟩; obtain ⟨c5, rfl⟩ := o5.shape; have KX : Below wr.heap.size wr wX := below_dr0 hb5; have hg6 : wr.heap.size ≤ g5 := hg5))
            have HO5 := Lib.hid (o5.congr (e := flo n P m d (k + 1)) (fun a _ => rfl))
            have HL5 := Lib.hid (HL.out.trans (KX.mono (by omega)))
            clear hAny KX o5 hb5 y1 y2 g0 g1
            go_wp2_with fail
            rw [← HQ.out]
            refine ⟨⟨_, _, _, _, _, _, _, _, _, _, _, _, _, _, _, _, _, _, _, _, _, _, _, _, _, _, ?rel, rfl⟩, ?measure⟩
            case rel => exact ⟨k + 1, g5, _, rfl, by go_num, hlt, HR.out, HO5.out, by omega, HL5.out⟩
            case measure => simp [intOf]; omega
        · have hkn : K = k := by omega
          have HO2 := Lib.hid (show Own wr (.slice (some ⟨g, 0, none⟩) m co) m (flo n P m d K) g by rw [hkn]; exact HO.out)
          have HFK := Lib.hid (show flB d K = true by rw [hkn]; exact HFB.out)
          have k1 : ¬ ((k : Int) < (K : Int)) := by omega
          clear hkn HO
          cases hl : flB (flo n P m d K) m
          all_goals
            have HLL := Lib.hid hl
            clear hl
            go_wp2_with fail
            rw [← HQ.out]
            go_wp2_with (go_at_call 70; refine (l05List_any _ p0 p1 n m c0 c1 _ m _ _ _ HO2.out.sl (by omega) hm9 hm9).mono ?_; rintro e w7 ⟨rfl, hb7⟩; rw [show liB m m (flo n P m d K) = flB (flo n P m d K) m from by unfold liB; simp, HLL.out])
            go_ret2
          · have H4 := Lib.hid (show frC n N m P K d = 2 by rw [HFC.out, HFK.out, HLL.out]; rfl)
            exact li_err (show _ = 0 by unfold frN; rw [H4.out]; rfl) H4.out.symm rfl ((B2.trans (HL.out.mono (by omega))).trans (hb7.mono (by omega)))
          · have H4 := Lib.hid (show frC n N m P K d = 0 by rw [HFC.out, HFK.out, HLL.out]; rfl)
            exact li_ok (show m = _ by unfold frN; rw [H4.out]; rfl) (by rw [H4.out]; rfl) ((HO2.out.below hb7 (Nat.le_refl _)).congr (fun a _ => by rw [HFD.out])) (by omega) ((B2.trans (HL.out.mono (by omega))).trans (hb7.mono (by omega)))
    · have hb1 : ((K : Int) != (chN n P m : Int)) = true := by simp; omega
      have H4 := Lib.hid (show frC n N m P K d = 5 by unfold frC; rw [hB, if_pos rfl, if_neg hK])
      have H3 := Lib.hid (show frN n N m P K d = 0 by unfold frN; rw [H4.out]; rfl)
      clear hB hK
      go_wp2_with fail
      go_ret2
      exact li_err H3.out H4.out.symm rfl B2
theorem frN_le (n : Nat) (N : Nat → Nod) (m : Nat) (P : Nat → Pip) (K : Nat) (d : Nat → Int) (hm : m ≤ 2000000) : frN n N m P K d ≤ 2000000 := by
  unfold frN
  split <;> omega
theorem agreeFromChords (n : Nat) (N : Nat → Nod) (m : Nat) (P : Nat → Pip) (K : Nat) (d : Nat → Int) (hN : ∀ i, i < n → (N i).s.size ≤ 9223372036854775807) (_hn : n ≤ 2000000) (hm : m ≤ 2000000) (hK : K ≤ 2000000) :
    ∃ rn rd rc, rn ≤ 2000000 ∧ (∀ w v va, NetAt w v n N m P 0 w.heap.size → Sl w va K d 0 w.heap.size → Calls Try.prog 26 #[v, va] w (LIPost w rn rd rc)) ∧ (∀ w v va, NetAt w v n N m P 0 w.heap.size → Sl w va K d 0 w.heap.size → Calls Try.prog 25 #[v, va] w (LIPost w rn rd rc)) :=
  ⟨frN n N m P K d, frD n P m d, frC n N m P K d, frN_le n N m P K d hm, fun w v va h hv => fromChordsI_any w v n N m P 0 _ h (Nat.le_refl _) hN va K d 0 _ hv (Nat.le_refl _) (by omega), fun w v va h hv => fromChordsS_any w v n N m P 0 _ h (Nat.le_refl _) hN va K d 0 _ hv (Nat.le_refl _) (by omega)⟩
end Go.Proofs.Ytpgcieefipjjfaa.mem
