/-
  The distances of the specification, and that both sides of DistancesFrom agree. Conditions: as each states.
-/
import Derived.Test.YtjjjdahegcjmaaaRows
import Derived.Test.YtjjjdahegcjmaaaDss
namespace Go.Proofs.Ytjjjdahegcjmaaa.mem
open Go.RowKit
set_option linter.unusedVariables false

/-- a visit behind the first one: where it came from -/
theorem Vok.from {n : Nat} {N : Nat → Nod} {P : Nat → Pip} {m : Nat} {x : Int} {fs : List Vs} (hN : netB n N m P = true) (h : Vok n P m x fs) {k : Nat} {v : Vs} (hk : 0 < k) (hv : fs[k]? = some v) :
    ∃ (a Y Z : Nat), a < m ∧ pipB n (P a) = true ∧ v.nd = (Z : Int) ∧ Z < n ∧ Y < n ∧ Y ≠ Z ∧ vval (·.en) fs (Z : Int) = (a : Int) ∧ (P a).f + (P a).t - (Z : Int) = (Y : Int) ∧ vval (·.ds) (fs.take k) (Y : Int) = v.ds - 1 ∧ 1 ≤ v.ds ∧ v.ds ≤ k := by
  obtain ⟨j, u, a, hj, hu, ha, hen, he, hnd, hds⟩ := h.par k v hk hv
  have hp := net_pip hN ha
  have hoo := oth_oth hp he
  obtain ⟨hz0, hz1⟩ := h.rng v (List.mem_of_getElem? hv)
  obtain ⟨Z, hZ⟩ := Int.eq_ofNat_of_zero_le hz0
  obtain ⟨hy0, hy1⟩ := h.rng u (List.mem_of_getElem? hu)
  obtain ⟨Y, hY⟩ := Int.eq_ofNat_of_zero_le hy0
  have d0 := h.ds0 j u hu
  have d1 := h.dsle k v hv
  have hval : vval (·.en) fs v.nd = (a : Int) := by rw [h.val (·.en) hv]; exact hen
  have hoth : (P a).f + (P a).t - v.nd = u.nd := by
    rw [hnd, sum_other hp hoo.2.1]
    exact hoo.1
  have hne : u.nd ≠ v.nd := by rw [hnd]; exact fun e => hoo.2.2 e.symm
  have hut : (fs.take k)[j]? = some u := by rw [List.getElem?_take_of_lt hj]; exact hu
  have okt : vval (·.ds) (fs.take k) u.nd = u.ds := by
    unfold vval
    have hjl := get_lt hut
    have : (fs.take k).find? (fun w => w.nd == u.nd) = some u := by
      rw [List.find?_eq_some_iff_getElem]
      have hg : (fs.take k)[j] = u := by
        rw [List.getElem?_eq_getElem hjl] at hut
        injection hut
      refine ⟨by simp, j, hjl, hg, fun i hi => ?_⟩
      have hil : i < fs.length := by simp at hjl; omega
      have hjl2 : j < fs.length := by simp at hjl; omega
      have := List.pairwise_iff_getElem.1 h.dis i j hil hjl2 hi
      have hg2 : fs[j] = u := by rw [List.getElem_take] at hg; exact hg
      rw [hg2] at this
      simpa using this
    rw [this]
  refine ⟨a, Y, Z, ha, hp, hZ, by omega, by omega, by omega, by rw [← hZ]; exact hval, by rw [← hZ, ← hY]; exact hoth, by rw [← hY, okt]; omega, by omega, d1⟩

theorem keep5 {W : World} {b g g2 ge k Y Z : Nat} {v0 v1 v2 v3 v4 q : Value} (h : W.cell? ⟨b, 0, none⟩ = some v0 ∧ W.cell? ⟨b, 1, none⟩ = some v1 ∧ W.cell? ⟨g2, k, none⟩ = some v2 ∧ W.cell? ⟨ge, Z, none⟩ = some v3 ∧ W.cell? ⟨g, Y, none⟩ = some v4)
    (h1 : b ≠ g) (h2 : g2 ≠ g) (h3 : ge ≠ g) (h4 : Y ≠ Z) : (W.setCell ⟨g, Z, none⟩ q).cell? ⟨b, 0, none⟩ = some v0 ∧ (W.setCell ⟨g, Z, none⟩ q).cell? ⟨b, 1, none⟩ = some v1 ∧ (W.setCell ⟨g, Z, none⟩ q).cell? ⟨g2, k, none⟩ = some v2 ∧ (W.setCell ⟨g, Z, none⟩ q).cell? ⟨ge, Z, none⟩ = some v3 ∧ (W.setCell ⟨g, Z, none⟩ q).cell? ⟨g, Y, none⟩ = some v4 :=
  ⟨(World.cell?_setCell_other _ _ _ _ (by intro e; injection e; omega)).trans h.1, (World.cell?_setCell_other _ _ _ _ (by intro e; injection e; omega)).trans h.2.1, (World.cell?_setCell_other _ _ _ _ (by intro e; injection e; omega)).trans h.2.2.1, (World.cell?_setCell_other _ _ _ _ (by intro e; injection e; omega)).trans h.2.2.2.1, (World.cell?_setCell_other _ _ _ _ (by intro e; injection e; omega)).trans h.2.2.2.2⟩
set_option maxRecDepth 100000 in
set_option maxHeartbeats 4000000 in
theorem l04Distances_any (w : World) (v : Value) (n : Nat) (N : Nat → Nod) (m : Nat) (P : Nat → Pip) (lo hi : Nat) (h : NetAt w v n N m P lo hi) (hhi : hi ≤ w.heap.size) (hN : ∀ i, i < n → (N i).s.size ≤ 9223372036854775807) (hB : netB n N m P = true) (X0 : Nat) (hX : X0 < n) :
    Calls Try.prog 64 #[v, .int .i64 (X0 : Nat)] w fun e w' => ∃ g, e = .returned (.slice (some ⟨g, 0, none⟩) n n) ∧ w.heap.size ≤ g ∧ Ob w' g n (tabC (vval (·.ds) (vis n P m (X0 : Nat)))) ∧ Below w.heap.size w w' := by
  obtain ⟨p0, c0, p1, c1, rfl, hn9, hm9⟩ := h.parts
  obtain ⟨hn1, hn24, hm40⟩ := net_sz hB
  have ok := vis_ok (P := P) (m := m) (x := ((X0 : Nat) : Int)) hB ⟨Int.natCast_nonneg _, by omega⟩
  have hl := ok.len
  have HV := Lib.hid h
  have HN := Lib.hid hN
  have HB := Lib.hid hB
  have HF := Lib.hid (fun k v (hk : 0 < k) (hv : (vis n P m ((X0 : Nat) : Int))[k]? = some v) => ok.from hB hk hv)
  have HR := Lib.hid (fun k v (hv : (vis n P m ((X0 : Nat) : Int))[k]? = some v) => ok.has_take hv)
  have H0 := Lib.hid ok.fst
  have A0 := boxed w (.slice p0 n c0) (.slice p1 m c1) 30
  have B0 := below_new w (.cells #[.slice p0 n c0, .slice p1 m c1] 30)
  have hs0 : (w.alloc (.cells #[.slice p0 n c0, .slice p1 m c1] 30)).heap.size = w.heap.size + 1 := by simp
  clear h hN hB ok
  generalize hq : vis n P m ((X0 : Nat) : Int) = fs at *
  have HQ0 := Lib.hid hq
  clear hq
  go_enter Try.func64, Try.ntmps64
  go_wp2_with fail
  refine (l04Search_any _ _ n N m P lo hi (HV.out.below B0 hhi) (by omega) HN.out HB.out X0 hX).mono ?_
  rintro e w1 ⟨v2, g2, rfl, oe, oo, hg2, b1⟩
  obtain ⟨ca, rfl⟩ := oo.shape
  rw [HQ0.out] at oe oo
  rw [hs0] at oe hg2
  rw [HQ0.out]
  have A1 := A0.below b1 (by omega)
  have B1 := B0.trans (b1.mono (by omega))
  have hs1 := b1.size
  have e0 := A1.b0
  have e1 : w.heap.size < w1.heap.size := by omega
  have hlt2 := oo.lt
  have hlte := oe.lt
  have m1 := make_int64 w1 n (by omega)
  have O1 := ob_zeros w1 n 2
  have hb2 := below_new w1 (.cells (zeros n) 2)
  have A2 := A1.below hb2 (by omega)
  have B2 := B1.trans (hb2.mono (by omega))
  have oe2 := oe.below hb2 (by omega)
  have oo2 := oo.keep (hb2.block _ hlt2)
  have hs2 : (w1.alloc (.cells (zeros n) 2)).heap.size = w1.heap.size + 1 := by simp
  have HA := Lib.hid A2
  have HBB := Lib.hid B2
  have HE := Lib.hid oe2
  have HO := Lib.hid oo2
  have H1 := Lib.hid O1
  clear A0 A1 A2 B0 B1 B2 oe oe2 oo oo2 O1 hb2 b1
  go_wp2_with fail
  generalize hW : w1.alloc (.cells (zeros n) 2) = w2 at *
  have hgs : w.heap.size + 1 ≤ w1.heap.size := by omega
  have hs2a : w1.heap.size + 1 ≤ w2.heap.size := by omega
  have hge : w.heap.size + 1 + 1 < w1.heap.size := hlte
  generalize hgd : w.heap.size + 1 + 1 = ge at *
  have hgew : w.heap.size < ge := by omega
  have hg2w : w.heap.size < g2 := by omega
  clear hW e0 m1 hs0 hs1 hs2 hgd
  generalize w1.heap.size = g at *
  have hg1 : w.heap.size < g := by omega
  clear hlte hgs
  go_loopw [8] (fun i wr => ∃ k : Nat, i = .int .i64 k ∧ k ≤ n ∧ Ob wr g n (fillC k) ∧ Ob wr w.heap.size 2 (bx (.slice p0 n c0) (.slice p1 m c1)) ∧ Ob wr ge n (tabC (vval (·.en) fs)) ∧ Own wr (.slice (some ⟨g2, 0, none⟩) fs.length ca) fs.length (ordD fs) g2 ∧ Below w.heap.size w wr) (fun i _ => n - (intOf i).toNat)
  case atStart => exact ⟨0, rfl, Nat.zero_le _, H1.out.congr (fun k hk => by unfold fillC; rw [if_neg (by omega)]), HA.out, HE.out, HO.out, HBB.out⟩
  case round =>
    obtain ⟨k, rfl, hk, h1, ha, he, ho, hb⟩ := hrel
    clear H1 HA HE HO HBB
    have H1 := Lib.hid h1
    have HA := Lib.hid ha
    have HE := Lib.hid he
    have HO := Lib.hid ho
    have HBB := Lib.hid hb
    clear h1 ha he ho hb
    have i0 : (0 : Int) ≤ (k : Int) := Int.natCast_nonneg _
    by_cases hlt : k < n
    · have j0 : (k : Int) < (n : Int) := by omega
      have y0 : wr.cell? ⟨g, k, none⟩ = some (fillC k k) := H1.out.cell k hlt
      have y1 : wr.frozen? ⟨g, k, none⟩ = false := H1.out.free k
      have o1 := (Only.refl g wr).setCell k (.int .i64 (-1))
      generalize hQ : Exit.then _ _ = Q
      have HQ := Lib.hid hQ
      clear hQ
      go_wp2
      rw [← HQ.out]
      refine ⟨⟨_, _, _, _, _, _, _, _, _, _, ?rel, rfl⟩, ?measure⟩
      case rel => exact ⟨k + 1, by go_num, hlt, fill_set H1.out hlt, HA.out.only o1 (by omega), HE.out.only o1 (by omega), HO.out.keep (o1.block _ (by omega)), HBB.out.trans (o1.below (by omega))⟩
      case measure => simp [intOf]; omega
    · have hkn : n = k := by omega
      subst hkn
      have j0 : ¬ ((n : Int) < (n : Int)) := by omega
      have x0 : (0 : Int) ≤ (X0 : Int) := Int.natCast_nonneg _
      have x1 : (X0 : Int) < (n : Int) := by omega
      have y0 : wr.cell? ⟨g, X0, none⟩ = some (fillC n X0) := H1.out.cell X0 hX
      have y1 : wr.frozen? ⟨g, X0, none⟩ = false := H1.out.free X0
      have o1 := (Only.refl g wr).setCell X0 (.int .i64 0)
      have t0 : Ob wr g n (tabC (vval (·.ds) [])) := H1.out.congr (fun j hj => by unfold fillC tabC vval; rw [if_pos hj]; rfl)
      have t1 := tab_more t0 (u := ⟨((X0 : Nat) : Int), -1, 0⟩) (by rfl) rfl hX
      have HT := Lib.hid t1
      have HA2 := Lib.hid (HA.out.only o1 (by omega))
      have HE2 := Lib.hid (HE.out.only o1 (by omega))
      have HO2 := Lib.hid (HO.out.keep (o1.block _ (by omega)))
      have HB2 := Lib.hid (HBB.out.trans (o1.below (by omega)))
      clear t0 t1 o1 HA HE HO HBB H1
      go_wp2
      generalize hW : wr.setCell _ _ = w3 at *
      clear hW y0 y1
      go_loopw [9] (fun i wr => ∃ k : Nat, i = .int .i64 k ∧ 1 ≤ k ∧ Ob wr g n (tabC (vval (·.ds) (fs.take k))) ∧ Ob wr w.heap.size 2 (bx (.slice p0 n c0) (.slice p1 m c1)) ∧ Ob wr ge n (tabC (vval (·.en) fs)) ∧ Own wr (.slice (some ⟨g2, 0, none⟩) fs.length ca) fs.length (ordD fs) g2 ∧ Below w.heap.size w wr) (fun i _ => n - (intOf i).toNat)
      case atStart => exact ⟨1, rfl, Nat.le_refl _, by rw [take_one H0.out]; exact HT.out, HA2.out, HE2.out, HO2.out, HB2.out⟩
      case round =>
        clear HT HA2 HE2 HO2 HB2
        obtain ⟨k, rfl, hk1, ht, ha, he, ho, hb⟩ := hrel
        have HT := Lib.hid ht
        have HA := Lib.hid ha
        have HE := Lib.hid he
        have HO := Lib.hid ho
        have HBB := Lib.hid hb
        clear ht ha he ho hb
        have i0 : (0 : Int) ≤ (k : Int) := Int.natCast_nonneg _
        by_cases hlt : k < fs.length
        · obtain ⟨v, hv⟩ : ∃ v, fs[k]? = some v := ⟨_, List.getElem?_eq_getElem hlt⟩
          obtain ⟨a, Y, Z, ham, hpa, hZ, hZn, hYn, hYZ, hen, hoth, hyd, hd1, hdk⟩ := HF.out k v (by omega) hv
          have hrd := HR.out k v hv
          have HVK := Lib.hid hv
          have e0 : wr.cell? ⟨w.heap.size, 0, none⟩ = some (.slice p0 n c0) := HA.out.b0
          have e1 : wr.cell? ⟨w.heap.size, 1, none⟩ = some (.slice p1 m c1) := HA.out.b1
          have y0 : wr.cell? ⟨g2, k, none⟩ = some (.int .i64 (Z : Int)) := by
            have := HO.out.row.cell k hlt
            rwa [ordD_some hv, hZ] at this
          have y1 : wr.cell? ⟨ge, Z, none⟩ = some (.int .i64 (a : Int)) := by
            have := HE.out.cell Z hZn
            unfold tabC at this
            rwa [hen] at this
          have y2 : wr.cell? ⟨g, Y, none⟩ = some (.int .i64 (v.ds - 1)) := by
            have := HT.out.cell Y hYn
            unfold tabC at this
            rwa [hyd] at this
          have y3 : ∃ q, wr.cell? ⟨g, Z, none⟩ = some q := ⟨_, HT.out.cell Z hZn⟩
          have y4 : wr.frozen? ⟨g, Z, none⟩ = false := HT.out.free Z
          obtain ⟨qz, y3⟩ := y3
          have HZ := Lib.hid hZ
          have HOT := Lib.hid hoth
          have HRD := Lib.hid hrd
          have HT1 := Lib.hid (take_one hv)
          have j1 : (k : Int) < (fs.length : Int) := by omega
          have z0 : (0 : Int) ≤ (Z : Int) := Int.natCast_nonneg _
          have z1 : (Z : Int) < (n : Int) := by omega
          have z2 : (0 : Int) ≤ (Y : Int) := Int.natCast_nonneg _
          have z3 : (Y : Int) < (n : Int) := by omega
          have lgr := HT.out.lt
          have lg2 := HO.out.lt
          have lge := HE.out.lt
          have law := HA.out.lt
          have hyz : ¬ ((Y : Int) = (Z : Int)) := by omega
          have q5 : v.ds ≤ 24 := by omega
          have hinr : inR (Z : Int) 0 (n - 1) = true := inR_iff.2 ⟨by omega, by omega⟩
          have hwr : IntKind.i64.wrap v.ds = v.ds := IntWalk.i64_in _ (by omega)
          clear hv hZ hen hoth hyd hrd
          generalize hQ : Exit.then _ _ = Q
          have HQ := Lib.hid hQ
          clear hQ
          go_wp2
          go_region_held3 (fun w' => w'.cell? ⟨w.heap.size, 0, none⟩ = some (.slice p0 n c0) ∧ w'.cell? ⟨w.heap.size, 1, none⟩ = some (.slice p1 m c1) ∧ w'.cell? ⟨g2, k, none⟩ = some (.int .i64 (Z : Int)) ∧ w'.cell? ⟨ge, Z, none⟩ = some (.int .i64 (a : Int)) ∧ w'.cell? ⟨g, Y, none⟩ = some (.int .i64 (v.ds - 1)))
            (first | exact ⟨e0, e1, y0, y1, y2⟩ | exact SW | exact keep5 SW (by omega) (by omega) (by omega) hYZ)
            (first | (go_at_call 98; refine (l02Other_any _ _ n N m P lo hi (HV.out.below HBB.out hhi).drew (by simp; omega) HN.out (by omega) a ham (Z : Int) hpa (by omega) hinr).mono ?_; rintro e w4 ⟨rfl, hb1⟩; rw [HOT.out]; have hb2 := below_dr0 hb1; have hs4 := hb2.size; have SW : w4.cell? ⟨w.heap.size, 0, none⟩ = some (.slice p0 n c0) ∧ w4.cell? ⟨w.heap.size, 1, none⟩ = some (.slice p1 m c1) ∧ w4.cell? ⟨g2, k, none⟩ = some (.int .i64 (Z : Int)) ∧ w4.cell? ⟨ge, Z, none⟩ = some (.int .i64 (a : Int)) ∧ w4.cell? ⟨g, Y, none⟩ = some (.int .i64 (v.ds - 1)) := ⟨(hb2.cell (p := ⟨w.heap.size, 0, none⟩) law).trans e0, (hb2.cell (p := ⟨w.heap.size, 1, none⟩) law).trans e1, (hb2.cell (p := ⟨g2, k, none⟩) lg2).trans y0, (hb2.cell (p := ⟨ge, Z, none⟩) lge).trans y1, (hb2.cell (p := ⟨g, Y, none⟩) lgr).trans y2⟩; have y5 : w4.frozen? ⟨g, Z, none⟩ = false := (hb2.frozen (p := ⟨g, Z, none⟩) lgr).trans y4; have y6 : w4.cell? ⟨g, Z, none⟩ = some qz := (hb2.cell (p := ⟨g, Z, none⟩) lgr).trans y3))
          obtain ⟨w5, hw5⟩ : ∃ w', w' = w4 := ⟨_, rfl⟩
          subst hw5
          have HT5 := Lib.hid (tab_step (HT.out.below hb2 lgr) HRD.out HZ.out hZn)
          have o1 := (Only.refl g w5).setCell Z (.int .i64 v.ds)
          have HA5 := Lib.hid ((HA.out.below hb2 law).only o1 (by omega))
          have HE5 := Lib.hid ((HE.out.below hb2 lge).only o1 (by omega))
          have HO5 := Lib.hid ((HO.out.keep (hb2.block _ lg2)).keep (o1.block _ (by omega)))
          have HB5 := Lib.hid ((HBB.out.trans (hb2.mono (by omega))).trans (o1.below (by omega)))
          clear SW hb1 hb2 y5 y6 HT HA HE HO HBB e0 e1 y0 y1 y2 y3 y4
          go_wp2
          rw [← HQ.out]
          refine ⟨⟨_, _, _, _, _, _, _, _, _, _, _, _, _, _, _, _, _, _, _, _, _, _, _, _, _, _, _, _, _, _, ?rel, rfl⟩, ?measure⟩
          case rel => exact ⟨k + 1, by go_num, by omega, by rw [HT1.out]; exact HT5.out, HA5.out, HE5.out, HO5.out, HB5.out⟩
          case measure => simp [intOf]; omega
        · have j1 : ¬ ((k : Int) < (fs.length : Int)) := by omega
          have htk : fs.take k = fs := List.take_of_length_le (by omega)
          have HTK := Lib.hid htk
          clear htk
          generalize hQ : Exit.then _ _ = Q
          have HQ := Lib.hid hQ
          clear hQ
          go_wp2
          rw [← HQ.out]
          go_wp2
          go_ret
          have ht := HT.out
          rw [HTK.out] at ht
          exact ⟨g, rfl, by omega, ht, HBB.out⟩
set_option maxRecDepth 100000 in
set_option maxHeartbeats 4000000 in
theorem distancesFromS_any (w : World) (v : Value) (n : Nat) (N : Nat → Nod) (m : Nat) (P : Nat → Pip) (lo hi : Nat) (h : NetAt w v n N m P lo hi) (hhi : hi ≤ w.heap.size) (hN : ∀ i, i < n → (N i).s.size ≤ 9223372036854775807) (x : Int) :
    Calls Try.prog 22 #[v, .int .i64 x] w (LIPost w (ndN n N m P x) (fun k => vval (·.ds) (vis n P m x) ((k : Nat) : Int)) (ndC n N m P x)) := by
  obtain ⟨p0, c0, p1, c1, rfl, hn9, hm9⟩ := h.parts
  have HV := Lib.hid h
  have HN := Lib.hid hN
  have A0 := boxed w (.slice p0 n c0) (.slice p1 m c1) 30
  have B0 := below_new w (.cells #[.slice p0 n c0, .slice p1 m c1] 30)
  have hs0 : (w.alloc (.cells #[.slice p0 n c0, .slice p1 m c1] 30)).heap.size = w.heap.size + 1 := by simp
  have HCD := Lib.hid (show codeB (netB n N m P) (inR x 0 (n - 1)) = ndC n N m P x from rfl)
  have HND := Lib.hid (show ndN n N m P x = if ndC n N m P x = 0 then n else 0 from rfl)
  clear h hN
  go_enter Try.func22, Try.ntmps22
  go_wp2_with fail
  refine (l02NodeCode_any _ _ n N m P lo hi (HV.out.below B0 hhi) (by omega) HN.out x).mono ?_
  rintro e w5 ⟨rfl, b5⟩
  rw [HCD.out]
  have A5 := A0.below b5 (by omega)
  have B5 := B0.trans (b5.mono (by omega))
  have hs5 := b5.size
  have e0 := A5.b0
  have e1 := A5.b1
  have e2 : w.heap.size < w5.heap.size := by omega
  clear A0 B0 b5
  by_cases hc : ndC n N m P x = 0
  rotate_left 1
  · have hcb : (ndC n N m P x != 0) = true := by simp [hc]
    have H := Lib.hid (show ndN n N m P x = 0 by rw [HND.out, if_neg hc])
    clear hc
    go_wp2_with fail
    go_ret2
    exact li_err H.out rfl rfl B5
  have hcb : (ndC n N m P x != 0) = false := by simp [hc]
  have HND2 := Lib.hid (show ndN n N m P x = n by rw [HND.out, if_pos hc])
  have HC := Lib.hid hc
  obtain ⟨hB, X0, rfl, hX⟩ := ndC_zero hc
  clear hc
  have hn24 := (net_sz hB).2.1
  have HB := Lib.hid hB
  clear hB
  go_wp2_with fail
  refine (l04Distances_any _ _ n N m P lo hi (HV.out.below B5 hhi) (by omega) HN.out HB.out X0 hX).mono ?_
  rintro e w6 ⟨g, rfl, hg1, oe, b6⟩
  have B6 := B5.trans (b6.mono (by omega))
  have hg : w.heap.size ≤ g := by omega
  clear b6
  go_wp2_with fail
  go_ret2
  exact li_tab HND2.out.symm HC.out.symm rfl oe hn24 hg B6
theorem agreeDistancesFrom (n : Nat) (N : Nat → Nod) (m : Nat) (P : Nat → Pip) (x : Int) (hN : ∀ i, i < n → (N i).s.size ≤ 9223372036854775807) (_hn : n ≤ 2000000) (hm : m ≤ 2000000) :
    ∃ rn rd rc, rn ≤ 2000000 ∧ (∀ w v, NetAt w v n N m P 0 w.heap.size → Calls Try.prog 23 #[v, .int .i64 x] w (LIPost w rn rd rc)) ∧ (∀ w v, NetAt w v n N m P 0 w.heap.size → Calls Try.prog 22 #[v, .int .i64 x] w (LIPost w rn rd rc)) :=
  ⟨ndN n N m P x, fun k => vval (·.ds) (vis n P m x) ((k : Nat) : Int), ndC n N m P x, ndN_le n N m P x _hn, fun w v h => distancesFromI_any w v n N m P 0 _ h (Nat.le_refl _) hN x, fun w v h => distancesFromS_any w v n N m P 0 _ h (Nat.le_refl _) hN x⟩
end Go.Proofs.Ytjjjdahegcjmaaa.mem
