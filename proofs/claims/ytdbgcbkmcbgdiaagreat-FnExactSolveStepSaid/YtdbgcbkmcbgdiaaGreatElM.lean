/-
  Several texts in one: Ela, Elb.
-/
import Derived.Test.YtdbgcbkmcbgdiaaGreatRows
import Derived.Test.YtdbgcbkmcbgdiaaGreatEsM
import Derived.Test.YtdbgcbkmcbgdiaaGreatLop
import Derived.Deep.RegionHeld3
import Derived.Deep.CutRange
namespace Go.Proofs.YtdbgcbkmcbgdiaaGreat.mem
open Go.RowKit
set_option linter.unusedVariables false

theorem apm_nil (W : World) (g n cap c : Nat) (hcap : n ≤ cap) : Sem.run Tryz.prog (Builtin.append_ #[28, 28] 28 #[.slice (some ⟨g, 0, none⟩) n cap, .slice none 0 c]) W = .ok (.slice (some ⟨g, 0, none⟩) n cap) W := by
  obtain ⟨i0, hi, hz0, hz1, hz2⟩ := info_parts info_make_int64
  simp [Builtin.append_, run_underlying Tryz.underlying28, sizeOf, typeInfo, hi, Builtin.lenOf, hcap, Builtin.firstCells, storeCells]
theorem apm_far (W : World) (g n cap c : Nat) (a : Addr) (hcap : n ≤ cap) : Sem.run Tryz.prog (Builtin.append_ #[28, 28] 28 #[.slice (some ⟨g, 0, none⟩) n cap, .slice (some a) 0 c]) W = .ok (.slice (some ⟨g, 0, none⟩) n cap) W := by
  obtain ⟨i0, hi, hz0, hz1, hz2⟩ := info_parts info_make_int64
  simp [Builtin.append_, run_underlying Tryz.underlying28, sizeOf, typeInfo, hi, Builtin.lenOf, hcap, Builtin.firstCells, storeCells, loadCells, loadCellsFrom]
/-- a list behind a list of one's own -/
theorem app_all (W : World) (v va : Value) (d : Nat → Int) (g m : Nat) (e : Nat → Int) (la ha : Nat) (h : Own W v 0 d g) (hv : Sl W va m e la ha) (hm : m ≤ 1000000) :
    ∃ v' w' g', Sem.run Tryz.prog (Builtin.append_ #[28, 28] 28 #[v, va]) W = .ok v' w' ∧ Own w' v' m e g' ∧ ∀ B, B ≤ g → g ≤ W.heap.size → Below B W w' ∧ B ≤ g' := by
  obtain ⟨cap0, rfl⟩ := h.shape
  obtain ⟨p, c, rfl, hc⟩ := hv
  rcases hc with h0 | ⟨b, o, rfl, g1, g2, g3⟩
  · subst h0
    have hown : Own W (.slice (some ⟨g, 0, none⟩) 0 cap0) 0 e g := h.congr (fun k hk => by omega)
    cases p with
    | none => exact ⟨_, W, g, apm_nil W g 0 cap0 c (Nat.zero_le _), hown, fun B hB _ => ⟨Below.refl _ _, hB⟩⟩
    | some a =>
      obtain ⟨b, o, x⟩ := a
      cases x with
      | none =>
        obtain ⟨v', w', g', hr, ap⟩ := apm_run W _ 0 d g b o 0 c e h (fun k hk => by omega) (by omega)
        exact ⟨v', w', g', hr, (ap.own.congr (e := e) (fun k hk => by omega)), fun B hB hg => ap.below hB hg⟩
      | some x => exact ⟨_, W, g, apm_far W g 0 cap0 c _ (Nat.zero_le _), hown, fun B hB _ => ⟨Below.refl _ _, hB⟩⟩
  · obtain ⟨v', w', g', hr, ap⟩ := apm_run W _ 0 d g b o m c e h g3 (by omega)
    refine ⟨v', w', g', hr, ?_, fun B hB hg => ap.below hB hg⟩
    have h1 := ap.own
    rw [Nat.zero_add] at h1
    exact h1.congr (fun k hk => by unfold catD; rw [if_neg (by omega), Nat.sub_zero])
set_option maxRecDepth 100000 in
set_option maxHeartbeats 8000000 in
theorem l11Pass_any (w : World) (v : Value) (n : Nat) (N : Nat → Nod) (m : Nat) (P : Nat → Pip) (lo hi : Nat) (h : NetAt w v n N m P lo hi) (hhi : hi ≤ w.heap.size) (hB : netB n N m P = true) (vb : Value) (B : Nat) (hbas : Bas w vb (chN n P m) m (fun i => cyc P (fE n P m) (fD n P m) (chS n P m i)) B) (vx : Value) (x0 : Nat → Int) (gx0 : Nat) (hox : Own w vx m x0 gx0) (hx : ∀ k, k < m → -30000 ≤ x0 k ∧ x0 k ≤ 30000) (step left : Int) (hst : -100000 ≤ step ∧ step ≤ 100000) (hle : 0 ≤ left ∧ left ≤ 5000) :
    Calls Tryz.prog 104 #[v, vb, vx, .int .i64 step, .int .i64 left] w fun e w' => ∃ v2 g2, e = .returned (.tuple #[v2, .int .i64 (psS m P (fun i => cyc P (fE n P m) (fD n P m) (chS n P m i)) x0 step left (chN n P m)).2]) ∧ Own w' v2 m (psS m P (fun i => cyc P (fE n P m) (fD n P m) (chS n P m i)) x0 step left (chN n P m)).1 g2 ∧ (g2 = gx0 ∨ w.heap.size ≤ g2) ∧ Below w.heap.size w w' := by
  obtain ⟨p0, c0, p1, c1, rfl, hn9, hm9⟩ := h.parts
  obtain ⟨hn1, hn24, hm40⟩ := net_sz hB
  have hcn := chN_le n P m
  obtain ⟨pb, cb, rfl⟩ := hbas.shape
  obtain ⟨cx0, rfl⟩ := hox.shape
  have HV := Lib.hid h
  have HBN := Lib.hid hB
  have HBA := Lib.hid hbas
  have HX0 := Lib.hid hx
  have A0 := boxed w (.slice p0 n c0) (.slice p1 m c1) 27
  have B0 := below_new w (.cells #[.slice p0 n c0, .slice p1 m c1] 27)
  have hs0 : (w.alloc (.cells #[.slice p0 n c0, .slice p1 m c1] 27)).heap.size = w.heap.size + 1 := by simp
  have HO0 := Lib.hid (hox.below B0 (Nat.le_refl _))
  have HB2 := Lib.hid (hbas.next B0)
  have hwn : IntKind.i64.wrap (-step) = -step := IntWalk.i64_in _ (by omega)
  have nN : (Tryz.prog.info? 27).map (·.size) = some 2 := by kernel_rfl
  have UN := Tryz.underlying27
  clear h hB hbas hox hx
  go_enter Tryz.func104, Tryz.ntmps104
  go_wp2_with fail
  obtain ⟨w1, hw1⟩ : ∃ w1, w.alloc (.cells #[.slice p0 n c0, .slice p1 m c1] 27) = w1 := ⟨_, rfl⟩
  rw [hw1] at A0 B0 hs0 HO0 HB2 ⊢
  clear hw1
  replace hs0 := Nat.le_antisymm_iff.1 hs0
  have HA := Lib.hid A0
  have HBB := Lib.hid B0
  clear A0 B0
  generalize hY : (fun i => cyc P (fE n P m) (fD n P m) (chS n P m i)) = Y at *
  have HYE := Lib.hid hY
  clear hY
  go_loopw [2, 12, 13] (fun xv mv iv wr => ∃ (k gx cx : Nat) (x : Nat → Int) (mo : Int), xv = .slice (some ⟨gx, 0, none⟩) m cx ∧ (x, mo) = psS m P Y x0 step left k ∧ Own wr (.slice (some ⟨gx, 0, none⟩) m cx) m x gx ∧ (gx = gx0 ∨ w.heap.size + 1 ≤ gx) ∧ mv = .int .i64 mo ∧ iv = .int .i64 k ∧ k ≤ chN n P m ∧ w1.heap.size ≤ wr.heap.size ∧ Below w1.heap.size w1 wr) (fun _ _ iv _ => chN n P m - (intOf iv).toNat)
  case atStart => exact ⟨0, gx0, cx0, x0, 0, rfl, rfl, HO0.out, .inl rfl, rfl, rfl, Nat.zero_le _, Nat.le_refl _, Below.refl _ _⟩
  case round =>
    obtain ⟨k, gx, cx, x, mo, rfl, hps, hox, hgx, rfl, rfl, hk, hsz, hb⟩ := hrel
    have HPS := Lib.hid hps
    have hmo : 0 ≤ mo ∧ mo ≤ left ∧ mo ≤ k := by
      have := psS_cnt (m := m) (P := P) (Y := Y) (x := x0) (step := step) hle.1 k
      rw [← hps] at this
      exact this
    have HXR := Lib.hid (show ∀ k, k < m → -30000 ≤ x k ∧ x k ≤ 30000 from fun a ha => by
      have := psS_rng (P := P) (Y := Y) (step := step) (left := left) HX0.out k a ha
      rw [← hps] at this
      exact this)
    have HOX := Lib.hid hox
    have HL := Lib.hid hb
    have lgx := hox.lt
    clear hps hox hb HO0
    have k0 : (0 : Int) ≤ (k : Int) := Int.natCast_nonneg _
    have BW := Lib.hid (HBB.out.trans (HL.out.mono (by omega)))
    by_cases hlt : k < chN n P m
    · have k1 : (k : Int) < (chN n P m : Int) := by omega
      by_cases hml : mo < left
      · have hdm : decide (mo < left) = true := decide_eq_true hml
        obtain ⟨q, cap, G, C, ee, hql, hrow⟩ : ∃ (q cap : Nat) (G C : Nat → Nat), Value.slice pb (chN n P m) cb = .slice (some ⟨q, 0, none⟩) (chN n P m) cap ∧ q < w1.heap.size ∧ ∀ k, k < chN n P m → w1.cell? ⟨q, k, none⟩ = some (.slice (some ⟨G k, 0, none⟩) m (C k)) ∧ Own w1 (.slice (some ⟨G k, 0, none⟩) m (C k)) m (Y k) (G k) := by
          rcases HB2.out.at_ with e | e
          · omega
          · exact e
        obtain ⟨rfl, rfl⟩ : pb = some ⟨q, 0, none⟩ ∧ cb = cap := by
          injection ee with h1 _ h3
          exact ⟨h1, h3⟩
        clear ee
        obtain ⟨yr, yo⟩ := hrow k hlt
        clear hrow
        obtain ⟨hcm, hcp⟩ := chS_at (n := n) (P := P) (m := m) hlt
        have HCR := Lib.hid (show ∀ a, a < m → -1 ≤ Y k a ∧ Y k a ≤ 1 from fun a _ => by rw [← HYE.out]; exact cyc_one HBN.out hcm hcp a)
        have HY := Lib.hid (yo.below HL.out (Nat.le_refl _))
        have y2 : wr.cell? ⟨q, k, none⟩ = some (.slice (some ⟨G k, 0, none⟩) m (C k)) := (HL.out.cell (p := ⟨q, k, none⟩) hql).trans yr
        have g0 := range2 (HA.out.below HL.out (by omega)).b0 (HA.out.below HL.out (by omega)).b1
        clear yr yo
        have hir : hi ≤ wr.heap.size := by omega
        have hwr : w.heap.size ≤ wr.heap.size := by omega
        have lwr : w.heap.size < wr.heap.size := by omega
        have lqr : q < wr.heap.size := by omega
        have HNX := Lib.hid (show psS m P Y x0 step left (k + 1) = psT m P (Y k) step left (x, mo) by rw [HPS.out]; rfl)
        have KS : ∀ W : World, Below wr.heap.size wr W → (Below wr.heap.size wr W ∧ W.rangeAt w.heap.size 0 [.slice p0 n c0, .slice p1 m c1] ∧ W.cell? ⟨q, k, none⟩ = some (.slice (some ⟨G k, 0, none⟩) m (C k))) := fun W hW => ⟨hW, range_blockN g0 (hW.block _ lwr), (hW.cell (p := ⟨q, k, none⟩) lqr).trans y2⟩
        have HTY := Lib.hid (show ∀ s, -100000 ≤ s ∧ s ≤ 100000 → ∀ a, a < m → (-4611686018427387904 ≤ x a + s * Y k a ∧ x a + s * Y k a ≤ 4611686018427387904) ∧ (-4611686018427387904 ≤ s * Y k a ∧ s * Y k a ≤ 4611686018427387904) from fun s hs a ha => by
          have h1 := mulc hs (HCR.out a ha)
          have h2 := HXR.out a ha
          omega)
        have hw1' : IntKind.i64.wrap (mo + 1) = mo + 1 := IntWalk.i64_in _ (by omega)
        go_upto_region 5 with (fail)
        cases ht1 : loB m P x (Y k) step
        · refine wp_region_noPanic ?_
          refine wp_region_held_drew (S := fun w' : World => Below wr.heap.size wr w' ∧ w'.rangeAt w.heap.size 0 [.slice p0 n c0, .slice p1 m c1] ∧ w'.cell? ⟨q, k, none⟩ = some (.slice (some ⟨G k, 0, none⟩) m (C k))) (by kernel_rfl) (KS _ (below_drw (Below.refl _ _))) (fun sH => ?_)
          refine wpAnyH_take (i := 0) (v := .agg #[.slice p0 n c0, .slice p1 m c1]) nthe0 (by kernel_rfl) (by kernel_rfl) (by kernel_rfl) (fun _ _ _ h => h) (yieldsIf_load_mid (by rfl) _ _ rfl w.heap.size 0 rfl [.slice p0 n c0, .slice p1 m c1] _ (fun _ h => h.2.1) UN rfl (by exact nN)) sH ?_
          try simp only [Act.put, List.setIfInBounds_toArray, List.set_cons_zero, List.set_cons_succ]
          refine wpAnyH_take (i := 1) (v := ?_) nthe1 (by kernel_rfl) (by kernel_rfl) (by kernel_rfl) (fun _ _ _ h => h) (Or.inl ⟨by rfl, ?_⟩) sH ?_
          rotate_left
          · intro wS hSw; (try dsimp only at hSw); go_simp; try with_reducible rfl
          try simp only [Act.put, List.setIfInBounds_toArray, List.set_cons_zero, List.set_cons_succ]
          refine wpAnyH_take (i := 2) (v := ?_) nthe2 (by kernel_rfl) (by kernel_rfl) (by kernel_rfl) (fun _ _ _ h => h) (Or.inl ⟨by rfl, ?_⟩) sH ?_
          rotate_left
          · intro wS hSw; (try dsimp only at hSw); go_simp; try with_reducible rfl
          try simp only [Act.put, List.setIfInBounds_toArray, List.set_cons_zero, List.set_cons_succ]
          refine wpAnyH_take (i := 3) (v := ?_) nthe3 (by kernel_rfl) (by kernel_rfl) (by kernel_rfl) (fun _ _ _ h => h) (Or.inl ⟨by rfl, ?_⟩) sH ?_
          rotate_left
          · intro wS hSw; (try dsimp only at hSw); go_simp; try with_reducible rfl
          try simp only [Act.put, List.setIfInBounds_toArray, List.set_cons_zero, List.set_cons_succ]
          refine wpAnyH_take (i := 4) (v := ?_) nthe4 (by kernel_rfl) (by kernel_rfl) (by kernel_rfl) (fun _ _ _ h => h) (Or.inl ⟨by rfl, ?_⟩) sH ?_
          rotate_left
          · intro wS hSw; (try dsimp only at hSw); go_simp; try with_reducible rfl
          try simp only [Act.put, List.setIfInBounds_toArray, List.set_cons_zero, List.set_cons_succ]
          refine wpAnyH_take (i := 5) (v := ?_) nthe5 (by kernel_rfl) (by kernel_rfl) (by kernel_rfl) (fun _ _ _ h => h) (Or.inl ⟨by rfl, ?_⟩) sH ?_
          rotate_left
          · intro wS hSw; (try dsimp only at hSw); go_simp; try with_reducible rfl
          try simp only [Act.put, List.setIfInBounds_toArray, List.set_cons_zero, List.set_cons_succ]
          refine wpAnyH_take (i := 6) (v := ?_) nthe6 (by kernel_rfl) (by kernel_rfl) (by kernel_rfl) (fun _ _ _ h => h) (Or.inl ⟨by rfl, ?_⟩) sH ?_
          rotate_left
          · intro wS hSw; (try dsimp only at hSw); go_simp; try with_reducible rfl
          try simp only [Act.put, List.setIfInBounds_toArray, List.set_cons_zero, List.set_cons_succ]
          refine wpAnyH_ready (rs := [7]) (by kernel_rfl) (by simp) (AllReadyH.cons nthe7 (fun KON hKON => ?_) AllReadyH.nil)
          clear sH
          go_simp
          refine (l10Lower_any _ _ n N m P lo hi (HV.out.below (BW.out.trans ((below_drw (Below.refl wr.heap.size wr)).mono hwr)) hhi) hir HBN.out _ x gx (gx + 1) (HOX.out.below (below_drw (Below.refl wr.heap.size wr)) (Nat.le_refl _)).sl (show gx + 1 ≤ wr.heap.size from HOX.out.lt) HXR.out _ _ (G k) (G k + 1) (HY.out.below (below_drw (Below.refl wr.heap.size wr)) (Nat.le_refl _)).sl (show G k + 1 ≤ wr.heap.size from HY.out.lt) HCR.out (step) (by omega)).mono ?_
          rintro e wX ⟨rfl, hbX⟩
          rw [ht1]
          have KX : Below wr.heap.size wr wX := below_dr0 hbX
          refine hKON.out _ _ (KS _ KX) (fun sH => ?_)
          clear hKON KON
          try simp only [Act.put, List.setIfInBounds_toArray, List.set_cons_zero, List.set_cons_succ]
          refine wpAnyH_take (i := 8) (v := ?_) nthe8 (by kernel_rfl) (by kernel_rfl) (by kernel_rfl) (fun _ _ _ h => h) (Or.inl ⟨by rfl, ?_⟩) sH ?_
          rotate_left
          · intro wS hSw; (try dsimp only at hSw); go_simp; try with_reducible rfl
          try simp only [Act.put, List.setIfInBounds_toArray, List.set_cons_zero, List.set_cons_succ]
          refine wpAnyH_done (by kernel_rfl) ?_ _
          refine NoPanic.normal ?_
          have HT1 := Lib.hid ht1
          obtain ⟨wV, hwV⟩ : ∃ w', w' = wX := ⟨_, rfl⟩
          subst hwV
          have KV := KX
          clear KX hbX ht1
          have KS2 : ∀ W : World, Below wV.heap.size wV W → (Below wV.heap.size wV W ∧ W.rangeAt w.heap.size 0 [.slice p0 n c0, .slice p1 m c1] ∧ W.cell? ⟨q, k, none⟩ = some (.slice (some ⟨G k, 0, none⟩) m (C k))) := fun W hW => ⟨hW, (KS _ (KV.trans (hW.mono KV.size))).2⟩
          go_upto_region 8 with (fail)
          cases ht2 : loB m P x (Y k) (-step)
          · refine wp_region_noPanic ?_
            refine wp_region_held_drew (S := fun w' : World => Below wV.heap.size wV w' ∧ w'.rangeAt w.heap.size 0 [.slice p0 n c0, .slice p1 m c1] ∧ w'.cell? ⟨q, k, none⟩ = some (.slice (some ⟨G k, 0, none⟩) m (C k))) (by kernel_rfl) (KS2 _ (below_drw (Below.refl _ _))) (fun sH => ?_)
            refine wpAnyH_take (i := 0) (v := .agg #[.slice p0 n c0, .slice p1 m c1]) nthe0 (by kernel_rfl) (by kernel_rfl) (by kernel_rfl) (fun _ _ _ h => h) (yieldsIf_load_mid (by rfl) _ _ rfl w.heap.size 0 rfl [.slice p0 n c0, .slice p1 m c1] _ (fun _ h => h.2.1) UN rfl (by exact nN)) sH ?_
            try simp only [Act.put, List.setIfInBounds_toArray, List.set_cons_zero, List.set_cons_succ]
            refine wpAnyH_take (i := 1) (v := ?_) nthe1 (by kernel_rfl) (by kernel_rfl) (by kernel_rfl) (fun _ _ _ h => h) (Or.inl ⟨by rfl, ?_⟩) sH ?_
            rotate_left
            · intro wS hSw; (try dsimp only at hSw); go_simp; try with_reducible rfl
            try simp only [Act.put, List.setIfInBounds_toArray, List.set_cons_zero, List.set_cons_succ]
            refine wpAnyH_take (i := 2) (v := ?_) nthe2 (by kernel_rfl) (by kernel_rfl) (by kernel_rfl) (fun _ _ _ h => h) (Or.inl ⟨by rfl, ?_⟩) sH ?_
            rotate_left
            · intro wS hSw; (try dsimp only at hSw); go_simp; try with_reducible rfl
            try simp only [Act.put, List.setIfInBounds_toArray, List.set_cons_zero, List.set_cons_succ]
            refine wpAnyH_take (i := 3) (v := ?_) nthe3 (by kernel_rfl) (by kernel_rfl) (by kernel_rfl) (fun _ _ _ h => h) (Or.inl ⟨by rfl, ?_⟩) sH ?_
            rotate_left
            · intro wS hSw; (try dsimp only at hSw); go_simp; try with_reducible rfl
            try simp only [Act.put, List.setIfInBounds_toArray, List.set_cons_zero, List.set_cons_succ]
            refine wpAnyH_take (i := 4) (v := ?_) nthe4 (by kernel_rfl) (by kernel_rfl) (by kernel_rfl) (fun _ _ _ h => h) (Or.inl ⟨by rfl, ?_⟩) sH ?_
            rotate_left
            · intro wS hSw; (try dsimp only at hSw); go_simp; try with_reducible rfl
            try simp only [Act.put, List.setIfInBounds_toArray, List.set_cons_zero, List.set_cons_succ]
            refine wpAnyH_take (i := 5) (v := ?_) nthe5 (by kernel_rfl) (by kernel_rfl) (by kernel_rfl) (fun _ _ _ h => h) (Or.inl ⟨by rfl, ?_⟩) sH ?_
            rotate_left
            · intro wS hSw; (try dsimp only at hSw); go_simp; try with_reducible rfl
            try simp only [Act.put, List.setIfInBounds_toArray, List.set_cons_zero, List.set_cons_succ]
            refine wpAnyH_take (i := 6) (v := ?_) nthe6 (by kernel_rfl) (by kernel_rfl) (by kernel_rfl) (fun _ _ _ h => h) (Or.inl ⟨by rfl, ?_⟩) sH ?_
            rotate_left
            · intro wS hSw; (try dsimp only at hSw); go_simp; try with_reducible rfl
            try simp only [Act.put, List.setIfInBounds_toArray, List.set_cons_zero, List.set_cons_succ]
            refine wpAnyH_take (i := 7) (v := ?_) nthe7 (by kernel_rfl) (by kernel_rfl) (by kernel_rfl) (fun _ _ _ h => h) (Or.inl ⟨by rfl, ?_⟩) sH ?_
            rotate_left
            · intro wS hSw; (try dsimp only at hSw); go_simp; try with_reducible rfl
            try simp only [Act.put, List.setIfInBounds_toArray, List.set_cons_zero, List.set_cons_succ]
            refine wpAnyH_ready (rs := [8]) (by kernel_rfl) (by simp) (AllReadyH.cons nthe8 (fun KON hKON => ?_) AllReadyH.nil)
            clear sH
            go_simp
            refine (l10Lower_any _ _ n N m P lo hi (HV.out.below (BW.out.trans ((KV.trans ((below_drw (Below.refl wV.heap.size wV)).mono KV.size)).mono hwr)) hhi) (Nat.le_trans hir KV.size) HBN.out _ x gx (gx + 1) (HOX.out.below (KV.trans ((below_drw (Below.refl wV.heap.size wV)).mono KV.size)) (Nat.le_refl _)).sl (Nat.le_trans HOX.out.lt KV.size) HXR.out _ _ (G k) (G k + 1) (HY.out.below (KV.trans ((below_drw (Below.refl wV.heap.size wV)).mono KV.size)) (Nat.le_refl _)).sl (Nat.le_trans HY.out.lt KV.size) HCR.out (-step) (by omega)).mono ?_
            rintro e wX ⟨rfl, hbX⟩
            rw [ht2]
            have KX' : Below wV.heap.size wV wX := below_dr0 hbX
            have KX : Below wr.heap.size wr wX := KV.trans (KX'.mono KV.size)
            refine hKON.out _ _ (KS2 _ KX') (fun sH => ?_)
            clear hKON KON
            try simp only [Act.put, List.setIfInBounds_toArray, List.set_cons_zero, List.set_cons_succ]
            refine wpAnyH_take (i := 9) (v := ?_) nthe9 (by kernel_rfl) (by kernel_rfl) (by kernel_rfl) (fun _ _ _ h => h) (Or.inl ⟨by rfl, ?_⟩) sH ?_
            rotate_left
            · intro wS hSw; (try dsimp only at hSw); go_simp; try with_reducible rfl
            try simp only [Act.put, List.setIfInBounds_toArray, List.set_cons_zero, List.set_cons_succ]
            refine wpAnyH_done (by kernel_rfl) ?_ _
            refine NoPanic.normal ?_
            have HN2 := Lib.hid (show psS m P Y x0 step left (k + 1) = (x, mo) by rw [HNX.out]; unfold psT; rw [if_pos hml, if_neg (by rw [HT1.out]; exact Bool.false_ne_true), if_neg (by rw [ht2]; exact Bool.false_ne_true)])
            clear ht2
            have zX := KX.size
            have HL2 := HL.out.trans (KX.mono hsz)
            go_wp2_with fail
            go_roundw
            case rel => exact ⟨k + 1, gx, cx, x, mo, rfl, HN2.out.symm, HOX.out.below KX (Nat.le_refl _), hgx, rfl, by go_num, hlt, by omega, HL2⟩
            case measure => simp [intOf]; omega
          · refine wp_region_noPanic ?_
            refine wp_region_held_drew (S := fun w' : World => Below wV.heap.size wV w' ∧ w'.rangeAt w.heap.size 0 [.slice p0 n c0, .slice p1 m c1] ∧ w'.cell? ⟨q, k, none⟩ = some (.slice (some ⟨G k, 0, none⟩) m (C k))) (by kernel_rfl) (KS2 _ (below_drw (Below.refl _ _))) (fun sH => ?_)
            refine wpAnyH_take (i := 0) (v := .agg #[.slice p0 n c0, .slice p1 m c1]) nthe0 (by kernel_rfl) (by kernel_rfl) (by kernel_rfl) (fun _ _ _ h => h) (yieldsIf_load_mid (by rfl) _ _ rfl w.heap.size 0 rfl [.slice p0 n c0, .slice p1 m c1] _ (fun _ h => h.2.1) UN rfl (by exact nN)) sH ?_
            try simp only [Act.put, List.setIfInBounds_toArray, List.set_cons_zero, List.set_cons_succ]
            refine wpAnyH_take (i := 1) (v := ?_) nthe1 (by kernel_rfl) (by kernel_rfl) (by kernel_rfl) (fun _ _ _ h => h) (Or.inl ⟨by rfl, ?_⟩) sH ?_
            rotate_left
            · intro wS hSw; (try dsimp only at hSw); go_simp; try with_reducible rfl
            try simp only [Act.put, List.setIfInBounds_toArray, List.set_cons_zero, List.set_cons_succ]
            refine wpAnyH_take (i := 2) (v := ?_) nthe2 (by kernel_rfl) (by kernel_rfl) (by kernel_rfl) (fun _ _ _ h => h) (Or.inl ⟨by rfl, ?_⟩) sH ?_
            rotate_left
            · intro wS hSw; (try dsimp only at hSw); go_simp; try with_reducible rfl
            try simp only [Act.put, List.setIfInBounds_toArray, List.set_cons_zero, List.set_cons_succ]
            refine wpAnyH_take (i := 3) (v := ?_) nthe3 (by kernel_rfl) (by kernel_rfl) (by kernel_rfl) (fun _ _ _ h => h) (Or.inl ⟨by rfl, ?_⟩) sH ?_
            rotate_left
            · intro wS hSw; (try dsimp only at hSw); go_simp; try with_reducible rfl
            try simp only [Act.put, List.setIfInBounds_toArray, List.set_cons_zero, List.set_cons_succ]
            refine wpAnyH_take (i := 4) (v := ?_) nthe4 (by kernel_rfl) (by kernel_rfl) (by kernel_rfl) (fun _ _ _ h => h) (Or.inl ⟨by rfl, ?_⟩) sH ?_
            rotate_left
            · intro wS hSw; (try dsimp only at hSw); go_simp; try with_reducible rfl
            try simp only [Act.put, List.setIfInBounds_toArray, List.set_cons_zero, List.set_cons_succ]
            refine wpAnyH_take (i := 5) (v := ?_) nthe5 (by kernel_rfl) (by kernel_rfl) (by kernel_rfl) (fun _ _ _ h => h) (Or.inl ⟨by rfl, ?_⟩) sH ?_
            rotate_left
            · intro wS hSw; (try dsimp only at hSw); go_simp; try with_reducible rfl
            try simp only [Act.put, List.setIfInBounds_toArray, List.set_cons_zero, List.set_cons_succ]
            refine wpAnyH_take (i := 6) (v := ?_) nthe6 (by kernel_rfl) (by kernel_rfl) (by kernel_rfl) (fun _ _ _ h => h) (Or.inl ⟨by rfl, ?_⟩) sH ?_
            rotate_left
            · intro wS hSw; (try dsimp only at hSw); go_simp; try with_reducible rfl
            try simp only [Act.put, List.setIfInBounds_toArray, List.set_cons_zero, List.set_cons_succ]
            refine wpAnyH_take (i := 7) (v := ?_) nthe7 (by kernel_rfl) (by kernel_rfl) (by kernel_rfl) (fun _ _ _ h => h) (Or.inl ⟨by rfl, ?_⟩) sH ?_
            rotate_left
            · intro wS hSw; (try dsimp only at hSw); go_simp; try with_reducible rfl
            try simp only [Act.put, List.setIfInBounds_toArray, List.set_cons_zero, List.set_cons_succ]
            refine wpAnyH_ready (rs := [8]) (by kernel_rfl) (by simp) (AllReadyH.cons nthe8 (fun KON hKON => ?_) AllReadyH.nil)
            clear sH
            go_simp
            refine (l10Lower_any _ _ n N m P lo hi (HV.out.below (BW.out.trans ((KV.trans ((below_drw (Below.refl wV.heap.size wV)).mono KV.size)).mono hwr)) hhi) (Nat.le_trans hir KV.size) HBN.out _ x gx (gx + 1) (HOX.out.below (KV.trans ((below_drw (Below.refl wV.heap.size wV)).mono KV.size)) (Nat.le_refl _)).sl (Nat.le_trans HOX.out.lt KV.size) HXR.out _ _ (G k) (G k + 1) (HY.out.below (KV.trans ((below_drw (Below.refl wV.heap.size wV)).mono KV.size)) (Nat.le_refl _)).sl (Nat.le_trans HY.out.lt KV.size) HCR.out (-step) (by omega)).mono ?_
            rintro e wX ⟨rfl, hbX⟩
            rw [ht2]
            have KX' : Below wV.heap.size wV wX := below_dr0 hbX
            have KX : Below wr.heap.size wr wX := KV.trans (KX'.mono KV.size)
            refine hKON.out _ _ (KS2 _ KX') (fun sH => ?_)
            clear hKON KON
            try simp only [Act.put, List.setIfInBounds_toArray, List.set_cons_zero, List.set_cons_succ]
            refine wpAnyH_take (i := 9) (v := ?_) nthe9 (by kernel_rfl) (by kernel_rfl) (by kernel_rfl) (fun _ _ _ h => h) (Or.inl ⟨by rfl, ?_⟩) sH ?_
            rotate_left
            · intro wS hSw; (try dsimp only at hSw); go_simp; try with_reducible rfl
            try simp only [Act.put, List.setIfInBounds_toArray, List.set_cons_zero, List.set_cons_succ]
            refine wpAnyH_done (by kernel_rfl) ?_ _
            refine NoPanic.normal ?_
            have y3 : wX.cell? ⟨q, k, none⟩ = some (.slice (some ⟨G k, 0, none⟩) m (C k)) := (KS _ KX).2.2
            have HN2 := Lib.hid (show psS m P Y x0 step left (k + 1) = (fun a => x a + (-step) * Y k a, mo + 1) by rw [HNX.out]; unfold psT; rw [if_pos hml, if_neg (by rw [HT1.out]; exact Bool.false_ne_true), if_pos ht2])
            clear ht2
            go_upto_region 10 with (go_at_call 51; refine (l05Add_any wX _ _ m x (Y k) (-step) gx (gx + 1) (G k) (G k + 1) (HOX.out.below KX (Nat.le_refl _)).sl (Nat.le_trans HOX.out.lt KX.size) (HY.out.below KX (Nat.le_refl _)).sl (Nat.le_trans HY.out.lt KX.size) (by omega) (fun a ha => (HTY.out _ (by omega) a ha).1) (fun a ha => (HTY.out _ (by omega) a ha).2)).mono ?_; rintro e wZ ⟨v2, g2, rfl, o2, hg2, hbZ⟩; obtain ⟨c2, rfl⟩ := o2.shape)
            have zX := KX.size
            have zZ := hbZ.size
            have HL2 := HL.out.trans ((KX.trans (hbZ.mono zX)).mono hsz)
            go_wp2_with fail
            go_roundw
            case rel => exact ⟨k + 1, g2, c2, _, mo + 1, rfl, HN2.out.symm, o2, .inr (by omega), rfl, by go_num, hlt, by omega, HL2⟩
            case measure => simp [intOf]; omega
        · refine wp_region_noPanic ?_
          refine wp_region_held_drew (S := fun w' : World => Below wr.heap.size wr w' ∧ w'.rangeAt w.heap.size 0 [.slice p0 n c0, .slice p1 m c1] ∧ w'.cell? ⟨q, k, none⟩ = some (.slice (some ⟨G k, 0, none⟩) m (C k))) (by kernel_rfl) (KS _ (below_drw (Below.refl _ _))) (fun sH => ?_)
          refine wpAnyH_take (i := 0) (v := .agg #[.slice p0 n c0, .slice p1 m c1]) nthe0 (by kernel_rfl) (by kernel_rfl) (by kernel_rfl) (fun _ _ _ h => h) (yieldsIf_load_mid (by rfl) _ _ rfl w.heap.size 0 rfl [.slice p0 n c0, .slice p1 m c1] _ (fun _ h => h.2.1) UN rfl (by exact nN)) sH ?_
          try simp only [Act.put, List.setIfInBounds_toArray, List.set_cons_zero, List.set_cons_succ]
          refine wpAnyH_take (i := 1) (v := ?_) nthe1 (by kernel_rfl) (by kernel_rfl) (by kernel_rfl) (fun _ _ _ h => h) (Or.inl ⟨by rfl, ?_⟩) sH ?_
          rotate_left
          · intro wS hSw; (try dsimp only at hSw); go_simp; try with_reducible rfl
          try simp only [Act.put, List.setIfInBounds_toArray, List.set_cons_zero, List.set_cons_succ]
          refine wpAnyH_take (i := 2) (v := ?_) nthe2 (by kernel_rfl) (by kernel_rfl) (by kernel_rfl) (fun _ _ _ h => h) (Or.inl ⟨by rfl, ?_⟩) sH ?_
          rotate_left
          · intro wS hSw; (try dsimp only at hSw); go_simp; try with_reducible rfl
          try simp only [Act.put, List.setIfInBounds_toArray, List.set_cons_zero, List.set_cons_succ]
          refine wpAnyH_take (i := 3) (v := ?_) nthe3 (by kernel_rfl) (by kernel_rfl) (by kernel_rfl) (fun _ _ _ h => h) (Or.inl ⟨by rfl, ?_⟩) sH ?_
          rotate_left
          · intro wS hSw; (try dsimp only at hSw); go_simp; try with_reducible rfl
          try simp only [Act.put, List.setIfInBounds_toArray, List.set_cons_zero, List.set_cons_succ]
          refine wpAnyH_take (i := 4) (v := ?_) nthe4 (by kernel_rfl) (by kernel_rfl) (by kernel_rfl) (fun _ _ _ h => h) (Or.inl ⟨by rfl, ?_⟩) sH ?_
          rotate_left
          · intro wS hSw; (try dsimp only at hSw); go_simp; try with_reducible rfl
          try simp only [Act.put, List.setIfInBounds_toArray, List.set_cons_zero, List.set_cons_succ]
          refine wpAnyH_take (i := 5) (v := ?_) nthe5 (by kernel_rfl) (by kernel_rfl) (by kernel_rfl) (fun _ _ _ h => h) (Or.inl ⟨by rfl, ?_⟩) sH ?_
          rotate_left
          · intro wS hSw; (try dsimp only at hSw); go_simp; try with_reducible rfl
          try simp only [Act.put, List.setIfInBounds_toArray, List.set_cons_zero, List.set_cons_succ]
          refine wpAnyH_take (i := 6) (v := ?_) nthe6 (by kernel_rfl) (by kernel_rfl) (by kernel_rfl) (fun _ _ _ h => h) (Or.inl ⟨by rfl, ?_⟩) sH ?_
          rotate_left
          · intro wS hSw; (try dsimp only at hSw); go_simp; try with_reducible rfl
          try simp only [Act.put, List.setIfInBounds_toArray, List.set_cons_zero, List.set_cons_succ]
          refine wpAnyH_ready (rs := [7]) (by kernel_rfl) (by simp) (AllReadyH.cons nthe7 (fun KON hKON => ?_) AllReadyH.nil)
          clear sH
          go_simp
          refine (l10Lower_any _ _ n N m P lo hi (HV.out.below (BW.out.trans ((below_drw (Below.refl wr.heap.size wr)).mono hwr)) hhi) hir HBN.out _ x gx (gx + 1) (HOX.out.below (below_drw (Below.refl wr.heap.size wr)) (Nat.le_refl _)).sl (show gx + 1 ≤ wr.heap.size from HOX.out.lt) HXR.out _ _ (G k) (G k + 1) (HY.out.below (below_drw (Below.refl wr.heap.size wr)) (Nat.le_refl _)).sl (show G k + 1 ≤ wr.heap.size from HY.out.lt) HCR.out (step) (by omega)).mono ?_
          rintro e wX ⟨rfl, hbX⟩
          rw [ht1]
          have KX : Below wr.heap.size wr wX := below_dr0 hbX
          refine hKON.out _ _ (KS _ KX) (fun sH => ?_)
          clear hKON KON
          try simp only [Act.put, List.setIfInBounds_toArray, List.set_cons_zero, List.set_cons_succ]
          refine wpAnyH_take (i := 8) (v := ?_) nthe8 (by kernel_rfl) (by kernel_rfl) (by kernel_rfl) (fun _ _ _ h => h) (Or.inl ⟨by rfl, ?_⟩) sH ?_
          rotate_left
          · intro wS hSw; (try dsimp only at hSw); go_simp; try with_reducible rfl
          try simp only [Act.put, List.setIfInBounds_toArray, List.set_cons_zero, List.set_cons_succ]
          refine wpAnyH_done (by kernel_rfl) ?_ _
          refine NoPanic.normal ?_
          have y3 : wX.cell? ⟨q, k, none⟩ = some (.slice (some ⟨G k, 0, none⟩) m (C k)) := (KS _ KX).2.2
          have HN2 := Lib.hid (show psS m P Y x0 step left (k + 1) = (fun a => x a + step * Y k a, mo + 1) by rw [HNX.out]; unfold psT; rw [if_pos hml, if_pos ht1])
          clear ht1
          go_upto_region 7 with (go_at_call 51; refine (l05Add_any wX _ _ m x (Y k) (step) gx (gx + 1) (G k) (G k + 1) (HOX.out.below KX (Nat.le_refl _)).sl (Nat.le_trans HOX.out.lt KX.size) (HY.out.below KX (Nat.le_refl _)).sl (Nat.le_trans HY.out.lt KX.size) (by omega) (fun a ha => (HTY.out _ (by omega) a ha).1) (fun a ha => (HTY.out _ (by omega) a ha).2)).mono ?_; rintro e wZ ⟨v2, g2, rfl, o2, hg2, hbZ⟩; obtain ⟨c2, rfl⟩ := o2.shape)
          have zX := KX.size
          have zZ := hbZ.size
          have HL2 := HL.out.trans ((KX.trans (hbZ.mono zX)).mono hsz)
          go_wp2_with fail
          go_roundw
          case rel => exact ⟨k + 1, g2, c2, _, mo + 1, rfl, HN2.out.symm, o2, .inr (by omega), rfl, by go_num, hlt, by omega, HL2⟩
          case measure => simp [intOf]; omega
      · have hdm : decide (mo < left) = false := decide_eq_false hml
        have HST := Lib.hid (show psS m P Y x0 step left (chN n P m) = (x, mo) by rw [psS_stop (i := k) (by rw [← HPS.out]; exact hml) hk]; exact HPS.out.symm)
        clear hml
        go_wp2_with fail
        go_ret2
        first | exact ⟨.slice (some ⟨gx, 0, none⟩) m cx, gx, (by (first | rw [HYE.out, HST.out] | rw [HST.out]); rfl), (by (first | rw [HYE.out, HST.out] | rw [HST.out]); exact HOX.out), (by omega), BW.out⟩ | exact ⟨.slice (some ⟨gx, 0, none⟩) m cx, (by (first | rw [HYE.out, HST.out] | rw [HST.out]); rfl), gx, (by (first | rw [HYE.out, HST.out] | rw [HST.out]); exact HOX.out), (by omega), BW.out⟩
    · have hkn : k = chN n P m := by omega
      have HST := Lib.hid (show psS m P Y x0 step left (chN n P m) = (x, mo) by rw [← hkn]; exact HPS.out.symm)
      have k1 : ¬ ((k : Int) < (chN n P m : Int)) := by omega
      clear hkn
      go_wp2_with fail
      go_ret2
      first | exact ⟨.slice (some ⟨gx, 0, none⟩) m cx, gx, (by (first | rw [HYE.out, HST.out] | rw [HST.out]); rfl), (by (first | rw [HYE.out, HST.out] | rw [HST.out]); exact HOX.out), (by omega), BW.out⟩ | exact ⟨.slice (some ⟨gx, 0, none⟩) m cx, (by (first | rw [HYE.out, HST.out] | rw [HST.out]); rfl), gx, (by (first | rw [HYE.out, HST.out] | rw [HST.out]); exact HOX.out), (by omega), BW.out⟩
end Go.Proofs.YtdbgcbkmcbgdiaaGreat.mem

namespace Go.Proofs.YtdbgcbkmcbgdiaaGreat.mem
open Go.RowKit
set_option linter.unusedVariables false

set_option maxRecDepth 100000 in
set_option maxHeartbeats 8000000 in
theorem l11Relax_any (w : World) (v : Value) (n : Nat) (N : Nat → Nod) (m : Nat) (P : Nat → Pip) (lo hi : Nat) (h : NetAt w v n N m P lo hi) (hhi : hi ≤ w.heap.size) (hN : ∀ i, i < n → (N i).s.size ≤ 9223372036854775807) (hB : netB n N m P = true) (va : Value) (x0 : Nat → Int) (la ha : Nat) (hv : Sl w va m x0 la ha) (hha : ha ≤ w.heap.size) (hx : ∀ k, k < m → -30000 ≤ x0 k ∧ x0 k ≤ 30000) (st0 : Int) (hst : 0 ≤ st0 ∧ st0 ≤ 100000) :
    Calls Tryz.prog 53 #[v, va, .int .i64 st0] w fun e w' => ∃ v2 g2, e = .returned (.tuple #[v2, .int .i64 (rlx m P (fun i => cyc P (fE n P m) (fD n P m) (chS n P m i)) (chN n P m) x0 st0).2]) ∧ Own w' v2 m (rlx m P (fun i => cyc P (fE n P m) (fD n P m) (chS n P m i)) (chN n P m) x0 st0).1 g2 ∧ w.heap.size ≤ g2 ∧ Below w.heap.size w w' := by
  obtain ⟨p0, c0, p1, c1, rfl, hn9, hm9⟩ := h.parts
  obtain ⟨hn1, hn24, hm40⟩ := net_sz hB
  obtain ⟨pa, ca, rfl⟩ := hv.sh
  have HV := Lib.hid h
  have HBN := Lib.hid hB
  have HSV := Lib.hid hv
  have HX0 := Lib.hid hx
  have A0 := boxed w (.slice p0 n c0) (.slice p1 m c1) 27
  have B0 := below_new w (.cells #[.slice p0 n c0, .slice p1 m c1] 27)
  have hs0 : (w.alloc (.cells #[.slice p0 n c0, .slice p1 m c1] 27)).heap.size = w.heap.size + 1 := by simp
  have e0 := A0.b0
  have e1 := A0.b1
  clear h hB hv hx
  go_enter Tryz.func53, Tryz.ntmps53
  go_wp2_with fail
  refine (l05Basis_any _ _ n N m P lo hi (HV.out.below B0 hhi) (by omega) hN HBN.out).mono ?_
  rintro e w1 ⟨vb, rfl, hbas, b1⟩
  have A1 := A0.below b1 (by omega)
  have B1 := B0.trans (b1.mono (by omega))
  have hs1 := b1.size
  have b2 := below_new w1 (.cells #[] 2)
  have hs2 : (w1.alloc (.cells #[] 2)).heap.size = w1.heap.size + 1 := by simp
  have O2 := Own.nilled w1 x0
  obtain ⟨v3, w3, g3, hr3, o3, hap⟩ := app_all (w1.alloc (.cells #[] 2)) _ (.slice pa m ca) x0 w1.heap.size m x0 la ha O2 (HSV.out.below (B1.trans (b2.mono (by omega))) hha) (by omega)
  obtain ⟨b3, hg3⟩ := hap w1.heap.size (Nat.le_refl _) (by omega)
  obtain ⟨c3, rfl⟩ := o3.shape
  have b23 := b2.trans b3
  have hs3 := b3.size
  have A3 := A1.below b23 (by omega)
  have B3 := B1.trans (b23.mono (by omega))
  have HB3 := Lib.hid ((hbas.next b23).low (show w.heap.size ≤ _ by omega))
  have HO3 := Lib.hid o3
  obtain ⟨pb, cb, rfl⟩ := hbas.shape
  clear A0 A1 B0 B1 b1 b2 O2 hap o3 b3 hbas
  have hw3 : w.heap.size + 1 ≤ w1.heap.size := by omega
  have hw3' : w1.heap.size + 1 ≤ w3.heap.size := by omega
  clear hs0 hs1 hs2 hs3
  go_upto_region 3 with (at_builtin; refine wpList_app hr3 rfl _ _ rfl rfl rfl rfl ?_)
  clear hr3 b23 e0 e1
  have HA := Lib.hid A3
  have HBB := Lib.hid B3
  clear A3 B3
  generalize hY : (fun i => cyc P (fE n P m) (fD n P m) (chS n P m i)) = Y at *
  have HYE := Lib.hid hY
  clear hY
  go_wp2_with fail
  go_loopw [2, 9, 10] (fun sv xv tv wr => ∃ (f gx cx : Nat) (x : Nat → Int) (tot st : Int), xv = .slice (some ⟨gx, 0, none⟩) m cx ∧ sv = .int .i64 st ∧ tv = .int .i64 tot ∧ Own wr (.slice (some ⟨gx, 0, none⟩) m cx) m x gx ∧ w1.heap.size ≤ gx ∧ 0 ≤ st ∧ st ≤ 100000 ∧ 0 ≤ tot ∧ tot ≤ 5000 ∧ 5000 - tot + st ≤ f ∧ rlS m P Y (chN n P m) f x tot st = rlx m P Y (chN n P m) x0 st0 ∧ (∀ k, k < m → -30000 ≤ x k ∧ x k ≤ 30000) ∧ w3.heap.size ≤ wr.heap.size ∧ Below w1.heap.size w3 wr ∧ Bas wr (.slice pb (chN n P m) cb) (chN n P m) m Y w.heap.size) (fun sv _ tv _ => (5000 - intOf tv + intOf sv).toNat)
  case atStart => exact ⟨5000 + st0.toNat, g3, c3, x0, 0, st0, rfl, rfl, rfl, HO3.out, hg3, hst.1, hst.2, Int.le_refl _, by omega, by omega, rfl, HX0.out, Nat.le_refl _, Below.refl _ _, HB3.out⟩
  case round =>
    obtain ⟨f, gx, cx, x, tot, st, rfl, rfl, rfl, hox, hgx, s0, s1, t0, t1, hf, hrl, hxr, hsz, hb, hbas⟩ := hrel
    have HRL := Lib.hid hrl
    have HXR := Lib.hid hxr
    have HOX := Lib.hid hox
    have HL := Lib.hid hb
    have HBA := Lib.hid hbas
    have lgx := hox.lt
    clear hrl hxr hox hb hbas HO3 HB3
    have BW := Lib.hid (HBB.out.trans (HL.out.mono (by omega)))
    by_cases hs1 : 1 ≤ st
    · have hd1 : decide (1 ≤ st) = true := decide_eq_true hs1
      by_cases ht5 : tot < 5000
      · have hd2 : decide (tot < 5000) = true := decide_eq_true ht5
        obtain ⟨f', rfl⟩ : ∃ f', f = f' + 1 := ⟨f - 1, by omega⟩
        have HRN := Lib.hid (by have := HRL.out; rwa [rlS_next ⟨hs1, ht5⟩] at this)
        have hpc := psS_cnt (m := m) (P := P) (Y := Y) (x := x) (step := st) (left := 5000 - tot) (by omega) (chN n P m)
        have HPR := Lib.hid (fun k hk => psS_rng (P := P) (Y := Y) (step := st) (left := 5000 - tot) HXR.out (chN n P m) k hk)
        have f0 := (HA.out.below HL.out (by omega)).b0
        have f1 := (HA.out.below HL.out (by omega)).b1
        have hw1 : IntKind.i64.wrap (5000 - tot) = 5000 - tot := IntWalk.i64_in _ (by omega)
        clear HRL
        go_upto_region 6 with (go_at_call 104; refine (l11Pass_any wr _ n N m P lo hi (HV.out.below BW.out hhi) (by omega) HBN.out _ w.heap.size (by rw [HYE.out]; exact HBA.out) _ x gx HOX.out HXR.out st (5000 - tot) (by omega) (by omega)).mono ?_; rw [HYE.out]; rintro e w5 ⟨v5, g5, rfl, o5, hg5, b5⟩; obtain ⟨c5, rfl⟩ := o5.shape)
        generalize hps : psS m P Y x st (5000 - tot) (chN n P m) = r at *
        obtain ⟨x', mv⟩ := r
        dsimp only at o5 HPR hpc HRN ⊢
        have hw2 : IntKind.i64.wrap (tot + mv) = tot + mv := IntWalk.i64_in _ (by omega)
        have s5 := b5.size
        have HL5 := HL.out.trans (b5.mono (by omega))
        have HB5 := HBA.out.next b5
        clear hps f0 f1 b5
        by_cases hm0 : mv = 0
        · subst hm0
          have hd3 : ((0 : Int) == 0) = true := rfl
          have hd4 : st.tdiv 2 = st / 2 := Int.tdiv_eq_ediv_of_nonneg s0
          have HR2 := HRN.out
          rw [if_pos rfl, Int.add_zero] at HR2
          have hq0 : 0 ≤ st / 2 ∧ st / 2 < st := by omega
          have HR3 := Lib.hid HR2
          clear HR2
          go_wp2_with fail
          go_roundw
          case rel => exact ⟨f', g5, c5, x', tot, st / 2, rfl, rfl, rfl, o5, by omega, hq0.1, by omega, by omega, by omega, by omega, HR3.out, HPR.out, by omega, HL5, HB5⟩
          case measure => simp [intOf]; omega
        · have hd3 : (mv == 0) = false := by simpa using hm0
          have HR2 := HRN.out
          rw [if_neg hm0] at HR2
          have HR3 := Lib.hid HR2
          clear HR2
          go_wp2_with fail
          go_roundw
          case rel => exact ⟨f', g5, c5, x', tot + mv, st, rfl, rfl, rfl, o5, by omega, s0, s1, by omega, by omega, by omega, HR3.out, HPR.out, by omega, HL5, HB5⟩
          case measure => simp [intOf]; omega
      · have hd2 : decide (tot < 5000) = false := decide_eq_false ht5
        have HR2 := Lib.hid (show rlx m P Y (chN n P m) x0 st0 = (x, tot) by rw [← HRL.out, rlS_stop (by omega)])
        clear ht5
        go_wp2_with fail
        go_ret2
        first | exact ⟨.slice (some ⟨gx, 0, none⟩) m cx, gx, (by (first | rw [HYE.out, HR2.out] | rw [HR2.out]); rfl), (by (first | rw [HYE.out, HR2.out] | rw [HR2.out]); exact HOX.out), (by omega), BW.out⟩ | exact ⟨.slice (some ⟨gx, 0, none⟩) m cx, (by (first | rw [HYE.out, HR2.out] | rw [HR2.out]); rfl), gx, (by (first | rw [HYE.out, HR2.out] | rw [HR2.out]); exact HOX.out), (by omega), BW.out⟩
    · have hd1 : decide (1 ≤ st) = false := decide_eq_false hs1
      have HR2 := Lib.hid (show rlx m P Y (chN n P m) x0 st0 = (x, tot) by rw [← HRL.out, rlS_stop (by omega)])
      clear hs1
      go_wp2_with fail
      go_ret2
      first | exact ⟨.slice (some ⟨gx, 0, none⟩) m cx, gx, (by (first | rw [HYE.out, HR2.out] | rw [HR2.out]); rfl), (by (first | rw [HYE.out, HR2.out] | rw [HR2.out]); exact HOX.out), (by omega), BW.out⟩ | exact ⟨.slice (some ⟨gx, 0, none⟩) m cx, (by (first | rw [HYE.out, HR2.out] | rw [HR2.out]); rfl), gx, (by (first | rw [HYE.out, HR2.out] | rw [HR2.out]); exact HOX.out), (by omega), BW.out⟩
end Go.Proofs.YtdbgcbkmcbgdiaaGreat.mem
