/-
  The specification's l11Best. Conditions: as each states.
-/
import Derived.Test.YtfkacpphdnlkfaaRows
import Derived.Test.YtfkacpphdnlkfaaLbe
import Derived.Test.YtfkacpphdnlkfaaElM
import Derived.Laws.Cover1
namespace Go.Proofs.Ytfkacpphdnlkfaa.mem
open Go.RowKit
set_option linter.unusedVariables false

theorem floor2 (a : Int) : (a.tmod 2 < 0 → a.tdiv 2 - 1 = a / 2) ∧ (0 ≤ a.tmod 2 → a.tdiv 2 = a / 2) := by
  have h1 := Int.tmod_add_mul_tdiv a 2
  have h2 := Int.tmod_lt_of_pos a (show (0 : Int) < 2 by omega)
  have h3 := Int.lt_tmod_of_pos a (show (0 : Int) < 2 by omega)
  generalize a.tmod 2 = r at *
  generalize a.tdiv 2 = q at *
  omega
theorem l01Floor2_any (a : Int) (w : World) (h : -1000000 ≤ a ∧ a ≤ 1000000) : Calls Try.prog 99 #[.int .i64 a, .int .i64 2] w fun e w' => e = .returned (.int .i64 (a / 2)) ∧ w = w' := by
  obtain ⟨g1, g2⟩ := floor2 a
  have hw1 : IntKind.i64.wrap (a.tdiv 2 - 1) = a.tdiv 2 - 1 := IntWalk.i64_in _ (by have h1 := Int.tmod_add_mul_tdiv a 2; have h2 := Int.tmod_lt_of_pos a (show (0 : Int) < 2 by omega); have h3 := Int.lt_tmod_of_pos a (show (0 : Int) < 2 by omega); omega)
  by_cases hr : a.tmod 2 < 0
  · have hd : decide (a.tmod 2 < 0) = true := decide_eq_true hr
    have HR := Lib.hid (g1 hr)
    clear g1 g2 hr
    go_enter Try.func99, Try.ntmps99
    go_wp2_with fail
    go_ret
    exact ⟨ret_i HR.out, rfl⟩
  · have hd : decide (a.tmod 2 < 0) = false := decide_eq_false hr
    have HR := Lib.hid (g2 (by omega))
    clear g1 g2 hr
    go_enter Try.func99, Try.ntmps99
    go_wp2_with fail
    go_ret
    exact ⟨ret_i HR.out, rfl⟩
/-- the number behind the specification's third loop -/
noncomputable def thr3 (P : Nat → Pip) (x y : Nat → Int) (m : Nat) (hi f : Int) : Int := if f < hi ∧ egC P x y m (f + 1) = egC P x y m f ∧ f < 0 then f + 1 else f
set_option maxRecDepth 100000 in
set_option maxHeartbeats 8000000 in
theorem l11Best_any (w : World) (v : Value) (n : Nat) (N : Nat → Nod) (m : Nat) (P : Nat → Pip) (lo hi : Nat) (h : NetAt w v n N m P lo hi) (hhi : hi ≤ w.heap.size) (hB : netB n N m P = true) (va : Value) (d : Nat → Int) (la ha : Nat) (hv : Sl w va m d la ha) (hha : ha ≤ w.heap.size) (hd : ∀ k, k < m → -30000 ≤ d k ∧ d k ≤ 30000) (vb : Value) (y : Nat → Int) (lb hb : Nat) (hu : Sl w vb m y lb hb) (hhb : hb ≤ w.heap.size) (hcy : CyO P y m) :
    Calls Try.prog 57 #[v, va, vb] w fun e w' => e = .returned (.int .i64 (bstT m P d y)) ∧ Below w.heap.size w w' := by
  obtain ⟨p0, c0, p1, c1, rfl, hn9, hm9⟩ := h.parts
  obtain ⟨hn1, hn24, hm40⟩ := net_sz hB
  obtain ⟨pa, ca, rfl⟩ := hv.sh
  obtain ⟨pb, cb, rfl⟩ := hu.sh
  have HV := Lib.hid h
  have HBN := Lib.hid hB
  have HSV := Lib.hid hv
  have HSU := Lib.hid hu
  have HCY := Lib.hid hcy
  have HD := Lib.hid hd
  have hal := al_bnd (x := d) (y := y) (k := m) hd hcy.y1
  have HIN := Lib.hid (show ∀ t, alL d y m ≤ t → t ≤ alH d y m → ∀ k, k < m → -30000 ≤ d k + t * y k ∧ d k + t * y k ≤ 30000 from fun t h0 h1 => al_in hd hcy.y1 h0 h1)
  have HTY := Lib.hid (show ∀ t, -100000 ≤ t ∧ t ≤ 100000 → ∀ k, k < m → (-4611686018427387904 ≤ d k + t * y k ∧ d k + t * y k ≤ 4611686018427387904) ∧ (-4611686018427387904 ≤ t * y k ∧ t * y k ≤ 4611686018427387904) from fun t ht k hk => by
    have h1 := mulc ht (hcy.y1 k hk)
    have h2 := hd k hk
    omega)
  have HEB := Lib.hid (show ∀ t, alL d y m ≤ t → t ≤ alH d y m → 0 ≤ egC P d y m t ∧ egC P d y m t ≤ 1080000000000000000 from fun t h0 h1 => egC_bnd hB (al_in hd hcy.y1 h0 h1))
  have HEQ := Lib.hid (show ∀ t, egS P (fun k => d k + t * y k) m = egC P d y m t from fun t => rfl)
  have HLST := Lib.hid (show ∀ f, Lst (bfPr P d y m) (alL d y m) (alH d y m) f → thr3 P d y m (alH d y m) f = bstT m P d y from fun f hf => bstT_eq (hcy.best hf))
  have HST := Lib.hid (Hlv.start (bfPr P d y m) (show alL d y m ≤ alH d y m by omega))
  have HBD := Lib.hid (show ∀ k, k ≤ m → (-60000 ≤ alL d y k ∧ alL d y k ≤ 0) ∧ 0 ≤ alH d y k ∧ alH d y k ≤ 60000 from fun k hk => al_bnd (fun j hj => hd j (by omega)) (fun j hj => hcy.y1 j (by omega)))
  have A0 := boxed w (.slice p0 n c0) (.slice p1 m c1) 33
  have B0 := below_new w (.cells #[.slice p0 n c0, .slice p1 m c1] 33)
  have hs0 : (w.alloc (.cells #[.slice p0 n c0, .slice p1 m c1] 33)).heap.size = w.heap.size + 1 := by simp
  have nN : (Try.prog.info? 33).map (·.size) = some 2 := by kernel_rfl
  have UN := Try.underlying33
  clear h hB hv hu hcy hd
  go_enter Try.func57, Try.ntmps57
  go_upto_region 1 with (fail)
  obtain ⟨w1, hw1⟩ : ∃ w1, w.alloc (.cells #[.slice p0 n c0, .slice p1 m c1] 33) = w1 := ⟨_, rfl⟩
  rw [hw1] at A0 B0 hs0 ⊢
  clear hw1
  have HA := Lib.hid A0
  have HB := Lib.hid B0
  have hl1 : w.heap.size < w1.heap.size := by omega
  clear A0 B0 hs0
  go_wp2_with fail
  go_loopw [7, 8, 9] (fun av bv iv wr => ∃ k : Nat, av = .int .i64 (alL d y k) ∧ bv = .int .i64 (alH d y k) ∧ iv = .int .i64 k ∧ k ≤ m ∧ Below w1.heap.size w1 wr) (fun _ _ iv _ => m - (intOf iv).toNat)
  case atStart => exact ⟨0, rfl, rfl, rfl, Nat.zero_le _, Below.refl _ _⟩
  case round =>
    obtain ⟨k, rfl, rfl, rfl, hk, hbl⟩ := hrel
    have HL := Lib.hid hbl
    clear hbl
    have k0 : (0 : Int) ≤ (k : Int) := Int.natCast_nonneg _
    have BW := Lib.hid (HB.out.trans (HL.out.mono (Nat.le_of_lt hl1)))
    by_cases hlt : k < m
    · have k1 : (k : Int) < (m : Int) := by omega
      obtain ⟨ba, oa, rfl, e1a, e2a, yx⟩ : ∃ b o, pa = some ⟨b, o, none⟩ ∧ la ≤ b ∧ b < ha ∧ wr.cell? ⟨b, o + k, none⟩ = some (.int .i64 (d k)) := by
        obtain ⟨p, c, e, hc⟩ := HSV.out
        injection e with e1 _ _
        subst e1
        rcases hc with hc | ⟨b, o, e, g1, g2, g3⟩
        · omega
        · exact ⟨b, o, e, g1, g2, (BW.out.cell (p := ⟨b, o + k, none⟩) (by show b < _; omega)).trans (g3 k hlt)⟩
      obtain ⟨bb, ob, rfl, e1b, e2b, yy⟩ : ∃ b o, pb = some ⟨b, o, none⟩ ∧ lb ≤ b ∧ b < hb ∧ wr.cell? ⟨b, o + k, none⟩ = some (.int .i64 (y k)) := by
        obtain ⟨p, c, e, hc⟩ := HSU.out
        injection e with e1 _ _
        subst e1
        rcases hc with hc | ⟨b, o, e, g1, g2, g3⟩
        · omega
        · exact ⟨b, o, e, g1, g2, (BW.out.cell (p := ⟨b, o + k, none⟩) (by show b < _; omega)).trans (g3 k hlt)⟩
      obtain ⟨x0, x1⟩ := HD.out k hlt
      obtain ⟨y0, y1⟩ := HCY.out.y1 k hlt
      obtain ⟨⟨b0, b1⟩, b2, b3⟩ := HBD.out k hk
      have HL1 := Lib.hid (show alL d y (k + 1) = if y k = 0 then alL d y k else max (alL d y k) (-30000 - y k * d k) from rfl)
      have HH1 := Lib.hid (show alH d y (k + 1) = if y k = 0 then alH d y k else min (alH d y k) (30000 - y k * d k) from rfl)
      have hm : -30000 ≤ y k * d k ∧ y k * d k ≤ 30000 := by
        have := mulc (b := 30000) (x := d k) (c := y k) ⟨x0, x1⟩ ⟨y0, y1⟩
        rw [Int.mul_comm]
        exact this
      have hw1 : IntKind.i64.wrap (y k * d k) = y k * d k := IntWalk.i64_in _ (by omega)
      have hw2 : IntKind.i64.wrap (-30000 - y k * d k) = -30000 - y k * d k := IntWalk.i64_in _ (by omega)
      have hw3 : IntKind.i64.wrap (30000 - y k * d k) = 30000 - y k * d k := IntWalk.i64_in _ (by omega)
      generalize ha' : alL d y k = a at *
      generalize hb' : alH d y k = b at *
      generalize hyk : y k = yk at *
      generalize hxk : d k = xk at *
      clear ha' hb' hyk hxk
      by_cases h0 : yk = 0
      · have hd : (yk != 0) = false := by simpa using h0
        have HL2 := Lib.hid (by have := HL1.out; rwa [if_pos h0] at this)
        have HH2 := Lib.hid (by have := HH1.out; rwa [if_pos h0] at this)
        clear h0
        go_wp2_with fail
        go_roundw
        case rel => exact ⟨k + 1, by rw [HL2.out], by rw [HH2.out], by go_num, hlt, by first | exact HL.out | exact below_drN1 HL.out _⟩
        case measure => simp [intOf]; omega
      · have hd : (yk != 0) = true := by simpa using h0
        have HL2 := Lib.hid (by have := HL1.out; rwa [if_neg h0] at this)
        have HH2 := Lib.hid (by have := HH1.out; rwa [if_neg h0] at this)
        clear h0
        go_upto_region 6 with (fail)
        go_quiet (fail)
        go_upto_region 7 with (fail)
        go_quiet (fail)
        go_wp2_with fail
        go_roundw
        case rel => exact ⟨k + 1, by rw [HL2.out], by rw [HH2.out], by go_num, hlt, by first | exact HL.out | exact below_drN1 HL.out _ | exact below_drN1 (below_drN1 HL.out _) _⟩
        case measure => simp [intOf]; omega
    · have hkn : k = m := by omega
      have k1 : ¬ ((k : Int) < (m : Int)) := by omega
      have eL : alL d y k = alL d y m := by rw [hkn]
      have eH : alH d y k = alH d y m := by rw [hkn]
      rw [eL, eH]
      clear hkn eL eH
      obtain ⟨⟨a0, a1⟩, a2, a3⟩ := hal
      generalize hLo : alL d y m = L at *
      generalize hHi : alH d y m = H at *
      clear hLo hHi
      go_wp2_with fail
      go_loopw [10, 11] (fun av bv wr' => ∃ l h : Int, av = .int .i64 l ∧ bv = .int .i64 h ∧ Hlv (bfPr P d y m) L H l h ∧ Below w1.heap.size w1 wr') (fun a b _ => (intOf b - intOf a).toNat)
      case atStart => exact ⟨L, H, rfl, rfl, HST.out, HL.out⟩
      case round =>
        obtain ⟨l, h, rfl, rfl, g, hbl⟩ := hrel
        have HG := Lib.hid g
        have l0 := g.a
        have h9 := g.c
        have l9 := g.b
        clear HL BW
        have HL := Lib.hid hbl
        have BW := Lib.hid (HB.out.trans (HL.out.mono (Nat.le_of_lt hl1)))
        clear g hbl
        by_cases hlt : l < h
        · obtain ⟨m2, m3⟩ : l ≤ (l + h) / 2 ∧ (l + h) / 2 < h := by omega
          have hw1 : IntKind.i64.wrap (l + h) = l + h := IntWalk.i64_in _ (by omega)
          have hwr : w.heap.size ≤ wr.heap.size := BW.out.size
          have g0 := range2 (HA.out.below HL.out hl1).b0 (HA.out.below HL.out hl1).b1
          have lwr : w.heap.size < wr.heap.size := Nat.lt_of_lt_of_le hl1 HL.out.size
          have KS : ∀ W : World, Below wr.heap.size wr W → (Below wr.heap.size wr W ∧ W.rangeAt w.heap.size 0 [.slice p0 n c0, .slice p1 m c1]) := fun W hW => ⟨hW, range_blockN g0 (hW.block _ lwr)⟩

          have HP1 := Lib.hid (show bfPr P d y m ((l + h) / 2) → Hlv (bfPr P d y m) L H l ((l + h) / 2) from fun hp => HG.out.down m2 m3 hp)
          have HP2 := Lib.hid (show ¬ bfPr P d y m ((l + h) / 2) → Hlv (bfPr P d y m) L H ((l + h) / 2 + 1) h from fun hp => HG.out.up (fun a b hab hp => HCY.out.bf_mono hab hp) m2 m3 hp)
          go_upto_region 11 with (go_at_call 99; refine (l01Floor2_any _ _ (by omega)).mono ?_; rintro e w' ⟨rfl, rfl⟩)
          generalize hmid : (l + h) / 2 = mid at *
          clear hmid
          have hw2 : IntKind.i64.wrap (mid + 1) = mid + 1 := IntWalk.i64_in _ (by omega)
          have HE0 := Lib.hid (HEQ.out mid)
          have HE1 := Lib.hid (HEQ.out (mid + 1))
          obtain ⟨q0, q1⟩ := HEB.out mid (by omega) (by omega)
          obtain ⟨q2, q3⟩ := HEB.out (mid + 1) (by omega) (by omega)
          have HBF := Lib.hid (show bfPr P d y m mid ↔ egC P d y m mid ≤ egC P d y m (mid + 1) from Iff.rfl)
          generalize he0 : egC P d y m mid = e0 at *
          generalize he1 : egC P d y m (mid + 1) = e1 at *
          clear he0 he1
          refine wp_region_noPanic ?_
          refine wp_region_held_drew (S := fun w' : World => Below wr.heap.size wr w' ∧ w'.rangeAt w.heap.size 0 [.slice p0 n c0, .slice p1 m c1]) (by kernel_rfl) (KS _ (below_drw (Below.refl _ _))) (fun sH => ?_)
          refine wpAnyH_take (i := 0) (v := .agg #[.slice p0 n c0, .slice p1 m c1]) nthe0 (by kernel_rfl) (by kernel_rfl) (by kernel_rfl) (fun _ _ _ h => h) (yieldsIf_load_mid (by rfl) _ _ rfl w.heap.size 0 rfl [.slice p0 n c0, .slice p1 m c1] _ (fun _ h => h.2) UN rfl (by exact nN)) sH ?_
          try simp only [Act.put, List.setIfInBounds_toArray, List.set_cons_zero, List.set_cons_succ]
          refine wpAnyH_take (i := 1) (v := ?_) nthe1 (by kernel_rfl) (by kernel_rfl) (by kernel_rfl) (fun _ _ _ h => h) (Or.inl ⟨by rfl, ?_⟩) sH ?_
          rotate_left
          · intro wS hSw; (try dsimp only at hSw); go_simp; try with_reducible rfl
          try simp only [Act.put, List.setIfInBounds_toArray, List.set_cons_zero, List.set_cons_succ]
          refine wpAnyH_take (i := 2) (v := ?_) nthe2 (by kernel_rfl) (by kernel_rfl) (by kernel_rfl) (fun _ _ _ h => h) (Or.inl ⟨by rfl, ?_⟩) sH ?_
          rotate_left
          · intro wS hSw; (try dsimp only at hSw); go_simp; try with_reducible rfl
          try simp only [Act.put, List.setIfInBounds_toArray, List.set_cons_zero, List.set_cons_succ]
          refine wpAnyH_take (i := 3) (v := ?_) nthe3 (by kernel_rfl) (by kernel_rfl) (by kernel_rfl) (fun _ _ _ h => h) (Or.inl ⟨by rfl, ?_⟩) sH ?_
          rotate_left
          · intro wS hSw; (try dsimp only at hSw); go_simp; try with_reducible rfl
          try simp only [Act.put, List.setIfInBounds_toArray, List.set_cons_zero, List.set_cons_succ]
          refine wpAnyH_take (i := 6) (v := .agg #[.slice p0 n c0, .slice p1 m c1]) nthe6 (by kernel_rfl) (by kernel_rfl) (by kernel_rfl) (fun _ _ _ h => h) (yieldsIf_load_mid (by rfl) _ _ rfl w.heap.size 0 rfl [.slice p0 n c0, .slice p1 m c1] _ (fun _ h => h.2) UN rfl (by exact nN)) sH ?_
          try simp only [Act.put, List.setIfInBounds_toArray, List.set_cons_zero, List.set_cons_succ]
          refine wpAnyH_take (i := 7) (v := ?_) nthe7 (by kernel_rfl) (by kernel_rfl) (by kernel_rfl) (fun _ _ _ h => h) (Or.inl ⟨by rfl, ?_⟩) sH ?_
          rotate_left
          · intro wS hSw; (try dsimp only at hSw); go_simp; try with_reducible rfl
          try simp only [Act.put, List.setIfInBounds_toArray, List.set_cons_zero, List.set_cons_succ]
          refine wpAnyH_take (i := 8) (v := ?_) nthe8 (by kernel_rfl) (by kernel_rfl) (by kernel_rfl) (fun _ _ _ h => h) (Or.inl ⟨by rfl, ?_⟩) sH ?_
          rotate_left
          · intro wS hSw; (try dsimp only at hSw); go_simp; try with_reducible rfl
          try simp only [Act.put, List.setIfInBounds_toArray, List.set_cons_zero, List.set_cons_succ]
          refine wpAnyH_take (i := 9) (v := ?_) nthe9 (by kernel_rfl) (by kernel_rfl) (by kernel_rfl) (fun _ _ _ h => h) (Or.inl ⟨by rfl, ?_⟩) sH ?_
          rotate_left
          · intro wS hSw; (try dsimp only at hSw); go_simp; try with_reducible rfl
          try simp only [Act.put, List.setIfInBounds_toArray, List.set_cons_zero, List.set_cons_succ]
          refine wpAnyH_take (i := 10) (v := ?_) nthe10 (by kernel_rfl) (by kernel_rfl) (by kernel_rfl) (fun _ _ _ h => h) (Or.inl ⟨by rfl, ?_⟩) sH ?_
          rotate_left
          · intro wS hSw; (try dsimp only at hSw); go_simp; try with_reducible rfl
          try simp only [Act.put, List.setIfInBounds_toArray, List.set_cons_zero, List.set_cons_succ]
          refine wpAnyH_ready (rs := [4]) (by kernel_rfl) (by simp) (AllReadyH.cons nthe4 (fun KON hKON => ?_) AllReadyH.nil)
          clear sH
          go_simp
          refine (l05Add_any (wr.drew) _ _ m d y (mid) la ha lb hb (HSV.out.below (BW.out.trans ((below_drw (Below.refl wr.heap.size wr)).mono hwr)) hha) (Nat.le_trans hha (Nat.le_trans hwr (below_drw (Below.refl wr.heap.size wr)).size)) (HSU.out.below (BW.out.trans ((below_drw (Below.refl wr.heap.size wr)).mono hwr)) hhb) (Nat.le_trans hhb (Nat.le_trans hwr (below_drw (Below.refl wr.heap.size wr)).size)) (by omega) (fun k hk => (HTY.out (mid) (by omega) k hk).1) (fun k hk => (HTY.out (mid) (by omega) k hk).2)).mono ?_
          rintro e wA ⟨vwA, gA, rfl, owA, hgwA, hbwA⟩
          obtain ⟨cwA, rfl⟩ := owA.shape
          have BwA : Below wr.heap.size wr wA := (below_drw (Below.refl wr.heap.size wr)).trans (hbwA.mono (below_drw (Below.refl wr.heap.size wr)).size)
          refine hKON.out _ _ (KS _ BwA) (fun sH => ?_)
          clear hKON KON
          try simp only [Act.put, List.setIfInBounds_toArray, List.set_cons_zero, List.set_cons_succ]
          refine wpAnyH_ready (rs := [5]) (by kernel_rfl) (by simp) (AllReadyH.cons nthe5 (fun KON hKON => ?_) AllReadyH.nil)
          clear sH
          go_simp
          have hen := l10Energy_any (wA) _ n N m P lo hi (HV.out.below (BW.out.trans (BwA.mono hwr)) hhi) (Nat.le_trans hhi (Nat.le_trans hwr BwA.size)) HBN.out _ _ gA (gA + 1) owA.sl owA.lt (HIN.out (mid) (by omega) (by omega))
          rw [HE0.out] at hen
          refine hen.mono ?_
          clear hen
          rintro e wB ⟨rfl, hbwB⟩
          have BwB : Below wr.heap.size wr wB := BwA.trans (hbwB.mono BwA.size)
          refine hKON.out _ _ (KS _ BwB) (fun sH => ?_)
          clear hKON KON
          try simp only [Act.put, List.setIfInBounds_toArray, List.set_cons_zero, List.set_cons_succ]
          refine wpAnyH_ready (rs := [11]) (by kernel_rfl) (by simp) (AllReadyH.cons nthe11 (fun KON hKON => ?_) AllReadyH.nil)
          clear sH
          go_simp
          refine (l05Add_any (wB) _ _ m d y (mid + 1) la ha lb hb (HSV.out.below (BW.out.trans (BwB.mono hwr)) hha) (Nat.le_trans hha (Nat.le_trans hwr BwB.size)) (HSU.out.below (BW.out.trans (BwB.mono hwr)) hhb) (Nat.le_trans hhb (Nat.le_trans hwr BwB.size)) (by omega) (fun k hk => (HTY.out (mid + 1) (by omega) k hk).1) (fun k hk => (HTY.out (mid + 1) (by omega) k hk).2)).mono ?_
          rintro e wC ⟨vwC, gC, rfl, owC, hgwC, hbwC⟩
          obtain ⟨cwC, rfl⟩ := owC.shape
          have BwC : Below wr.heap.size wr wC := BwB.trans (hbwC.mono BwB.size)
          refine hKON.out _ _ (KS _ BwC) (fun sH => ?_)
          clear hKON KON
          try simp only [Act.put, List.setIfInBounds_toArray, List.set_cons_zero, List.set_cons_succ]
          refine wpAnyH_ready (rs := [12]) (by kernel_rfl) (by simp) (AllReadyH.cons nthe12 (fun KON hKON => ?_) AllReadyH.nil)
          clear sH
          go_simp
          have hen := l10Energy_any (wC) _ n N m P lo hi (HV.out.below (BW.out.trans (BwC.mono hwr)) hhi) (Nat.le_trans hhi (Nat.le_trans hwr BwC.size)) HBN.out _ _ gC (gC + 1) owC.sl owC.lt (HIN.out (mid + 1) (by omega) (by omega))
          rw [HE1.out] at hen
          refine hen.mono ?_
          clear hen
          rintro e wD ⟨rfl, hbwD⟩
          have BwD : Below wr.heap.size wr wD := BwC.trans (hbwD.mono BwC.size)
          refine hKON.out _ _ (KS _ BwD) (fun sH => ?_)
          clear hKON KON
          try simp only [Act.put, List.setIfInBounds_toArray, List.set_cons_zero, List.set_cons_succ]
          refine wpAnyH_take (i := 13) (v := ?_) nthe13 (by kernel_rfl) (by kernel_rfl) (by kernel_rfl) (fun _ _ _ h => h) (Or.inl ⟨by rfl, ?_⟩) sH ?_
          rotate_left
          · intro wS hSw; (try dsimp only at hSw); go_simp; try with_reducible rfl
          try simp only [Act.put, List.setIfInBounds_toArray, List.set_cons_zero, List.set_cons_succ]
          refine wpAnyH_done (by kernel_rfl) ?_ _
          refine NoPanic.normal ?_
          by_cases hle : e0 ≤ e1
          · have hd : decide (e0 ≤ e1) = true := decide_eq_true hle
            have HP := Lib.hid (HP1.out (HBF.out.2 hle))
            clear HP1 HP2 KS
            go_wp2_with fail
            go_roundw
            case rel => exact ⟨l, mid, rfl, rfl, HP.out, HL.out.trans (BwD.mono HL.out.size)⟩
            case measure => simp [intOf]; omega
          · have hd : decide (e0 ≤ e1) = false := decide_eq_false hle
            have HP := Lib.hid (HP2.out (fun hp => hle (HBF.out.1 hp)))
            clear HP1 HP2 KS
            go_wp2_with fail
            go_roundw
            case rel => exact ⟨mid + 1, h, rfl, rfl, HP.out, HL.out.trans (BwD.mono HL.out.size)⟩
            case measure => simp [intOf]; omega
        · have HLS := Lib.hid (HLST.out l (HG.out.done hlt))
          have HFY := Lib.hid ((HG.out.done hlt).yes)
          clear HG
          generalize hf : l = f at *
          clear hf
          have hf1 : L ≤ f ∧ f ≤ H := by omega
          have hwr : w.heap.size ≤ wr.heap.size := BW.out.size
          have g0 := range2 (HA.out.below HL.out hl1).b0 (HA.out.below HL.out hl1).b1
          have lwr : w.heap.size < wr.heap.size := Nat.lt_of_lt_of_le hl1 HL.out.size
          have KS : ∀ W : World, Below wr.heap.size wr W → (Below wr.heap.size wr W ∧ W.rangeAt w.heap.size 0 [.slice p0 n c0, .slice p1 m c1]) := fun W hW => ⟨hW, range_blockN g0 (hW.block _ lwr)⟩

          have HE0 := Lib.hid (HEQ.out f)
          obtain ⟨q0, q1⟩ := HEB.out f (by omega) (by omega)
          have HSTP := Lib.hid (HCY.out.step (x := d) f)
          have HTH := Lib.hid (show thr3 P d y m H f = if f < H ∧ egC P d y m (f + 1) = egC P d y m f ∧ f < 0 then f + 1 else f from rfl)
          generalize he0 : egC P d y m f = e0 at *
          clear he0
          have hw1 : IntKind.i64.wrap (f + 1) = f + 1 := IntWalk.i64_in _ (by omega)
          go_upto_region 15 with (fail)
          refine wp_region_noPanic ?_
          refine wp_region_held_drew (S := fun w' : World => Below wr.heap.size wr w' ∧ w'.rangeAt w.heap.size 0 [.slice p0 n c0, .slice p1 m c1]) (by kernel_rfl) (KS _ (below_drw (Below.refl _ _))) (fun sH => ?_)
          refine wpAnyH_take (i := 0) (v := .agg #[.slice p0 n c0, .slice p1 m c1]) nthe0 (by kernel_rfl) (by kernel_rfl) (by kernel_rfl) (fun _ _ _ h => h) (yieldsIf_load_mid (by rfl) _ _ rfl w.heap.size 0 rfl [.slice p0 n c0, .slice p1 m c1] _ (fun _ h => h.2) UN rfl (by exact nN)) sH ?_
          try simp only [Act.put, List.setIfInBounds_toArray, List.set_cons_zero, List.set_cons_succ]
          refine wpAnyH_take (i := 1) (v := ?_) nthe1 (by kernel_rfl) (by kernel_rfl) (by kernel_rfl) (fun _ _ _ h => h) (Or.inl ⟨by rfl, ?_⟩) sH ?_
          rotate_left
          · intro wS hSw; (try dsimp only at hSw); go_simp; try with_reducible rfl
          try simp only [Act.put, List.setIfInBounds_toArray, List.set_cons_zero, List.set_cons_succ]
          refine wpAnyH_take (i := 2) (v := ?_) nthe2 (by kernel_rfl) (by kernel_rfl) (by kernel_rfl) (fun _ _ _ h => h) (Or.inl ⟨by rfl, ?_⟩) sH ?_
          rotate_left
          · intro wS hSw; (try dsimp only at hSw); go_simp; try with_reducible rfl
          try simp only [Act.put, List.setIfInBounds_toArray, List.set_cons_zero, List.set_cons_succ]
          refine wpAnyH_take (i := 3) (v := ?_) nthe3 (by kernel_rfl) (by kernel_rfl) (by kernel_rfl) (fun _ _ _ h => h) (Or.inl ⟨by rfl, ?_⟩) sH ?_
          rotate_left
          · intro wS hSw; (try dsimp only at hSw); go_simp; try with_reducible rfl
          try simp only [Act.put, List.setIfInBounds_toArray, List.set_cons_zero, List.set_cons_succ]
          refine wpAnyH_ready (rs := [4]) (by kernel_rfl) (by simp) (AllReadyH.cons nthe4 (fun KON hKON => ?_) AllReadyH.nil)
          clear sH
          go_simp
          refine (l05Add_any (wr.drew) _ _ m d y (f) la ha lb hb (HSV.out.below (BW.out.trans ((below_drw (Below.refl wr.heap.size wr)).mono hwr)) hha) (Nat.le_trans hha (Nat.le_trans hwr (below_drw (Below.refl wr.heap.size wr)).size)) (HSU.out.below (BW.out.trans ((below_drw (Below.refl wr.heap.size wr)).mono hwr)) hhb) (Nat.le_trans hhb (Nat.le_trans hwr (below_drw (Below.refl wr.heap.size wr)).size)) (by omega) (fun k hk => (HTY.out (f) (by omega) k hk).1) (fun k hk => (HTY.out (f) (by omega) k hk).2)).mono ?_
          rintro e wA ⟨vwA, gA, rfl, owA, hgwA, hbwA⟩
          obtain ⟨cwA, rfl⟩ := owA.shape
          have BwA : Below wr.heap.size wr wA := (below_drw (Below.refl wr.heap.size wr)).trans (hbwA.mono (below_drw (Below.refl wr.heap.size wr)).size)
          refine hKON.out _ _ (KS _ BwA) (fun sH => ?_)
          clear hKON KON
          try simp only [Act.put, List.setIfInBounds_toArray, List.set_cons_zero, List.set_cons_succ]
          refine wpAnyH_ready (rs := [5]) (by kernel_rfl) (by simp) (AllReadyH.cons nthe5 (fun KON hKON => ?_) AllReadyH.nil)
          clear sH
          go_simp
          have hen := l10Energy_any (wA) _ n N m P lo hi (HV.out.below (BW.out.trans (BwA.mono hwr)) hhi) (Nat.le_trans hhi (Nat.le_trans hwr BwA.size)) HBN.out _ _ gA (gA + 1) owA.sl owA.lt (HIN.out (f) (by omega) (by omega))
          rw [HE0.out] at hen
          refine hen.mono ?_
          clear hen
          rintro e wB ⟨rfl, hbwB⟩
          have BwB : Below wr.heap.size wr wB := BwA.trans (hbwB.mono BwA.size)
          refine hKON.out _ _ (KS _ BwB) (fun sH => ?_)
          clear hKON KON
          try simp only [Act.put, List.setIfInBounds_toArray, List.set_cons_zero, List.set_cons_succ]
          refine wpAnyH_take (i := 6) (v := ?_) nthe6 (by kernel_rfl) (by kernel_rfl) (by kernel_rfl) (fun _ _ _ h => h) (Or.inl ⟨by rfl, ?_⟩) sH ?_
          rotate_left
          · intro wS hSw; (try dsimp only at hSw); go_simp; try with_reducible rfl
          try simp only [Act.put, List.setIfInBounds_toArray, List.set_cons_zero, List.set_cons_succ]
          refine wpAnyH_done (by kernel_rfl) ?_ _
          refine NoPanic.normal ?_
          clear KS
          go_wp2_with fail
          go_loopw [13, 15] (fun bv kv wr' => (bv = .int .i64 f ∧ kv = .int .i64 (f + 1) ∨ bv = .int .i64 (thr3 P d y m H f) ∧ kv = .int .i64 (f + 2) ∧ f < H ∧ egC P d y m (f + 1) = e0) ∧ Below w1.heap.size w1 wr') (fun _ kv _ => (f + 3 - intOf kv).toNat)
          case atStart => exact ⟨.inl ⟨rfl, rfl⟩, HL.out.trans (BwB.mono HL.out.size)⟩
          case round =>
            obtain ⟨hst, hbl⟩ := hrel
            clear HL BW hwr g0 lwr
            have HL := Lib.hid hbl
            have BW := Lib.hid (HB.out.trans (HL.out.mono (Nat.le_of_lt hl1)))
            clear hbl
            have hwr : w.heap.size ≤ wr.heap.size := BW.out.size
            have g0 := range2 (HA.out.below HL.out hl1).b0 (HA.out.below HL.out hl1).b1
            have lwr : w.heap.size < wr.heap.size := Nat.lt_of_lt_of_le hl1 HL.out.size
            have KS : ∀ W : World, Below wr.heap.size wr W → (Below wr.heap.size wr W ∧ W.rangeAt w.heap.size 0 [.slice p0 n c0, .slice p1 m c1]) := fun W hW => ⟨hW, range_blockN g0 (hW.block _ lwr)⟩

            rcases hst with ⟨rfl, rfl⟩ | ⟨rfl, rfl, hfH, heq⟩
            · by_cases hk : f + 1 ≤ H
              · have hd : decide (f + 1 ≤ H) = true := decide_eq_true hk
                have HE1 := Lib.hid (HEQ.out (f + 1))
                have HQ1 := Lib.hid (show egC P d y m (f + 1) = egC P d y m (f + 1) from rfl)
                obtain ⟨q2, q3⟩ := HEB.out (f + 1) (by omega) (by omega)
                have HTT := Lib.hid (show egC P d y m (f + 1) = e0 → f < 0 → thr3 P d y m H f = f + 1 from fun g1 g2 => by rw [HTH.out, if_pos ⟨by omega, g1, g2⟩])
                have HTF := Lib.hid (show egC P d y m (f + 1) = e0 → ¬ f < 0 → thr3 P d y m H f = f from fun g1 g2 => by rw [HTH.out, if_neg (fun h => g2 h.2.2)])
                have HTN := Lib.hid (show egC P d y m (f + 1) ≠ e0 → thr3 P d y m H f = f from fun g1 => by rw [HTH.out, if_neg (fun h => g1 h.2.1)])
                generalize he1 : egC P d y m (f + 1) = e1 at *
                clear he1
                go_upto_region 17 with (fail)
                refine wp_region_noPanic ?_
                refine wp_region_held_drew (S := fun w' : World => Below wr.heap.size wr w' ∧ w'.rangeAt w.heap.size 0 [.slice p0 n c0, .slice p1 m c1]) (by kernel_rfl) (KS _ (below_drw (Below.refl _ _))) (fun sH => ?_)
                refine wpAnyH_take (i := 0) (v := ?_) nthe0 (by kernel_rfl) (by kernel_rfl) (by kernel_rfl) (fun _ _ _ h => h) (Or.inl ⟨by rfl, ?_⟩) sH ?_
                rotate_left
                · intro wS hSw; (try dsimp only at hSw); go_simp; try with_reducible rfl
                try simp only [Act.put, List.setIfInBounds_toArray, List.set_cons_zero, List.set_cons_succ]
                refine wpAnyH_take (i := 1) (v := ?_) nthe1 (by kernel_rfl) (by kernel_rfl) (by kernel_rfl) (fun _ _ _ h => h) (Or.inl ⟨by rfl, ?_⟩) sH ?_
                rotate_left
                · intro wS hSw; (try dsimp only at hSw); go_simp; try with_reducible rfl
                try simp only [Act.put, List.setIfInBounds_toArray, List.set_cons_zero, List.set_cons_succ]
                refine wpAnyH_take (i := 2) (v := ?_) nthe2 (by kernel_rfl) (by kernel_rfl) (by kernel_rfl) (fun _ _ _ h => h) (Or.inl ⟨by rfl, ?_⟩) sH ?_
                rotate_left
                · intro wS hSw; (try dsimp only at hSw); go_simp; try with_reducible rfl
                try simp only [Act.put, List.setIfInBounds_toArray, List.set_cons_zero, List.set_cons_succ]
                refine wpAnyH_take (i := 3) (v := ?_) nthe3 (by kernel_rfl) (by kernel_rfl) (by kernel_rfl) (fun _ _ _ h => h) (Or.inl ⟨by rfl, ?_⟩) sH ?_
                rotate_left
                · intro wS hSw; (try dsimp only at hSw); go_simp; try with_reducible rfl
                try simp only [Act.put, List.setIfInBounds_toArray, List.set_cons_zero, List.set_cons_succ]
                refine wpAnyH_take (i := 4) (v := .agg #[.slice p0 n c0, .slice p1 m c1]) nthe4 (by kernel_rfl) (by kernel_rfl) (by kernel_rfl) (fun _ _ _ h => h) (yieldsIf_load_mid (by rfl) _ _ rfl w.heap.size 0 rfl [.slice p0 n c0, .slice p1 m c1] _ (fun _ h => h.2) UN rfl (by exact nN)) sH ?_
                try simp only [Act.put, List.setIfInBounds_toArray, List.set_cons_zero, List.set_cons_succ]
                refine wpAnyH_take (i := 5) (v := ?_) nthe5 (by kernel_rfl) (by kernel_rfl) (by kernel_rfl) (fun _ _ _ h => h) (Or.inl ⟨by rfl, ?_⟩) sH ?_
                rotate_left
                · intro wS hSw; (try dsimp only at hSw); go_simp; try with_reducible rfl
                try simp only [Act.put, List.setIfInBounds_toArray, List.set_cons_zero, List.set_cons_succ]
                refine wpAnyH_take (i := 6) (v := ?_) nthe6 (by kernel_rfl) (by kernel_rfl) (by kernel_rfl) (fun _ _ _ h => h) (Or.inl ⟨by rfl, ?_⟩) sH ?_
                rotate_left
                · intro wS hSw; (try dsimp only at hSw); go_simp; try with_reducible rfl
                try simp only [Act.put, List.setIfInBounds_toArray, List.set_cons_zero, List.set_cons_succ]
                refine wpAnyH_take (i := 7) (v := ?_) nthe7 (by kernel_rfl) (by kernel_rfl) (by kernel_rfl) (fun _ _ _ h => h) (Or.inl ⟨by rfl, ?_⟩) sH ?_
                rotate_left
                · intro wS hSw; (try dsimp only at hSw); go_simp; try with_reducible rfl
                try simp only [Act.put, List.setIfInBounds_toArray, List.set_cons_zero, List.set_cons_succ]
                refine wpAnyH_take (i := 10) (v := ?_) nthe10 (by kernel_rfl) (by kernel_rfl) (by kernel_rfl) (fun _ _ _ h => h) (Or.inl ⟨by rfl, ?_⟩) sH ?_
                rotate_left
                · intro wS hSw; (try dsimp only at hSw); go_simp; try with_reducible rfl
                try simp only [Act.put, List.setIfInBounds_toArray, List.set_cons_zero, List.set_cons_succ]
                refine wpAnyH_ready (rs := [8]) (by kernel_rfl) (by simp) (AllReadyH.cons nthe8 (fun KON hKON => ?_) AllReadyH.nil)
                clear sH
                go_simp
                refine (l05Add_any (wr.drew) _ _ m d y (f + 1) la ha lb hb (HSV.out.below (BW.out.trans ((below_drw (Below.refl wr.heap.size wr)).mono hwr)) hha) (Nat.le_trans hha (Nat.le_trans hwr (below_drw (Below.refl wr.heap.size wr)).size)) (HSU.out.below (BW.out.trans ((below_drw (Below.refl wr.heap.size wr)).mono hwr)) hhb) (Nat.le_trans hhb (Nat.le_trans hwr (below_drw (Below.refl wr.heap.size wr)).size)) (by omega) (fun k hk => (HTY.out (f + 1) (by omega) k hk).1) (fun k hk => (HTY.out (f + 1) (by omega) k hk).2)).mono ?_
                rintro e wA ⟨vwA, gA, rfl, owA, hgwA, hbwA⟩
                obtain ⟨cwA, rfl⟩ := owA.shape
                have BwA : Below wr.heap.size wr wA := (below_drw (Below.refl wr.heap.size wr)).trans (hbwA.mono (below_drw (Below.refl wr.heap.size wr)).size)
                refine hKON.out _ _ (KS _ BwA) (fun sH => ?_)
                clear hKON KON
                try simp only [Act.put, List.setIfInBounds_toArray, List.set_cons_zero, List.set_cons_succ]
                refine wpAnyH_ready (rs := [9]) (by kernel_rfl) (by simp) (AllReadyH.cons nthe9 (fun KON hKON => ?_) AllReadyH.nil)
                clear sH
                go_simp
                have hen := l10Energy_any (wA) _ n N m P lo hi (HV.out.below (BW.out.trans (BwA.mono hwr)) hhi) (Nat.le_trans hhi (Nat.le_trans hwr BwA.size)) HBN.out _ _ gA (gA + 1) owA.sl owA.lt (HIN.out (f + 1) (by omega) (by omega))
                rw [HE1.out] at hen
                refine hen.mono ?_
                clear hen
                rintro e wB ⟨rfl, hbwB⟩
                have BwB : Below wr.heap.size wr wB := BwA.trans (hbwB.mono BwA.size)
                refine hKON.out _ _ (KS _ BwB) (fun sH => ?_)
                clear hKON KON
                try simp only [Act.put, List.setIfInBounds_toArray, List.set_cons_zero, List.set_cons_succ]
                refine wpAnyH_take (i := 11) (v := ?_) nthe11 (by kernel_rfl) (by kernel_rfl) (by kernel_rfl) (fun _ _ _ h => h) (Or.inl ⟨by rfl, ?_⟩) sH ?_
                rotate_left
                · intro wS hSw; (try dsimp only at hSw); go_simp; try with_reducible rfl
                try simp only [Act.put, List.setIfInBounds_toArray, List.set_cons_zero, List.set_cons_succ]
                refine wpAnyH_take (i := 12) (v := ?_) nthe12 (by kernel_rfl) (by kernel_rfl) (by kernel_rfl) (fun _ _ _ h => h) (Or.inl ⟨by rfl, ?_⟩) sH ?_
                rotate_left
                · intro wS hSw; (try dsimp only at hSw); go_simp; try with_reducible rfl
                try simp only [Act.put, List.setIfInBounds_toArray, List.set_cons_zero, List.set_cons_succ]
                refine wpAnyH_done (by kernel_rfl) ?_ _
                refine NoPanic.normal ?_
                by_cases he : e1 = e0
                · have hq : (e1 == e0) = true := by simpa using he
                  have hw2 : IntKind.i64.wrap (f + 1 + 1) = f + 1 + 1 := IntWalk.i64_in _ (by omega)
                  have hfH : f < H := by omega
                  by_cases hneg : f < 0
                  · have HT := Lib.hid (HTT.out he hneg)
                    have hn2 : (f + 1).natAbs ≤ f.natAbs := by omega
                    have hd2 : decide ((f + 1).natAbs ≤ f.natAbs) = true := decide_eq_true hn2
                    have HEE := Lib.hid he
                    clear he hneg HTT HTF HTN
                    go_wp2_with (go_at_call 63; refine (absS_any _ _ (by omega) (by omega)).mono ?_; rintro e w' ⟨rfl, rfl⟩)
                    go_roundw
                    case rel => exact ⟨.inr ⟨by rw [HT.out], by rw [show f + 1 + 1 = f + 2 by omega], hfH, HEE.out⟩, HL.out.trans (BwB.mono HL.out.size)⟩
                    case measure => simp [intOf]; omega
                  · have HT := Lib.hid (HTF.out he hneg)
                    have hn2 : ¬ (f + 1).natAbs ≤ f.natAbs := by omega
                    have hd2 : decide ((f + 1).natAbs ≤ f.natAbs) = false := decide_eq_false hn2
                    have HEE := Lib.hid he
                    clear he hneg HTT HTF HTN
                    go_wp2_with (go_at_call 63; refine (absS_any _ _ (by omega) (by omega)).mono ?_; rintro e w' ⟨rfl, rfl⟩)
                    go_roundw
                    case rel => exact ⟨.inr ⟨by rw [HT.out], by rw [show f + 1 + 1 = f + 2 by omega], hfH, HEE.out⟩, HL.out.trans (BwB.mono HL.out.size)⟩
                    case measure => simp [intOf]; omega
                · have hq : (e1 == e0) = false := by simpa using he
                  have HT := Lib.hid ((HTN.out he).symm.trans HLS.out)
                  clear he HTT HTF HTN
                  go_wp2_with fail
                  go_ret
                  exact ⟨ret_i HT.out, BW.out.trans (BwB.mono BW.out.size)⟩
              · have hd : decide (f + 1 ≤ H) = false := decide_eq_false hk
                have HT := Lib.hid (show f = bstT m P d y by rw [← HLS.out, HTH.out, if_neg (fun h => by omega)])
                clear hk
                go_upto_region 17 with (fail)
                refine wp_region_noPanic ?_
                refine wp_region_held_drew (S := fun w' : World => Below wr.heap.size wr w' ∧ w'.rangeAt w.heap.size 0 [.slice p0 n c0, .slice p1 m c1]) (by kernel_rfl) (KS _ (below_drw (Below.refl _ _))) (fun sH => ?_)
                refine wpAnyH_take (i := 0) (v := ?_) nthe0 (by kernel_rfl) (by kernel_rfl) (by kernel_rfl) (fun _ _ _ h => h) (Or.inl ⟨by rfl, ?_⟩) sH ?_
                rotate_left
                · intro wS hSw; (try dsimp only at hSw); go_simp; try with_reducible rfl
                try simp only [Act.put, List.setIfInBounds_toArray, List.set_cons_zero, List.set_cons_succ]
                refine wpAnyH_take (i := 1) (v := ?_) nthe1 (by kernel_rfl) (by kernel_rfl) (by kernel_rfl) (fun _ _ _ h => h) (Or.inl ⟨by rfl, ?_⟩) sH ?_
                rotate_left
                · intro wS hSw; (try dsimp only at hSw); go_simp; try with_reducible rfl
                try simp only [Act.put, List.setIfInBounds_toArray, List.set_cons_zero, List.set_cons_succ]
                refine wpAnyH_take (i := 2) (v := ?_) nthe2 (by kernel_rfl) (by kernel_rfl) (by kernel_rfl) (fun _ _ _ h => h) (Or.inl ⟨by rfl, ?_⟩) sH ?_
                rotate_left
                · intro wS hSw; (try dsimp only at hSw); go_simp; try with_reducible rfl
                try simp only [Act.put, List.setIfInBounds_toArray, List.set_cons_zero, List.set_cons_succ]
                refine wpAnyH_take (i := 3) (v := ?_) nthe3 (by kernel_rfl) (by kernel_rfl) (by kernel_rfl) (fun _ _ _ h => h) (Or.inl ⟨by rfl, ?_⟩) sH ?_
                rotate_left
                · intro wS hSw; (try dsimp only at hSw); go_simp; try with_reducible rfl
                try simp only [Act.put, List.setIfInBounds_toArray, List.set_cons_zero, List.set_cons_succ]
                refine wpAnyH_take (i := 4) (v := undef) nthe4 (by kernel_rfl) (by kernel_rfl) (by kernel_rfl) (fun _ _ _ h => h) (Or.inr ⟨by rfl, rfl⟩) sH ?_
                try simp only [Act.put, List.setIfInBounds_toArray, List.set_cons_zero, List.set_cons_succ]
                refine wpAnyH_take (i := 5) (v := undef) nthe5 (by kernel_rfl) (by kernel_rfl) (by kernel_rfl) (fun _ _ _ h => h) (Or.inr ⟨by rfl, rfl⟩) sH ?_
                try simp only [Act.put, List.setIfInBounds_toArray, List.set_cons_zero, List.set_cons_succ]
                refine wpAnyH_take (i := 6) (v := undef) nthe6 (by kernel_rfl) (by kernel_rfl) (by kernel_rfl) (fun _ _ _ h => h) (Or.inr ⟨by rfl, rfl⟩) sH ?_
                try simp only [Act.put, List.setIfInBounds_toArray, List.set_cons_zero, List.set_cons_succ]
                refine wpAnyH_take (i := 7) (v := undef) nthe7 (by kernel_rfl) (by kernel_rfl) (by kernel_rfl) (fun _ _ _ h => h) (Or.inr ⟨by rfl, rfl⟩) sH ?_
                try simp only [Act.put, List.setIfInBounds_toArray, List.set_cons_zero, List.set_cons_succ]
                refine wpAnyH_take (i := 8) (v := undef) nthe8 (by kernel_rfl) (by kernel_rfl) (by kernel_rfl) (fun _ _ _ h => h) (Or.inr ⟨by rfl, rfl⟩) sH ?_
                try simp only [Act.put, List.setIfInBounds_toArray, List.set_cons_zero, List.set_cons_succ]
                refine wpAnyH_take (i := 9) (v := undef) nthe9 (by kernel_rfl) (by kernel_rfl) (by kernel_rfl) (fun _ _ _ h => h) (Or.inr ⟨by rfl, rfl⟩) sH ?_
                try simp only [Act.put, List.setIfInBounds_toArray, List.set_cons_zero, List.set_cons_succ]
                refine wpAnyH_take (i := 10) (v := undef) nthe10 (by kernel_rfl) (by kernel_rfl) (by kernel_rfl) (fun _ _ _ h => h) (Or.inr ⟨by rfl, rfl⟩) sH ?_
                try simp only [Act.put, List.setIfInBounds_toArray, List.set_cons_zero, List.set_cons_succ]
                refine wpAnyH_take (i := 11) (v := undef) nthe11 (by kernel_rfl) (by kernel_rfl) (by kernel_rfl) (fun _ _ _ h => h) (Or.inr ⟨by rfl, rfl⟩) sH ?_
                try simp only [Act.put, List.setIfInBounds_toArray, List.set_cons_zero, List.set_cons_succ]
                refine wpAnyH_take (i := 12) (v := ?_) nthe12 (by kernel_rfl) (by kernel_rfl) (by kernel_rfl) (fun _ _ _ h => h) (Or.inl ⟨by rfl, ?_⟩) sH ?_
                rotate_left
                · intro wS hSw; (try dsimp only at hSw); go_simp; try with_reducible rfl
                try simp only [Act.put, List.setIfInBounds_toArray, List.set_cons_zero, List.set_cons_succ]
                refine wpAnyH_done (by kernel_rfl) ?_ _
                refine NoPanic.normal ?_
                go_wp2_with fail
                go_ret
                exact ⟨ret_i HT.out, BW.out.trans (below_drw (Below.refl _ _))⟩
            · by_cases hk : f + 2 ≤ H
              · have hd : decide (f + 2 ≤ H) = true := decide_eq_true hk
                have HE1 := Lib.hid (HEQ.out (f + 2))
                obtain ⟨q2, q3⟩ := HEB.out (f + 2) (by omega) (by omega)
                have hst2 := HSTP.out
                rw [show f + 1 + 1 = f + 2 by omega, heq] at hst2
                generalize he1 : egC P d y m (f + 2) = e1 at *
                have hq : (e1 == e0) = false := by
                  have : ¬ e1 = e0 := by omega
                  simpa using this
                clear he1 hst2
                go_upto_region 17 with (fail)
                refine wp_region_noPanic ?_
                refine wp_region_held_drew (S := fun w' : World => Below wr.heap.size wr w' ∧ w'.rangeAt w.heap.size 0 [.slice p0 n c0, .slice p1 m c1]) (by kernel_rfl) (KS _ (below_drw (Below.refl _ _))) (fun sH => ?_)
                refine wpAnyH_take (i := 0) (v := ?_) nthe0 (by kernel_rfl) (by kernel_rfl) (by kernel_rfl) (fun _ _ _ h => h) (Or.inl ⟨by rfl, ?_⟩) sH ?_
                rotate_left
                · intro wS hSw; (try dsimp only at hSw); go_simp; try with_reducible rfl
                try simp only [Act.put, List.setIfInBounds_toArray, List.set_cons_zero, List.set_cons_succ]
                refine wpAnyH_take (i := 1) (v := ?_) nthe1 (by kernel_rfl) (by kernel_rfl) (by kernel_rfl) (fun _ _ _ h => h) (Or.inl ⟨by rfl, ?_⟩) sH ?_
                rotate_left
                · intro wS hSw; (try dsimp only at hSw); go_simp; try with_reducible rfl
                try simp only [Act.put, List.setIfInBounds_toArray, List.set_cons_zero, List.set_cons_succ]
                refine wpAnyH_take (i := 2) (v := ?_) nthe2 (by kernel_rfl) (by kernel_rfl) (by kernel_rfl) (fun _ _ _ h => h) (Or.inl ⟨by rfl, ?_⟩) sH ?_
                rotate_left
                · intro wS hSw; (try dsimp only at hSw); go_simp; try with_reducible rfl
                try simp only [Act.put, List.setIfInBounds_toArray, List.set_cons_zero, List.set_cons_succ]
                refine wpAnyH_take (i := 3) (v := ?_) nthe3 (by kernel_rfl) (by kernel_rfl) (by kernel_rfl) (fun _ _ _ h => h) (Or.inl ⟨by rfl, ?_⟩) sH ?_
                rotate_left
                · intro wS hSw; (try dsimp only at hSw); go_simp; try with_reducible rfl
                try simp only [Act.put, List.setIfInBounds_toArray, List.set_cons_zero, List.set_cons_succ]
                refine wpAnyH_take (i := 4) (v := .agg #[.slice p0 n c0, .slice p1 m c1]) nthe4 (by kernel_rfl) (by kernel_rfl) (by kernel_rfl) (fun _ _ _ h => h) (yieldsIf_load_mid (by rfl) _ _ rfl w.heap.size 0 rfl [.slice p0 n c0, .slice p1 m c1] _ (fun _ h => h.2) UN rfl (by exact nN)) sH ?_
                try simp only [Act.put, List.setIfInBounds_toArray, List.set_cons_zero, List.set_cons_succ]
                refine wpAnyH_take (i := 5) (v := ?_) nthe5 (by kernel_rfl) (by kernel_rfl) (by kernel_rfl) (fun _ _ _ h => h) (Or.inl ⟨by rfl, ?_⟩) sH ?_
                rotate_left
                · intro wS hSw; (try dsimp only at hSw); go_simp; try with_reducible rfl
                try simp only [Act.put, List.setIfInBounds_toArray, List.set_cons_zero, List.set_cons_succ]
                refine wpAnyH_take (i := 6) (v := ?_) nthe6 (by kernel_rfl) (by kernel_rfl) (by kernel_rfl) (fun _ _ _ h => h) (Or.inl ⟨by rfl, ?_⟩) sH ?_
                rotate_left
                · intro wS hSw; (try dsimp only at hSw); go_simp; try with_reducible rfl
                try simp only [Act.put, List.setIfInBounds_toArray, List.set_cons_zero, List.set_cons_succ]
                refine wpAnyH_take (i := 7) (v := ?_) nthe7 (by kernel_rfl) (by kernel_rfl) (by kernel_rfl) (fun _ _ _ h => h) (Or.inl ⟨by rfl, ?_⟩) sH ?_
                rotate_left
                · intro wS hSw; (try dsimp only at hSw); go_simp; try with_reducible rfl
                try simp only [Act.put, List.setIfInBounds_toArray, List.set_cons_zero, List.set_cons_succ]
                refine wpAnyH_take (i := 10) (v := ?_) nthe10 (by kernel_rfl) (by kernel_rfl) (by kernel_rfl) (fun _ _ _ h => h) (Or.inl ⟨by rfl, ?_⟩) sH ?_
                rotate_left
                · intro wS hSw; (try dsimp only at hSw); go_simp; try with_reducible rfl
                try simp only [Act.put, List.setIfInBounds_toArray, List.set_cons_zero, List.set_cons_succ]
                refine wpAnyH_ready (rs := [8]) (by kernel_rfl) (by simp) (AllReadyH.cons nthe8 (fun KON hKON => ?_) AllReadyH.nil)
                clear sH
                go_simp
                refine (l05Add_any (wr.drew) _ _ m d y (f + 2) la ha lb hb (HSV.out.below (BW.out.trans ((below_drw (Below.refl wr.heap.size wr)).mono hwr)) hha) (Nat.le_trans hha (Nat.le_trans hwr (below_drw (Below.refl wr.heap.size wr)).size)) (HSU.out.below (BW.out.trans ((below_drw (Below.refl wr.heap.size wr)).mono hwr)) hhb) (Nat.le_trans hhb (Nat.le_trans hwr (below_drw (Below.refl wr.heap.size wr)).size)) (by omega) (fun k hk => (HTY.out (f + 2) (by omega) k hk).1) (fun k hk => (HTY.out (f + 2) (by omega) k hk).2)).mono ?_
                rintro e wA ⟨vwA, gA, rfl, owA, hgwA, hbwA⟩
                obtain ⟨cwA, rfl⟩ := owA.shape
                have BwA : Below wr.heap.size wr wA := (below_drw (Below.refl wr.heap.size wr)).trans (hbwA.mono (below_drw (Below.refl wr.heap.size wr)).size)
                refine hKON.out _ _ (KS _ BwA) (fun sH => ?_)
                clear hKON KON
                try simp only [Act.put, List.setIfInBounds_toArray, List.set_cons_zero, List.set_cons_succ]
                refine wpAnyH_ready (rs := [9]) (by kernel_rfl) (by simp) (AllReadyH.cons nthe9 (fun KON hKON => ?_) AllReadyH.nil)
                clear sH
                go_simp
                have hen := l10Energy_any (wA) _ n N m P lo hi (HV.out.below (BW.out.trans (BwA.mono hwr)) hhi) (Nat.le_trans hhi (Nat.le_trans hwr BwA.size)) HBN.out _ _ gA (gA + 1) owA.sl owA.lt (HIN.out (f + 2) (by omega) (by omega))
                rw [HE1.out] at hen
                refine hen.mono ?_
                clear hen
                rintro e wB ⟨rfl, hbwB⟩
                have BwB : Below wr.heap.size wr wB := BwA.trans (hbwB.mono BwA.size)
                refine hKON.out _ _ (KS _ BwB) (fun sH => ?_)
                clear hKON KON
                try simp only [Act.put, List.setIfInBounds_toArray, List.set_cons_zero, List.set_cons_succ]
                refine wpAnyH_take (i := 11) (v := ?_) nthe11 (by kernel_rfl) (by kernel_rfl) (by kernel_rfl) (fun _ _ _ h => h) (Or.inl ⟨by rfl, ?_⟩) sH ?_
                rotate_left
                · intro wS hSw; (try dsimp only at hSw); go_simp; try with_reducible rfl
                try simp only [Act.put, List.setIfInBounds_toArray, List.set_cons_zero, List.set_cons_succ]
                refine wpAnyH_take (i := 12) (v := ?_) nthe12 (by kernel_rfl) (by kernel_rfl) (by kernel_rfl) (fun _ _ _ h => h) (Or.inl ⟨by rfl, ?_⟩) sH ?_
                rotate_left
                · intro wS hSw; (try dsimp only at hSw); go_simp; try with_reducible rfl
                try simp only [Act.put, List.setIfInBounds_toArray, List.set_cons_zero, List.set_cons_succ]
                refine wpAnyH_done (by kernel_rfl) ?_ _
                refine NoPanic.normal ?_
                go_wp2_with fail
                go_ret
                exact ⟨ret_i HLS.out, BW.out.trans (BwB.mono BW.out.size)⟩
              · have hd : decide (f + 2 ≤ H) = false := decide_eq_false hk
                clear hk
                go_upto_region 17 with (fail)
                refine wp_region_noPanic ?_
                refine wp_region_held_drew (S := fun w' : World => Below wr.heap.size wr w' ∧ w'.rangeAt w.heap.size 0 [.slice p0 n c0, .slice p1 m c1]) (by kernel_rfl) (KS _ (below_drw (Below.refl _ _))) (fun sH => ?_)
                refine wpAnyH_take (i := 0) (v := ?_) nthe0 (by kernel_rfl) (by kernel_rfl) (by kernel_rfl) (fun _ _ _ h => h) (Or.inl ⟨by rfl, ?_⟩) sH ?_
                rotate_left
                · intro wS hSw; (try dsimp only at hSw); go_simp; try with_reducible rfl
                try simp only [Act.put, List.setIfInBounds_toArray, List.set_cons_zero, List.set_cons_succ]
                refine wpAnyH_take (i := 1) (v := ?_) nthe1 (by kernel_rfl) (by kernel_rfl) (by kernel_rfl) (fun _ _ _ h => h) (Or.inl ⟨by rfl, ?_⟩) sH ?_
                rotate_left
                · intro wS hSw; (try dsimp only at hSw); go_simp; try with_reducible rfl
                try simp only [Act.put, List.setIfInBounds_toArray, List.set_cons_zero, List.set_cons_succ]
                refine wpAnyH_take (i := 2) (v := ?_) nthe2 (by kernel_rfl) (by kernel_rfl) (by kernel_rfl) (fun _ _ _ h => h) (Or.inl ⟨by rfl, ?_⟩) sH ?_
                rotate_left
                · intro wS hSw; (try dsimp only at hSw); go_simp; try with_reducible rfl
                try simp only [Act.put, List.setIfInBounds_toArray, List.set_cons_zero, List.set_cons_succ]
                refine wpAnyH_take (i := 3) (v := ?_) nthe3 (by kernel_rfl) (by kernel_rfl) (by kernel_rfl) (fun _ _ _ h => h) (Or.inl ⟨by rfl, ?_⟩) sH ?_
                rotate_left
                · intro wS hSw; (try dsimp only at hSw); go_simp; try with_reducible rfl
                try simp only [Act.put, List.setIfInBounds_toArray, List.set_cons_zero, List.set_cons_succ]
                refine wpAnyH_take (i := 4) (v := undef) nthe4 (by kernel_rfl) (by kernel_rfl) (by kernel_rfl) (fun _ _ _ h => h) (Or.inr ⟨by rfl, rfl⟩) sH ?_
                try simp only [Act.put, List.setIfInBounds_toArray, List.set_cons_zero, List.set_cons_succ]
                refine wpAnyH_take (i := 5) (v := undef) nthe5 (by kernel_rfl) (by kernel_rfl) (by kernel_rfl) (fun _ _ _ h => h) (Or.inr ⟨by rfl, rfl⟩) sH ?_
                try simp only [Act.put, List.setIfInBounds_toArray, List.set_cons_zero, List.set_cons_succ]
                refine wpAnyH_take (i := 6) (v := undef) nthe6 (by kernel_rfl) (by kernel_rfl) (by kernel_rfl) (fun _ _ _ h => h) (Or.inr ⟨by rfl, rfl⟩) sH ?_
                try simp only [Act.put, List.setIfInBounds_toArray, List.set_cons_zero, List.set_cons_succ]
                refine wpAnyH_take (i := 7) (v := undef) nthe7 (by kernel_rfl) (by kernel_rfl) (by kernel_rfl) (fun _ _ _ h => h) (Or.inr ⟨by rfl, rfl⟩) sH ?_
                try simp only [Act.put, List.setIfInBounds_toArray, List.set_cons_zero, List.set_cons_succ]
                refine wpAnyH_take (i := 8) (v := undef) nthe8 (by kernel_rfl) (by kernel_rfl) (by kernel_rfl) (fun _ _ _ h => h) (Or.inr ⟨by rfl, rfl⟩) sH ?_
                try simp only [Act.put, List.setIfInBounds_toArray, List.set_cons_zero, List.set_cons_succ]
                refine wpAnyH_take (i := 9) (v := undef) nthe9 (by kernel_rfl) (by kernel_rfl) (by kernel_rfl) (fun _ _ _ h => h) (Or.inr ⟨by rfl, rfl⟩) sH ?_
                try simp only [Act.put, List.setIfInBounds_toArray, List.set_cons_zero, List.set_cons_succ]
                refine wpAnyH_take (i := 10) (v := undef) nthe10 (by kernel_rfl) (by kernel_rfl) (by kernel_rfl) (fun _ _ _ h => h) (Or.inr ⟨by rfl, rfl⟩) sH ?_
                try simp only [Act.put, List.setIfInBounds_toArray, List.set_cons_zero, List.set_cons_succ]
                refine wpAnyH_take (i := 11) (v := undef) nthe11 (by kernel_rfl) (by kernel_rfl) (by kernel_rfl) (fun _ _ _ h => h) (Or.inr ⟨by rfl, rfl⟩) sH ?_
                try simp only [Act.put, List.setIfInBounds_toArray, List.set_cons_zero, List.set_cons_succ]
                refine wpAnyH_take (i := 12) (v := ?_) nthe12 (by kernel_rfl) (by kernel_rfl) (by kernel_rfl) (fun _ _ _ h => h) (Or.inl ⟨by rfl, ?_⟩) sH ?_
                rotate_left
                · intro wS hSw; (try dsimp only at hSw); go_simp; try with_reducible rfl
                try simp only [Act.put, List.setIfInBounds_toArray, List.set_cons_zero, List.set_cons_succ]
                refine wpAnyH_done (by kernel_rfl) ?_ _
                refine NoPanic.normal ?_
                go_wp2_with fail
                go_ret
                exact ⟨ret_i HLS.out, BW.out.trans (below_drw (Below.refl _ _))⟩
end Go.Proofs.Ytfkacpphdnlkfaa.mem
