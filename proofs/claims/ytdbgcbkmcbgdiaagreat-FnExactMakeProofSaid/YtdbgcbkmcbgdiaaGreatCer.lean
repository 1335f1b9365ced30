/-
  Chapter 12: checkConnected and l12Code; MakeProof, both. Conditions: the arguments lie in the memory as lists.
-/
import Derived.Test.YtdbgcbkmcbgdiaaGreatRows
import Derived.Test.YtdbgcbkmcbgdiaaGreatLsv
import Derived.Test.YtdbgcbkmcbgdiaaGreatTvM
import Derived.Test.YtdbgcbkmcbgdiaaGreatTsM
import Derived.Test.YtdbgcbkmcbgdiaaGreatPrf
namespace Go.Proofs.YtdbgcbkmcbgdiaaGreat.mem
open Go.RowKit
set_option linter.unusedVariables false

noncomputable def coC (n : Nat) (N : Nat → Nod) (m : Nat) (P : Nat → Pip) (K : Nat) (d : Nat → Int) : Int := if svC n N m P K d = 0 then (if conB n N m P = true then 0 else 5) else svC n N m P K d
theorem coC_ok {n : Nat} {N : Nat → Nod} {m : Nat} {P : Nat → Pip} {K : Nat} {d : Nat → Int} (h : coC n N m P K d = 0) : svC n N m P K d = 0 ∧ conB n N m P = true := by
  unfold coC at h
  split at h
  · next h0 =>
    split at h
    · next h1 => exact ⟨h0, h1⟩
    · omega
  · next h0 => exact absurd h h0
noncomputable def mkC (n : Nat) (N : Nat → Nod) (m : Nat) (P : Nat → Pip) (K : Nat) (d : Nat → Int) (lv : Int) : Int := if coC n N m P K d = 0 then (if rlB lv = true then ffC n N m P K d else 2) else coC n N m P K d
noncomputable def mkN (n : Nat) (N : Nat → Nod) (m : Nat) (P : Nat → Pip) (K : Nat) (d : Nat → Int) (lv : Int) : Nat := if mkC n N m P K d lv = 0 then m else 0
noncomputable def mkL (n : Nat) (N : Nat → Nod) (m : Nat) (P : Nat → Pip) (K : Nat) (d : Nat → Int) (lv : Int) : Nat := if mkC n N m P K d lv = 0 then n else 0
def mkF (n : Nat) (m : Nat) (P : Nat → Pip) (d : Nat → Int) : Nat → Int := (rfR n m P (fflN n P m d) 32768).1
def mkV (n : Nat) (m : Nat) (P : Nat → Pip) (d : Nat → Int) (lv : Int) : Nat → Int := fun j => lvl n P m (mkF n m P d) ((0 : Nat) : Int) lv (j : Nat)
theorem mk_no {n : Nat} {N : Nat → Nod} {m : Nat} {P : Nat → Pip} {K : Nat} {d : Nat → Int} {lv c : Int} (h : mkC n N m P K d lv = c) (hc : c ≠ 0) : mkN n N m P K d lv = 0 ∧ mkL n N m P K d lv = 0 := by
  unfold mkN mkL
  rw [h]
  exact ⟨if_neg hc, if_neg hc⟩
theorem mk_yes {n : Nat} {N : Nat → Nod} {m : Nat} {P : Nat → Pip} {K : Nat} {d : Nat → Int} {lv : Int} (h : mkC n N m P K d lv = 0) : mkN n N m P K d lv = m ∧ mkL n N m P K d lv = n := by
  unfold mkN mkL
  exact ⟨if_pos h, if_pos h⟩
theorem rf_rng {n m : Nat} {P : Nat → Pip} {x : Nat → Int} {st : Int} (hx : ∀ k, k < m → -30000 ≤ x k ∧ x k ≤ 30000) : ∀ k, k < m → -30000 ≤ (rfR n m P x st).1 k ∧ (rfR n m P x st).1 k ≤ 30000 := by
  unfold rfR rlx
  exact rlS_rng _ hx
theorem mkF_rng {n : Nat} {N : Nat → Nod} {m : Nat} {P : Nat → Pip} {K : Nat} {d : Nat → Int} (h : ffC n N m P K d = 0) : ∀ k, k < m → -30000 ≤ mkF n m P d k ∧ mkF n m P d k ≤ 30000 := by
  obtain ⟨_, _, _, _, hff⟩ := ffC_ok h
  exact rf_rng (fun k hk => flQ_iff.1 (flB_iff.1 hff k hk))
theorem pi_err {w w' : World} {K L : Nat} {d l : Nat → Int} {c c' : Int} {e : Ending} (h0 : K = 0 ∧ L = 0) (hc : c = c') (he : e = .returned (.tuple #[.agg #[.slice none 0 0, .slice none 0 0], .int .i64 c])) (hb : Below w.heap.size w w') : PIPost w K d L l c' e w' := by
  obtain ⟨rfl, rfl⟩ := h0
  subst hc
  exact ⟨_, w.heap.size, w.heap.size, he, PrOwn.none_ _ _ _ _ _, Nat.le_refl _, Nat.le_refl _, hb⟩
set_option maxRecDepth 100000 in
set_option maxHeartbeats 8000000 in
theorem checkConnected_any (w : World) (v : Value) (n : Nat) (N : Nat → Nod) (m : Nat) (P : Nat → Pip) (lo hi : Nat) (h : NetAt w v n N m P lo hi) (hhi : hi ≤ w.heap.size) (hN : ∀ i, i < n → (N i).s.size ≤ 9223372036854775807) (va : Value) (K : Nat) (d : Nat → Int) (la ha : Nat) (hv : Sl w va K d la ha) (hha : ha ≤ w.heap.size) (hK9 : K ≤ 9223372036854775807) :
    Calls Tryz.prog 59 #[v, va] w (fun e w' => e = .returned (.int .i64 (coC n N m P K d)) ∧ Below w.heap.size w w') := by
  obtain ⟨p0, c0, p1, c1, rfl, hn9, hm9⟩ := h.parts
  have HV := Lib.hid h
  have HN := Lib.hid hN
  obtain ⟨pa, ca, rfl⟩ := hv.sh
  have HSV := Lib.hid hv
  have A0 := boxed w (.slice p0 n c0) (.slice p1 m c1) 27
  have B0 := below_new w (.cells #[.slice p0 n c0, .slice p1 m c1] 27)
  have hs0 : (w.alloc (.cells #[.slice p0 n c0, .slice p1 m c1] 27)).heap.size = w.heap.size + 1 := by simp
  clear h hN hv
  go_enter Tryz.func59, Tryz.ntmps59
  have e0 := A0.b0
  have e1 := A0.b1
  have f2 : w.heap.size < (w.alloc (.cells #[.slice p0 n c0, .slice p1 m c1] 27)).heap.size := by omega
  go_wp2_with fail
  refine (checkSupplies_any _ _ n N m P lo hi (HV.out.below B0 hhi) (by omega) HN.out _ K d la ha (HSV.out.below B0 hha) (by omega) hK9).mono ?_
  rintro e w1 ⟨rfl, b1⟩
  have A1 := A0.below b1 (by omega)
  have B1 := B0.trans (b1.mono (by omega))
  have hs1 := b1.size
  have g2 : w.heap.size < w1.heap.size := by omega
  have z1 := hs1
  clear A0 B0 b1 e0 e1 f2 hs1 hs0
  have f2 := g2
  clear g2
  have e0 := A1.b0
  have e1 := A1.b1
  by_cases hc : svC n N m P K d = 0
  · obtain ⟨hB, _, _⟩ := svC_ok hc
    have HSC := Lib.hid hc
    rw [hc]
    clear hc
    cases hC : conB n N m P
    ·
      go_wp2_with fail
      refine (isConnectedI_any _ _ n N m P lo hi (HV.out.below B1 hhi) (by omega) HN.out).mono ?_
      rintro e w2 ⟨rfl, b2⟩
      have A2 := A1.below b2 (by omega)
      have B2 := B1.trans (b2.mono (by omega))
      have hs2 := b2.size
      have g2 : w.heap.size < w2.heap.size := by omega
      have z2 := hs2
      clear A1 B1 b2 e0 e1 f2 hs2
      have f2 := g2
      clear g2
      have e0 := A2.b0
      have e1 := A2.b1
      rw [hC]
      have H4 := Lib.hid (show coC n N m P K d = 5 by unfold coC; rw [if_pos HSC.out, hC]; rfl)
      go_wp2_with fail
      go_ret
      exact ⟨ret_i H4.out.symm, B2⟩
    ·
      go_wp2_with fail
      refine (isConnectedI_any _ _ n N m P lo hi (HV.out.below B1 hhi) (by omega) HN.out).mono ?_
      rintro e w2 ⟨rfl, b2⟩
      have A2 := A1.below b2 (by omega)
      have B2 := B1.trans (b2.mono (by omega))
      have hs2 := b2.size
      have g2 : w.heap.size < w2.heap.size := by omega
      have z2 := hs2
      clear A1 B1 b2 e0 e1 f2 hs2
      have f2 := g2
      clear g2
      have e0 := A2.b0
      have e1 := A2.b1
      rw [hC]
      have H4 := Lib.hid (show coC n N m P K d = 0 by unfold coC; rw [if_pos HSC.out, hC]; rfl)
      go_wp2_with fail
      go_ret
      exact ⟨ret_i H4.out.symm, B2⟩
  · have H4 := Lib.hid (show coC n N m P K d = svC n N m P K d by unfold coC; rw [if_neg hc])
    have hb1 : (svC n N m P K d == 0) = false := by simpa using hc
    have hb2 : (svC n N m P K d != 0) = true := by simpa using hc
    clear hc
    go_wp2_with fail
    go_ret
    exact ⟨ret_i H4.out.symm, B1⟩
set_option maxRecDepth 100000 in
set_option maxHeartbeats 8000000 in
theorem l12Code_any (w : World) (v : Value) (n : Nat) (N : Nat → Nod) (m : Nat) (P : Nat → Pip) (lo hi : Nat) (h : NetAt w v n N m P lo hi) (hhi : hi ≤ w.heap.size) (hN : ∀ i, i < n → (N i).s.size ≤ 9223372036854775807) (va : Value) (K : Nat) (d : Nat → Int) (la ha : Nat) (hv : Sl w va K d la ha) (hha : ha ≤ w.heap.size) (hK9 : K ≤ 9223372036854775807) :
    Calls Tryz.prog 63 #[v, va] w (fun e w' => e = .returned (.int .i64 (coC n N m P K d)) ∧ Below w.heap.size w w') := by
  obtain ⟨p0, c0, p1, c1, rfl, hn9, hm9⟩ := h.parts
  have HV := Lib.hid h
  have HN := Lib.hid hN
  obtain ⟨pa, ca, rfl⟩ := hv.sh
  have HSV := Lib.hid hv
  have A0 := boxed w (.slice p0 n c0) (.slice p1 m c1) 27
  have B0 := below_new w (.cells #[.slice p0 n c0, .slice p1 m c1] 27)
  have hs0 : (w.alloc (.cells #[.slice p0 n c0, .slice p1 m c1] 27)).heap.size = w.heap.size + 1 := by simp
  clear h hN hv
  go_enter Tryz.func63, Tryz.ntmps63
  have e0 := A0.b0
  have e1 := A0.b1
  have f2 : w.heap.size < (w.alloc (.cells #[.slice p0 n c0, .slice p1 m c1] 27)).heap.size := by omega
  go_wp2_with fail
  refine (l06Code_any _ _ n N m P lo hi (HV.out.below B0 hhi) (by omega) HN.out _ K d la ha (HSV.out.below B0 hha) (by omega) hK9).mono ?_
  rintro e w1 ⟨rfl, b1⟩
  have A1 := A0.below b1 (by omega)
  have B1 := B0.trans (b1.mono (by omega))
  have hs1 := b1.size
  have g2 : w.heap.size < w1.heap.size := by omega
  have z1 := hs1
  clear A0 B0 b1 e0 e1 f2 hs1 hs0
  have f2 := g2
  clear g2
  have e0 := A1.b0
  have e1 := A1.b1
  by_cases hc : svC n N m P K d = 0
  · obtain ⟨hB, _, _⟩ := svC_ok hc
    have HSC := Lib.hid hc
    rw [hc]
    clear hc
    cases hC : conB n N m P
    ·
      have hcn : ((cnt n P m : Int) != 1) = true := by
        unfold conB at hC
        rw [hB] at hC
        simp only [Bool.true_and, decide_eq_false_iff_not] at hC
        simp only [bne_iff_ne, ne_eq]
        omega
      go_wp2_with fail
      refine (l04Count_any _ _ n N m P lo hi (HV.out.below B1 hhi) (by omega) HN.out hB).mono ?_
      rintro e w2 ⟨rfl, b2⟩
      have A2 := A1.below b2 (by omega)
      have B2 := B1.trans (b2.mono (by omega))
      have hs2 := b2.size
      have g2 : w.heap.size < w2.heap.size := by omega
      have z2 := hs2
      clear A1 B1 b2 e0 e1 f2 hs2
      have f2 := g2
      clear g2
      have e0 := A2.b0
      have e1 := A2.b1
      have H4 := Lib.hid (show coC n N m P K d = 5 by unfold coC; rw [if_pos HSC.out, hC]; rfl)
      go_wp2_with fail
      go_ret
      exact ⟨ret_i H4.out.symm, B2⟩
    ·
      have hcn : ((cnt n P m : Int) != 1) = false := by
        have := (conB_one hC).2
        rw [this]
        rfl
      go_wp2_with fail
      refine (l04Count_any _ _ n N m P lo hi (HV.out.below B1 hhi) (by omega) HN.out hB).mono ?_
      rintro e w2 ⟨rfl, b2⟩
      have A2 := A1.below b2 (by omega)
      have B2 := B1.trans (b2.mono (by omega))
      have hs2 := b2.size
      have g2 : w.heap.size < w2.heap.size := by omega
      have z2 := hs2
      clear A1 B1 b2 e0 e1 f2 hs2
      have f2 := g2
      clear g2
      have e0 := A2.b0
      have e1 := A2.b1
      have H4 := Lib.hid (show coC n N m P K d = 0 by unfold coC; rw [if_pos HSC.out, hC]; rfl)
      go_wp2_with fail
      go_ret
      exact ⟨ret_i H4.out.symm, B2⟩
  · have H4 := Lib.hid (show coC n N m P K d = svC n N m P K d by unfold coC; rw [if_neg hc])
    have hb1 : (svC n N m P K d == 0) = false := by simpa using hc
    have hb2 : (svC n N m P K d != 0) = true := by simpa using hc
    clear hc
    go_wp2_with fail
    go_ret
    exact ⟨ret_i H4.out.symm, B1⟩
set_option maxRecDepth 100000 in
set_option maxHeartbeats 8000000 in
theorem makeProofI_any (w : World) (v : Value) (n : Nat) (N : Nat → Nod) (m : Nat) (P : Nat → Pip) (lo hi : Nat) (h : NetAt w v n N m P lo hi) (hhi : hi ≤ w.heap.size) (hN : ∀ i, i < n → (N i).s.size ≤ 9223372036854775807) (va : Value) (K : Nat) (d : Nat → Int) (la ha : Nat) (hv : Sl w va K d la ha) (hha : ha ≤ w.heap.size) (hK9 : K ≤ 9223372036854775807) (lv : Int) :
    Calls Tryz.prog 16 #[v, va, .int .i64 lv] w (PIPost w (mkN n N m P K d lv) (mkF n m P d) (mkL n N m P K d lv) (mkV n m P d lv) (mkC n N m P K d lv)) := by
  obtain ⟨p0, c0, p1, c1, rfl, hn9, hm9⟩ := h.parts
  have HV := Lib.hid h
  have HN := Lib.hid hN
  obtain ⟨pa, ca, rfl⟩ := hv.sh
  have HSV := Lib.hid hv
  have A0 := (boxed w (.slice p0 n c0) (.slice p1 m c1) 27).keep (Below.heap_alloc _ (.cells #[.slice none 0 0, .slice none 0 0] 38) _ (by rw [szal]; omega))
  have R0 := boxed (w.alloc (.cells #[.slice p0 n c0, .slice p1 m c1] 27)) (.slice none 0 0) (.slice none 0 0) 38
  simp only [szal] at R0
  have B0 := bel2 w (.cells #[.slice p0 n c0, .slice p1 m c1] 27) (.cells #[.slice none 0 0, .slice none 0 0] 38)
  have hs0 : ((w.alloc (.cells #[.slice p0 n c0, .slice p1 m c1] 27)).alloc (.cells #[.slice none 0 0, .slice none 0 0] 38)).heap.size = w.heap.size + 1 + 1 := by simp
  clear h hN hv
  go_enter Tryz.func16, Tryz.ntmps16
  go_upto_region 1 with (fail)
  obtain ⟨w1, hw1⟩ : ∃ w1, (w.alloc (.cells #[.slice p0 n c0, .slice p1 m c1] 27)).alloc (.cells #[.slice none 0 0, .slice none 0 0] 38) = w1 := ⟨_, rfl⟩
  rw [hw1] at A0 R0 B0 hs0 ⊢
  have f2 := Nat.le_antisymm_iff.1 hs0
  clear hw1 hs0
  have e0 := A0.b0
  have e1 := A0.b1
  have r0 := R0.b0
  have r1 := R0.b1
  have r2 := R0.free 0
  have r3 := R0.free 1
  go_wp2_with fail
  refine (checkConnected_any _ _ n N m P lo hi (HV.out.below B0 hhi) (by omega) HN.out _ K d la ha (HSV.out.below B0 hha) (by omega) hK9).mono ?_
  rintro e w2 ⟨rfl, b2⟩
  have A2 := A0.below b2 (by omega)
  have R2 := R0.below b2 (by omega)
  have B2 := B0.trans (b2.mono (by omega))
  have z2 := b2.size
  have u2 : w.heap.size + 1 < w2.heap.size := by omega
  clear A0 R0 B0 b2 e0 e1 r0 r1 r2 r3
  have e0 := A2.b0
  have e1 := A2.b1
  have r0 := R2.b0
  have r1 := R2.b1
  have r2 := R2.free 0
  have r3 := R2.free 1
  by_cases hc : coC n N m P K d = 0
  rotate_left 1
  · have hb1 : (coC n N m P K d != 0) = true := by simpa using hc
    have hb2 : (coC n N m P K d == 0) = false := by simpa using hc
    have HNE := Lib.hid hc
    have H4 := Lib.hid (show mkC n N m P K d lv = coC n N m P K d by unfold mkC; rw [if_neg hc])
    have H3 := Lib.hid (mk_no H4.out HNE.out)
    clear hc
    have CX := Lib.hid (below_set (below_set B2 (b := w.heap.size + 1) (by omega) 0 (.slice none 0 0)) (b := w.heap.size + 1) (by omega) 1 (.slice none 0 0))
    go_wp2_with fail
    refine bodyPost_ret (v := .tuple #[.agg #[.slice none 0 0, .slice none 0 0], .int .i64 (coC n N m P K d)]) (by simp [results, Tryz.results16, go_sem, r0, r1]) rfl (pi_err H3.out H4.out.symm rfl CX.out)
  obtain ⟨hsv, hcon⟩ := coC_ok hc
  obtain ⟨hB, hcn⟩ := conB_one hcon
  obtain ⟨hn1, hn24, hm40⟩ := net_sz hB
  have HSC := Lib.hid hc
  rw [hc]
  clear hc hsv hcon
  cases hy : rlB lv
  ·
    have H4 := Lib.hid (show mkC n N m P K d lv = 2 by unfold mkC; rw [if_pos HSC.out, hy]; rfl)
    have H3 := Lib.hid (mk_no H4.out (by omega))
    have CX := Lib.hid (below_set (below_set B2 (b := w.heap.size + 1) (by omega) 0 (.slice none 0 0)) (b := w.heap.size + 1) (by omega) 1 (.slice none 0 0))
    go_wp2_with (go_at_call 60; refine (isRootLevel_any lv _).mono ?_; rintro e w' ⟨rfl, rfl⟩; rw [hy])
    refine bodyPost_ret (v := .tuple #[.agg #[.slice none 0 0, .slice none 0 0], .int .i64 2]) (by simp [results, Tryz.results16, go_sem, r0, r1]) rfl (pi_err H3.out H4.out.symm rfl CX.out)
  have HMF := Lib.hid (show mkC n N m P K d lv = ffC n N m P K d by unfold mkC; rw [if_pos HSC.out, hy]; rfl)
  obtain ⟨hl0, hl1⟩ := inR_iff.1 hy
  go_wp2_with (go_at_call 60; refine (isRootLevel_any lv _).mono ?_; rintro e w' ⟨rfl, rfl⟩; rw [hy])
  refine (solveLoopsI_any _ _ n N m P lo hi (HV.out.below B2 hhi) (by omega) HN.out _ K d la ha (HSV.out.below B2 hha) (by omega) hK9).mono ?_
  rintro e w3 ⟨vr, gr, rfl, or, hgr, b3⟩
  have A3 := A2.below b3 (by omega)
  have R3 := R2.below b3 (by omega)
  have B3 := B2.trans (b3.mono (by omega))
  have z3 := b3.size
  have u3 : w.heap.size + 1 < w3.heap.size := by omega
  clear A2 R2 B2 b3 e0 e1 r0 r1 r2 r3
  have e0 := A3.b0
  have e1 := A3.b1
  have r0 := R3.b0
  have r1 := R3.b1
  have r2 := R3.free 0
  have r3 := R3.free 1
  by_cases hf : ffC n N m P K d = 0
  rotate_left 1
  · have hb1 : (ffC n N m P K d != 0) = true := by simpa using hf
    have HNE := Lib.hid hf
    have H4 := Lib.hid HMF.out
    have H3 := Lib.hid (mk_no H4.out HNE.out)
    obtain ⟨p9, c9, rfl⟩ := ownS_shE or
    clear hf or
    have CX := Lib.hid (below_set (below_set B3 (b := w.heap.size + 1) (by omega) 0 (.slice none 0 0)) (b := w.heap.size + 1) (by omega) 1 (.slice none 0 0))
    go_wp2_with fail
    refine bodyPost_ret (v := .tuple #[.agg #[.slice none 0 0, .slice none 0 0], .int .i64 (ffC n N m P K d)]) (by simp [results, Tryz.results16, go_sem, r0, r1]) rfl (pi_err H3.out H4.out.symm rfl CX.out)
  have hsn : slN n N m P K d = m := by unfold slN; rw [if_pos hf]
  have H4 := Lib.hid (HMF.out.trans hf)
  have H3 := Lib.hid (mk_yes H4.out)
  have HFR := Lib.hid (mkF_rng hf)
  rw [hf]
  rw [hsn] at or
  have OS := owns_sl1 or
  obtain ⟨p9, c9, rfl⟩ := ownS_shE or
  have HOR := Lib.hid or
  have hor := or.lt
  rw [show (rfR n m P (fflN n P m d) 32768).1 = mkF n m P d from rfl] at OS
  clear hf hsn or
  have hpc := forestLevels_any w3 _ n N m P lo hi (HV.out.below B3 hhi) (by omega) hB hcn _ (mkF n m P d) 0 _ OS (Nat.le_refl _) HFR.out 0 (by omega) lv (by omega) (by omega)
  clear OS hB hcn
  go_wp2_with fail
  refine hpc.mono ?_
  rintro e w9 ⟨g, rfl, og, hg, b9⟩
  clear hpc
  have R9 := R3.below b9 (by omega)
  have B9 := B3.trans (b9.mono (by omega))
  have HR9 := Lib.hid (HOR.out.below b9 (Nat.le_refl _))
  have HO9 := Lib.hid og
  have z9 := b9.size
  have lg := og.lt
  clear b9 og e0 e1 r0 r1 r2 r3 A3 R3 B3
  have r0 := R9.b0
  have r1 := R9.b1
  have r2 := R9.free 0
  have r3 := R9.free 1
  have CX := Lib.hid (below_set (below_set B9 (b := w.heap.size + 1) (by omega) 0 (.slice p9 m c9)) (b := w.heap.size + 1) (by omega) 1 (.slice (some ⟨g, 0, none⟩) n n))
  have UX := Lib.hid (show Upd (fun k => k = w.heap.size + 1) w9 ((w9.setCell ⟨w.heap.size + 1, 0, none⟩ (.slice p9 m c9)).setCell ⟨w.heap.size + 1, 1, none⟩ (.slice (some ⟨g, 0, none⟩) n n)) from ((Upd.of_only ((Only.refl (w.heap.size + 1) w9).setCell 0 (.slice p9 m c9))).trans (Upd.of_only ((Only.refl (w.heap.size + 1) (w9.setCell ⟨w.heap.size + 1, 0, none⟩ (.slice p9 m c9))).setCell 1 (.slice (some ⟨g, 0, none⟩) n n)))))
  go_wp2_with fail
  refine bodyPost_ret (v := .tuple #[.agg #[.slice p9 m c9, .slice (some ⟨g, 0, none⟩) n n], .int .i64 0]) (by simp [results, Tryz.results16, go_sem, r0, r1]) rfl ?_
  rw [H3.out.1, H3.out.2, H4.out]
  exact ⟨_, gr, g, rfl, ⟨_, _, rfl, HR9.out.upd UX.out (.inr (fun e => by (have e' : gr = w.heap.size + 1 := e); omega)), HO9.out.ownS.upd UX.out (.inr (fun e => by (have e' : g = w.heap.size + 1 := e); omega)), by omega⟩, by omega, by omega, CX.out⟩
set_option maxRecDepth 100000 in
set_option maxHeartbeats 8000000 in
theorem makeProofS_any (w : World) (v : Value) (n : Nat) (N : Nat → Nod) (m : Nat) (P : Nat → Pip) (lo hi : Nat) (h : NetAt w v n N m P lo hi) (hhi : hi ≤ w.heap.size) (hN : ∀ i, i < n → (N i).s.size ≤ 9223372036854775807) (va : Value) (K : Nat) (d : Nat → Int) (la ha : Nat) (hv : Sl w va K d la ha) (hha : ha ≤ w.heap.size) (hK9 : K ≤ 9223372036854775807) (lv : Int) :
    Calls Tryz.prog 17 #[v, va, .int .i64 lv] w (PIPost w (mkN n N m P K d lv) (mkF n m P d) (mkL n N m P K d lv) (mkV n m P d lv) (mkC n N m P K d lv)) := by
  obtain ⟨p0, c0, p1, c1, rfl, hn9, hm9⟩ := h.parts
  have HV := Lib.hid h
  have HN := Lib.hid hN
  obtain ⟨pa, ca, rfl⟩ := hv.sh
  have HSV := Lib.hid hv
  have A0 := (boxed w (.slice p0 n c0) (.slice p1 m c1) 27).keep (Below.heap_alloc _ (.cells #[.slice none 0 0, .slice none 0 0] 38) _ (by rw [szal]; omega))
  have R0 := boxed (w.alloc (.cells #[.slice p0 n c0, .slice p1 m c1] 27)) (.slice none 0 0) (.slice none 0 0) 38
  simp only [szal] at R0
  have B0 := bel2 w (.cells #[.slice p0 n c0, .slice p1 m c1] 27) (.cells #[.slice none 0 0, .slice none 0 0] 38)
  have hs0 : ((w.alloc (.cells #[.slice p0 n c0, .slice p1 m c1] 27)).alloc (.cells #[.slice none 0 0, .slice none 0 0] 38)).heap.size = w.heap.size + 1 + 1 := by simp
  clear h hN hv
  go_enter Tryz.func17, Tryz.ntmps17
  go_upto_region 1 with (fail)
  obtain ⟨w1, hw1⟩ : ∃ w1, (w.alloc (.cells #[.slice p0 n c0, .slice p1 m c1] 27)).alloc (.cells #[.slice none 0 0, .slice none 0 0] 38) = w1 := ⟨_, rfl⟩
  rw [hw1] at A0 R0 B0 hs0 ⊢
  have f2 := Nat.le_antisymm_iff.1 hs0
  clear hw1 hs0
  have e0 := A0.b0
  have e1 := A0.b1
  have r0 := R0.b0
  have r1 := R0.b1
  have r2 := R0.free 0
  have r3 := R0.free 1
  go_wp2_with fail
  refine (l12Code_any _ _ n N m P lo hi (HV.out.below B0 hhi) (by omega) HN.out _ K d la ha (HSV.out.below B0 hha) (by omega) hK9).mono ?_
  rintro e w2 ⟨rfl, b2⟩
  have A2 := A0.below b2 (by omega)
  have R2 := R0.below b2 (by omega)
  have B2 := B0.trans (b2.mono (by omega))
  have z2 := b2.size
  have u2 : w.heap.size + 1 < w2.heap.size := by omega
  clear A0 R0 B0 b2 e0 e1 r0 r1 r2 r3
  have e0 := A2.b0
  have e1 := A2.b1
  have r0 := R2.b0
  have r1 := R2.b1
  have r2 := R2.free 0
  have r3 := R2.free 1
  by_cases hc : coC n N m P K d = 0
  rotate_left 1
  · have hb1 : (coC n N m P K d != 0) = true := by simpa using hc
    have hb2 : (coC n N m P K d == 0) = false := by simpa using hc
    have HNE := Lib.hid hc
    have H4 := Lib.hid (show mkC n N m P K d lv = coC n N m P K d by unfold mkC; rw [if_neg hc])
    have H3 := Lib.hid (mk_no H4.out HNE.out)
    clear hc
    have CX := Lib.hid (below_set (below_set B2 (b := w.heap.size + 1) (by omega) 0 (.slice none 0 0)) (b := w.heap.size + 1) (by omega) 1 (.slice none 0 0))
    go_wp2_with fail
    refine bodyPost_ret (v := .tuple #[.agg #[.slice none 0 0, .slice none 0 0], .int .i64 (coC n N m P K d)]) (by simp [results, Tryz.results17, go_sem, r0, r1]) rfl (pi_err H3.out H4.out.symm rfl CX.out)
  obtain ⟨hsv, hcon⟩ := coC_ok hc
  obtain ⟨hB, hcn⟩ := conB_one hcon
  obtain ⟨hn1, hn24, hm40⟩ := net_sz hB
  have HSC := Lib.hid hc
  rw [hc]
  clear hc hsv hcon
  cases hy : rlB lv
  ·
    have H4 := Lib.hid (show mkC n N m P K d lv = 2 by unfold mkC; rw [if_pos HSC.out, hy]; rfl)
    have H3 := Lib.hid (mk_no H4.out (by omega))
    have CX := Lib.hid (below_set (below_set B2 (b := w.heap.size + 1) (by omega) 0 (.slice none 0 0)) (b := w.heap.size + 1) (by omega) 1 (.slice none 0 0))
    go_wp2_with (go_at_call 64; refine (l07Level_any lv _).mono ?_; rintro e w' ⟨rfl, rfl⟩; rw [hy])
    refine bodyPost_ret (v := .tuple #[.agg #[.slice none 0 0, .slice none 0 0], .int .i64 2]) (by simp [results, Tryz.results17, go_sem, r0, r1]) rfl (pi_err H3.out H4.out.symm rfl CX.out)
  have HMF := Lib.hid (show mkC n N m P K d lv = ffC n N m P K d by unfold mkC; rw [if_pos HSC.out, hy]; rfl)
  obtain ⟨hl0, hl1⟩ := inR_iff.1 hy
  go_wp2_with (go_at_call 64; refine (l07Level_any lv _).mono ?_; rintro e w' ⟨rfl, rfl⟩; rw [hy])
  refine (solveLoopsS_any _ _ n N m P lo hi (HV.out.below B2 hhi) (by omega) HN.out _ K d la ha (HSV.out.below B2 hha) (by omega) hK9).mono ?_
  rintro e w3 ⟨vr, gr, rfl, or, hgr, b3⟩
  have A3 := A2.below b3 (by omega)
  have R3 := R2.below b3 (by omega)
  have B3 := B2.trans (b3.mono (by omega))
  have z3 := b3.size
  have u3 : w.heap.size + 1 < w3.heap.size := by omega
  clear A2 R2 B2 b3 e0 e1 r0 r1 r2 r3
  have e0 := A3.b0
  have e1 := A3.b1
  have r0 := R3.b0
  have r1 := R3.b1
  have r2 := R3.free 0
  have r3 := R3.free 1
  by_cases hf : ffC n N m P K d = 0
  rotate_left 1
  · have hb1 : (ffC n N m P K d != 0) = true := by simpa using hf
    have HNE := Lib.hid hf
    have H4 := Lib.hid HMF.out
    have H3 := Lib.hid (mk_no H4.out HNE.out)
    obtain ⟨p9, c9, rfl⟩ := ownS_shE or
    clear hf or
    have CX := Lib.hid (below_set (below_set B3 (b := w.heap.size + 1) (by omega) 0 (.slice none 0 0)) (b := w.heap.size + 1) (by omega) 1 (.slice none 0 0))
    go_wp2_with fail
    refine bodyPost_ret (v := .tuple #[.agg #[.slice none 0 0, .slice none 0 0], .int .i64 (ffC n N m P K d)]) (by simp [results, Tryz.results17, go_sem, r0, r1]) rfl (pi_err H3.out H4.out.symm rfl CX.out)
  have hsn : slN n N m P K d = m := by unfold slN; rw [if_pos hf]
  have H4 := Lib.hid (HMF.out.trans hf)
  have H3 := Lib.hid (mk_yes H4.out)
  have HFR := Lib.hid (mkF_rng hf)
  rw [hf]
  rw [hsn] at or
  have OS := owns_sl1 or
  obtain ⟨p9, c9, rfl⟩ := ownS_shE or
  have HOR := Lib.hid or
  have hor := or.lt
  rw [show (rfR n m P (fflN n P m d) 32768).1 = mkF n m P d from rfl] at OS
  clear hf hsn or
  have hpc := l07Levels_any w3 _ n N m P lo hi (HV.out.below B3 hhi) (by omega) HN.out hB hcn _ (mkF n m P d) 0 _ OS (Nat.le_refl _) HFR.out 0 (by omega) lv (by omega) (by omega)
  clear OS hB hcn
  go_wp2_with fail
  refine hpc.mono ?_
  rintro e w9 ⟨v9, g, rfl, og, hg, b9⟩
  obtain ⟨cg, rfl⟩ := og.shape
  clear hpc
  have R9 := R3.below b9 (by omega)
  have B9 := B3.trans (b9.mono (by omega))
  have HR9 := Lib.hid (HOR.out.below b9 (Nat.le_refl _))
  have HO9 := Lib.hid og
  have z9 := b9.size
  have lg := og.lt
  clear b9 og e0 e1 r0 r1 r2 r3 A3 R3 B3
  have r0 := R9.b0
  have r1 := R9.b1
  have r2 := R9.free 0
  have r3 := R9.free 1
  have CX := Lib.hid (below_set (below_set B9 (b := w.heap.size + 1) (by omega) 0 (.slice p9 m c9)) (b := w.heap.size + 1) (by omega) 1 (.slice (some ⟨g, 0, none⟩) n cg))
  have UX := Lib.hid (show Upd (fun k => k = w.heap.size + 1) w9 ((w9.setCell ⟨w.heap.size + 1, 0, none⟩ (.slice p9 m c9)).setCell ⟨w.heap.size + 1, 1, none⟩ (.slice (some ⟨g, 0, none⟩) n cg)) from ((Upd.of_only ((Only.refl (w.heap.size + 1) w9).setCell 0 (.slice p9 m c9))).trans (Upd.of_only ((Only.refl (w.heap.size + 1) (w9.setCell ⟨w.heap.size + 1, 0, none⟩ (.slice p9 m c9))).setCell 1 (.slice (some ⟨g, 0, none⟩) n cg)))))
  go_wp2_with fail
  refine bodyPost_ret (v := .tuple #[.agg #[.slice p9 m c9, .slice (some ⟨g, 0, none⟩) n cg], .int .i64 0]) (by simp [results, Tryz.results17, go_sem, r0, r1]) rfl ?_
  rw [H3.out.1, H3.out.2, H4.out]
  exact ⟨_, gr, g, rfl, ⟨_, _, rfl, HR9.out.upd UX.out (.inr (fun e => by (have e' : gr = w.heap.size + 1 := e); omega)), HO9.out.ownS.upd UX.out (.inr (fun e => by (have e' : g = w.heap.size + 1 := e); omega)), by omega⟩, by omega, by omega, CX.out⟩
theorem agreeMakeProof (n : Nat) (N : Nat → Nod) (m : Nat) (P : Nat → Pip) (K : Nat) (d : Nat → Int) (lv : Int) (hN : ∀ i, i < n → (N i).s.size ≤ 9223372036854775807) (hn : n ≤ 2000000) (hm : m ≤ 2000000) (hK : K ≤ 2000000) :
    ∃ rn rd rm rl rc, rn ≤ 2000000 ∧ rm ≤ 2000000 ∧ (∀ w v va, NetAt w v n N m P 0 w.heap.size → Sl w va K d 0 w.heap.size → Calls Tryz.prog 16 #[v, va, .int .i64 lv] w (PIPost w rn rd rm rl rc)) ∧ (∀ w v va, NetAt w v n N m P 0 w.heap.size → Sl w va K d 0 w.heap.size → Calls Tryz.prog 17 #[v, va, .int .i64 lv] w (PIPost w rn rd rm rl rc)) :=
  ⟨mkN n N m P K d lv, mkF n m P d, mkL n N m P K d lv, mkV n m P d lv, mkC n N m P K d lv, by unfold mkN; split <;> omega, by unfold mkL; split <;> omega, fun w v va h hv => makeProofI_any w v n N m P 0 _ h (Nat.le_refl _) hN va K d 0 _ hv (Nat.le_refl _) (by omega) lv, fun w v va h hv => makeProofS_any w v n N m P 0 _ h (Nat.le_refl _) hN va K d 0 _ hv (Nat.le_refl _) (by omega) lv⟩
end Go.Proofs.YtdbgcbkmcbgdiaaGreat.mem
