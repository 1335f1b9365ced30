/-
  Several texts in one: Lvt, Lvg.
-/
import Derived.Test.YtlcegdamjbpfpaaGreatRows
import Derived.Test.YtlcegdamjbpfpaaGreatTvM
import Derived.Test.YtlcegdamjbpfpaaGreatTsM
namespace Go.Proofs.YtlcegdamjbpfpaaGreat.mem
open Go.RowKit
set_option linter.unusedVariables false

theorem owns_sl0 {w : World} {v : Value} {n b : Nat} {d : Nat → Int} (h : OwnS w v n 1 (fun i _ => .int .i64 (d i)) b) : Sl w v n d 0 w.heap.size := by
  obtain ⟨p, cap, h1, h2, h3, h4 | ⟨h4, h5⟩⟩ := h.ex
  · exact ⟨p, cap, h1, .inl h4⟩
  · refine ⟨p, cap, h1, .inr ⟨b, 0, h4, Nat.zero_le _, h5.lt, fun k hk => ?_⟩⟩
    have := h5.cell k 0 hk (by omega)
    rw [Nat.mul_one, Nat.add_zero] at this
    rw [Nat.zero_add]
    exact this
theorem ownS_sh {w : World} {v : Value} {n z b : Nat} {c : Nat → Nat → Value} (h : OwnS w v n z c b) : ∃ p cap, v = .slice p n cap := by
  obtain ⟨p, cap, h1, _⟩ := h.ex
  exact ⟨p, cap, h1⟩
theorem ffC_ok2 {n : Nat} {N : Nat → Nod} {m : Nat} {P : Nat → Pip} {K : Nat} {d : Nat → Int} (h : ffC n N m P K d = 0) : flB (fflN n P m d) m = true := by
  unfold ffC at h
  split at h
  · split at h
    · split at h
      · next h1 => exact h1
      · omega
    · omega
  · next h1 => exact absurd h h1
set_option maxRecDepth 100000 in
set_option maxHeartbeats 8000000 in
theorem treeFlowsI_any (w : World) (v : Value) (n : Nat) (N : Nat → Nod) (m : Nat) (P : Nat → Pip) (lo hi : Nat) (h : NetAt w v n N m P lo hi) (hhi : hi ≤ w.heap.size) (hN : ∀ i, i < n → (N i).s.size ≤ 9223372036854775807) (va : Value) (K : Nat) (d : Nat → Int) (la ha : Nat) (hv : Sl w va K d la ha) (hha : ha ≤ w.heap.size) (hK9 : K ≤ 9223372036854775807) :
    Calls Tryz.prog 26 #[v, va] w (LIPost w (tfN n N m P K d) (fflN n P m d) (tfC n N m P K d)) := by
  obtain ⟨p0, c0, p1, c1, rfl, hn9, hm9⟩ := h.parts
  have HV := Lib.hid h
  have HN := Lib.hid hN
  obtain ⟨pa, ca, rfl⟩ := hv.sh
  have HSV := Lib.hid hv
  have A0 := boxed w (.slice p0 n c0) (.slice p1 m c1) 33
  have B0 := below_new w (.cells #[.slice p0 n c0, .slice p1 m c1] 33)
  have hs0 : (w.alloc (.cells #[.slice p0 n c0, .slice p1 m c1] 33)).heap.size = w.heap.size + 1 := by simp
  clear h hN hv
  go_enter Tryz.func26, Tryz.ntmps26
  have e0 := A0.b0
  have e1 := A0.b1
  go_wp2_with fail
  refine (checkSupplies_any _ _ n N m P lo hi (HV.out.below B0 hhi) (by omega) HN.out _ K d la ha (HSV.out.below B0 hha) (by omega) hK9).mono ?_
  rintro e w1 ⟨rfl, b1⟩
  have A1 := A0.below b1 (by omega)
  have B1 := B0.trans (b1.mono (by omega))
  have hs1 := b1.size
  have f2 : w.heap.size < w1.heap.size := by omega
  clear A0 B0 b1 e0 e1 hs0 hs1
  have e0 := A1.b0
  have e1 := A1.b1
  by_cases hc : svC n N m P K d = 0
  · have HFC := Lib.hid hc
    rw [hc]
    cases hT : treeB n N m P
    ·
      clear hc
      go_wp2_with fail
      refine (isTreeI_any _ _ n N m P lo hi (HV.out.below B1 hhi) (by omega) HN.out).mono ?_
      rintro e w2 ⟨rfl, b2⟩
      have A2 := A1.below b2 (by omega)
      have B2 := B1.trans (b2.mono (by omega))
      have hs2 := b2.size
      clear A1 B1 b2 e0 e1
      have g2 : w.heap.size < w2.heap.size := by omega
      clear f2 hs2
      have f2 := g2
      clear g2
      have e0 := A2.b0
      have e1 := A2.b1
      rw [hT]
      have H4 := Lib.hid (show tfC n N m P K d = 5 by unfold tfC; rw [if_pos HFC.out, hT]; rfl)
      have H3 := Lib.hid (show tfN n N m P K d = 0 by unfold tfN; rw [H4.out]; rfl)
      go_wp2_with fail
      go_ret2
      exact li_err H3.out H4.out.symm rfl B2
    ·
      clear hc
      go_wp2_with fail
      refine (isTreeI_any _ _ n N m P lo hi (HV.out.below B1 hhi) (by omega) HN.out).mono ?_
      rintro e w2 ⟨rfl, b2⟩
      have A2 := A1.below b2 (by omega)
      have B2 := B1.trans (b2.mono (by omega))
      have hs2 := b2.size
      clear A1 B1 b2 e0 e1
      have g2 : w.heap.size < w2.heap.size := by omega
      clear f2 hs2
      have f2 := g2
      clear g2
      have e0 := A2.b0
      have e1 := A2.b1
      rw [hT]
      have H4 := Lib.hid (show tfC n N m P K d = ffC n N m P K d by unfold tfC; rw [if_pos HFC.out, hT]; rfl)
      have H3 := Lib.hid (show tfN n N m P K d = ffN n N m P K d by unfold tfN ffN; rw [H4.out])
      go_wp2_with fail
      refine (forestFlowsI_any _ _ n N m P lo hi (HV.out.below B2 hhi) (by omega) HN.out _ K d la ha (HSV.out.below B2 hha) (by omega) hK9).mono ?_
      rintro e w9 ⟨v9, g, rfl, og, hg, b9⟩
      obtain ⟨p9, c9, rfl⟩ := ownS_sh og
      have HB9 := Lib.hid (B2.trans (b9.mono (by omega)))
      have HO9 := Lib.hid og
      clear og b9 e0 e1
      go_wp2_with fail
      go_ret2
      exact ⟨_, g, by rw [H4.out]; rfl, by rw [H3.out]; exact HO9.out, by omega, HB9.out⟩
  · have hb1 : (svC n N m P K d != 0) = true := by simpa using hc
    have H4 := Lib.hid (show tfC n N m P K d = svC n N m P K d by unfold tfC; rw [if_neg hc])
    have H3 := Lib.hid (show tfN n N m P K d = 0 by unfold tfN; rw [H4.out, if_neg hc])
    clear hc
    go_wp2_with fail
    go_ret2
    exact li_err H3.out H4.out.symm rfl B1
set_option maxRecDepth 100000 in
set_option maxHeartbeats 8000000 in
theorem treeLevelsI_any (w : World) (v : Value) (n : Nat) (N : Nat → Nod) (m : Nat) (P : Nat → Pip) (lo hi : Nat) (h : NetAt w v n N m P lo hi) (hhi : hi ≤ w.heap.size) (hN : ∀ i, i < n → (N i).s.size ≤ 9223372036854775807) (va : Value) (K : Nat) (d : Nat → Int) (la ha : Nat) (hv : Sl w va K d la ha) (hha : ha ≤ w.heap.size) (hK9 : K ≤ 9223372036854775807) (r l : Int) :
    Calls Tryz.prog 10 #[v, va, .int .i64 r, .int .i64 l] w (LIPost w (tlN n N m P K d r l) (fun j => lvl n P m (fflN n P m d) r l (j : Nat)) (tlC n N m P K d r l)) := by
  obtain ⟨p0, c0, p1, c1, rfl, hn9, hm9⟩ := h.parts
  have HV := Lib.hid h
  have HN := Lib.hid hN
  obtain ⟨pa, ca, rfl⟩ := hv.sh
  have HSV := Lib.hid hv
  have A0 := boxed w (.slice p0 n c0) (.slice p1 m c1) 33
  have B0 := below_new w (.cells #[.slice p0 n c0, .slice p1 m c1] 33)
  have hs0 : (w.alloc (.cells #[.slice p0 n c0, .slice p1 m c1] 33)).heap.size = w.heap.size + 1 := by simp
  clear h hN hv
  go_enter Tryz.func10, Tryz.ntmps10
  have e0 := A0.b0
  have e1 := A0.b1
  go_wp2_with fail
  refine (checkSupplies_any _ _ n N m P lo hi (HV.out.below B0 hhi) (by omega) HN.out _ K d la ha (HSV.out.below B0 hha) (by omega) hK9).mono ?_
  rintro e w1 ⟨rfl, b1⟩
  have A1 := A0.below b1 (by omega)
  have B1 := B0.trans (b1.mono (by omega))
  have hs1 := b1.size
  have f2 : w.heap.size < w1.heap.size := by omega
  clear A0 B0 b1 e0 e1 hs0 hs1
  have e0 := A1.b0
  have e1 := A1.b1
  by_cases hc : svC n N m P K d = 0
  · have HFC := Lib.hid hc
    obtain ⟨hB, hKn, hf⟩ := svC_ok hc
    obtain ⟨hn1, hn24, hm40⟩ := net_sz hB
    rw [hc]
    clear hc hf hKn
    cases hz : inR r 0 (n - 1)
    ·
      go_wp2_with fail
      refine (hasNode_any p0 p1 n c0 m c1 r w1 hn9).mono ?_
      rintro e w2 ⟨rfl, b2⟩
      have A2 := A1.below b2 (by omega)
      have B2 := B1.trans (b2.mono (by omega))
      have hs2 := b2.size
      clear A1 B1 b2 e0 e1
      have g2 : w.heap.size < w2.heap.size := by omega
      clear f2 hs2
      have f2 := g2
      clear g2
      have e0 := A2.b0
      have e1 := A2.b1
      rw [hz]
      have H4 := Lib.hid (show tlC n N m P K d r l = 2 by unfold tlC; rw [if_pos HFC.out, hz]; rfl)
      have H3 := Lib.hid (show tlN n N m P K d r l = 0 by unfold tlN; rw [H4.out]; rfl)
      go_wp2_with fail
      go_ret2
      exact li_err H3.out H4.out.symm rfl B2
    ·
      go_wp2_with fail
      refine (hasNode_any p0 p1 n c0 m c1 r w1 hn9).mono ?_
      rintro e w2 ⟨rfl, b2⟩
      have A2 := A1.below b2 (by omega)
      have B2 := B1.trans (b2.mono (by omega))
      have hs2 := b2.size
      clear A1 B1 b2 e0 e1
      have g2 : w.heap.size < w2.heap.size := by omega
      clear f2 hs2
      have f2 := g2
      clear g2
      have e0 := A2.b0
      have e1 := A2.b1
      rw [hz]
      cases hy : rlB l
      ·
        go_wp2_with fail
        refine (isRootLevel_any l w2).mono ?_
        rintro e w' ⟨rfl, rfl⟩
        rw [hy]
        have H4 := Lib.hid (show tlC n N m P K d r l = 2 by unfold tlC; rw [if_pos HFC.out, hz, hy]; rfl)
        have H3 := Lib.hid (show tlN n N m P K d r l = 0 by unfold tlN; rw [H4.out]; rfl)
        go_wp2_with fail
        go_ret2
        exact li_err H3.out H4.out.symm rfl B2
      ·
        go_wp2_with fail
        refine (isRootLevel_any l w2).mono ?_
        rintro e w' ⟨rfl, rfl⟩
        rw [hy]
        have H4 := Lib.hid (show tlC n N m P K d r l = tfC n N m P K d by unfold tlC; rw [if_pos HFC.out, hz, hy]; rfl)
        go_wp2_with fail
        refine (treeFlowsI_any _ _ n N m P lo hi (HV.out.below B2 hhi) (by omega) HN.out _ K d la ha (HSV.out.below B2 hha) (by omega) hK9).mono ?_
        rintro e w8 ⟨v8, g, rfl, og, hg, b8⟩
        obtain ⟨p8, c8, rfl⟩ := ownS_sh og
        have A8 := A2.below b8 (by omega)
        have B8 := B2.trans (b8.mono (by omega))
        have hs8 := b8.size
        clear A2 B2 b8 e0 e1
        have e0 := A8.b0
        have e1 := A8.b1
        by_cases ht : tfC n N m P K d = 0
        · have HTC := Lib.hid ht
          have H3 := Lib.hid (show tlN n N m P K d r l = n by unfold tlN; rw [H4.out, ht]; rfl)
          have hnn : tfN n N m P K d = m := by unfold tfN; rw [ht]; rfl
          rw [hnn] at og
          have htr : treeB n N m P = true ∧ ffC n N m P K d = 0 := by
            unfold tfC at ht
            rw [if_pos HFC.out] at ht
            split at ht
            · next h => exact ⟨h, ht⟩
            · omega
          obtain ⟨htb, hff⟩ := htr
          have hcon := conB_one (treeB_con htb)
          have hfr := flB_rng (ffC_ok2 hff)
          rw [ht, hnn]
          obtain ⟨R, rfl⟩ := Int.eq_ofNat_of_zero_le (inR_iff.1 hz).1
          have hRn : R < n := by have := (inR_iff.1 hz).2; omega
          obtain ⟨hl0, hl1⟩ := inR_iff.1 hy
          clear hz hy ht hnn htb hff
          go_wp2_with fail
          refine (forestLevels_any _ _ n N m P lo hi (HV.out.below B8 hhi) (by omega) hB hcon.2 _ (fflN n P m d) 0 w8.heap.size (owns_sl0 og) (Nat.le_refl _) hfr R hRn l hl0 hl1).mono ?_
          rintro e w9 ⟨g9, rfl, og9, hg9, b9⟩
          have HB9 := Lib.hid (B8.trans (b9.mono (by omega)))
          have HO9 := Lib.hid og9
          clear og9 og b9 e0 e1
          go_wp2_with fail
          go_ret2
          exact li_ok H3.out.symm (by rw [H4.out, HTC.out]; rfl) HO9.out (by omega) HB9.out
        · have hb1 : (tfC n N m P K d != 0) = true := by simpa using ht
          have H3 := Lib.hid (show tlN n N m P K d r l = 0 by unfold tlN; rw [H4.out, if_neg ht])
          clear ht og
          go_wp2_with fail
          go_ret2
          exact li_err H3.out H4.out.symm rfl B8
  · have hb1 : (svC n N m P K d != 0) = true := by simpa using hc
    have H4 := Lib.hid (show tlC n N m P K d r l = svC n N m P K d by unfold tlC; rw [if_neg hc])
    have H3 := Lib.hid (show tlN n N m P K d r l = 0 by unfold tlN; rw [H4.out, if_neg hc])
    clear hc
    go_wp2_with fail
    go_ret2
    exact li_err H3.out H4.out.symm rfl B1
set_option maxRecDepth 100000 in
set_option maxHeartbeats 8000000 in
theorem treeFlowsS_any (w : World) (v : Value) (n : Nat) (N : Nat → Nod) (m : Nat) (P : Nat → Pip) (lo hi : Nat) (h : NetAt w v n N m P lo hi) (hhi : hi ≤ w.heap.size) (hN : ∀ i, i < n → (N i).s.size ≤ 9223372036854775807) (va : Value) (K : Nat) (d : Nat → Int) (la ha : Nat) (hv : Sl w va K d la ha) (hha : ha ≤ w.heap.size) (hK9 : K ≤ 9223372036854775807) :
    Calls Tryz.prog 27 #[v, va] w (LIPost w (tfN n N m P K d) (fflN n P m d) (tfC n N m P K d)) := by
  obtain ⟨p0, c0, p1, c1, rfl, hn9, hm9⟩ := h.parts
  have HV := Lib.hid h
  have HN := Lib.hid hN
  obtain ⟨pa, ca, rfl⟩ := hv.sh
  have HSV := Lib.hid hv
  have A0 := boxed w (.slice p0 n c0) (.slice p1 m c1) 33
  have B0 := below_new w (.cells #[.slice p0 n c0, .slice p1 m c1] 33)
  have hs0 : (w.alloc (.cells #[.slice p0 n c0, .slice p1 m c1] 33)).heap.size = w.heap.size + 1 := by simp
  clear h hN hv
  go_enter Tryz.func27, Tryz.ntmps27
  have e0 := A0.b0
  have e1 := A0.b1
  go_wp2_with fail
  refine (l06Code_any _ _ n N m P lo hi (HV.out.below B0 hhi) (by omega) HN.out _ K d la ha (HSV.out.below B0 hha) (by omega) hK9).mono ?_
  rintro e w1 ⟨rfl, b1⟩
  have A1 := A0.below b1 (by omega)
  have B1 := B0.trans (b1.mono (by omega))
  have hs1 := b1.size
  have f2 : w.heap.size < w1.heap.size := by omega
  clear A0 B0 b1 e0 e1 hs0 hs1
  have e0 := A1.b0
  have e1 := A1.b1
  by_cases hc : svC n N m P K d = 0
  · have HFC := Lib.hid hc
    rw [hc]
    cases hT : treeB n N m P
    ·
      clear hc
      go_wp2_with fail
      refine (isTreeS_any _ _ n N m P lo hi (HV.out.below B1 hhi) (by omega) HN.out).mono ?_
      rintro e w2 ⟨rfl, b2⟩
      have A2 := A1.below b2 (by omega)
      have B2 := B1.trans (b2.mono (by omega))
      have hs2 := b2.size
      clear A1 B1 b2 e0 e1
      have g2 : w.heap.size < w2.heap.size := by omega
      clear f2 hs2
      have f2 := g2
      clear g2
      have e0 := A2.b0
      have e1 := A2.b1
      rw [hT]
      have H4 := Lib.hid (show tfC n N m P K d = 5 by unfold tfC; rw [if_pos HFC.out, hT]; rfl)
      have H3 := Lib.hid (show tfN n N m P K d = 0 by unfold tfN; rw [H4.out]; rfl)
      go_wp2_with fail
      go_ret2
      exact li_err H3.out H4.out.symm rfl B2
    ·
      clear hc
      go_wp2_with fail
      refine (isTreeS_any _ _ n N m P lo hi (HV.out.below B1 hhi) (by omega) HN.out).mono ?_
      rintro e w2 ⟨rfl, b2⟩
      have A2 := A1.below b2 (by omega)
      have B2 := B1.trans (b2.mono (by omega))
      have hs2 := b2.size
      clear A1 B1 b2 e0 e1
      have g2 : w.heap.size < w2.heap.size := by omega
      clear f2 hs2
      have f2 := g2
      clear g2
      have e0 := A2.b0
      have e1 := A2.b1
      rw [hT]
      have H4 := Lib.hid (show tfC n N m P K d = ffC n N m P K d by unfold tfC; rw [if_pos HFC.out, hT]; rfl)
      have H3 := Lib.hid (show tfN n N m P K d = ffN n N m P K d by unfold tfN ffN; rw [H4.out])
      go_wp2_with fail
      refine (forestFlowsS_any _ _ n N m P lo hi (HV.out.below B2 hhi) (by omega) HN.out _ K d la ha (HSV.out.below B2 hha) (by omega) hK9).mono ?_
      rintro e w9 ⟨v9, g, rfl, og, hg, b9⟩
      obtain ⟨p9, c9, rfl⟩ := ownS_sh og
      have HB9 := Lib.hid (B2.trans (b9.mono (by omega)))
      have HO9 := Lib.hid og
      clear og b9 e0 e1
      go_wp2_with fail
      go_ret2
      exact ⟨_, g, by rw [H4.out]; rfl, by rw [H3.out]; exact HO9.out, by omega, HB9.out⟩
  · have hb1 : (svC n N m P K d != 0) = true := by simpa using hc
    have hb2 : (svC n N m P K d == 0) = false := by simpa using hc
    have H4 := Lib.hid (show tfC n N m P K d = svC n N m P K d by unfold tfC; rw [if_neg hc])
    have H3 := Lib.hid (show tfN n N m P K d = 0 by unfold tfN; rw [H4.out, if_neg hc])
    clear hc
    go_wp2_with fail
    go_ret2
    exact li_err H3.out H4.out.symm rfl B1
set_option maxRecDepth 100000 in
set_option maxHeartbeats 8000000 in
theorem treeLevelsS_any (w : World) (v : Value) (n : Nat) (N : Nat → Nod) (m : Nat) (P : Nat → Pip) (lo hi : Nat) (h : NetAt w v n N m P lo hi) (hhi : hi ≤ w.heap.size) (hN : ∀ i, i < n → (N i).s.size ≤ 9223372036854775807) (va : Value) (K : Nat) (d : Nat → Int) (la ha : Nat) (hv : Sl w va K d la ha) (hha : ha ≤ w.heap.size) (hK9 : K ≤ 9223372036854775807) (r l : Int) :
    Calls Tryz.prog 7 #[v, va, .int .i64 r, .int .i64 l] w (LIPost w (tlN n N m P K d r l) (fun j => lvl n P m (fflN n P m d) r l (j : Nat)) (tlC n N m P K d r l)) := by
  obtain ⟨p0, c0, p1, c1, rfl, hn9, hm9⟩ := h.parts
  have HV := Lib.hid h
  have HN := Lib.hid hN
  obtain ⟨pa, ca, rfl⟩ := hv.sh
  have HSV := Lib.hid hv
  have A0 := boxed w (.slice p0 n c0) (.slice p1 m c1) 33
  have B0 := below_new w (.cells #[.slice p0 n c0, .slice p1 m c1] 33)
  have hs0 : (w.alloc (.cells #[.slice p0 n c0, .slice p1 m c1] 33)).heap.size = w.heap.size + 1 := by simp
  clear h hN hv
  go_enter Tryz.func7, Tryz.ntmps7
  have e0 := A0.b0
  have e1 := A0.b1
  go_wp2_with fail
  refine (l06Code_any _ _ n N m P lo hi (HV.out.below B0 hhi) (by omega) HN.out _ K d la ha (HSV.out.below B0 hha) (by omega) hK9).mono ?_
  rintro e w1 ⟨rfl, b1⟩
  have A1 := A0.below b1 (by omega)
  have B1 := B0.trans (b1.mono (by omega))
  have hs1 := b1.size
  have f2 : w.heap.size < w1.heap.size := by omega
  clear A0 B0 b1 e0 e1 hs0 hs1
  have e0 := A1.b0
  have e1 := A1.b1
  by_cases hc : svC n N m P K d = 0
  · have HFC := Lib.hid hc
    obtain ⟨hB, hKn, hf⟩ := svC_ok hc
    obtain ⟨hn1, hn24, hm40⟩ := net_sz hB
    rw [hc]
    clear hc hf hKn
    cases hz : inR r 0 (n - 1)
    ·
      go_wp2_with fail
      refine (l02Node_any p0 p1 n c0 m c1 r w1 hn9).mono ?_
      rintro e w2 ⟨rfl, b2⟩
      have A2 := A1.below b2 (by omega)
      have B2 := B1.trans (b2.mono (by omega))
      have hs2 := b2.size
      clear A1 B1 b2 e0 e1
      have g2 : w.heap.size < w2.heap.size := by omega
      clear f2 hs2
      have f2 := g2
      clear g2
      have e0 := A2.b0
      have e1 := A2.b1
      rw [hz]
      have H4 := Lib.hid (show tlC n N m P K d r l = 2 by unfold tlC; rw [if_pos HFC.out, hz]; rfl)
      have H3 := Lib.hid (show tlN n N m P K d r l = 0 by unfold tlN; rw [H4.out]; rfl)
      go_wp2_with fail
      go_ret2
      exact li_err H3.out H4.out.symm rfl B2
    ·
      go_wp2_with fail
      refine (l02Node_any p0 p1 n c0 m c1 r w1 hn9).mono ?_
      rintro e w2 ⟨rfl, b2⟩
      have A2 := A1.below b2 (by omega)
      have B2 := B1.trans (b2.mono (by omega))
      have hs2 := b2.size
      clear A1 B1 b2 e0 e1
      have g2 : w.heap.size < w2.heap.size := by omega
      clear f2 hs2
      have f2 := g2
      clear g2
      have e0 := A2.b0
      have e1 := A2.b1
      rw [hz]
      cases hy : rlB l
      ·
        go_wp2_with fail
        refine (l07Level_any l w2).mono ?_
        rintro e w' ⟨rfl, rfl⟩
        rw [hy]
        have H4 := Lib.hid (show tlC n N m P K d r l = 2 by unfold tlC; rw [if_pos HFC.out, hz, hy]; rfl)
        have H3 := Lib.hid (show tlN n N m P K d r l = 0 by unfold tlN; rw [H4.out]; rfl)
        go_wp2_with fail
        go_ret2
        exact li_err H3.out H4.out.symm rfl B2
      ·
        go_wp2_with fail
        refine (l07Level_any l w2).mono ?_
        rintro e w' ⟨rfl, rfl⟩
        rw [hy]
        have H4 := Lib.hid (show tlC n N m P K d r l = tfC n N m P K d by unfold tlC; rw [if_pos HFC.out, hz, hy]; rfl)
        go_wp2_with fail
        refine (treeFlowsS_any _ _ n N m P lo hi (HV.out.below B2 hhi) (by omega) HN.out _ K d la ha (HSV.out.below B2 hha) (by omega) hK9).mono ?_
        rintro e w8 ⟨v8, g, rfl, og, hg, b8⟩
        obtain ⟨p8, c8, rfl⟩ := ownS_sh og
        have A8 := A2.below b8 (by omega)
        have B8 := B2.trans (b8.mono (by omega))
        have hs8 := b8.size
        clear A2 B2 b8 e0 e1
        have e0 := A8.b0
        have e1 := A8.b1
        by_cases ht : tfC n N m P K d = 0
        · have HTC := Lib.hid ht
          have H3 := Lib.hid (show tlN n N m P K d r l = n by unfold tlN; rw [H4.out, ht]; rfl)
          have hnn : tfN n N m P K d = m := by unfold tfN; rw [ht]; rfl
          rw [hnn] at og
          have htr : treeB n N m P = true ∧ ffC n N m P K d = 0 := by
            unfold tfC at ht
            rw [if_pos HFC.out] at ht
            split at ht
            · next h => exact ⟨h, ht⟩
            · omega
          obtain ⟨htb, hff⟩ := htr
          have hcon := conB_one (treeB_con htb)
          have hfr := flB_rng (ffC_ok2 hff)
          rw [ht, hnn]
          obtain ⟨R, rfl⟩ := Int.eq_ofNat_of_zero_le (inR_iff.1 hz).1
          have hRn : R < n := by have := (inR_iff.1 hz).2; omega
          obtain ⟨hl0, hl1⟩ := inR_iff.1 hy
          clear hz hy ht hnn htb hff
          go_wp2_with fail
          refine (l07Levels_any _ _ n N m P lo hi (HV.out.below B8 hhi) (by omega) HN.out hB hcon.2 _ (fflN n P m d) 0 w8.heap.size (owns_sl0 og) (Nat.le_refl _) hfr R hRn l hl0 hl1).mono ?_
          rintro e w9 ⟨v9, g9, rfl, og9, hg9, b9⟩
          obtain ⟨cg, rfl⟩ := og9.shape
          have HB9 := Lib.hid (B8.trans (b9.mono (by omega)))
          have HO9 := Lib.hid og9
          clear og9 og b9 e0 e1
          go_wp2_with fail
          go_ret2
          exact li_ok H3.out.symm (by rw [H4.out, HTC.out]; rfl) HO9.out (by omega) HB9.out
        · have hb1 : (tfC n N m P K d != 0) = true := by simpa using ht
          have H3 := Lib.hid (show tlN n N m P K d r l = 0 by unfold tlN; rw [H4.out, if_neg ht])
          clear ht og
          go_wp2_with fail
          go_ret2
          exact li_err H3.out H4.out.symm rfl B8
  · have hb1 : (svC n N m P K d != 0) = true := by simpa using hc
    have hb2 : (svC n N m P K d == 0) = false := by simpa using hc
    have H4 := Lib.hid (show tlC n N m P K d r l = svC n N m P K d by unfold tlC; rw [if_neg hc])
    have H3 := Lib.hid (show tlN n N m P K d r l = 0 by unfold tlN; rw [H4.out, if_neg hc])
    clear hc
    go_wp2_with fail
    go_ret2
    exact li_err H3.out H4.out.symm rfl B1
end Go.Proofs.YtlcegdamjbpfpaaGreat.mem

namespace Go.Proofs.YtlcegdamjbpfpaaGreat.mem
open Go.RowKit
set_option linter.unusedVariables false

theorem agreeDropsOf (n : Nat) (N : Nat → Nod) (m : Nat) (P : Nat → Pip) (K : Nat) (d : Nat → Int) (hN : ∀ i, i < n → (N i).s.size ≤ 9223372036854775807) (_hn : n ≤ 2000000) (hm : m ≤ 2000000) (hK : K ≤ 2000000) :
    ∃ rn rd rc, rn ≤ 2000000 ∧ (∀ w v va, NetAt w v n N m P 0 w.heap.size → Sl w va K d 0 w.heap.size → Calls Tryz.prog 22 #[v, va] w (LIPost w rn rd rc)) ∧ (∀ w v va, NetAt w v n N m P 0 w.heap.size → Sl w va K d 0 w.heap.size → Calls Tryz.prog 23 #[v, va] w (LIPost w rn rd rc)) :=
  ⟨dsN n N m P K d, fun i => drp (P i) (d i), flC n N m P K d, dsN_le n N m P K d hm, fun w v va h hv => dropsOfI_any w v n N m P 0 _ h (Nat.le_refl _) hN va K d 0 _ hv (Nat.le_refl _) (by omega), fun w v va h hv => dropsOfS_any w v n N m P 0 _ h (Nat.le_refl _) hN va K d 0 _ hv (Nat.le_refl _) (by omega)⟩
theorem agreeForestLevels (n : Nat) (N : Nat → Nod) (m : Nat) (P : Nat → Pip) (K : Nat) (d : Nat → Int) (r : Int) (l : Int) (hN : ∀ i, i < n → (N i).s.size ≤ 9223372036854775807) (_hn : n ≤ 2000000) (hm : m ≤ 2000000) (hK : K ≤ 2000000) :
    ∃ rn rd rc, rn ≤ 2000000 ∧ (∀ w v va, NetAt w v n N m P 0 w.heap.size → Sl w va K d 0 w.heap.size → Calls Tryz.prog 18 #[v, va, .int .i64 r, .int .i64 l] w (LIPost w rn rd rc)) ∧ (∀ w v va, NetAt w v n N m P 0 w.heap.size → Sl w va K d 0 w.heap.size → Calls Tryz.prog 19 #[v, va, .int .i64 r, .int .i64 l] w (LIPost w rn rd rc)) :=
  ⟨fvN n N m P K d r l, fun j => lvl n P m d r l (j : Nat), fvC n N m P K d r l, fvN_le n N m P K d r l _hn, fun w v va h hv => forestLevelsI_any w v n N m P 0 _ h (Nat.le_refl _) hN va K d 0 _ hv (Nat.le_refl _) (by omega) r l, fun w v va h hv => forestLevelsS_any w v n N m P 0 _ h (Nat.le_refl _) hN va K d 0 _ hv (Nat.le_refl _) (by omega) r l⟩
theorem agreeTreeFlows (n : Nat) (N : Nat → Nod) (m : Nat) (P : Nat → Pip) (K : Nat) (d : Nat → Int) (hN : ∀ i, i < n → (N i).s.size ≤ 9223372036854775807) (_hn : n ≤ 2000000) (hm : m ≤ 2000000) (hK : K ≤ 2000000) :
    ∃ rn rd rc, rn ≤ 2000000 ∧ (∀ w v va, NetAt w v n N m P 0 w.heap.size → Sl w va K d 0 w.heap.size → Calls Tryz.prog 26 #[v, va] w (LIPost w rn rd rc)) ∧ (∀ w v va, NetAt w v n N m P 0 w.heap.size → Sl w va K d 0 w.heap.size → Calls Tryz.prog 27 #[v, va] w (LIPost w rn rd rc)) :=
  ⟨tfN n N m P K d, fflN n P m d, tfC n N m P K d, tfN_le n N m P K d hm, fun w v va h hv => treeFlowsI_any w v n N m P 0 _ h (Nat.le_refl _) hN va K d 0 _ hv (Nat.le_refl _) (by omega), fun w v va h hv => treeFlowsS_any w v n N m P 0 _ h (Nat.le_refl _) hN va K d 0 _ hv (Nat.le_refl _) (by omega)⟩
theorem agreeTreeLevels (n : Nat) (N : Nat → Nod) (m : Nat) (P : Nat → Pip) (K : Nat) (d : Nat → Int) (r : Int) (l : Int) (hN : ∀ i, i < n → (N i).s.size ≤ 9223372036854775807) (_hn : n ≤ 2000000) (hm : m ≤ 2000000) (hK : K ≤ 2000000) :
    ∃ rn rd rc, rn ≤ 2000000 ∧ (∀ w v va, NetAt w v n N m P 0 w.heap.size → Sl w va K d 0 w.heap.size → Calls Tryz.prog 10 #[v, va, .int .i64 r, .int .i64 l] w (LIPost w rn rd rc)) ∧ (∀ w v va, NetAt w v n N m P 0 w.heap.size → Sl w va K d 0 w.heap.size → Calls Tryz.prog 7 #[v, va, .int .i64 r, .int .i64 l] w (LIPost w rn rd rc)) :=
  ⟨tlN n N m P K d r l, fun j => lvl n P m (fflN n P m d) r l (j : Nat), tlC n N m P K d r l, tlN_le n N m P K d r l _hn, fun w v va h hv => treeLevelsI_any w v n N m P 0 _ h (Nat.le_refl _) hN va K d 0 _ hv (Nat.le_refl _) (by omega) r l, fun w v va h hv => treeLevelsS_any w v n N m P 0 _ h (Nat.le_refl _) hN va K d 0 _ hv (Nat.le_refl _) (by omega) r l⟩
end Go.Proofs.YtlcegdamjbpfpaaGreat.mem
