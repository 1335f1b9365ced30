/-
  The specification's ForestLevels, GapBetween, LowestNode. Conditions: as each states.
-/
import Derived.Test.YtlcegdamjbpfpaaRows
import Derived.Test.YtlcegdamjbpfpaaLsl
import Derived.Test.YtlcegdamjbpfpaaLvd
namespace Go.Proofs.Ytlcegdamjbpfpaa.mem
open Go.RowKit
set_option linter.unusedVariables false

theorem l07Level_any (x : Int) (w : World) : Calls Try.prog 67 #[.int .i64 x] w fun e w' => e = .returned (.bool (rlB x)) ∧ w = w' := by
  unfold rlB
  go_enter Try.func67, Try.ntmps67
  go_wp2_with (go_at_call 104; refine (l01In_any _ _ _ _).mono ?_; rintro e w' ⟨rfl, rfl⟩)
  go_ret
  exact ⟨rfl, rfl⟩
set_option maxRecDepth 100000 in
set_option maxHeartbeats 8000000 in
theorem forestLevelsS_any (w : World) (v : Value) (n : Nat) (N : Nat → Nod) (m : Nat) (P : Nat → Pip) (lo hi : Nat) (h : NetAt w v n N m P lo hi) (hhi : hi ≤ w.heap.size) (hN : ∀ i, i < n → (N i).s.size ≤ 9223372036854775807) (va : Value) (K : Nat) (d : Nat → Int) (la ha : Nat) (hv : Sl w va K d la ha) (hha : ha ≤ w.heap.size) (hK9 : K ≤ 9223372036854775807) (r l : Int) :
    Calls Try.prog 27 #[v, va, .int .i64 r, .int .i64 l] w (LIPost w (fvN n N m P K d r l) (fun j => lvl n P m d r l (j : Nat)) (fvC n N m P K d r l)) := by
  obtain ⟨p0, c0, p1, c1, rfl, hn9, hm9⟩ := h.parts
  have HV := Lib.hid h
  have HN := Lib.hid hN
  obtain ⟨pa, ca, rfl⟩ := hv.sh
  have HSV := Lib.hid hv
  have A0 := boxed w (.slice p0 n c0) (.slice p1 m c1) 33
  have B0 := below_new w (.cells #[.slice p0 n c0, .slice p1 m c1] 33)
  have hs0 : (w.alloc (.cells #[.slice p0 n c0, .slice p1 m c1] 33)).heap.size = w.heap.size + 1 := by simp
  clear h hN hv
  go_enter Try.func27, Try.ntmps27
  have e0 := A0.b0
  have e1 := A0.b1
  go_wp2_with fail
  refine (l05Code_any _ _ n N m P lo hi (HV.out.below B0 hhi) (by omega) HN.out _ K d la ha (HSV.out.below B0 hha) (by omega) hK9).mono ?_
  rintro e w1 ⟨rfl, b1⟩
  have A1 := A0.below b1 (by omega)
  have B1 := B0.trans (b1.mono (by omega))
  have hs1 := b1.size
  have f2 : w.heap.size < w1.heap.size := by omega
  clear A0 B0 b1 e0 e1 hs0 hs1
  have e0 := A1.b0
  have e1 := A1.b1
  by_cases hc : flC n N m P K d = 0
  · obtain ⟨hB, rfl, hf⟩ := flC_ok hc
    have HFC := Lib.hid hc
    have HFR := Lib.hid (flB_rng hf)
    rw [hc]
    clear hc hf
    obtain ⟨hn1, hn24, hm40⟩ := net_sz hB
    clear hm40
    cases hz : inR r 0 (n - 1)
    ·
      go_wp2_with fail
      refine (l02Node_any p0 p1 n c0 K c1 r w1 hn9).mono ?_
      rintro e w2 ⟨rfl, b2⟩
      have A2 := A1.below b2 (by omega)
      have B2 := B1.trans (b2.mono (by omega))
      have hs2 := b2.size
      clear A1 B1 b2 e0 e1
      have g2 : w.heap.size < w2.heap.size := by omega
      clear f2 hs2
      have f2 := g2
      clear g2
      have e0 := A2.b0
      have e1 := A2.b1
      rw [hz]
      have H4 := Lib.hid (show fvC n N K P K d r l = 2 by unfold fvC; rw [if_pos HFC.out, hz]; rfl)
      have H3 := Lib.hid (show fvN n N K P K d r l = 0 by unfold fvN; rw [H4.out]; rfl)
      go_wp2_with fail
      go_ret2
      exact li_err H3.out H4.out.symm rfl B2
    ·
      go_wp2_with fail
      refine (l02Node_any p0 p1 n c0 K c1 r w1 hn9).mono ?_
      rintro e w2 ⟨rfl, b2⟩
      have A2 := A1.below b2 (by omega)
      have B2 := B1.trans (b2.mono (by omega))
      have hs2 := b2.size
      clear A1 B1 b2 e0 e1
      have g2 : w.heap.size < w2.heap.size := by omega
      clear f2 hs2
      have f2 := g2
      clear g2
      have e0 := A2.b0
      have e1 := A2.b1
      rw [hz]
      cases hy : rlB l
      ·
        go_wp2_with fail
        refine (l07Level_any l w2).mono ?_
        rintro e w' ⟨rfl, rfl⟩
        rw [hy]
        have H4 := Lib.hid (show fvC n N K P K d r l = 2 by unfold fvC; rw [if_pos HFC.out, hz, hy]; rfl)
        have H3 := Lib.hid (show fvN n N K P K d r l = 0 by unfold fvN; rw [H4.out]; rfl)
        go_wp2_with fail
        go_ret2
        exact li_err H3.out H4.out.symm rfl B2
      ·
        go_wp2_with fail
        refine (l07Level_any l w2).mono ?_
        rintro e w' ⟨rfl, rfl⟩
        rw [hy]
        cases hC : conB n N K P
        ·
          have hcn : ((cnt n P K : Int) != 1) = true := by
            unfold conB at hC
            rw [hB] at hC
            simp only [Bool.true_and, decide_eq_false_iff_not] at hC
            simp only [bne_iff_ne, ne_eq]
            omega
          go_wp2_with fail
          refine (l04Count_any _ _ n N K P lo hi (HV.out.below B2 hhi) (by omega) HN.out hB).mono ?_
          rintro e w3 ⟨rfl, b3⟩
          have A3 := A2.below b3 (by omega)
          have B3 := B2.trans (b3.mono (by omega))
          have hs3 := b3.size
          clear A2 B2 b3 e0 e1
          have g2 : w.heap.size < w3.heap.size := by omega
          clear f2 hs3
          have f2 := g2
          clear g2
          have e0 := A3.b0
          have e1 := A3.b1
          have H4 := Lib.hid (show fvC n N K P K d r l = 5 by unfold fvC; rw [if_pos HFC.out, hz, hy, hC]; rfl)
          have H3 := Lib.hid (show fvN n N K P K d r l = 0 by unfold fvN; rw [H4.out]; rfl)
          go_wp2_with fail
          go_ret2
          exact li_err H3.out H4.out.symm rfl B3
        ·
          have hcn : ((cnt n P K : Int) != 1) = false := by
            have := (conB_one hC).2
            rw [this]
            rfl
          go_wp2_with fail
          refine (l04Count_any _ _ n N K P lo hi (HV.out.below B2 hhi) (by omega) HN.out hB).mono ?_
          rintro e w3 ⟨rfl, b3⟩
          have A3 := A2.below b3 (by omega)
          have B3 := B2.trans (b3.mono (by omega))
          have hs3 := b3.size
          clear A2 B2 b3 e0 e1
          have g2 : w.heap.size < w3.heap.size := by omega
          clear f2 hs3
          have f2 := g2
          clear g2
          have e0 := A3.b0
          have e1 := A3.b1
          have H4 := Lib.hid (show fvC n N K P K d r l = 0 by unfold fvC; rw [if_pos HFC.out, hz, hy, hC]; rfl)
          have H3 := Lib.hid (show fvN n N K P K d r l = n by unfold fvN; rw [H4.out]; rfl)
          obtain ⟨R, rfl⟩ := Int.eq_ofNat_of_zero_le (inR_iff.1 hz).1
          have hRn : R < n := by have := (inR_iff.1 hz).2; omega
          obtain ⟨hl0, hl1⟩ := inR_iff.1 hy
          go_wp2_with fail
          refine (l07Levels_any _ _ n N K P lo hi (HV.out.below B3 hhi) (by omega) HN.out hB (conB_one hC).2 _ d la ha (HSV.out.below B3 hha) (by omega) HFR.out R hRn l hl0 hl1).mono ?_
          rintro e w9 ⟨v9, g, rfl, og, hg, b9⟩
          obtain ⟨cg, rfl⟩ := og.shape
          have HB9 := Lib.hid (B3.trans (b9.mono (by omega)))
          have HO9 := Lib.hid og
          clear b9
          clear og hz hy hC hB
          go_wp2_with fail
          go_ret2
          exact li_ok H3.out.symm (by rw [H4.out]; rfl) HO9.out (by omega) HB9.out
  · have hb1 : (flC n N m P K d != 0) = true := by simpa using hc
    have hb2 : (flC n N m P K d == 0) = false := by simpa using hc
    have H4 := Lib.hid (show fvC n N m P K d r l = flC n N m P K d by unfold fvC; rw [if_neg hc])
    have H3 := Lib.hid (show fvN n N m P K d r l = 0 by unfold fvN; rw [H4.out, if_neg hc])
    clear hc
    go_wp2_with fail
    go_ret2
    exact li_err H3.out H4.out.symm rfl B1
set_option maxRecDepth 100000 in
set_option maxHeartbeats 8000000 in
theorem gapBetweenS_any (w : World) (v : Value) (n : Nat) (N : Nat → Nod) (m : Nat) (P : Nat → Pip) (lo hi : Nat) (h : NetAt w v n N m P lo hi) (hhi : hi ≤ w.heap.size) (hN : ∀ i, i < n → (N i).s.size ≤ 9223372036854775807) (va : Value) (K : Nat) (d : Nat → Int) (la ha : Nat) (hv : Sl w va K d la ha) (hha : ha ≤ w.heap.size) (hK9 : K ≤ 9223372036854775807) (r l : Int) :
    Calls Try.prog 31 #[v, va, .int .i64 r, .int .i64 l] w (IIPost w (gpA n N m P K d r l) (gpC n N m P K d r l)) := by
  obtain ⟨p0, c0, p1, c1, rfl, hn9, hm9⟩ := h.parts
  have HV := Lib.hid h
  have HN := Lib.hid hN
  obtain ⟨pa, ca, rfl⟩ := hv.sh
  have HSV := Lib.hid hv
  have A0 := boxed w (.slice p0 n c0) (.slice p1 m c1) 33
  have B0 := below_new w (.cells #[.slice p0 n c0, .slice p1 m c1] 33)
  have hs0 : (w.alloc (.cells #[.slice p0 n c0, .slice p1 m c1] 33)).heap.size = w.heap.size + 1 := by simp
  clear h hN hv
  go_enter Try.func31, Try.ntmps31
  have e0 := A0.b0
  have e1 := A0.b1
  go_wp2_with fail
  refine (l05Code_any _ _ n N m P lo hi (HV.out.below B0 hhi) (by omega) HN.out _ K d la ha (HSV.out.below B0 hha) (by omega) hK9).mono ?_
  rintro e w1 ⟨rfl, b1⟩
  have A1 := A0.below b1 (by omega)
  have B1 := B0.trans (b1.mono (by omega))
  have hs1 := b1.size
  have f2 : w.heap.size < w1.heap.size := by omega
  clear A0 B0 b1 e0 e1 hs0 hs1
  have e0 := A1.b0
  have e1 := A1.b1
  by_cases hc : flC n N m P K d = 0
  · obtain ⟨hB, rfl, hf⟩ := flC_ok hc
    have HFC := Lib.hid hc
    have HFR := Lib.hid (flB_rng hf)
    rw [hc]
    clear hc hf
    obtain ⟨hn1, hn24, hm40⟩ := net_sz hB
    clear hm40
    cases hz : inR r 0 (n - 1)
    ·
      go_wp2_with fail
      refine (l02Node_any p0 p1 n c0 K c1 r w1 hn9).mono ?_
      rintro e w2 ⟨rfl, b2⟩
      have A2 := A1.below b2 (by omega)
      have B2 := B1.trans (b2.mono (by omega))
      have hs2 := b2.size
      clear A1 B1 b2 e0 e1
      have g2 : w.heap.size < w2.heap.size := by omega
      clear f2 hs2
      have f2 := g2
      clear g2
      have e0 := A2.b0
      have e1 := A2.b1
      rw [hz]
      have H4 := Lib.hid (show gpC n N K P K d r l = 2 by unfold gpC; rw [if_pos HFC.out, hz]; rfl)
      have H3 := Lib.hid (show gpA n N K P K d r l = 0 by unfold gpA; rw [H4.out]; rfl)
      go_wp2_with fail
      go_ret2
      exact ⟨ret_2 H3.out.symm H4.out.symm, B2⟩
    ·
      go_wp2_with fail
      refine (l02Node_any p0 p1 n c0 K c1 r w1 hn9).mono ?_
      rintro e w2 ⟨rfl, b2⟩
      have A2 := A1.below b2 (by omega)
      have B2 := B1.trans (b2.mono (by omega))
      have hs2 := b2.size
      clear A1 B1 b2 e0 e1
      have g2 : w.heap.size < w2.heap.size := by omega
      clear f2 hs2
      have f2 := g2
      clear g2
      have e0 := A2.b0
      have e1 := A2.b1
      rw [hz]
      cases hy : inR l 0 (n - 1)
      ·
        go_wp2_with fail
        refine (l02Node_any p0 p1 n c0 K c1 l w2 hn9).mono ?_
        rintro e w3 ⟨rfl, b3⟩
        have A3 := A2.below b3 (by omega)
        have B3 := B2.trans (b3.mono (by omega))
        have hs3 := b3.size
        clear A2 B2 b3 e0 e1
        have g2 : w.heap.size < w3.heap.size := by omega
        clear f2 hs3
        have f2 := g2
        clear g2
        have e0 := A3.b0
        have e1 := A3.b1
        rw [hy]
        have H4 := Lib.hid (show gpC n N K P K d r l = 2 by unfold gpC; rw [if_pos HFC.out, hz, hy]; rfl)
        have H3 := Lib.hid (show gpA n N K P K d r l = 0 by unfold gpA; rw [H4.out]; rfl)
        go_wp2_with fail
        go_ret2
        exact ⟨ret_2 H3.out.symm H4.out.symm, B3⟩
      ·
        go_wp2_with fail
        refine (l02Node_any p0 p1 n c0 K c1 l w2 hn9).mono ?_
        rintro e w3 ⟨rfl, b3⟩
        have A3 := A2.below b3 (by omega)
        have B3 := B2.trans (b3.mono (by omega))
        have hs3 := b3.size
        clear A2 B2 b3 e0 e1
        have g2 : w.heap.size < w3.heap.size := by omega
        clear f2 hs3
        have f2 := g2
        clear g2
        have e0 := A3.b0
        have e1 := A3.b1
        rw [hy]
        cases hC : conB n N K P
        ·
          have hcn : ((cnt n P K : Int) != 1) = true := by
            unfold conB at hC
            rw [hB] at hC
            simp only [Bool.true_and, decide_eq_false_iff_not] at hC
            simp only [bne_iff_ne, ne_eq]
            omega
          go_wp2_with fail
          refine (l04Count_any _ _ n N K P lo hi (HV.out.below B3 hhi) (by omega) HN.out hB).mono ?_
          rintro e w4 ⟨rfl, b4⟩
          have A4 := A3.below b4 (by omega)
          have B4 := B3.trans (b4.mono (by omega))
          have hs4 := b4.size
          clear A3 B3 b4 e0 e1
          have g2 : w.heap.size < w4.heap.size := by omega
          clear f2 hs4
          have f2 := g2
          clear g2
          have e0 := A4.b0
          have e1 := A4.b1
          have H4 := Lib.hid (show gpC n N K P K d r l = 5 by unfold gpC; rw [if_pos HFC.out, hz, hy, hC]; rfl)
          have H3 := Lib.hid (show gpA n N K P K d r l = 0 by unfold gpA; rw [H4.out]; rfl)
          go_wp2_with fail
          go_ret2
          exact ⟨ret_2 H3.out.symm H4.out.symm, B4⟩
        ·
          have hcn : ((cnt n P K : Int) != 1) = false := by
            have := (conB_one hC).2
            rw [this]
            rfl
          go_wp2_with fail
          refine (l04Count_any _ _ n N K P lo hi (HV.out.below B3 hhi) (by omega) HN.out hB).mono ?_
          rintro e w4 ⟨rfl, b4⟩
          have A4 := A3.below b4 (by omega)
          have B4 := B3.trans (b4.mono (by omega))
          have hs4 := b4.size
          clear A3 B3 b4 e0 e1
          have g2 : w.heap.size < w4.heap.size := by omega
          clear f2 hs4
          have f2 := g2
          clear g2
          have e0 := A4.b0
          have e1 := A4.b1
          have H4 := Lib.hid (show gpC n N K P K d r l = 0 by unfold gpC; rw [if_pos HFC.out, hz, hy, hC]; rfl)
          obtain ⟨R, rfl⟩ := Int.eq_ofNat_of_zero_le (inR_iff.1 hz).1
          have hRn : R < n := by have := (inR_iff.1 hz).2; omega
          obtain ⟨M, rfl⟩ := Int.eq_ofNat_of_zero_le (inR_iff.1 hy).1
          have hMn : M < n := by have := (inR_iff.1 hy).2; omega
          go_wp2_with fail
          refine (l07Levels_any _ _ n N K P lo hi (HV.out.below B4 hhi) (by omega) HN.out hB (conB_one hC).2 _ d la ha (HSV.out.below B4 hha) (by omega) HFR.out R hRn 0 (by omega) (by omega)).mono ?_
          rintro e w9 ⟨v9, g, rfl, og, hg, b9⟩
          obtain ⟨cg, rfl⟩ := og.shape
          have HB9 := Lib.hid (B4.trans (b9.mono (by omega)))
          have HO9 := Lib.hid og
          clear b9
          have H3 := Lib.hid (show gpA n N K P K d (R : Nat) (M : Nat) = lvl n P K d (M : Nat) 0 (R : Nat) by unfold gpA; rw [H4.out]; rfl)
          have q0 : (0 : Int) ≤ (M : Int) := Int.natCast_nonneg _
          have q1 : (M : Int) < (n : Int) := by omega
          have y9 := og.row.cell M hMn
          have hbd := lvl_bnd (x := d) (root := ((R : Nat) : Int)) (level := 0) (z := ((M : Nat) : Int)) hB hn24 HFR.out ⟨Int.natCast_nonneg _, by omega⟩ ⟨Int.natCast_nonneg _, by omega⟩
          obtain ⟨bd0, bd1⟩ := hbd
          clear og hz hy hC hB
          have HG := Lib.hid (lvl_gap n P K d (R : Nat) (M : Nat))
          go_wp2_with fail
          go_ret2
          exact ⟨ret_2 (by rw [H3.out, ← HG.out]) H4.out.symm, HB9.out⟩
  · have hb1 : (flC n N m P K d != 0) = true := by simpa using hc
    have hb2 : (flC n N m P K d == 0) = false := by simpa using hc
    have H4 := Lib.hid (show gpC n N m P K d r l = flC n N m P K d by unfold gpC; rw [if_neg hc])
    have H3 := Lib.hid (show gpA n N m P K d r l = 0 by unfold gpA; rw [H4.out, if_neg hc])
    clear hc
    go_wp2_with fail
    go_ret2
    exact ⟨ret_2 H3.out.symm H4.out.symm, B1⟩
set_option maxRecDepth 100000 in
set_option maxHeartbeats 8000000 in
theorem lowestNodeS_any (w : World) (v : Value) (n : Nat) (N : Nat → Nod) (m : Nat) (P : Nat → Pip) (lo hi : Nat) (h : NetAt w v n N m P lo hi) (hhi : hi ≤ w.heap.size) (hN : ∀ i, i < n → (N i).s.size ≤ 9223372036854775807) (va : Value) (K : Nat) (d : Nat → Int) (la ha : Nat) (hv : Sl w va K d la ha) (hha : ha ≤ w.heap.size) (hK9 : K ≤ 9223372036854775807) :
    Calls Try.prog 33 #[v, va] w (IIPost w (lwA n N m P K d) (lwC n N m P K d)) := by
  obtain ⟨p0, c0, p1, c1, rfl, hn9, hm9⟩ := h.parts
  have HV := Lib.hid h
  have HN := Lib.hid hN
  obtain ⟨pa, ca, rfl⟩ := hv.sh
  have HSV := Lib.hid hv
  have A0 := boxed w (.slice p0 n c0) (.slice p1 m c1) 33
  have B0 := below_new w (.cells #[.slice p0 n c0, .slice p1 m c1] 33)
  have hs0 : (w.alloc (.cells #[.slice p0 n c0, .slice p1 m c1] 33)).heap.size = w.heap.size + 1 := by simp
  clear h hN hv
  go_enter Try.func33, Try.ntmps33
  have e0 := A0.b0
  have e1 := A0.b1
  go_wp2_with fail
  refine (l05Code_any _ _ n N m P lo hi (HV.out.below B0 hhi) (by omega) HN.out _ K d la ha (HSV.out.below B0 hha) (by omega) hK9).mono ?_
  rintro e w1 ⟨rfl, b1⟩
  have A1 := A0.below b1 (by omega)
  have B1 := B0.trans (b1.mono (by omega))
  have hs1 := b1.size
  have f2 : w.heap.size < w1.heap.size := by omega
  clear A0 B0 b1 e0 e1 hs0 hs1
  have e0 := A1.b0
  have e1 := A1.b1
  by_cases hc : flC n N m P K d = 0
  · obtain ⟨hB, rfl, hf⟩ := flC_ok hc
    have HFC := Lib.hid hc
    have HFR := Lib.hid (flB_rng hf)
    rw [hc]
    clear hc hf
    obtain ⟨hn1, hn24, hm40⟩ := net_sz hB
    clear hm40
    cases hC : conB n N K P
    ·
      have hcn : ((cnt n P K : Int) != 1) = true := by
        unfold conB at hC
        rw [hB] at hC
        simp only [Bool.true_and, decide_eq_false_iff_not] at hC
        simp only [bne_iff_ne, ne_eq]
        omega
      go_wp2_with fail
      refine (l04Count_any _ _ n N K P lo hi (HV.out.below B1 hhi) (by omega) HN.out hB).mono ?_
      rintro e w2 ⟨rfl, b2⟩
      have A2 := A1.below b2 (by omega)
      have B2 := B1.trans (b2.mono (by omega))
      have hs2 := b2.size
      clear A1 B1 b2 e0 e1
      have g2 : w.heap.size < w2.heap.size := by omega
      clear f2 hs2
      have f2 := g2
      clear g2
      have e0 := A2.b0
      have e1 := A2.b1
      have H4 := Lib.hid (show lwC n N K P K d = 5 by unfold lwC; rw [if_pos HFC.out, hC]; rfl)
      have H3 := Lib.hid (show lwA n N K P K d = 0 by unfold lwA; rw [H4.out]; rfl)
      go_wp2_with fail
      go_ret2
      exact ⟨ret_2 H3.out.symm H4.out.symm, B2⟩
    ·
      have hcn : ((cnt n P K : Int) != 1) = false := by
        have := (conB_one hC).2
        rw [this]
        rfl
      go_wp2_with fail
      refine (l04Count_any _ _ n N K P lo hi (HV.out.below B1 hhi) (by omega) HN.out hB).mono ?_
      rintro e w2 ⟨rfl, b2⟩
      have A2 := A1.below b2 (by omega)
      have B2 := B1.trans (b2.mono (by omega))
      have hs2 := b2.size
      clear A1 B1 b2 e0 e1
      have g2 : w.heap.size < w2.heap.size := by omega
      clear f2 hs2
      have f2 := g2
      clear g2
      have e0 := A2.b0
      have e1 := A2.b1
      have H4 := Lib.hid (show lwC n N K P K d = 0 by unfold lwC; rw [if_pos HFC.out, hC]; rfl)
      go_wp2_with fail
      refine (l07Levels_any _ _ n N K P lo hi (HV.out.below B2 hhi) (by omega) HN.out hB (conB_one hC).2 _ d la ha (HSV.out.below B2 hha) (by omega) HFR.out 0 (by omega) 0 (by omega) (by omega)).mono ?_
      rintro e w9 ⟨v9, g, rfl, og, hg, b9⟩
      obtain ⟨cg, rfl⟩ := og.shape
      have HB9 := Lib.hid (B2.trans (b9.mono (by omega)))
      have HO9 := Lib.hid og
      clear b9
      have H3 := Lib.hid (show lwA n N K P K d = ((bst (fun j => lvl n P K d 0 0 ((j : Nat) : Int)) (n - 1) : Nat) : Int) by unfold lwA; rw [H4.out]; rfl)
      obtain ⟨x, hx⟩ : ∃ x : Nat → Int, (fun j : Nat => lvl n P K d ((0 : Nat) : Int) 0 ((j : Nat) : Int)) = x := ⟨_, rfl⟩
      rw [hx] at HO9 og
      have H5 := Lib.hid (show lwA n N K P K d = ((bst x (n - 1) : Nat) : Int) by rw [H3.out, ← hx]; rfl)
      clear H3 hx
      clear og hC hB
      go_wp2_with fail
      go_loopw [8, 9] (fun bv iv wr => ∃ k : Nat, iv = .int .i64 (k : Nat) ∧ bv = .int .i64 (bst x (k - 1) : Nat) ∧ 1 ≤ k ∧ k ≤ n ∧ Own wr (.slice (some ⟨g, 0, none⟩) n cg) n x g ∧ Below w.heap.size w wr) (fun _ iv _ => n - (intOf iv).toNat)
      case atStart => exact ⟨1, rfl, rfl, Nat.le_refl _, by omega, HO9.out, HB9.out⟩
      case round =>
        obtain ⟨k, rfl, rfl, hk1, hk, ho, hb⟩ := hrel
        clear HO9 HB9
        have HO := Lib.hid ho
        have HBB := Lib.hid hb
        clear ho hb
        have k0 : (0 : Int) ≤ (k : Int) := Int.natCast_nonneg _
        generalize hQ : Exit.then _ _ = Q
        have HQ := Lib.hid hQ
        clear hQ
        by_cases hlt : k < n
        · have k1 : (k : Int) < (n : Int) := by omega
          have hbl := bst_le x (k - 1)
          have hbn : bst x (k - 1) < n := by omega
          have HBS := Lib.hid (show bst x k = if x k < x (bst x (k - 1)) then k else bst x (k - 1) by
            obtain ⟨q, rfl⟩ : ∃ q, k = q + 1 := ⟨k - 1, by omega⟩
            rfl)
          obtain ⟨q, hq⟩ : ∃ q, bst x (k - 1) = q := ⟨_, rfl⟩
          rw [hq] at HBS hbl hbn ⊢
          clear hq
          have q0 : (0 : Int) ≤ (q : Int) := Int.natCast_nonneg _
          have q1 : (q : Int) < (n : Int) := by omega
          have y0 := HO.out.row.cell k hlt
          have y1 := HO.out.row.cell q hbn
          by_cases hlx : x k < x q
          · have hb1 : decide (x k < x q) = true := decide_eq_true hlx
            have HR := Lib.hid (show bst x k = k by rw [HBS.out, if_pos hlx])
            clear hlx
            go_wp2_with fail
            go_region
            go_wp2_with fail
            rw [← HQ.out]
            refine ⟨⟨_, _, _, _, _, _, _, _, _, _, _, _, _, _, _, _, _, _, ?rel, rfl⟩, ?measure⟩
            case rel => exact ⟨k + 1, by go_num, by rw [show k + 1 - 1 = k by omega, HR.out], by omega, hlt, HO.out.keep rfl, below_drw HBB.out⟩
            case measure => simp [intOf]; omega
          · have hb1 : decide (x k < x q) = false := decide_eq_false hlx
            have HR := Lib.hid (show bst x k = q by rw [HBS.out, if_neg hlx])
            clear hlx
            go_wp2_with fail
            go_region
            go_wp2_with fail
            rw [← HQ.out]
            refine ⟨⟨_, _, _, _, _, _, _, _, _, _, _, _, _, _, _, _, _, _, ?rel, rfl⟩, ?measure⟩
            case rel => exact ⟨k + 1, by go_num, by rw [show k + 1 - 1 = k by omega, HR.out], by omega, hlt, HO.out.keep rfl, below_drw HBB.out⟩
            case measure => simp [intOf]; omega
        · have hkn : n = k := by omega
          subst hkn
          have k1 : ¬ ((n : Int) < (n : Int)) := by omega
          go_wp2_with fail
          rw [← HQ.out]
          go_wp2_with fail
          go_ret2
          exact ⟨ret_2 H5.out.symm H4.out.symm, HBB.out⟩
  · have hb1 : (flC n N m P K d != 0) = true := by simpa using hc
    have hb2 : (flC n N m P K d == 0) = false := by simpa using hc
    have H4 := Lib.hid (show lwC n N m P K d = flC n N m P K d by unfold lwC; rw [if_neg hc])
    have H3 := Lib.hid (show lwA n N m P K d = 0 by unfold lwA; rw [H4.out, if_neg hc])
    clear hc
    go_wp2_with fail
    go_ret2
    exact ⟨ret_2 H3.out.symm H4.out.symm, B1⟩
end Go.Proofs.Ytlcegdamjbpfpaa.mem
