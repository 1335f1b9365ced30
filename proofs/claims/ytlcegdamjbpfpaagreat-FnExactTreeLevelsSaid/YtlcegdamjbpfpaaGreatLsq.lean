/-
  The specification's ForestLevels, GapBetween, LowestNode. Conditions: as each states.
-/
import Derived.Test.YtlcegdamjbpfpaaGreatRows
import Derived.Test.YtlcegdamjbpfpaaGreatLsl
import Derived.Test.YtlcegdamjbpfpaaGreatLvd
namespace Go.Proofs.YtlcegdamjbpfpaaGreat.mem
open Go.RowKit
set_option linter.unusedVariables false

theorem l07Level_any (x : Int) (w : World) : Calls Tryz.prog 33 #[.int .i64 x] w fun e w' => e = .returned (.bool (rlB x)) ∧ w = w' := by
  unfold rlB
  go_enter Tryz.func33, Tryz.ntmps33
  go_wp2_with (go_at_call 68; refine (l01In_any _ _ _ _).mono ?_; rintro e w' ⟨rfl, rfl⟩)
  go_ret
  exact ⟨rfl, rfl⟩
set_option maxRecDepth 100000 in
set_option maxHeartbeats 8000000 in
theorem forestLevelsS_any (w : World) (v : Value) (n : Nat) (N : Nat → Nod) (m : Nat) (P : Nat → Pip) (lo hi : Nat) (h : NetAt w v n N m P lo hi) (hhi : hi ≤ w.heap.size) (hN : ∀ i, i < n → (N i).s.size ≤ 9223372036854775807) (va : Value) (K : Nat) (d : Nat → Int) (la ha : Nat) (hv : Sl w va K d la ha) (hha : ha ≤ w.heap.size) (hK9 : K ≤ 9223372036854775807) (r l : Int) :
    Calls Tryz.prog 19 #[v, va, .int .i64 r, .int .i64 l] w (LIPost w (fvN n N m P K d r l) (fun j => lvl n P m d r l (j : Nat)) (fvC n N m P K d r l)) := by
  obtain ⟨p0, c0, p1, c1, rfl, hn9, hm9⟩ := h.parts
  have HV := Lib.hid h
  have HN := Lib.hid hN
  obtain ⟨pa, ca, rfl⟩ := hv.sh
  have HSV := Lib.hid hv
  have A0 := boxed w (.slice p0 n c0) (.slice p1 m c1) 33
  have B0 := below_new w (.cells #[.slice p0 n c0, .slice p1 m c1] 33)
  have hs0 : (w.alloc (.cells #[.slice p0 n c0, .slice p1 m c1] 33)).heap.size = w.heap.size + 1 := by simp
  clear h hN hv
  go_enter Tryz.func19, Tryz.ntmps19
  have e0 := A0.b0
  have e1 := A0.b1
  go_wp2_with fail
  refine (l05Code_any _ _ n N m P lo hi (HV.out.below B0 hhi) (by omega) HN.out _ K d la ha (HSV.out.below B0 hha) (by omega) hK9).mono ?_
  rintro e w1 ⟨rfl, b1⟩
  have A1 := A0.below b1 (by omega)
  have B1 := B0.trans (b1.mono (by omega))
  have hs1 := b1.size
  have f2 : w.heap.size < w1.heap.size := by omega
  clear A0 B0 b1 e0 e1 hs0 hs1
  have e0 := A1.b0
  have e1 := A1.b1
  by_cases hc : flC n N m P K d = 0
  · obtain ⟨hB, rfl, hf⟩ := flC_ok hc
    have HFC := Lib.hid hc
    have HFR := Lib.hid (flB_rng hf)
    rw [hc]
    clear hc hf
    obtain ⟨hn1, hn24, hm40⟩ := net_sz hB
    clear hm40
    cases hz : inR r 0 (n - 1)
    ·
      go_wp2_with fail
      refine (l02Node_any p0 p1 n c0 K c1 r w1 hn9).mono ?_
      rintro e w2 ⟨rfl, b2⟩
      have A2 := A1.below b2 (by omega)
      have B2 := B1.trans (b2.mono (by omega))
      have hs2 := b2.size
      clear A1 B1 b2 e0 e1
      have g2 : w.heap.size < w2.heap.size := by omega
      clear f2 hs2
      have f2 := g2
      clear g2
      have e0 := A2.b0
      have e1 := A2.b1
      rw [hz]
      have H4 := Lib.hid (show fvC n N K P K d r l = 2 by unfold fvC; rw [if_pos HFC.out, hz]; rfl)
      have H3 := Lib.hid (show fvN n N K P K d r l = 0 by unfold fvN; rw [H4.out]; rfl)
      go_wp2_with fail
      go_ret2
      exact li_err H3.out H4.out.symm rfl B2
    ·
      go_wp2_with fail
      refine (l02Node_any p0 p1 n c0 K c1 r w1 hn9).mono ?_
      rintro e w2 ⟨rfl, b2⟩
      have A2 := A1.below b2 (by omega)
      have B2 := B1.trans (b2.mono (by omega))
      have hs2 := b2.size
      clear A1 B1 b2 e0 e1
      have g2 : w.heap.size < w2.heap.size := by omega
      clear f2 hs2
      have f2 := g2
      clear g2
      have e0 := A2.b0
      have e1 := A2.b1
      rw [hz]
      cases hy : rlB l
      ·
        go_wp2_with fail
        refine (l07Level_any l w2).mono ?_
        rintro e w' ⟨rfl, rfl⟩
        rw [hy]
        have H4 := Lib.hid (show fvC n N K P K d r l = 2 by unfold fvC; rw [if_pos HFC.out, hz, hy]; rfl)
        have H3 := Lib.hid (show fvN n N K P K d r l = 0 by unfold fvN; rw [H4.out]; rfl)
        go_wp2_with fail
        go_ret2
        exact li_err H3.out H4.out.symm rfl B2
      ·
        go_wp2_with fail
        refine (l07Level_any l w2).mono ?_
        rintro e w' ⟨rfl, rfl⟩
        rw [hy]
        cases hC : conB n N K P
        ·
          have hcn : ((cnt n P K : Int) != 1) = true := by
            unfold conB at hC
            rw [hB] at hC
            simp only [Bool.true_and, decide_eq_false_iff_not] at hC
            simp only [bne_iff_ne, ne_eq]
            omega
          go_wp2_with fail
          refine (l04Count_any _ _ n N K P lo hi (HV.out.below B2 hhi) (by omega) HN.out hB).mono ?_
          rintro e w3 ⟨rfl, b3⟩
          have A3 := A2.below b3 (by omega)
          have B3 := B2.trans (b3.mono (by omega))
          have hs3 := b3.size
          clear A2 B2 b3 e0 e1
          have g2 : w.heap.size < w3.heap.size := by omega
          clear f2 hs3
          have f2 := g2
          clear g2
          have e0 := A3.b0
          have e1 := A3.b1
          have H4 := Lib.hid (show fvC n N K P K d r l = 5 by unfold fvC; rw [if_pos HFC.out, hz, hy, hC]; rfl)
          have H3 := Lib.hid (show fvN n N K P K d r l = 0 by unfold fvN; rw [H4.out]; rfl)
          go_wp2_with fail
          go_ret2
          exact li_err H3.out H4.out.symm rfl B3
        ·
          have hcn : ((cnt n P K : Int) != 1) = false := by
            have := (conB_one hC).2
            rw [this]
            rfl
          go_wp2_with fail
          refine (l04Count_any _ _ n N K P lo hi (HV.out.below B2 hhi) (by omega) HN.out hB).mono ?_
          rintro e w3 ⟨rfl, b3⟩
          have A3 := A2.below b3 (by omega)
          have B3 := B2.trans (b3.mono (by omega))
          have hs3 := b3.size
          clear A2 B2 b3 e0 e1
          have g2 : w.heap.size < w3.heap.size := by omega
          clear f2 hs3
          have f2 := g2
          clear g2
          have e0 := A3.b0
          have e1 := A3.b1
          have H4 := Lib.hid (show fvC n N K P K d r l = 0 by unfold fvC; rw [if_pos HFC.out, hz, hy, hC]; rfl)
          have H3 := Lib.hid (show fvN n N K P K d r l = n by unfold fvN; rw [H4.out]; rfl)
          obtain ⟨R, rfl⟩ := Int.eq_ofNat_of_zero_le (inR_iff.1 hz).1
          have hRn : R < n := by have := (inR_iff.1 hz).2; omega
          obtain ⟨hl0, hl1⟩ := inR_iff.1 hy
          go_wp2_with fail
          refine (l07Levels_any _ _ n N K P lo hi (HV.out.below B3 hhi) (by omega) HN.out hB (conB_one hC).2 _ d la ha (HSV.out.below B3 hha) (by omega) HFR.out R hRn l hl0 hl1).mono ?_
          rintro e w9 ⟨v9, g, rfl, og, hg, b9⟩
          obtain ⟨cg, rfl⟩ := og.shape
          have HB9 := Lib.hid (B3.trans (b9.mono (by omega)))
          have HO9 := Lib.hid og
          clear b9
          clear og hz hy hC hB
          go_wp2_with fail
          go_ret2
          exact li_ok H3.out.symm (by rw [H4.out]; rfl) HO9.out (by omega) HB9.out
  · have hb1 : (flC n N m P K d != 0) = true := by simpa using hc
    have hb2 : (flC n N m P K d == 0) = false := by simpa using hc
    have H4 := Lib.hid (show fvC n N m P K d r l = flC n N m P K d by unfold fvC; rw [if_neg hc])
    have H3 := Lib.hid (show fvN n N m P K d r l = 0 by unfold fvN; rw [H4.out, if_neg hc])
    clear hc
    go_wp2_with fail
    go_ret2
    exact li_err H3.out H4.out.symm rfl B1
end Go.Proofs.YtlcegdamjbpfpaaGreat.mem
