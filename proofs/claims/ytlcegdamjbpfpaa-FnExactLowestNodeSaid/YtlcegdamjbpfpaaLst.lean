/-
  The specification's DropOf and DropsOf. Conditions: as each states.
-/
import Derived.Test.YtlcegdamjbpfpaaRows
import Derived.Test.YtlcegdamjbpfpaaLss
import Derived.Test.YtlcegdamjbpfpaaLvd
namespace Go.Proofs.Ytlcegdamjbpfpaa.mem
open Go.RowKit
set_option linter.unusedVariables false

set_option maxRecDepth 100000 in
set_option maxHeartbeats 8000000 in
theorem dropOfS_any (w : World) (v : Value) (n : Nat) (N : Nat → Nod) (m : Nat) (P : Nat → Pip) (lo hi : Nat) (h : NetAt w v n N m P lo hi) (hhi : hi ≤ w.heap.size) (hN : ∀ i, i < n → (N i).s.size ≤ 9223372036854775807) (a x : Int) :
    Calls Try.prog 22 #[v, .int .i64 a, .int .i64 x] w (IIPost w (dpA n N m P a x) (dpC n N m P a x)) := by
  obtain ⟨p0, c0, p1, c1, rfl, hn9, hm9⟩ := h.parts
  have HV := Lib.hid h
  have HN := Lib.hid hN
  have A0 := boxed w (.slice p0 n c0) (.slice p1 m c1) 33
  have B0 := below_new w (.cells #[.slice p0 n c0, .slice p1 m c1] 33)
  have hs0 : (w.alloc (.cells #[.slice p0 n c0, .slice p1 m c1] 33)).heap.size = w.heap.size + 1 := by simp
  clear h hN
  go_enter Try.func22, Try.ntmps22
  have e0 := A0.b0
  have e1 := A0.b1
  go_wp2_with fail
  refine (l02PipeCode_any _ _ n N m P lo hi (HV.out.below B0 hhi) (by omega) HN.out a).mono ?_
  rintro e w1 ⟨rfl, b1⟩
  have A1 := A0.below b1 (by omega)
  have B1 := B0.trans (b1.mono (by omega))
  have hs1 := b1.size
  have f2 : w.heap.size < w1.heap.size := by omega
  clear A0 B0 b1 e0 e1 hs0 hs1
  have e0 := A1.b0
  have e1 := A1.b1
  by_cases hc : codeB (netB n N m P) (inR a 0 (m - 1)) = 0
  · obtain ⟨hB, hz⟩ := codeB_zero hc
    obtain ⟨hn1, hn24, hm40⟩ := net_sz hB
    have HFC := Lib.hid hc
    obtain ⟨R, rfl⟩ := Int.eq_ofNat_of_zero_le (inR_iff.1 hz).1
    have hRm : R < m := by have := (inR_iff.1 hz).2; omega
    rw [hc]
    clear hc hz
    cases hq : flQ x
    ·
      go_wp2_with fail
      refine (l05Flow_any w1 x).mono ?_
      rintro e w' ⟨rfl, rfl⟩
      rw [hq]
      have H4 := Lib.hid (show dpC n N m P (R : Nat) x = 2 by unfold dpC; rw [if_pos HFC.out, hq]; rfl)
      have H3 := Lib.hid (show dpA n N m P (R : Nat) x = 0 by unfold dpA; rw [H4.out]; rfl)
      go_wp2_with fail
      go_ret2
      exact ⟨ret_2 H3.out.symm H4.out.symm, B1⟩
    ·
      go_wp2_with fail
      refine (l05Flow_any w1 x).mono ?_
      rintro e w' ⟨rfl, rfl⟩
      rw [hq]
      have H4 := Lib.hid (show dpC n N m P (R : Nat) x = 0 by unfold dpC; rw [if_pos HFC.out, hq]; rfl)
      have H3 := Lib.hid (show dpA n N m P (R : Nat) x = drp (P R) x by unfold dpA; rw [H4.out, Int.toNat_natCast]; rfl)
      obtain ⟨x0, x1⟩ := flQ_iff.1 hq
      go_wp2_with fail
      refine (l07Drop_any _ _ n N m P lo hi (HV.out.below B1 hhi) (by omega) hB R hRm x x0 x1).mono ?_
      rintro e w9 ⟨rfl, b9⟩
      have HB9 := Lib.hid (B1.trans (b9.mono (by omega)))
      clear b9 e0 e1
      go_wp2_with fail
      go_ret2
      exact ⟨ret_2 H3.out.symm H4.out.symm, HB9.out⟩
  · have hb1 : (codeB (netB n N m P) (inR a 0 (m - 1)) != 0) = true := by simpa using hc
    have hb2 : (codeB (netB n N m P) (inR a 0 (m - 1)) == 0) = false := by simpa using hc
    have H4 := Lib.hid (show dpC n N m P a x = codeB (netB n N m P) (inR a 0 (m - 1)) by unfold dpC; rw [if_neg hc])
    have H3 := Lib.hid (show dpA n N m P a x = 0 by unfold dpA; rw [H4.out, if_neg hc])
    clear hc
    go_wp2_with fail
    go_ret2
    exact ⟨ret_2 H3.out.symm H4.out.symm, B1⟩
set_option maxRecDepth 100000 in
set_option maxHeartbeats 8000000 in
theorem dropsOfS_any (w : World) (v : Value) (n : Nat) (N : Nat → Nod) (m : Nat) (P : Nat → Pip) (lo hi : Nat) (h : NetAt w v n N m P lo hi) (hhi : hi ≤ w.heap.size) (hN : ∀ i, i < n → (N i).s.size ≤ 9223372036854775807) (va : Value) (K : Nat) (d : Nat → Int) (la ha : Nat) (hv : Sl w va K d la ha) (hha : ha ≤ w.heap.size) (hK9 : K ≤ 9223372036854775807) :
    Calls Try.prog 24 #[v, va] w (LIPost w (dsN n N m P K d) (fun i => drp (P i) (d i)) (flC n N m P K d)) := by
  obtain ⟨p0, c0, p1, c1, rfl, hn9, hm9⟩ := h.parts
  have HV := Lib.hid h
  have HN := Lib.hid hN
  obtain ⟨pa, ca, rfl⟩ := hv.sh
  have HSV := Lib.hid hv
  have A0 := boxed w (.slice p0 n c0) (.slice p1 m c1) 33
  have B0 := below_new w (.cells #[.slice p0 n c0, .slice p1 m c1] 33)
  have hs0 : (w.alloc (.cells #[.slice p0 n c0, .slice p1 m c1] 33)).heap.size = w.heap.size + 1 := by simp
  clear h hN hv
  go_enter Try.func24, Try.ntmps24
  have e0 := A0.b0
  have e1 := A0.b1
  go_wp2_with fail
  refine (l05Code_any _ _ n N m P lo hi (HV.out.below B0 hhi) (by omega) HN.out _ K d la ha (HSV.out.below B0 hha) (by omega) hK9).mono ?_
  rintro e w1 ⟨rfl, b1⟩
  have A1 := A0.below b1 (by omega)
  have B1 := B0.trans (b1.mono (by omega))
  have hs1 := b1.size
  have f2 : w.heap.size < w1.heap.size := by omega
  clear A0 B0 b1 e0 e1 hs0 hs1
  have e0 := A1.b0
  have e1 := A1.b1
  by_cases hc : flC n N m P K d = 0
  · obtain ⟨hB, rfl, hf⟩ := flC_ok hc
    obtain ⟨hn1, hn24, hm40⟩ := net_sz hB
    have HFC := Lib.hid hc
    have HFR := Lib.hid (flB_rng hf)
    have H3 := Lib.hid (show dsN n N K P K d = K by unfold dsN; rw [if_pos hc])
    rw [hc]
    clear hc hf
    go_wp2_with fail
    refine (l07Drops_any _ _ n N K P lo hi (HV.out.below B1 hhi) (by omega) hB _ d la ha (HSV.out.below B1 hha) (by omega) HFR.out).mono ?_
    rintro e w9 ⟨v9, g, rfl, og, hg, b9⟩
    obtain ⟨cg, rfl⟩ := og.shape
    have HB9 := Lib.hid (B1.trans (b9.mono (by omega)))
    have HO9 := Lib.hid og
    clear og b9 e0 e1
    go_wp2_with fail
    go_ret2
    exact li_ok H3.out.symm (by rw [HFC.out]; rfl) HO9.out (by omega) HB9.out
  · have hb1 : (flC n N m P K d != 0) = true := by simpa using hc
    have H3 := Lib.hid (show dsN n N m P K d = 0 by unfold dsN; rw [if_neg hc])
    clear hc
    go_wp2_with fail
    go_ret2
    exact li_err H3.out rfl rfl B1
end Go.Proofs.Ytlcegdamjbpfpaa.mem
