/-
  The specification's DropOf and DropsOf. Conditions: as each states.
-/
import Derived.Test.YtlcegdamjbpfpaaGreatRows
import Derived.Test.YtlcegdamjbpfpaaGreatLss
import Derived.Test.YtlcegdamjbpfpaaGreatLvd
namespace Go.Proofs.YtlcegdamjbpfpaaGreat.mem
open Go.RowKit
set_option linter.unusedVariables false

set_option maxRecDepth 100000 in
set_option maxHeartbeats 8000000 in
theorem dropsOfS_any (w : World) (v : Value) (n : Nat) (N : Nat → Nod) (m : Nat) (P : Nat → Pip) (lo hi : Nat) (h : NetAt w v n N m P lo hi) (hhi : hi ≤ w.heap.size) (hN : ∀ i, i < n → (N i).s.size ≤ 9223372036854775807) (va : Value) (K : Nat) (d : Nat → Int) (la ha : Nat) (hv : Sl w va K d la ha) (hha : ha ≤ w.heap.size) (hK9 : K ≤ 9223372036854775807) :
    Calls Tryz.prog 23 #[v, va] w (LIPost w (dsN n N m P K d) (fun i => drp (P i) (d i)) (flC n N m P K d)) := by
  obtain ⟨p0, c0, p1, c1, rfl, hn9, hm9⟩ := h.parts
  have HV := Lib.hid h
  have HN := Lib.hid hN
  obtain ⟨pa, ca, rfl⟩ := hv.sh
  have HSV := Lib.hid hv
  have A0 := boxed w (.slice p0 n c0) (.slice p1 m c1) 33
  have B0 := below_new w (.cells #[.slice p0 n c0, .slice p1 m c1] 33)
  have hs0 : (w.alloc (.cells #[.slice p0 n c0, .slice p1 m c1] 33)).heap.size = w.heap.size + 1 := by simp
  clear h hN hv
  go_enter Tryz.func23, Tryz.ntmps23
  have e0 := A0.b0
  have e1 := A0.b1
  go_wp2_with fail
  refine (l05Code_any _ _ n N m P lo hi (HV.out.below B0 hhi) (by omega) HN.out _ K d la ha (HSV.out.below B0 hha) (by omega) hK9).mono ?_
  rintro e w1 ⟨rfl, b1⟩
  have A1 := A0.below b1 (by omega)
  have B1 := B0.trans (b1.mono (by omega))
  have hs1 := b1.size
  have f2 : w.heap.size < w1.heap.size := by omega
  clear A0 B0 b1 e0 e1 hs0 hs1
  have e0 := A1.b0
  have e1 := A1.b1
  by_cases hc : flC n N m P K d = 0
  · obtain ⟨hB, rfl, hf⟩ := flC_ok hc
    obtain ⟨hn1, hn24, hm40⟩ := net_sz hB
    have HFC := Lib.hid hc
    have HFR := Lib.hid (flB_rng hf)
    have H3 := Lib.hid (show dsN n N K P K d = K by unfold dsN; rw [if_pos hc])
    rw [hc]
    clear hc hf
    go_wp2_with fail
    refine (l07Drops_any _ _ n N K P lo hi (HV.out.below B1 hhi) (by omega) hB _ d la ha (HSV.out.below B1 hha) (by omega) HFR.out).mono ?_
    rintro e w9 ⟨v9, g, rfl, og, hg, b9⟩
    obtain ⟨cg, rfl⟩ := og.shape
    have HB9 := Lib.hid (B1.trans (b9.mono (by omega)))
    have HO9 := Lib.hid og
    clear og b9 e0 e1
    go_wp2_with fail
    go_ret2
    exact li_ok H3.out.symm (by rw [HFC.out]; rfl) HO9.out (by omega) HB9.out
  · have hb1 : (flC n N m P K d != 0) = true := by simpa using hc
    have H3 := Lib.hid (show dsN n N m P K d = 0 by unfold dsN; rw [if_neg hc])
    clear hc
    go_wp2_with fail
    go_ret2
    exact li_err H3.out rfl rfl B1
end Go.Proofs.YtlcegdamjbpfpaaGreat.mem
