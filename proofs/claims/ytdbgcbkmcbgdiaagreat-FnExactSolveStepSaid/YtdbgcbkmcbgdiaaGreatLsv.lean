/-
  SolveLoops and MovesNeeded return what their text says, both those of the program and of the specification. Conditions: the arguments lie in the memory as lists.
-/
import Derived.Test.YtdbgcbkmcbgdiaaGreatRows
import Derived.Test.YtdbgcbkmcbgdiaaGreatLrs
import Derived.Test.YtdbgcbkmcbgdiaaGreatBsM
import Derived.Test.YtdbgcbkmcbgdiaaGreatLfm
namespace Go.Proofs.YtdbgcbkmcbgdiaaGreat.mem
open Go.RowKit
set_option linter.unusedVariables false

theorem owns_sl1 {w : World} {v : Value} {n b : Nat} {d : Nat → Int} (h : OwnS w v n 1 (fun i _ => .int .i64 (d i)) b) : Sl w v n d 0 w.heap.size := by
  obtain ⟨p', cap, hv, h1, h2, h3⟩ := h.ex
  refine ⟨p', cap, hv, ?_⟩
  rcases h3 with h3 | ⟨h3, h4⟩
  · exact .inl h3
  · refine .inr ⟨b, 0, h3, Nat.zero_le _, h4.lt, fun k hk => ?_⟩
    have := h4.cell k 0 hk (by omega)
    simpa using this
theorem stB_max : stB 32768 = true := by decide
theorem stB_one : stB 1 = true := by decide
noncomputable def slN (n : Nat) (N : Nat → Nod) (m : Nat) (P : Nat → Pip) (K : Nat) (d : Nat → Int) : Nat := if ffC n N m P K d = 0 then m else 0
noncomputable def slM (n : Nat) (N : Nat → Nod) (m : Nat) (P : Nat → Pip) (K : Nat) (d : Nat → Int) : Int := if ffC n N m P K d = 0 then (rfR n m P (fflN n P m d) 32768).2 else 0
theorem rf_of {n : Nat} {N : Nat → Nod} {m : Nat} {P : Nat → Pip} {x : Nat → Int} {st : Int} (hB : netB n N m P = true) (hf : flB x m = true) (hs : stB st = true) : rfC n N m P m x st = 0 ∧ rfN n N m P m x st = m ∧ rfM n N m P m x st = (rfR n m P x st).2 := by
  have h0 : rfC n N m P m x st = 0 := by unfold rfC; rw [if_pos (flC_is hB hf), if_pos hs]
  exact ⟨h0, by unfold rfN; rw [if_pos h0], by unfold rfM; rw [if_pos h0]⟩
set_option maxRecDepth 100000 in
set_option maxHeartbeats 8000000 in
theorem solvedLoops_any (w : World) (v : Value) (n : Nat) (N : Nat → Nod) (m : Nat) (P : Nat → Pip) (lo hi : Nat) (h : NetAt w v n N m P lo hi) (hhi : hi ≤ w.heap.size) (hN : ∀ i, i < n → (N i).s.size ≤ 9223372036854775807) (va : Value) (K : Nat) (d : Nat → Int) (la ha : Nat) (hv : Sl w va K d la ha) (hha : ha ≤ w.heap.size) (hK9 : K ≤ 9223372036854775807) :
    Calls Tryz.prog 66 #[v, va] w (LIIPost w (slN n N m P K d) (rfR n m P (fflN n P m d) 32768).1 (slM n N m P K d) (ffC n N m P K d)) := by
  obtain ⟨p0, c0, p1, c1, rfl, hn9, hm9⟩ := h.parts
  have HV := Lib.hid h
  have HN := Lib.hid hN
  obtain ⟨pa, ca, rfl⟩ := hv.sh
  have HSV := Lib.hid hv
  have A0 := boxed w (.slice p0 n c0) (.slice p1 m c1) 27
  have B0 := below_new w (.cells #[.slice p0 n c0, .slice p1 m c1] 27)
  have hs0 : (w.alloc (.cells #[.slice p0 n c0, .slice p1 m c1] 27)).heap.size = w.heap.size + 1 := by simp
  clear h hN hv
  go_enter Tryz.func66, Tryz.ntmps66
  have e0' := A0.b0
  have e1' := A0.b1
  go_wp2_with fail
  refine (forestFlowsI_any _ _ n N m P lo hi (HV.out.below B0 hhi) (by omega) HN.out _ K d la ha (HSV.out.below B0 hha) (by omega) hK9).mono ?_
  rintro e w1 ⟨vr, gr, rfl, or, hgr, b1⟩
  have A1 := A0.below b1 (by omega)
  have B1 := B0.trans (b1.mono (by omega))
  have hs1 := b1.size
  have e0 := A1.b0
  have e1 := A1.b1
  have e2 : w.heap.size < w1.heap.size := by omega
  clear A0 B0 b1 e0' e1'
  by_cases hc : ffC n N m P K d = 0
  rotate_left 1
  · obtain ⟨p9, c9, rfl⟩ := ownS_shE or
    have hb1 : (ffC n N m P K d != 0) = true := by simpa using hc
    have H3 := Lib.hid (show slN n N m P K d = 0 by unfold slN; rw [if_neg hc])
    have H2 := Lib.hid (show slM n N m P K d = 0 by unfold slM; rw [if_neg hc])
    clear hc or
    go_wp2_with fail
    go_ret3
    exact lii_err H3.out H2.out rfl rfl B1
  · obtain ⟨hB, hKn, hfd, hev, hff⟩ := ffC_ok hc
    have h3 : slN n N m P K d = m := by unfold slN; rw [if_pos hc]
    have h2 : slM n N m P K d = (rfR n m P (fflN n P m d) 32768).2 := by unfold slM; rw [if_pos hc]
    have hfn : ffN n N m P K d = m := by unfold ffN; rw [if_pos hc]
    have HN3 := Lib.hid h3
    have HM2 := Lib.hid h2
    have HCC := Lib.hid hc
    rw [hc]
    rw [hfn] at or
    have OS := owns_sl1 or
    obtain ⟨p9, c9, rfl⟩ := ownS_shE or
    obtain ⟨q1, q2, q3⟩ := rf_of hB hff stB_max
    have hpc := relaxFlowsI_any w1 _ n N m P lo hi (HV.out.below B1 hhi) (by omega) HN.out _ m (fflN n P m d) 0 _ OS (Nat.le_refl _) (by omega) 32768
    rw [q1, q2, q3] at hpc
    generalize hr : (rfR n m P (fflN n P m d) 32768) = r at *
    have HRE := Lib.hid hr
    clear hr OS hB hff hev hfd hfn h2 h3 hc or
    go_wp2_with fail
    refine hpc.mono ?_
    rintro e w2 ⟨v2, g2, rfl, o2, hg2, b2⟩
    clear hpc
    go_wp2_with fail
    go_ret3
    rw [HN3.out, HM2.out, HCC.out, HRE.out]
    exact ⟨v2, g2, rfl, o2, by omega, B1.trans (b2.mono B1.size)⟩

set_option maxRecDepth 100000 in
set_option maxHeartbeats 8000000 in
theorem solveLoopsI_any (w : World) (v : Value) (n : Nat) (N : Nat → Nod) (m : Nat) (P : Nat → Pip) (lo hi : Nat) (h : NetAt w v n N m P lo hi) (hhi : hi ≤ w.heap.size) (hN : ∀ i, i < n → (N i).s.size ≤ 9223372036854775807) (va : Value) (K : Nat) (d : Nat → Int) (la ha : Nat) (hv : Sl w va K d la ha) (hha : ha ≤ w.heap.size) (hK9 : K ≤ 9223372036854775807) :
    Calls Tryz.prog 61 #[v, va] w (LIPost w (slN n N m P K d) (rfR n m P (fflN n P m d) 32768).1 (ffC n N m P K d)) := by
  obtain ⟨p0, c0, p1, c1, rfl, hn9, hm9⟩ := h.parts
  have HV := Lib.hid h
  have HN := Lib.hid hN
  obtain ⟨pa, ca, rfl⟩ := hv.sh
  have HSV := Lib.hid hv
  have A0 := boxed w (.slice p0 n c0) (.slice p1 m c1) 27
  have B0 := below_new w (.cells #[.slice p0 n c0, .slice p1 m c1] 27)
  have hs0 : (w.alloc (.cells #[.slice p0 n c0, .slice p1 m c1] 27)).heap.size = w.heap.size + 1 := by simp
  clear h hN hv
  go_enter Tryz.func61, Tryz.ntmps61
  have e0' := A0.b0
  have e1' := A0.b1
  go_wp2_with fail
  refine (solvedLoops_any _ _ n N m P lo hi (HV.out.below B0 hhi) (by omega) HN.out _ K d la ha (HSV.out.below B0 hha) (by omega) hK9).mono ?_
  rintro e w1 ⟨vr, gr, rfl, or, hgr, b1⟩
  have A1 := A0.below b1 (by omega)
  have B1 := B0.trans (b1.mono (by omega))
  have hs1 := b1.size
  have e0 := A1.b0
  have e1 := A1.b1
  have e2 : w.heap.size < w1.heap.size := by omega
  clear A0 B0 b1 e0' e1'
  obtain ⟨p9, c9, rfl⟩ := ownS_shE or
  go_wp2_with fail
  go_ret2
  exact ⟨_, gr, rfl, or, by omega, B1⟩

set_option maxRecDepth 100000 in
set_option maxHeartbeats 8000000 in
theorem movesNeededI_any (w : World) (v : Value) (n : Nat) (N : Nat → Nod) (m : Nat) (P : Nat → Pip) (lo hi : Nat) (h : NetAt w v n N m P lo hi) (hhi : hi ≤ w.heap.size) (hN : ∀ i, i < n → (N i).s.size ≤ 9223372036854775807) (va : Value) (K : Nat) (d : Nat → Int) (la ha : Nat) (hv : Sl w va K d la ha) (hha : ha ≤ w.heap.size) (hK9 : K ≤ 9223372036854775807) :
    Calls Tryz.prog 18 #[v, va] w (IIPost w (slM n N m P K d) (ffC n N m P K d)) := by
  obtain ⟨p0, c0, p1, c1, rfl, hn9, hm9⟩ := h.parts
  have HV := Lib.hid h
  have HN := Lib.hid hN
  obtain ⟨pa, ca, rfl⟩ := hv.sh
  have HSV := Lib.hid hv
  have A0 := boxed w (.slice p0 n c0) (.slice p1 m c1) 27
  have B0 := below_new w (.cells #[.slice p0 n c0, .slice p1 m c1] 27)
  have hs0 : (w.alloc (.cells #[.slice p0 n c0, .slice p1 m c1] 27)).heap.size = w.heap.size + 1 := by simp
  clear h hN hv
  go_enter Tryz.func18, Tryz.ntmps18
  have e0' := A0.b0
  have e1' := A0.b1
  go_wp2_with fail
  refine (solvedLoops_any _ _ n N m P lo hi (HV.out.below B0 hhi) (by omega) HN.out _ K d la ha (HSV.out.below B0 hha) (by omega) hK9).mono ?_
  rintro e w1 ⟨vr, gr, rfl, or, hgr, b1⟩
  have A1 := A0.below b1 (by omega)
  have B1 := B0.trans (b1.mono (by omega))
  have hs1 := b1.size
  have e0 := A1.b0
  have e1 := A1.b1
  have e2 : w.heap.size < w1.heap.size := by omega
  clear A0 B0 b1 e0' e1'
  obtain ⟨p9, c9, rfl⟩ := ownS_shE or
  go_wp2_with fail
  go_ret2
  exact ⟨rfl, B1⟩

set_option maxRecDepth 100000 in
set_option maxHeartbeats 8000000 in
theorem solveLoopsS_any (w : World) (v : Value) (n : Nat) (N : Nat → Nod) (m : Nat) (P : Nat → Pip) (lo hi : Nat) (h : NetAt w v n N m P lo hi) (hhi : hi ≤ w.heap.size) (hN : ∀ i, i < n → (N i).s.size ≤ 9223372036854775807) (va : Value) (K : Nat) (d : Nat → Int) (la ha : Nat) (hv : Sl w va K d la ha) (hha : ha ≤ w.heap.size) (hK9 : K ≤ 9223372036854775807) :
    Calls Tryz.prog 40 #[v, va] w (LIPost w (slN n N m P K d) (rfR n m P (fflN n P m d) 32768).1 (ffC n N m P K d)) := by
  obtain ⟨p0, c0, p1, c1, rfl, hn9, hm9⟩ := h.parts
  have HV := Lib.hid h
  have HN := Lib.hid hN
  obtain ⟨pa, ca, rfl⟩ := hv.sh
  have HSV := Lib.hid hv
  have A0 := boxed w (.slice p0 n c0) (.slice p1 m c1) 27
  have B0 := below_new w (.cells #[.slice p0 n c0, .slice p1 m c1] 27)
  have hs0 : (w.alloc (.cells #[.slice p0 n c0, .slice p1 m c1] 27)).heap.size = w.heap.size + 1 := by simp
  clear h hN hv
  go_enter Tryz.func40, Tryz.ntmps40
  have e0' := A0.b0
  have e1' := A0.b1
  go_wp2_with fail
  refine (forestFlowsS_any _ _ n N m P lo hi (HV.out.below B0 hhi) (by omega) HN.out _ K d la ha (HSV.out.below B0 hha) (by omega) hK9).mono ?_
  rintro e w1 ⟨vr, gr, rfl, or, hgr, b1⟩
  have A1 := A0.below b1 (by omega)
  have B1 := B0.trans (b1.mono (by omega))
  have hs1 := b1.size
  have e0 := A1.b0
  have e1 := A1.b1
  have e2 : w.heap.size < w1.heap.size := by omega
  clear A0 B0 b1 e0' e1'
  by_cases hc : ffC n N m P K d = 0
  rotate_left 1
  · obtain ⟨p9, c9, rfl⟩ := ownS_shE or
    have hb1 : (ffC n N m P K d != 0) = true := by simpa using hc
    have H3 := Lib.hid (show slN n N m P K d = 0 by unfold slN; rw [if_neg hc])
    have H2 := Lib.hid (show slM n N m P K d = 0 by unfold slM; rw [if_neg hc])
    clear hc or
    go_wp2_with fail
    go_ret2
    exact li_err H3.out rfl rfl B1
  · obtain ⟨hB, hKn, hfd, hev, hff⟩ := ffC_ok hc
    have h3 : slN n N m P K d = m := by unfold slN; rw [if_pos hc]
    have h2 : slM n N m P K d = (rfR n m P (fflN n P m d) 32768).2 := by unfold slM; rw [if_pos hc]
    have hfn : ffN n N m P K d = m := by unfold ffN; rw [if_pos hc]
    have HN3 := Lib.hid h3
    have HM2 := Lib.hid h2
    have HCC := Lib.hid hc
    rw [hc]
    rw [hfn] at or
    have OS := owns_sl1 or
    obtain ⟨p9, c9, rfl⟩ := ownS_shE or
    have hpc := l11Relax_any w1 _ n N m P lo hi (HV.out.below B1 hhi) (by omega) HN.out hB _ (fflN n P m d) 0 _ OS (Nat.le_refl _) (fun k hk => flQ_iff.1 (flB_iff.1 hff k hk)) 32768 (by omega)
    rw [show rlx m P (fun i => cyc P (fE n P m) (fD n P m) (chS n P m i)) (chN n P m) (fflN n P m d) 32768 = (rfR n m P (fflN n P m d) 32768) from rfl] at hpc
    generalize hr : (rfR n m P (fflN n P m d) 32768) = r at *
    have HRE := Lib.hid hr
    clear hr OS hB hff hev hfd hfn h2 h3 hc or
    go_wp2_with fail
    refine hpc.mono ?_
    rintro e w2 ⟨v2, g2, rfl, o2, hg2, b2⟩
    clear hpc
    go_wp2_with fail
    go_ret2
    rw [HN3.out, HCC.out, HRE.out]
    exact ⟨v2, g2, rfl, o2.ownS, by omega, B1.trans (b2.mono B1.size)⟩

theorem agreeSolveLoops (n : Nat) (N : Nat → Nod) (m : Nat) (P : Nat → Pip) (K : Nat) (d : Nat → Int) (hN : ∀ i, i < n → (N i).s.size ≤ 9223372036854775807) (_hn : n ≤ 2000000) (hm : m ≤ 2000000) (hK : K ≤ 2000000) :
    ∃ rn rd rc, rn ≤ 2000000 ∧ (∀ w v va, NetAt w v n N m P 0 w.heap.size → Sl w va K d 0 w.heap.size → Calls Tryz.prog 61 #[v, va] w (LIPost w rn rd rc)) ∧ (∀ w v va, NetAt w v n N m P 0 w.heap.size → Sl w va K d 0 w.heap.size → Calls Tryz.prog 40 #[v, va] w (LIPost w rn rd rc)) :=
  ⟨slN n N m P K d, (rfR n m P (fflN n P m d) 32768).1, ffC n N m P K d, by unfold slN; split <;> omega, fun w v va h hv => solveLoopsI_any w v n N m P 0 _ h (Nat.le_refl _) hN va K d 0 _ hv (Nat.le_refl _) (by omega), fun w v va h hv => solveLoopsS_any w v n N m P 0 _ h (Nat.le_refl _) hN va K d 0 _ hv (Nat.le_refl _) (by omega)⟩
end Go.Proofs.YtdbgcbkmcbgdiaaGreat.mem
