/-
  Chapter 12: the form of proofs, both. Conditions: the arguments lie in the memory as lists.
-/
import Derived.Test.YtdbgcbkmcbgdiaaDoorRows
import Derived.Test.YtdbgcbkmcbgdiaaDoorCiM
import Derived.Test.YtdbgcbkmcbgdiaaDoorCsM
import Derived.Test.YtdbgcbkmcbgdiaaDoorPrf
import Derived.Deep.RegionHeld3
namespace Go.Proofs.YtdbgcbkmcbgdiaaDoor.mem
open Go.RowKit
set_option linter.unusedVariables false

def alB (n L : Nat) (l : Nat → Int) : Bool := decide (L = n) && irB (-1000000000000000000) 1000000000000000000 l L
theorem alB_iff {n L : Nat} {l : Nat → Int} : alB n L l = true ↔ L = n ∧ ∀ k, k < L → -1000000000000000000 ≤ l k ∧ l k ≤ 1000000000000000000 := by
  unfold alB
  rw [Bool.and_eq_true, decide_eq_true_iff, irB_iff]
  constructor
  · rintro ⟨h1, h2⟩
    exact ⟨h1, fun k hk => inR_iff.1 (h2 k hk)⟩
  · rintro ⟨h1, h2⟩
    exact ⟨h1, fun k hk => inR_iff.2 (h2 k hk)⟩
set_option maxRecDepth 100000 in
set_option maxHeartbeats 8000000 in
theorem areLevels_any (w : World) (p0 p1 : Option Addr) (n m c0 c1 : Nat) (va : Value) (L : Nat) (l : Nat → Int) (la ha : Nat) (hv : Sl w va L l la ha) (hha : ha ≤ w.heap.size) (hL9 : L ≤ 9223372036854775807) (hn9 : n ≤ 9223372036854775807) :
    Calls Tryd.prog 34 #[.agg #[.slice p0 n c0, .slice p1 m c1], va] w fun e w' => e = .returned (.bool (alB n L l)) ∧ Below w.heap.size w w' := by
  obtain ⟨pa, ca, rfl⟩ := hv.sh
  have A0 := boxed w (.slice p0 n c0) (.slice p1 m c1) 35
  have B0 := below_new w (.cells #[.slice p0 n c0, .slice p1 m c1] 35)
  have HS := Lib.hid (hv.below B0 hha)
  have e0 := A0.b0
  by_cases hLn : L = n
  · have hq : ((L : Int) == (n : Int)) = true := by subst hLn; simp
    have HR := Lib.hid (show irB (-1000000000000000000) 1000000000000000000 l L = alB n L l by unfold alB; rw [decide_eq_true hLn, Bool.true_and])
    clear hLn hv
    go_enter Tryd.func34, Tryd.ntmps34
    go_wp2_with (go_at_call 44; refine (areInRange_any _ _ _ _ L l la ha HS.out hL9).mono ?_; rintro e w' ⟨rfl, rfl⟩; rw [HR.out])
    go_ret
    exact ⟨rfl, B0⟩
  · have hq : ((L : Int) == (n : Int)) = false := by simp; omega
    have HR := Lib.hid (show alB n L l = false by unfold alB; rw [decide_eq_false hLn, Bool.false_and])
    clear hLn hv
    go_enter Tryd.func34, Tryd.ntmps34
    go_wp2_with fail
    go_ret
    exact ⟨ret_b HR.out.symm, B0⟩
theorem l01BigC_any (x : Int) (w : World) : Calls Tryd.prog 41 #[.int .i64 x] w fun e w' => e = .returned (.bool (inR x (-1000000000000000000) 1000000000000000000)) ∧ w = w' := by
  go_enter Tryd.func41, Tryd.ntmps41
  go_wp2_with (go_at_call 50; refine (l01In_any _ _ _ _).mono ?_; rintro e w' ⟨rfl, rfl⟩)
  go_ret
  exact ⟨rfl, rfl⟩
set_option maxRecDepth 100000 in
set_option maxHeartbeats 8000000 in
theorem l12Levels_any (w : World) (p0 p1 : Option Addr) (n m c0 c1 : Nat) (va : Value) (L : Nat) (l : Nat → Int) (la ha : Nat) (hv : Sl w va L l la ha) (hha : ha ≤ w.heap.size) (hL9 : L ≤ 9223372036854775807) (hn9 : n ≤ 9223372036854775807) :
    Calls Tryd.prog 29 #[.agg #[.slice p0 n c0, .slice p1 m c1], va] w fun e w' => e = .returned (.bool (alB n L l)) ∧ Below w.heap.size w w' := by
  have A0 := boxed w (.slice p0 n c0) (.slice p1 m c1) 35
  have B0 := Lib.hid (below_new w (.cells #[.slice p0 n c0, .slice p1 m c1] 35))
  obtain ⟨pa, ca, rfl, hc⟩ := hv.below B0.out hha
  have HC := Lib.hid hc
  have e0 := A0.b0
  clear hc A0 hv
  go_enter Tryd.func29, Tryd.ntmps29
  go_wp2_with fail
  generalize hw1 : w.alloc (.cells #[.slice p0 n c0, .slice p1 m c1] 35) = w1 at *
  clear hw1
  go_loopw [5] (fun iv wr => ∃ k : Nat, iv = .int .i64 k ∧ k ≤ L ∧ irB (-1000000000000000000) 1000000000000000000 l k = true ∧ wr = w1) (fun iv _ => L - (intOf iv).toNat)
  case atStart => exact ⟨0, rfl, Nat.zero_le _, rfl, rfl⟩
  case round =>
    obtain ⟨k, rfl, hk, hir, rfl⟩ := hrel
    have HI := Lib.hid hir
    clear hir
    have k0 : (0 : Int) ≤ (k : Int) := Int.natCast_nonneg _
    by_cases hlt : k < L
    · have k1 : (k : Int) < (L : Int) := by omega
      rcases HC.out with e | ⟨b, o, rfl, _, _, hx⟩
      · omega
      have y0 := hx k hlt
      clear hx
      cases hq : inR (l k) (-1000000000000000000) 1000000000000000000
      · have HR := Lib.hid (show alB n L l = false by unfold alB; rw [irB_no hlt hq, Bool.and_false])
        go_wp2_with (go_at_call 41; refine (l01BigC_any _ _).mono ?_; rintro e w' ⟨rfl, rfl⟩; rw [hq])
        go_ret
        exact ⟨ret_b HR.out.symm, B0.out⟩
      · have HR := Lib.hid (show irB (-1000000000000000000) 1000000000000000000 l (k + 1) = true by unfold irB; rw [HI.out, hq]; rfl)
        go_wp2_with (go_at_call 41; refine (l01BigC_any _ _).mono ?_; rintro e w' ⟨rfl, rfl⟩; rw [hq])
        go_roundw
        case rel => exact ⟨k + 1, by go_num, hlt, HR.out, (by first | rfl | trivial)⟩
        case measure => simp [intOf]; omega
    · have hkn : k = L := by omega
      have HI2 := Lib.hid (show irB (-1000000000000000000) 1000000000000000000 l L = true by rw [← hkn]; exact HI.out)
      have k1 : ¬ ((k : Int) < (L : Int)) := by omega
      have HR := Lib.hid (show ((L : Int) == (n : Int)) = alB n L l by
        unfold alB
        rw [HI2.out, Bool.and_true]
        by_cases e : L = n
        · rw [decide_eq_true e]; subst e; simp
        · rw [decide_eq_false e]; simp; omega)
      clear hkn
      go_wp2_with fail
      go_ret
      exact ⟨ret_b HR.out, B0.out⟩
noncomputable def prC (n : Nat) (N : Nat → Nod) (m : Nat) (P : Nat → Pip) (F : Nat) (f : Nat → Int) (L : Nat) (l : Nat → Int) : Int := if flC n N m P F f = 0 then (if alB n L l = true then 0 else 3) else flC n N m P F f
theorem prC_ok {n : Nat} {N : Nat → Nod} {m : Nat} {P : Nat → Pip} {F : Nat} {f : Nat → Int} {L : Nat} {l : Nat → Int} (h : prC n N m P F f L l = 0) : netB n N m P = true ∧ F = m ∧ L = n ∧ (∀ k, k < m → -30000 ≤ f k ∧ f k ≤ 30000) ∧ ∀ k, k < n → -1000000000000000000 ≤ l k ∧ l k ≤ 1000000000000000000 := by
  unfold prC at h
  split at h
  · next h0 =>
    split at h
    · next h1 =>
      obtain ⟨hB, rfl, hf⟩ := flC_ok h0
      obtain ⟨rfl, hl⟩ := alB_iff.1 h1
      exact ⟨hB, rfl, rfl, fun k hk => flQ_iff.1 (flB_iff.1 hf k hk), hl⟩
    · omega
  · next h0 => exact absurd h h0
set_option maxRecDepth 100000 in
set_option maxHeartbeats 8000000 in
theorem prCheck_any (w : World) (v : Value) (n : Nat) (N : Nat → Nod) (m : Nat) (P : Nat → Pip) (lo hi : Nat) (h : NetAt w v n N m P lo hi) (hhi : hi ≤ w.heap.size) (hN : ∀ i, i < n → (N i).s.size ≤ 9223372036854775807) (vp : Value) (F : Nat) (f : Nat → Int) (L : Nat) (l : Nat → Int) (lp hp : Nat) (hpr : PrAt w vp F f L l lp hp) (hhp : hp ≤ w.heap.size) (hF9 : F ≤ 9223372036854775807) (hL9 : L ≤ 9223372036854775807) :
    Calls Tryd.prog 20 #[v, vp] w (fun e w' => e = .returned (.int .i64 (prC n N m P F f L l)) ∧ Below w.heap.size w w') := by
  obtain ⟨p0, c0, p1, c1, rfl, hn9, hm9⟩ := h.parts
  obtain ⟨q0, d0, q1, d1, rfl⟩ := hpr.shape
  obtain ⟨hf, hl⟩ := hpr.two
  have HV := Lib.hid h
  have HN := Lib.hid hN
  have HF := Lib.hid hf
  have HL := Lib.hid hl
  have HPR := Lib.hid hpr
  have A0 := (boxed w (.slice p0 n c0) (.slice p1 m c1) 35).keep (Below.heap_alloc _ (.cells #[.slice q0 F d0, .slice q1 L d1] 37) _ (by rw [szal]; omega))
  have C0 := boxed (w.alloc (.cells #[.slice p0 n c0, .slice p1 m c1] 35)) (.slice q0 F d0) (.slice q1 L d1) 37
  simp only [szal] at C0
  have B0 := (below_new w (.cells #[.slice p0 n c0, .slice p1 m c1] 35)).trans ((below_new _ (.cells #[.slice q0 F d0, .slice q1 L d1] 37)).mono (by rw [szal]; omega))
  have hs0 : ((w.alloc (.cells #[.slice p0 n c0, .slice p1 m c1] 35)).alloc (.cells #[.slice q0 F d0, .slice q1 L d1] 37)).heap.size = w.heap.size + 1 + 1 := by simp
  clear h hN hpr hf hl
  go_enter Tryd.func20, Tryd.ntmps20
  have e0' := A0.b0
  have e1' := A0.b1
  have k0' := C0.b0
  have k1' := C0.b1
  go_upto_region 1 with (fail)
  obtain ⟨w0, hw0⟩ : ∃ w0, (w.alloc (.cells #[.slice p0 n c0, .slice p1 m c1] 35)).alloc (.cells #[.slice q0 F d0, .slice q1 L d1] 37) = w0 := ⟨_, rfl⟩
  rw [hw0] at A0 C0 B0 hs0 e0' e1' k0' k1' ⊢
  clear hw0
  have y0' := cell_newV w0 (.slice q0 F d0) 26
  have nz := below_new w0 (.cells #[.slice q0 F d0] 26)
  have sz := szal w0 (.cells #[.slice q0 F d0] 26)
  have A1' := A0.below nz (by omega)
  have C1' := C0.below nz (by omega)
  have B1' := B0.trans (nz.mono (by omega))
  have hs1' := Nat.le_antisymm_iff.1 (show (w0.alloc (.cells #[.slice q0 F d0] 26)).heap.size = w.heap.size + 1 + 1 + 1 by omega)
  have hs0' := Nat.le_antisymm_iff.1 hs0
  clear sz hs0 nz
  go_wp2_with fail
  refine (checkFlows_any _ _ n N m P lo hi (HV.out.below B1' hhi) (by omega) HN.out _ _ y0' (by omega) F f lp hp (HF.out.below B1' hhp) (by omega) hF9).mono ?_
  rintro e w2 ⟨rfl, b2⟩
  have A2 := A1'.below b2 (by omega)
  have C2 := C1'.below b2 (by omega)
  have B2 := B1'.trans (b2.mono (by omega))
  have hs2 := b2.size
  have u2 : w.heap.size + 1 + 1 ≤ w2.heap.size := by omega
  clear A0 C0 B0 A1' C1' B1' y0' b2 hs2 hs0' hs1' e0' e1' k0' k1'
  have e0 := A2.b0
  have e1 := A2.b1
  have k0 := C2.b0
  have k1 := C2.b1
  by_cases hc : flC n N m P F f = 0
  · have HC := Lib.hid hc
    rw [hc]
    clear hc
    cases hq : alB n L l
    all_goals
      have HR := Lib.hid (show prC n N m P F f L l = if alB n L l = true then 0 else 3 by unfold prC; rw [if_pos HC.out])
      rw [hq] at HR
      go_wp2_with (go_at_call 34; refine (areLevels_any _ p0 p1 n m c0 c1 _ L l lp hp (HL.out.below B2 hhp) (by omega) hL9 hn9).mono ?_; rintro e w3 ⟨rfl, b3⟩; rw [hq])
      go_ret
      exact ⟨ret_i HR.out.symm, B2.trans (b3.mono (by omega))⟩
  · have hb1 : (flC n N m P F f != 0) = true := by simpa using hc
    have HR := Lib.hid (show prC n N m P F f L l = flC n N m P F f by unfold prC; rw [if_neg hc])
    clear hc
    go_wp2_with fail
    go_ret
    exact ⟨ret_i HR.out.symm, B2⟩
set_option maxRecDepth 100000 in
set_option maxHeartbeats 8000000 in
theorem l12Form_any (w : World) (v : Value) (n : Nat) (N : Nat → Nod) (m : Nat) (P : Nat → Pip) (lo hi : Nat) (h : NetAt w v n N m P lo hi) (hhi : hi ≤ w.heap.size) (hN : ∀ i, i < n → (N i).s.size ≤ 9223372036854775807) (vp : Value) (F : Nat) (f : Nat → Int) (L : Nat) (l : Nat → Int) (lp hp : Nat) (hpr : PrAt w vp F f L l lp hp) (hhp : hp ≤ w.heap.size) (hF9 : F ≤ 9223372036854775807) (hL9 : L ≤ 9223372036854775807) :
    Calls Tryd.prog 15 #[v, vp] w (fun e w' => e = .returned (.int .i64 (prC n N m P F f L l)) ∧ Below w.heap.size w w') := by
  obtain ⟨p0, c0, p1, c1, rfl, hn9, hm9⟩ := h.parts
  obtain ⟨q0, d0, q1, d1, rfl⟩ := hpr.shape
  obtain ⟨hf, hl⟩ := hpr.two
  have HV := Lib.hid h
  have HN := Lib.hid hN
  have HF := Lib.hid hf
  have HL := Lib.hid hl
  have HPR := Lib.hid hpr
  have A0 := (boxed w (.slice p0 n c0) (.slice p1 m c1) 35).keep (Below.heap_alloc _ (.cells #[.slice q0 F d0, .slice q1 L d1] 37) _ (by rw [szal]; omega))
  have C0 := boxed (w.alloc (.cells #[.slice p0 n c0, .slice p1 m c1] 35)) (.slice q0 F d0) (.slice q1 L d1) 37
  simp only [szal] at C0
  have B0 := (below_new w (.cells #[.slice p0 n c0, .slice p1 m c1] 35)).trans ((below_new _ (.cells #[.slice q0 F d0, .slice q1 L d1] 37)).mono (by rw [szal]; omega))
  have hs0 : ((w.alloc (.cells #[.slice p0 n c0, .slice p1 m c1] 35)).alloc (.cells #[.slice q0 F d0, .slice q1 L d1] 37)).heap.size = w.heap.size + 1 + 1 := by simp
  clear h hN hpr hf hl
  go_enter Tryd.func15, Tryd.ntmps15
  have e0' := A0.b0
  have e1' := A0.b1
  have k0' := C0.b0
  have k1' := C0.b1
  go_wp2_with fail
  refine (l05Code_any _ _ n N m P lo hi (HV.out.below B0 hhi) (by omega) HN.out _ F f lp hp (HF.out.below B0 hhp) (by omega) hF9).mono ?_
  rintro e w2 ⟨rfl, b2⟩
  have A2 := A0.below b2 (by omega)
  have C2 := C0.below b2 (by omega)
  have B2 := B0.trans (b2.mono (by omega))
  have hs2 := b2.size
  have u2 : w.heap.size + 1 + 1 ≤ w2.heap.size := by omega
  clear A0 C0 B0 b2 hs2 e0' e1' k0' k1' hs0
  have e0 := A2.b0
  have e1 := A2.b1
  have k0 := C2.b0
  have k1 := C2.b1
  by_cases hc : flC n N m P F f = 0
  · have HC := Lib.hid hc
    rw [hc]
    clear hc
    cases hq : alB n L l
    all_goals
      have HR := Lib.hid (show prC n N m P F f L l = if alB n L l = true then 0 else 3 by unfold prC; rw [if_pos HC.out])
      rw [hq] at HR
      go_wp2_with (go_at_call 29; refine (l12Levels_any _ p0 p1 n m c0 c1 _ L l lp hp (HL.out.below B2 hhp) (by omega) hL9 hn9).mono ?_; rintro e w3 ⟨rfl, b3⟩; rw [hq])
      go_ret
      exact ⟨ret_i HR.out.symm, B2.trans (b3.mono (by omega))⟩
  · have hb1 : (flC n N m P F f == 0) = false := by simpa using hc
    have HR := Lib.hid (show prC n N m P F f L l = flC n N m P F f by unfold prC; rw [if_neg hc])
    clear hc
    go_wp2_with fail
    go_ret
    exact ⟨ret_i HR.out.symm, B2⟩
end Go.Proofs.YtdbgcbkmcbgdiaaDoor.mem
