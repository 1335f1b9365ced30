/-
  Chapter 12: the form of proofs, the errors of pipes; PipeError, ProofError and SameFlows, both. Conditions: the arguments lie in the memory as lists.
-/
import Derived.Test.YtdbgcbkmcbgdiaaRows
import Derived.Test.YtdbgcbkmcbgdiaaCkp
import Derived.Test.YtdbgcbkmcbgdiaaTvM
import Derived.Test.YtdbgcbkmcbgdiaaTsM
import Derived.Test.YtdbgcbkmcbgdiaaNetV
import Derived.Deep.RegionHeld3
import Derived.Lib.MinMax
namespace Go.Proofs.Ytdbgcbkmcbgdiaa.mem
open Go.RowKit
set_option linter.unusedVariables false

noncomputable def prC (n : Nat) (N : Nat → Nod) (m : Nat) (P : Nat → Pip) (F : Nat) (f : Nat → Int) (L : Nat) (l : Nat → Int) : Int := if flC n N m P F f = 0 then (if alB n L l = true then 0 else 3) else flC n N m P F f
theorem prC_ok {n : Nat} {N : Nat → Nod} {m : Nat} {P : Nat → Pip} {F : Nat} {f : Nat → Int} {L : Nat} {l : Nat → Int} (h : prC n N m P F f L l = 0) : netB n N m P = true ∧ F = m ∧ L = n ∧ (∀ k, k < m → -30000 ≤ f k ∧ f k ≤ 30000) ∧ ∀ k, k < n → -1000000000000000000 ≤ l k ∧ l k ≤ 1000000000000000000 := by
  unfold prC at h
  split at h
  · next h0 =>
    split at h
    · next h1 =>
      obtain ⟨hB, rfl, hf⟩ := flC_ok h0
      obtain ⟨rfl, hl⟩ := alB_iff.1 h1
      exact ⟨hB, rfl, rfl, fun k hk => flQ_iff.1 (flB_iff.1 hf k hk), hl⟩
    · omega
  · next h0 => exact absurd h h0
def erQ (q : Pip) (x : Int) (l : Nat → Int) : Int := l q.f.toNat - l q.t.toNat - drp q x
theorem pip_nat {n : Nat} {q : Pip} (h : pipB n q = true) : ∃ a b : Nat, q.f = (a : Int) ∧ q.t = (b : Int) ∧ a < n ∧ b < n := by
  obtain ⟨⟨f0, f1⟩, ⟨t0, t1⟩, _⟩ := pip_end h
  exact ⟨q.f.toNat, q.t.toNat, by omega, by omega, by omega, by omega⟩
theorem erQ_bnd {n : Nat} {q : Pip} {x : Int} {l : Nat → Int} (hq : pipB n q = true) (h0 : -30000 ≤ x) (h1 : x ≤ 30000) (hl : ∀ k, k < n → -1000000000000000000 ≤ l k ∧ l k ≤ 1000000000000000000) : -2000900000000000000 ≤ erQ q x l ∧ erQ q x l ≤ 2000900000000000000 := by
  obtain ⟨a, b, ha, hb, ha2, hb2⟩ := pip_nat hq
  have h2 := drp_bnd hq h0 h1
  have h3 := hl a ha2
  have h4 := hl b hb2
  unfold erQ
  rw [ha, hb, Int.toNat_natCast, Int.toNat_natCast]
  omega
noncomputable def peA (n : Nat) (N : Nat → Nod) (m : Nat) (P : Nat → Pip) (F : Nat) (f : Nat → Int) (L : Nat) (l : Nat → Int) (x : Int) : Int := if prC n N m P F f L l = 0 then (if inR x 0 (m - 1) = true then erQ (P x.toNat) (f x.toNat) l else 0) else 0
noncomputable def peC (n : Nat) (N : Nat → Nod) (m : Nat) (P : Nat → Pip) (F : Nat) (f : Nat → Int) (L : Nat) (l : Nat → Int) (x : Int) : Int := if prC n N m P F f L l = 0 then (if inR x 0 (m - 1) = true then 0 else 2) else prC n N m P F f L l
noncomputable def pwA (n : Nat) (N : Nat → Nod) (m : Nat) (P : Nat → Pip) (F : Nat) (f : Nat → Int) (L : Nat) (l : Nat → Int) : Int := if prC n N m P F f L l = 0 then leS (fun a => erQ (P a) (f a) l) m else 0
set_option maxRecDepth 100000 in
set_option maxHeartbeats 8000000 in
theorem prCheck_any (w : World) (v : Value) (n : Nat) (N : Nat → Nod) (m : Nat) (P : Nat → Pip) (lo hi : Nat) (h : NetAt w v n N m P lo hi) (hhi : hi ≤ w.heap.size) (hN : ∀ i, i < n → (N i).s.size ≤ 9223372036854775807) (vp : Value) (F : Nat) (f : Nat → Int) (L : Nat) (l : Nat → Int) (lp hp : Nat) (hpr : PrAt w vp F f L l lp hp) (hhp : hp ≤ w.heap.size) (hF9 : F ≤ 9223372036854775807) (hL9 : L ≤ 9223372036854775807) :
    Calls Try.prog 27 #[v, vp] w (fun e w' => e = .returned (.int .i64 (prC n N m P F f L l)) ∧ Below w.heap.size w w') := by
  obtain ⟨p0, c0, p1, c1, rfl, hn9, hm9⟩ := h.parts
  obtain ⟨q0, d0, q1, d1, rfl⟩ := hpr.shape
  obtain ⟨hf, hl⟩ := hpr.two
  have HV := Lib.hid h
  have HN := Lib.hid hN
  have HF := Lib.hid hf
  have HL := Lib.hid hl
  have HPR := Lib.hid hpr
  have A0 := (boxed w (.slice p0 n c0) (.slice p1 m c1) 36).keep (Below.heap_alloc _ (.cells #[.slice q0 F d0, .slice q1 L d1] 38) _ (by rw [szal]; omega))
  have C0 := boxed (w.alloc (.cells #[.slice p0 n c0, .slice p1 m c1] 36)) (.slice q0 F d0) (.slice q1 L d1) 38
  simp only [szal] at C0
  have B0 := (below_new w (.cells #[.slice p0 n c0, .slice p1 m c1] 36)).trans ((below_new _ (.cells #[.slice q0 F d0, .slice q1 L d1] 38)).mono (by rw [szal]; omega))
  have hs0 : ((w.alloc (.cells #[.slice p0 n c0, .slice p1 m c1] 36)).alloc (.cells #[.slice q0 F d0, .slice q1 L d1] 38)).heap.size = w.heap.size + 1 + 1 := by simp
  clear h hN hpr hf hl
  go_enter Try.func27, Try.ntmps27
  have e0' := A0.b0
  have e1' := A0.b1
  have k0' := C0.b0
  have k1' := C0.b1
  go_upto_region 1 with (fail)
  obtain ⟨w0, hw0⟩ : ∃ w0, (w.alloc (.cells #[.slice p0 n c0, .slice p1 m c1] 36)).alloc (.cells #[.slice q0 F d0, .slice q1 L d1] 38) = w0 := ⟨_, rfl⟩
  rw [hw0] at A0 C0 B0 hs0 e0' e1' k0' k1' ⊢
  clear hw0
  have y0' := cell_newV w0 (.slice q0 F d0) 26
  have nz := below_new w0 (.cells #[.slice q0 F d0] 26)
  have sz := szal w0 (.cells #[.slice q0 F d0] 26)
  have A1' := A0.below nz (by omega)
  have C1' := C0.below nz (by omega)
  have B1' := B0.trans (nz.mono (by omega))
  have hs1' := Nat.le_antisymm_iff.1 (show (w0.alloc (.cells #[.slice q0 F d0] 26)).heap.size = w.heap.size + 1 + 1 + 1 by omega)
  have hs0' := Nat.le_antisymm_iff.1 hs0
  clear sz hs0 nz
  go_wp2_with fail
  refine (checkFlows_any _ _ n N m P lo hi (HV.out.below B1' hhi) (by omega) HN.out _ _ y0' (by omega) F f lp hp (HF.out.below B1' hhp) (by omega) hF9).mono ?_
  rintro e w2 ⟨rfl, b2⟩
  have A2 := A1'.below b2 (by omega)
  have C2 := C1'.below b2 (by omega)
  have B2 := B1'.trans (b2.mono (by omega))
  have hs2 := b2.size
  have u2 : w.heap.size + 1 + 1 ≤ w2.heap.size := by omega
  clear A0 C0 B0 A1' C1' B1' y0' b2 hs2 hs0' hs1' e0' e1' k0' k1'
  have e0 := A2.b0
  have e1 := A2.b1
  have k0 := C2.b0
  have k1 := C2.b1
  by_cases hc : flC n N m P F f = 0
  · have HC := Lib.hid hc
    rw [hc]
    clear hc
    cases hq : alB n L l
    all_goals
      have HR := Lib.hid (show prC n N m P F f L l = if alB n L l = true then 0 else 3 by unfold prC; rw [if_pos HC.out])
      rw [hq] at HR
      go_wp2_with (go_at_call 44; refine (areLevels_any _ p0 p1 n m c0 c1 _ L l lp hp (HL.out.below B2 hhp) (by omega) hL9 hn9).mono ?_; rintro e w3 ⟨rfl, b3⟩; rw [hq])
      go_ret
      exact ⟨ret_i HR.out.symm, B2.trans (b3.mono (by omega))⟩
  · have hb1 : (flC n N m P F f != 0) = true := by simpa using hc
    have HR := Lib.hid (show prC n N m P F f L l = flC n N m P F f by unfold prC; rw [if_neg hc])
    clear hc
    go_wp2_with fail
    go_ret
    exact ⟨ret_i HR.out.symm, B2⟩
set_option maxRecDepth 100000 in
set_option maxHeartbeats 8000000 in
theorem l12Form_any (w : World) (v : Value) (n : Nat) (N : Nat → Nod) (m : Nat) (P : Nat → Pip) (lo hi : Nat) (h : NetAt w v n N m P lo hi) (hhi : hi ≤ w.heap.size) (hN : ∀ i, i < n → (N i).s.size ≤ 9223372036854775807) (vp : Value) (F : Nat) (f : Nat → Int) (L : Nat) (l : Nat → Int) (lp hp : Nat) (hpr : PrAt w vp F f L l lp hp) (hhp : hp ≤ w.heap.size) (hF9 : F ≤ 9223372036854775807) (hL9 : L ≤ 9223372036854775807) :
    Calls Try.prog 21 #[v, vp] w (fun e w' => e = .returned (.int .i64 (prC n N m P F f L l)) ∧ Below w.heap.size w w') := by
  obtain ⟨p0, c0, p1, c1, rfl, hn9, hm9⟩ := h.parts
  obtain ⟨q0, d0, q1, d1, rfl⟩ := hpr.shape
  obtain ⟨hf, hl⟩ := hpr.two
  have HV := Lib.hid h
  have HN := Lib.hid hN
  have HF := Lib.hid hf
  have HL := Lib.hid hl
  have HPR := Lib.hid hpr
  have A0 := (boxed w (.slice p0 n c0) (.slice p1 m c1) 36).keep (Below.heap_alloc _ (.cells #[.slice q0 F d0, .slice q1 L d1] 38) _ (by rw [szal]; omega))
  have C0 := boxed (w.alloc (.cells #[.slice p0 n c0, .slice p1 m c1] 36)) (.slice q0 F d0) (.slice q1 L d1) 38
  simp only [szal] at C0
  have B0 := (below_new w (.cells #[.slice p0 n c0, .slice p1 m c1] 36)).trans ((below_new _ (.cells #[.slice q0 F d0, .slice q1 L d1] 38)).mono (by rw [szal]; omega))
  have hs0 : ((w.alloc (.cells #[.slice p0 n c0, .slice p1 m c1] 36)).alloc (.cells #[.slice q0 F d0, .slice q1 L d1] 38)).heap.size = w.heap.size + 1 + 1 := by simp
  clear h hN hpr hf hl
  go_enter Try.func21, Try.ntmps21
  have e0' := A0.b0
  have e1' := A0.b1
  have k0' := C0.b0
  have k1' := C0.b1
  go_wp2_with fail
  refine (l05Code_any _ _ n N m P lo hi (HV.out.below B0 hhi) (by omega) HN.out _ F f lp hp (HF.out.below B0 hhp) (by omega) hF9).mono ?_
  rintro e w2 ⟨rfl, b2⟩
  have A2 := A0.below b2 (by omega)
  have C2 := C0.below b2 (by omega)
  have B2 := B0.trans (b2.mono (by omega))
  have hs2 := b2.size
  have u2 : w.heap.size + 1 + 1 ≤ w2.heap.size := by omega
  clear A0 C0 B0 b2 hs2 e0' e1' k0' k1' hs0
  have e0 := A2.b0
  have e1 := A2.b1
  have k0 := C2.b0
  have k1 := C2.b1
  by_cases hc : flC n N m P F f = 0
  · have HC := Lib.hid hc
    rw [hc]
    clear hc
    cases hq : alB n L l
    all_goals
      have HR := Lib.hid (show prC n N m P F f L l = if alB n L l = true then 0 else 3 by unfold prC; rw [if_pos HC.out])
      rw [hq] at HR
      go_wp2_with (go_at_call 39; refine (l12Levels_any _ p0 p1 n m c0 c1 _ L l lp hp (HL.out.below B2 hhp) (by omega) hL9 hn9).mono ?_; rintro e w3 ⟨rfl, b3⟩; rw [hq])
      go_ret
      exact ⟨ret_i HR.out.symm, B2.trans (b3.mono (by omega))⟩
  · have hb1 : (flC n N m P F f == 0) = false := by simpa using hc
    have HR := Lib.hid (show prC n N m P F f L l = flC n N m P F f by unfold prC; rw [if_neg hc])
    clear hc
    go_wp2_with fail
    go_ret
    exact ⟨ret_i HR.out.symm, B2⟩
set_option maxRecDepth 100000 in
set_option maxHeartbeats 8000000 in
theorem errorOf_any (w : World) (n : Nat) (q : Pip) (hq : pipB n q = true) (x : Int) (h0 : -30000 ≤ x) (h1 : x ≤ 30000) (vl : Value) (l : Nat → Int) (la ha : Nat) (hv : Sl w vl n l la ha) (hha : ha ≤ w.heap.size) (hl : ∀ k, k < n → -1000000000000000000 ≤ l k ∧ l k ≤ 1000000000000000000) (hn9 : n ≤ 9223372036854775807) :
    Calls Try.prog 29 #[.agg #[.int .i64 q.f, .int .i64 q.t, .int .i64 q.k, .int .i64 q.v, .int .i64 q.l], .int .i64 x, vl] w fun e w' => e = .returned (.int .i64 (erQ q x l)) ∧ Below w.heap.size w w' := by
  obtain ⟨a, b, ea, eb, ha2, hb2⟩ := pip_nat hq
  have hd := drp_bnd hq h0 h1
  have la1 := hl a ha2
  have lb1 := hl b hb2
  have HE := Lib.hid (show erQ q x l = l a - l b - drp q x by unfold erQ; rw [ea, eb, Int.toNat_natCast, Int.toNat_natCast])
  have HD := Lib.hid (fun W => dropFor_any q x W n hq h0 h1)
  have A0 := boxedP w q 58
  have B0 := below_new w (.cells #[.int .i64 q.f, .int .i64 q.t, .int .i64 q.k, .int .i64 q.v, .int .i64 q.l] 58)
  have hs0 : (w.alloc (.cells #[.int .i64 q.f, .int .i64 q.t, .int .i64 q.k, .int .i64 q.v, .int .i64 q.l] 58)).heap.size = w.heap.size + 1 := by simp
  obtain ⟨pl, cl, rfl, hc⟩ := hv.below B0 hha
  obtain ⟨bl, ol, rfl, _, hbl, hx⟩ : ∃ b o, pl = some ⟨b, o, none⟩ ∧ la ≤ b ∧ b < ha ∧ ∀ k, k < n → (w.alloc (.cells #[.int .i64 q.f, .int .i64 q.t, .int .i64 q.k, .int .i64 q.v, .int .i64 q.l] 58)).cell? ⟨b, o + k, none⟩ = some (.int .i64 (l k)) := by
    rcases hc with e | e
    · omega
    · exact e
  have y0 := A0.cell 0 (by omega)
  have y1 := A0.cell 1 (by omega)
  have y2 := A0.cell 2 (by omega)
  have y3 := A0.cell 3 (by omega)
  have y4 := A0.cell 4 (by omega)
  simp only [vp] at y0 y1 y2 y3 y4
  have z0 := hx a ha2
  have z1 := hx b hb2
  have a0 : (0 : Int) ≤ (a : Int) := Int.natCast_nonneg _
  have b0 : (0 : Int) ≤ (b : Int) := Int.natCast_nonneg _
  have a1 : (a : Int) < (n : Int) := by omega
  have b1 : (b : Int) < (n : Int) := by omega
  have EA := Lib.hid ea
  have EB := Lib.hid eb
  clear hc hx hq hl hv ea eb
  rw [HE.out]
  go_enter Try.func29, Try.ntmps29
  go_upto_region 1 with (fail)
  generalize hw1 : w.alloc (.cells #[.int .i64 q.f, .int .i64 q.t, .int .i64 q.k, .int .i64 q.v, .int .i64 q.l] 58) = w1 at *
  clear hw1 A0
  have ea := EA.out
  have eb := EB.out
  clear EA EB
  generalize hD : drp q x = D at *
  generalize hk : q.k = qk at *
  generalize hv : q.v = qv at *
  generalize hll : q.l = ql at *
  generalize hff : q.f = qf at *
  generalize htt : q.t = qt at *
  subst ea eb
  generalize hla : l a = A at *
  generalize hlb : l b = B at *
  have QD := Lib.hid hD
  have QA := Lib.hid hla
  have QB := Lib.hid hlb
  clear hD hk hv hll hff htt hla hlb HE
  have W1 : IntKind.i64.wrap (A - B) = A - B := IntWalk.i64_in _ (by omega)
  have W2 : IntKind.i64.wrap (A - B - D) = A - B - D := IntWalk.i64_in _ (by omega)
  have zb := Nat.le_antisymm_iff.1 hs0
  clear hs0
  go_wp2_with fail
  have lb0 : bl < w1.heap.size := by omega
  have lw0 : w.heap.size < w1.heap.size := by omega
  go_region_held3 (fun w' : World => w'.cell? ⟨w.heap.size, 0, none⟩ = some (.int .i64 (a : Nat)) ∧ w'.cell? ⟨w.heap.size, 1, none⟩ = some (.int .i64 (b : Nat)) ∧ w'.cell? ⟨w.heap.size, 2, none⟩ = some (.int .i64 qk) ∧ w'.cell? ⟨w.heap.size, 3, none⟩ = some (.int .i64 qv) ∧ w'.cell? ⟨w.heap.size, 4, none⟩ = some (.int .i64 ql) ∧ w'.cell? ⟨bl, ol + a, none⟩ = some (.int .i64 A) ∧ w'.cell? ⟨bl, ol + b, none⟩ = some (.int .i64 B)) (first | exact ⟨y0, y1, y2, y3, y4, z0, z1⟩ | exact SX)
    (first
      | (go_at_call 45; refine (HD.out _).mono ?_; rintro e wX ⟨rfl, hbX⟩; have hbX' := below_dr0 hbX; have SX : (fun w' : World => w'.cell? ⟨w.heap.size, 0, none⟩ = some (.int .i64 (a : Nat)) ∧ w'.cell? ⟨w.heap.size, 1, none⟩ = some (.int .i64 (b : Nat)) ∧ w'.cell? ⟨w.heap.size, 2, none⟩ = some (.int .i64 qk) ∧ w'.cell? ⟨w.heap.size, 3, none⟩ = some (.int .i64 qv) ∧ w'.cell? ⟨w.heap.size, 4, none⟩ = some (.int .i64 ql) ∧ w'.cell? ⟨bl, ol + a, none⟩ = some (.int .i64 A) ∧ w'.cell? ⟨bl, ol + b, none⟩ = some (.int .i64 B)) wX := ⟨(hbX'.cell (p := ⟨w.heap.size, 0, none⟩) lw0).trans y0, (hbX'.cell (p := ⟨w.heap.size, 1, none⟩) lw0).trans y1, (hbX'.cell (p := ⟨w.heap.size, 2, none⟩) lw0).trans y2, (hbX'.cell (p := ⟨w.heap.size, 3, none⟩) lw0).trans y3, (hbX'.cell (p := ⟨w.heap.size, 4, none⟩) lw0).trans y4, (hbX'.cell (p := ⟨bl, ol + a, none⟩) lb0).trans z0, (hbX'.cell (p := ⟨bl, ol + b, none⟩) lb0).trans z1⟩))
  go_wp2_with fail
  go_ret
  exact ⟨ret_i (by rw [QA.out, QB.out, QD.out]), B0.trans (hbX'.mono (by omega))⟩
set_option maxRecDepth 100000 in
set_option maxHeartbeats 8000000 in
theorem l12Error_any (w : World) (v : Value) (n : Nat) (N : Nat → Nod) (m : Nat) (P : Nat → Pip) (lo hi : Nat) (h : NetAt w v n N m P lo hi) (hhi : hi ≤ w.heap.size) (hB : netB n N m P = true) (vp : Value) (f l : Nat → Int) (lp hp : Nat) (hpr : PrAt w vp m f n l lp hp) (hhp : hp ≤ w.heap.size) (hf : ∀ k, k < m → -30000 ≤ f k ∧ f k ≤ 30000) (hl : ∀ k, k < n → -1000000000000000000 ≤ l k ∧ l k ≤ 1000000000000000000) (a : Nat) (ha : a < m) :
    Calls Try.prog 23 #[v, vp, .int .i64 (a : Nat)] w fun e w' => e = .returned (.int .i64 (erQ (P a) (f a) l)) ∧ Below w.heap.size w w' := by
  obtain ⟨p0, c0, p1, c1, rfl, hn9, hm9⟩ := h.parts
  obtain ⟨q0, d0, q1, d1, rfl⟩ := hpr.shape
  obtain ⟨sf, sl⟩ := hpr.two
  obtain ⟨hn1, hn24, hm40⟩ := net_sz hB
  have HV := Lib.hid h
  have HBN := Lib.hid hB
  have hq := net_pip hB ha
  obtain ⟨i, j, ei, ej, hi2, hj2⟩ := pip_nat hq
  obtain ⟨x0, x1⟩ := hf a ha
  have hd := drp_bnd hq x0 x1
  have li1 := hl i hi2
  have lj1 := hl j hj2
  have HE := Lib.hid (show erQ (P a) (f a) l = l i - l j - drp (P a) (f a) by unfold erQ; rw [ei, ej, Int.toNat_natCast, Int.toNat_natCast])
  have A0 := ((boxed w (.slice p0 n c0) (.slice p1 m c1) 36).keep (Below.heap_alloc _ (.cells #[.slice q0 m d0, .slice q1 n d1] 38) _ (by rw [szal]; omega)))
  have C0 := (boxed (w.alloc (.cells #[.slice p0 n c0, .slice p1 m c1] 36)) (.slice q0 m d0) (.slice q1 n d1) 38)
  simp only [szal] at C0
  have B0 := ((below_new w (.cells #[.slice p0 n c0, .slice p1 m c1] 36)).trans ((below_new _ (.cells #[.slice q0 m d0, .slice q1 n d1] 38)).mono (by rw [szal]; omega)))
  have hs0 : ((w.alloc (.cells #[.slice p0 n c0, .slice p1 m c1] 36)).alloc (.cells #[.slice q0 m d0, .slice q1 n d1] 38)).heap.size = w.heap.size + 1 + 1 := by simp
  have EI := Lib.hid ei
  have EJ := Lib.hid ej
  clear h hpr hB hq hf hl ei ej
  rw [HE.out]
  go_enter Try.func23, Try.ntmps23
  go_upto_region 1 with (fail)
  obtain ⟨w0, hw0⟩ : ∃ w0, (w.alloc (.cells #[.slice p0 n c0, .slice p1 m c1] 36)).alloc (.cells #[.slice q0 m d0, .slice q1 n d1] 38) = w0 := ⟨_, rfl⟩
  rw [hw0] at A0 C0 B0 hs0 ⊢
  clear hw0
  have hs7 := Nat.le_antisymm_iff.1 hs0
  clear hs0
  have e0 := A0.b0
  have e1 := A0.b1
  have a0 : (0 : Int) ≤ (a : Int) := Int.natCast_nonneg _
  have a1 : (a : Int) < (m : Int) := by omega
  have hpi := (HV.out.below B0 hhi).pipe ha
  obtain ⟨bp, op, rfl, z1, z2, r0, r1, r2, r3, r4⟩ := hpi
  go_upto_region 2 with (fail)
  have P5 := boxedP w0 (P a) 58
  have b5 := below_new w0 (.cells #[.int .i64 (P a).f, .int .i64 (P a).t, .int .i64 (P a).k, .int .i64 (P a).v, .int .i64 (P a).l] 58)
  have hs5 : (w0.alloc (.cells #[.int .i64 (P a).f, .int .i64 (P a).t, .int .i64 (P a).k, .int .i64 (P a).v, .int .i64 (P a).l] 58)).heap.size = w0.heap.size + 1 := by simp
  have HA5 := A0.below b5 (by omega)
  have HC5 := C0.below b5 (by omega)
  have HB5 := Lib.hid (B0.trans (b5.mono (by omega)))
  have y0 := P5.cell 0 (by omega)
  have y1 := P5.cell 1 (by omega)
  simp only [vp] at y0 y1
  obtain ⟨w5, hw5⟩ : ∃ w5, w0.alloc (.cells #[.int .i64 (P a).f, .int .i64 (P a).t, .int .i64 (P a).k, .int .i64 (P a).v, .int .i64 (P a).l] 58) = w5 := ⟨_, rfl⟩
  obtain ⟨g5, hg5⟩ : ∃ g5, w0.heap.size = g5 := ⟨_, rfl⟩
  rw [hw5] at HA5 HC5 HB5 hs5 y0 y1 ⊢
  rw [hg5] at y0 y1 ⊢
  rw [EI.out] at y0
  rw [EJ.out] at y1
  have hg6 := Nat.le_antisymm_iff.1 hg5
  have hs6 := Nat.le_antisymm_iff.1 hs5
  clear hw5 hg5 hs5 b5 P5 A0 C0 B0 e0 e1 r0 r1 r2 r3 r4
  have e0 := HA5.b0
  have e1 := HA5.b1
  have k0 := HC5.b0
  have k1 := HC5.b1
  obtain ⟨_, _, eef, hcf⟩ := (sf.below HB5.out hhp).ex
  injection eef with ee1 _ ee3
  subst ee1 ee3
  obtain ⟨_, _, eel, hcl⟩ := (sl.below HB5.out hhp).ex
  injection eel with ee1 _ ee3
  subst ee1 ee3
  obtain ⟨bf, of, rfl, _, hbf, hxf⟩ : ∃ b o, q0 = some ⟨b, o, none⟩ ∧ lp ≤ b ∧ b < hp ∧ ∀ k, k < m → w5.cell? ⟨b, o + k, none⟩ = some (.int .i64 (f k)) := by
    rcases hcf with e | e
    · omega
    · exact e
  obtain ⟨bl, ol, rfl, _, hbl, hxl⟩ : ∃ b o, q1 = some ⟨b, o, none⟩ ∧ lp ≤ b ∧ b < hp ∧ ∀ k, k < n → w5.cell? ⟨b, o + k, none⟩ = some (.int .i64 (l k)) := by
    rcases hcl with e | e
    · omega
    · exact e
  have t0 := hxf a ha
  have t1 := hxl i hi2
  have t2 := hxl j hj2
  have i0 : (0 : Int) ≤ (i : Int) := Int.natCast_nonneg _
  have j0 : (0 : Int) ≤ (j : Int) := Int.natCast_nonneg _
  have i1 : (i : Int) < (n : Int) := by omega
  have j1 : (j : Int) < (n : Int) := by omega
  clear hcf hcl hxf hxl sf sl
  have HD := Lib.hid (fun (W : World) (hW : Below w5.heap.size w5 W) => l07Drop_any W _ n N m P lo hi (HV.out.below (HB5.out.trans (hW.mono (by omega))) hhi) (by have := hW.size; omega) HBN.out a ha (f a) x0 x1)
  generalize hD : drp (P a) (f a) = D at *
  have QD := Lib.hid hD
  clear hD
  generalize hla : l i = LI at *
  generalize hlb : l j = LJ at *
  generalize hfa : f a = FA at *
  have QA := Lib.hid hla
  have QB := Lib.hid hlb
  have QF := Lib.hid hfa
  clear hla hlb hfa HE
  have W1 : IntKind.i64.wrap (LI - LJ) = LI - LJ := IntWalk.i64_in _ (by omega)
  have W2 : IntKind.i64.wrap (LI - LJ - D) = LI - LJ - D := IntWalk.i64_in _ (by omega)
  have n0 : w.heap.size < w5.heap.size := by omega
  have n1 : w.heap.size + 1 < w5.heap.size := by omega
  have n2 : g5 < w5.heap.size := by omega
  have n3 : bf < w5.heap.size := by omega
  have n4 : bl < w5.heap.size := by omega
  have KS : ∀ W : World, Below w5.heap.size w5 W → (W.cell? ⟨w.heap.size, 0, none⟩ = some (.slice p0 n c0) ∧ W.cell? ⟨w.heap.size, 1, none⟩ = some (.slice (some ⟨bp, op, none⟩) m c1) ∧ W.cell? ⟨w.heap.size + 1, 0, none⟩ = some (.slice (some ⟨bf, of, none⟩) m d0) ∧ W.cell? ⟨w.heap.size + 1, 1, none⟩ = some (.slice (some ⟨bl, ol, none⟩) n d1) ∧ W.cell? ⟨g5, 0, none⟩ = some (.int .i64 (i : Nat)) ∧ W.cell? ⟨g5, 1, none⟩ = some (.int .i64 (j : Nat)) ∧ W.cell? ⟨bf, of + a, none⟩ = some (.int .i64 FA) ∧ W.cell? ⟨bl, ol + i, none⟩ = some (.int .i64 LI) ∧ W.cell? ⟨bl, ol + j, none⟩ = some (.int .i64 LJ)) := fun W hW => ⟨(hW.cell (p := ⟨w.heap.size, 0, none⟩) n0).trans e0, (hW.cell (p := ⟨w.heap.size, 1, none⟩) n0).trans e1, (hW.cell (p := ⟨w.heap.size + 1, 0, none⟩) n1).trans k0, (hW.cell (p := ⟨w.heap.size + 1, 1, none⟩) n1).trans k1, (hW.cell (p := ⟨g5, 0, none⟩) n2).trans y0, (hW.cell (p := ⟨g5, 1, none⟩) n2).trans y1, (hW.cell (p := ⟨bf, of + a, none⟩) n3).trans t0, (hW.cell (p := ⟨bl, ol + i, none⟩) n4).trans t1, (hW.cell (p := ⟨bl, ol + j, none⟩) n4).trans t2⟩
  have K0 : Below w5.heap.size w5 w5.drew := below_drw (Below.refl _ _)
  go_region_held3 (fun w' : World => w'.cell? ⟨w.heap.size, 0, none⟩ = some (.slice p0 n c0) ∧ w'.cell? ⟨w.heap.size, 1, none⟩ = some (.slice (some ⟨bp, op, none⟩) m c1) ∧ w'.cell? ⟨w.heap.size + 1, 0, none⟩ = some (.slice (some ⟨bf, of, none⟩) m d0) ∧ w'.cell? ⟨w.heap.size + 1, 1, none⟩ = some (.slice (some ⟨bl, ol, none⟩) n d1) ∧ w'.cell? ⟨g5, 0, none⟩ = some (.int .i64 (i : Nat)) ∧ w'.cell? ⟨g5, 1, none⟩ = some (.int .i64 (j : Nat)) ∧ w'.cell? ⟨bf, of + a, none⟩ = some (.int .i64 FA) ∧ w'.cell? ⟨bl, ol + i, none⟩ = some (.int .i64 LI) ∧ w'.cell? ⟨bl, ol + j, none⟩ = some (.int .i64 LJ)) (first | exact ⟨e0, e1, k0, k1, y0, y1, t0, t1, t2⟩ | exact KS _ KX)
    (first
      | (go_at_call 40; refine (HD.out _ K0).mono ?_; rintro e wX ⟨rfl, hbX⟩; have KX := K0.trans (hbX.mono K0.size); clear hbX))
  go_wp2_with fail
  go_ret
  exact ⟨ret_i (by rw [QA.out, QB.out, QF.out, QD.out]), HB5.out.trans (KX.mono (by omega))⟩
set_option maxRecDepth 100000 in
set_option maxHeartbeats 8000000 in
theorem pipeErrorI_any (w : World) (v : Value) (n : Nat) (N : Nat → Nod) (m : Nat) (P : Nat → Pip) (lo hi : Nat) (h : NetAt w v n N m P lo hi) (hhi : hi ≤ w.heap.size) (hN : ∀ i, i < n → (N i).s.size ≤ 9223372036854775807) (vp : Value) (F : Nat) (f : Nat → Int) (L : Nat) (l : Nat → Int) (lp hp : Nat) (hpr : PrAt w vp F f L l lp hp) (hhp : hp ≤ w.heap.size) (hF9 : F ≤ 9223372036854775807) (hL9 : L ≤ 9223372036854775807) (x : Int) :
    Calls Try.prog 11 #[v, vp, .int .i64 x] w (IIPost w (peA n N m P F f L l x) (peC n N m P F f L l x)) := by
  obtain ⟨p0, c0, p1, c1, rfl, hn9, hm9⟩ := h.parts
  obtain ⟨q0, d0, q1, d1, rfl⟩ := hpr.shape
  obtain ⟨hf, hl⟩ := hpr.two
  have HV := Lib.hid h
  have HN := Lib.hid hN
  have HF := Lib.hid hf
  have HL := Lib.hid hl
  have HPR := Lib.hid hpr
  have A0 := (boxed w (.slice p0 n c0) (.slice p1 m c1) 36).keep (Below.heap_alloc _ (.cells #[.slice q0 F d0, .slice q1 L d1] 38) _ (by rw [szal]; omega))
  have C0 := boxed (w.alloc (.cells #[.slice p0 n c0, .slice p1 m c1] 36)) (.slice q0 F d0) (.slice q1 L d1) 38
  simp only [szal] at C0
  have B0 := (below_new w (.cells #[.slice p0 n c0, .slice p1 m c1] 36)).trans ((below_new _ (.cells #[.slice q0 F d0, .slice q1 L d1] 38)).mono (by rw [szal]; omega))
  have hs0 : ((w.alloc (.cells #[.slice p0 n c0, .slice p1 m c1] 36)).alloc (.cells #[.slice q0 F d0, .slice q1 L d1] 38)).heap.size = w.heap.size + 1 + 1 := by simp
  clear h hN hpr hf hl
  go_enter Try.func11, Try.ntmps11
  have e0' := A0.b0
  have e1' := A0.b1
  have k0' := C0.b0
  have k1' := C0.b1
  go_wp2_with fail
  refine (prCheck_any _ _ n N m P lo hi (HV.out.below B0 hhi) (by omega) HN.out _ F f L l lp hp (HPR.out.below B0 hhp) (by omega) hF9 hL9).mono ?_
  rintro e w2 ⟨rfl, b2⟩
  have A2 := A0.below b2 (by omega)
  have C2 := C0.below b2 (by omega)
  have B2 := B0.trans (b2.mono (by omega))
  have hs2 := b2.size
  have u2 : w.heap.size + 1 + 1 ≤ w2.heap.size := by omega
  clear A0 C0 B0 b2 hs2 e0' e1' k0' k1' hs0
  have e0 := A2.b0
  have e1 := A2.b1
  have k0 := C2.b0
  have k1 := C2.b1
  by_cases hc : prC n N m P F f L l = 0
  rotate_left 1
  · have hb1 : (prC n N m P F f L l != 0) = true := by simpa using hc
    have hb2 : (prC n N m P F f L l == 0) = false := by simpa using hc
    have H4 := Lib.hid (show peC n N m P F f L l x = prC n N m P F f L l by unfold peC; rw [if_neg hc])
    have H3 := Lib.hid (show peA n N m P F f L l x = 0 by unfold peA; rw [if_neg hc])
    clear hc
    go_wp2_with fail
    go_ret2
    exact ⟨ret_2 H3.out.symm H4.out.symm, B2⟩
  obtain ⟨hB, rfl, rfl, hf, hl⟩ := prC_ok hc
  have HC := Lib.hid hc
  rw [hc]
  clear hc
  cases hq : inR x 0 (F - 1)
  · have H4 := Lib.hid (show peC L N F P F f L l x = 2 by unfold peC; rw [if_pos HC.out, hq]; rfl)
    have H3 := Lib.hid (show peA L N F P F f L l x = 0 by unfold peA; rw [if_pos HC.out, hq]; rfl)
    go_wp2_with (go_at_call 28; refine (hasPipe_any p0 p1 L c0 F c1 _ _ hm9).mono ?_; rintro e w3 ⟨rfl, b3⟩; rw [hq])
    go_ret2
    exact ⟨ret_2 H3.out.symm H4.out.symm, B2.trans (b3.mono (by omega))⟩
  have hx := inR_iff.1 hq
  obtain ⟨a, rfl⟩ := Int.eq_ofNat_of_zero_le hx.1
  have ha : a < F := by omega
  have H4 := Lib.hid (show peC L N F P F f L l (a : Nat) = 0 by unfold peC; rw [if_pos HC.out, hq]; rfl)
  have H3 := Lib.hid (show peA L N F P F f L l (a : Nat) = erQ (P a) (f a) l by unfold peA; rw [if_pos HC.out, hq, Int.toNat_natCast]; rfl)
  go_wp2_with (go_at_call 28; refine (hasPipe_any p0 p1 L c0 F c1 _ _ hm9).mono ?_; rintro e w3 ⟨rfl, b3⟩; rw [hq])
  have A3 := A2.below b3 (by omega)
  have C3 := C2.below b3 (by omega)
  have B3 := B2.trans (b3.mono (by omega))
  have hs3 := b3.size
  have u3 : w.heap.size + 1 + 1 ≤ w3.heap.size := by omega
  clear A2 C2 B2 b3 hs3 e0 e1 k0 k1
  have e0 := A3.b0
  have e1 := A3.b1
  have k0 := C3.b0
  have k1 := C3.b1
  have hpi := (HV.out.below B3 hhi).pipe ha
  obtain ⟨bp, op, rfl, z1, z2, r0, r1, r2, r3, r4⟩ := hpi
  obtain ⟨_, _, eef, hcf⟩ := (HF.out.below B3 hhp).ex
  injection eef with ee1 _ ee3
  subst ee1 ee3
  obtain ⟨bf, of, rfl, _, hbf, hxf⟩ : ∃ b o, q0 = some ⟨b, o, none⟩ ∧ lp ≤ b ∧ b < hp ∧ ∀ k, k < F → w3.cell? ⟨b, o + k, none⟩ = some (.int .i64 (f k)) := by
    rcases hcf with e | e
    · omega
    · exact e
  have t0 := hxf a ha
  have a0 : (0 : Int) ≤ (a : Int) := Int.natCast_nonneg _
  have a1 : (a : Int) < (F : Int) := by omega
  have HD := Lib.hid (fun (W : World) (hW : Below w3.heap.size w3 W) => errorOf_any W L (P a) (net_pip hB ha) (f a) (hf a ha).1 (hf a ha).2 _ l lp hp (HL.out.below (B3.trans (hW.mono (by omega))) hhp) (by have := hW.size; omega) hl hL9)
  have K0 : Below w3.heap.size w3 w3.drew := below_drw (Below.refl _ _)
  clear hcf hxf hq hx hf hl hB
  have n0 : w.heap.size < w3.heap.size := by omega
  have n1 : w.heap.size + 1 < w3.heap.size := by omega
  have n2 : bf < w3.heap.size := by omega
  have n3 : bp < w3.heap.size := by omega
  have KS : ∀ W : World, Below w3.heap.size w3 W → (W.cell? ⟨w.heap.size, 1, none⟩ = some (.slice (some ⟨bp, op, none⟩) F c1) ∧ W.cell? ⟨w.heap.size + 1, 0, none⟩ = some (.slice (some ⟨bf, of, none⟩) F d0) ∧ W.cell? ⟨w.heap.size + 1, 1, none⟩ = some (.slice q1 L d1) ∧ W.cell? ⟨bf, of + a, none⟩ = some (.int .i64 (f a)) ∧ W.cell? ⟨bp, op + a * 5, none⟩ = some (.int .i64 (P a).f) ∧ W.cell? ⟨bp, op + a * 5 + 1, none⟩ = some (.int .i64 (P a).t) ∧ W.cell? ⟨bp, op + a * 5 + 2, none⟩ = some (.int .i64 (P a).k) ∧ W.cell? ⟨bp, op + a * 5 + 3, none⟩ = some (.int .i64 (P a).v) ∧ W.cell? ⟨bp, op + a * 5 + 4, none⟩ = some (.int .i64 (P a).l)) := fun W hW => ⟨(hW.cell (p := ⟨w.heap.size, 1, none⟩) n0).trans e1, (hW.cell (p := ⟨w.heap.size + 1, 0, none⟩) n1).trans k0, (hW.cell (p := ⟨w.heap.size + 1, 1, none⟩) n1).trans k1, (hW.cell (p := ⟨bf, of + a, none⟩) n2).trans t0, (hW.cell (p := ⟨bp, op + a * 5, none⟩) n3).trans r0, (hW.cell (p := ⟨bp, op + a * 5 + 1, none⟩) n3).trans r1, (hW.cell (p := ⟨bp, op + a * 5 + 2, none⟩) n3).trans r2, (hW.cell (p := ⟨bp, op + a * 5 + 3, none⟩) n3).trans r3, (hW.cell (p := ⟨bp, op + a * 5 + 4, none⟩) n3).trans r4⟩
  go_region_held3 (fun w' : World => w'.cell? ⟨w.heap.size, 1, none⟩ = some (.slice (some ⟨bp, op, none⟩) F c1) ∧ w'.cell? ⟨w.heap.size + 1, 0, none⟩ = some (.slice (some ⟨bf, of, none⟩) F d0) ∧ w'.cell? ⟨w.heap.size + 1, 1, none⟩ = some (.slice q1 L d1) ∧ w'.cell? ⟨bf, of + a, none⟩ = some (.int .i64 (f a)) ∧ w'.cell? ⟨bp, op + a * 5, none⟩ = some (.int .i64 (P a).f) ∧ w'.cell? ⟨bp, op + a * 5 + 1, none⟩ = some (.int .i64 (P a).t) ∧ w'.cell? ⟨bp, op + a * 5 + 2, none⟩ = some (.int .i64 (P a).k) ∧ w'.cell? ⟨bp, op + a * 5 + 3, none⟩ = some (.int .i64 (P a).v) ∧ w'.cell? ⟨bp, op + a * 5 + 4, none⟩ = some (.int .i64 (P a).l)) (first | exact ⟨e1, k0, k1, t0, r0, r1, r2, r3, r4⟩ | exact KS _ KX)
    (first
      | (go_at_call 29; refine (HD.out _ K0).mono ?_; rintro e wX ⟨rfl, hbX⟩; have KX := K0.trans (hbX.mono K0.size); clear hbX))
  go_wp2_with fail
  go_ret2
  exact ⟨ret_2 H3.out.symm H4.out.symm, B3.trans (KX.mono (by omega))⟩
set_option maxRecDepth 100000 in
set_option maxHeartbeats 8000000 in
theorem pipeErrorS_any (w : World) (v : Value) (n : Nat) (N : Nat → Nod) (m : Nat) (P : Nat → Pip) (lo hi : Nat) (h : NetAt w v n N m P lo hi) (hhi : hi ≤ w.heap.size) (hN : ∀ i, i < n → (N i).s.size ≤ 9223372036854775807) (vp : Value) (F : Nat) (f : Nat → Int) (L : Nat) (l : Nat → Int) (lp hp : Nat) (hpr : PrAt w vp F f L l lp hp) (hhp : hp ≤ w.heap.size) (hF9 : F ≤ 9223372036854775807) (hL9 : L ≤ 9223372036854775807) (x : Int) :
    Calls Try.prog 8 #[v, vp, .int .i64 x] w (IIPost w (peA n N m P F f L l x) (peC n N m P F f L l x)) := by
  obtain ⟨p0, c0, p1, c1, rfl, hn9, hm9⟩ := h.parts
  obtain ⟨q0, d0, q1, d1, rfl⟩ := hpr.shape
  obtain ⟨hf, hl⟩ := hpr.two
  have HV := Lib.hid h
  have HN := Lib.hid hN
  have HF := Lib.hid hf
  have HL := Lib.hid hl
  have HPR := Lib.hid hpr
  have A0 := (boxed w (.slice p0 n c0) (.slice p1 m c1) 36).keep (Below.heap_alloc _ (.cells #[.slice q0 F d0, .slice q1 L d1] 38) _ (by rw [szal]; omega))
  have C0 := boxed (w.alloc (.cells #[.slice p0 n c0, .slice p1 m c1] 36)) (.slice q0 F d0) (.slice q1 L d1) 38
  simp only [szal] at C0
  have B0 := (below_new w (.cells #[.slice p0 n c0, .slice p1 m c1] 36)).trans ((below_new _ (.cells #[.slice q0 F d0, .slice q1 L d1] 38)).mono (by rw [szal]; omega))
  have hs0 : ((w.alloc (.cells #[.slice p0 n c0, .slice p1 m c1] 36)).alloc (.cells #[.slice q0 F d0, .slice q1 L d1] 38)).heap.size = w.heap.size + 1 + 1 := by simp
  clear h hN hpr hf hl
  go_enter Try.func8, Try.ntmps8
  have e0' := A0.b0
  have e1' := A0.b1
  have k0' := C0.b0
  have k1' := C0.b1
  go_wp2_with fail
  refine (l12Form_any _ _ n N m P lo hi (HV.out.below B0 hhi) (by omega) HN.out _ F f L l lp hp (HPR.out.below B0 hhp) (by omega) hF9 hL9).mono ?_
  rintro e w2 ⟨rfl, b2⟩
  have A2 := A0.below b2 (by omega)
  have C2 := C0.below b2 (by omega)
  have B2 := B0.trans (b2.mono (by omega))
  have hs2 := b2.size
  have u2 : w.heap.size + 1 + 1 ≤ w2.heap.size := by omega
  clear A0 C0 B0 b2 hs2 e0' e1' k0' k1' hs0
  have e0 := A2.b0
  have e1 := A2.b1
  have k0 := C2.b0
  have k1 := C2.b1
  by_cases hc : prC n N m P F f L l = 0
  rotate_left 1
  · have hb1 : (prC n N m P F f L l != 0) = true := by simpa using hc
    have hb2 : (prC n N m P F f L l == 0) = false := by simpa using hc
    have H4 := Lib.hid (show peC n N m P F f L l x = prC n N m P F f L l by unfold peC; rw [if_neg hc])
    have H3 := Lib.hid (show peA n N m P F f L l x = 0 by unfold peA; rw [if_neg hc])
    clear hc
    go_wp2_with fail
    go_ret2
    exact ⟨ret_2 H3.out.symm H4.out.symm, B2⟩
  obtain ⟨hB, rfl, rfl, hf, hl⟩ := prC_ok hc
  have HC := Lib.hid hc
  rw [hc]
  clear hc
  cases hq : inR x 0 (F - 1)
  · have H4 := Lib.hid (show peC L N F P F f L l x = 2 by unfold peC; rw [if_pos HC.out, hq]; rfl)
    have H3 := Lib.hid (show peA L N F P F f L l x = 0 by unfold peA; rw [if_pos HC.out, hq]; rfl)
    go_wp2_with (go_at_call 22; refine (l01In_any _ _ _ _).mono ?_; rintro e w3 ⟨rfl, rfl⟩; rw [hq])
    go_ret2
    exact ⟨ret_2 H3.out.symm H4.out.symm, B2⟩
  have hx := inR_iff.1 hq
  obtain ⟨a, rfl⟩ := Int.eq_ofNat_of_zero_le hx.1
  have ha : a < F := by omega
  have H4 := Lib.hid (show peC L N F P F f L l (a : Nat) = 0 by unfold peC; rw [if_pos HC.out, hq]; rfl)
  have H3 := Lib.hid (show peA L N F P F f L l (a : Nat) = erQ (P a) (f a) l by unfold peA; rw [if_pos HC.out, hq, Int.toNat_natCast]; rfl)
  go_wp2_with (first
    | (go_at_call 22; refine (l01In_any _ _ _ _).mono ?_; rintro e w3 ⟨rfl, rfl⟩; rw [hq])
    | (go_at_call 23; refine (l12Error_any w2 _ L N F P lo hi (HV.out.below B2 hhi) (by omega) hB _ f l lp hp (HPR.out.below B2 hhp) (by omega) hf hl a ha).mono ?_; rintro e w4 ⟨rfl, b4⟩))
  go_ret2
  exact ⟨ret_2 H3.out.symm H4.out.symm, B2.trans (b4.mono (by omega))⟩
set_option maxRecDepth 100000 in
set_option maxHeartbeats 8000000 in
theorem sameFlowsI_any (w : World) (v : Value) (K : Nat) (d : Nat → Int) (L : Nat) (l : Nat → Int) (lo hi : Nat) (h : PrAt w v K d L l lo hi) (hhi : hi ≤ w.heap.size) (u : Value) (K2 : Nat) (d2 : Nat → Int) (L2 : Nat) (l2 : Nat → Int) (lo2 hi2 : Nat) (g : PrAt w u K2 d2 L2 l2 lo2 hi2) (hhi2 : hi2 ≤ w.heap.size) (hK : K ≤ 9223372036854775807) (hK2 : K2 ≤ 9223372036854775807) :
    Calls Try.prog 17 #[v, u] w (BPost w (eqLB K d K2 d2)) := by
  obtain ⟨p0, c0, p1, c1, rfl⟩ := h.shape
  obtain ⟨q0, d0, q1, d1, rfl⟩ := g.shape
  obtain ⟨s0, _⟩ := h.two
  obtain ⟨t0, _⟩ := g.two
  have A0 := (boxed w (.slice p0 K c0) (.slice p1 L c1) 38).keep (Below.heap_alloc _ (.cells #[.slice q0 K2 d0, .slice q1 L2 d1] 38) _ (by rw [szal]; omega))
  have C0 := boxed (w.alloc (.cells #[.slice p0 K c0, .slice p1 L c1] 38)) (.slice q0 K2 d0) (.slice q1 L2 d1) 38
  simp only [szal] at C0
  have B0 := (below_new w (.cells #[.slice p0 K c0, .slice p1 L c1] 38)).trans ((below_new _ (.cells #[.slice q0 K2 d0, .slice q1 L2 d1] 38)).mono (by rw [szal]; omega))
  have hs0 : ((w.alloc (.cells #[.slice p0 K c0, .slice p1 L c1] 38)).alloc (.cells #[.slice q0 K2 d0, .slice q1 L2 d1] 38)).heap.size = w.heap.size + 1 + 1 := by simp
  have S0 := Lib.hid (s0.below B0 hhi)
  have T0 := Lib.hid (t0.below B0 hhi2)
  clear h g s0 t0
  go_enter Try.func17, Try.ntmps17
  have e0 := A0.b0
  have k0 := C0.b0
  go_wp2_with (go_at_call 36; refine (equal64_any _ _ _ K d lo hi S0.out K2 d2 lo2 hi2 T0.out hK hK2).mono ?_; rintro e wX ⟨rfl, bX⟩)
  go_ret
  exact ⟨rfl, B0.trans (bX.mono (by omega))⟩
set_option maxRecDepth 100000 in
set_option maxHeartbeats 8000000 in
theorem sameFlowsS_any (w : World) (v : Value) (K : Nat) (d : Nat → Int) (L : Nat) (l : Nat → Int) (lo hi : Nat) (h : PrAt w v K d L l lo hi) (hhi : hi ≤ w.heap.size) (u : Value) (K2 : Nat) (d2 : Nat → Int) (L2 : Nat) (l2 : Nat → Int) (lo2 hi2 : Nat) (g : PrAt w u K2 d2 L2 l2 lo2 hi2) (hhi2 : hi2 ≤ w.heap.size) (hK : K ≤ 9223372036854775807) (hK2 : K2 ≤ 9223372036854775807) :
    Calls Try.prog 16 #[v, u] w (BPost w (eqLB K d K2 d2)) := by
  obtain ⟨p0, c0, p1, c1, rfl⟩ := h.shape
  obtain ⟨q0, d0, q1, d1, rfl⟩ := g.shape
  obtain ⟨s0, _⟩ := h.two
  obtain ⟨t0, _⟩ := g.two
  have A0 := (boxed w (.slice p0 K c0) (.slice p1 L c1) 38).keep (Below.heap_alloc _ (.cells #[.slice q0 K2 d0, .slice q1 L2 d1] 38) _ (by rw [szal]; omega))
  have C0 := boxed (w.alloc (.cells #[.slice p0 K c0, .slice p1 L c1] 38)) (.slice q0 K2 d0) (.slice q1 L2 d1) 38
  simp only [szal] at C0
  have B0 := (below_new w (.cells #[.slice p0 K c0, .slice p1 L c1] 38)).trans ((below_new _ (.cells #[.slice q0 K2 d0, .slice q1 L2 d1] 38)).mono (by rw [szal]; omega))
  have hs0 : ((w.alloc (.cells #[.slice p0 K c0, .slice p1 L c1] 38)).alloc (.cells #[.slice q0 K2 d0, .slice q1 L2 d1] 38)).heap.size = w.heap.size + 1 + 1 := by simp
  have S0 := Lib.hid (s0.below B0 hhi)
  have T0 := Lib.hid (t0.below B0 hhi2)
  clear h g s0 t0
  go_enter Try.func16, Try.ntmps16
  have e0 := A0.b0
  have k0 := C0.b0
  go_wp2_with (go_at_call 35; refine (sameL_any _ _ _ K d lo hi S0.out K2 d2 lo2 hi2 T0.out hK hK2).mono ?_; rintro e wX ⟨rfl, bX⟩)
  go_ret
  exact ⟨rfl, B0.trans (bX.mono (by omega))⟩
end Go.Proofs.Ytdbgcbkmcbgdiaa.mem
