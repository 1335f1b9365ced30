/-
  Chapter 12: ProofError, both. Conditions: the arguments lie in the memory as lists.
-/
import Derived.Test.YtdbgcbkmcbgdiaaRows
import Derived.Test.YtdbgcbkmcbgdiaaCpe
import Derived.Lib.MinMax
namespace Go.Proofs.Ytdbgcbkmcbgdiaa.mem
open Go.RowKit
set_option linter.unusedVariables false

theorem erB {n m : Nat} {N : Nat → Nod} {P : Nat → Pip} {f l : Nat → Int} (hB : netB n N m P = true) (hf : ∀ k, k < m → -30000 ≤ f k ∧ f k ≤ 30000) (hl : ∀ k, k < n → -1000000000000000000 ≤ l k ∧ l k ≤ 1000000000000000000) (a : Nat) (ha : a < m) : -2000900000000000000 ≤ (fun a => erQ (P a) (f a) l) a ∧ (fun a => erQ (P a) (f a) l) a ≤ 2000900000000000000 :=
  erQ_bnd (net_pip hB ha) (hf a ha).1 (hf a ha).2 hl
set_option maxRecDepth 100000 in
set_option maxHeartbeats 8000000 in
theorem proofErrorI_any (w : World) (v : Value) (n : Nat) (N : Nat → Nod) (m : Nat) (P : Nat → Pip) (lo hi : Nat) (h : NetAt w v n N m P lo hi) (hhi : hi ≤ w.heap.size) (hN : ∀ i, i < n → (N i).s.size ≤ 9223372036854775807) (vp : Value) (F : Nat) (f : Nat → Int) (L : Nat) (l : Nat → Int) (lp hp : Nat) (hpr : PrAt w vp F f L l lp hp) (hhp : hp ≤ w.heap.size) (hF9 : F ≤ 9223372036854775807) (hL9 : L ≤ 9223372036854775807) :
    Calls Try.prog 15 #[v, vp] w (IIPost w (pwA n N m P F f L l) (prC n N m P F f L l)) := by
  obtain ⟨p0, c0, p1, c1, rfl, hn9, hm9⟩ := h.parts
  obtain ⟨q0, d0, q1, d1, rfl⟩ := hpr.shape
  obtain ⟨hf, hl⟩ := hpr.two
  have HV := Lib.hid h
  have HN := Lib.hid hN
  have HF := Lib.hid hf
  have HL := Lib.hid hl
  have HPR := Lib.hid hpr
  have A0 := (boxed w (.slice p0 n c0) (.slice p1 m c1) 36).keep (Below.heap_alloc _ (.cells #[.slice q0 F d0, .slice q1 L d1] 38) _ (by rw [szal]; omega))
  have C0 := boxed (w.alloc (.cells #[.slice p0 n c0, .slice p1 m c1] 36)) (.slice q0 F d0) (.slice q1 L d1) 38
  simp only [szal] at C0
  have B0 := (below_new w (.cells #[.slice p0 n c0, .slice p1 m c1] 36)).trans ((below_new _ (.cells #[.slice q0 F d0, .slice q1 L d1] 38)).mono (by rw [szal]; omega))
  have hs0 : ((w.alloc (.cells #[.slice p0 n c0, .slice p1 m c1] 36)).alloc (.cells #[.slice q0 F d0, .slice q1 L d1] 38)).heap.size = w.heap.size + 1 + 1 := by simp
  clear h hN hpr hf hl
  go_enter Try.func15, Try.ntmps15
  have e0' := A0.b0
  have e1' := A0.b1
  have k0' := C0.b0
  have k1' := C0.b1
  go_wp2_with fail
  refine (prCheck_any _ _ n N m P lo hi (HV.out.below B0 hhi) (by omega) HN.out _ F f L l lp hp (HPR.out.below B0 hhp) (by omega) hF9 hL9).mono ?_
  rintro e w2 ⟨rfl, b2⟩
  have A2 := A0.below b2 (by omega)
  have C2 := C0.below b2 (by omega)
  have B2 := B0.trans (b2.mono (by omega))
  have hs2 := b2.size
  have u2 : w.heap.size + 1 + 1 ≤ w2.heap.size := by omega
  clear A0 C0 B0 b2 hs2 e0' e1' k0' k1' hs0
  have e0 := A2.b0
  have e1 := A2.b1
  have k0 := C2.b0
  have k1 := C2.b1
  by_cases hc : prC n N m P F f L l = 0
  rotate_left 1
  · have hb1 : (prC n N m P F f L l != 0) = true := by simpa using hc
    have H3 := Lib.hid (show pwA n N m P F f L l = 0 by unfold pwA; rw [if_neg hc])
    clear hc
    go_wp2_with fail
    go_ret2
    exact ⟨ret_2 H3.out.symm rfl, B2⟩
  obtain ⟨hB, rfl, rfl, hf, hl⟩ := prC_ok hc
  have hm40 := (net_sz hB).2.2
  have HC := Lib.hid hc
  have HBN := Lib.hid hB
  have HFR := Lib.hid hf
  have HLR := Lib.hid hl
  have HEB := Lib.hid (erB hB hf hl)
  have H3 := Lib.hid (show pwA L N F P F f L l = leS (fun a => erQ (P a) (f a) l) F by unfold pwA; rw [if_pos hc])
  rw [hc]
  clear hc hB hf hl
  have HA := Lib.hid A2
  have HCB := Lib.hid C2
  have HB2 := Lib.hid B2
  clear A2 C2 B2
  go_wp2_with fail
  go_loopw [7, 19] (fun bv iv wr => ∃ k : Nat, bv = .int .i64 (leS (fun a => erQ (P a) (f a) l) k) ∧ iv = .int .i64 k ∧ k ≤ F ∧ w2.heap.size ≤ wr.heap.size ∧ Below w2.heap.size w2 wr) (fun _ iv _ => F - (intOf iv).toNat)
  case atStart => exact ⟨0, rfl, rfl, Nat.zero_le _, Nat.le_refl _, Below.refl _ _⟩
  case round =>
    obtain ⟨k, rfl, rfl, hk, hsz, hb⟩ := hrel
    have HBB := Lib.hid hb
    have BW := Lib.hid (HB2.out.trans (HBB.out.mono (by omega)))
    clear hb
    have k0' : (0 : Int) ≤ (k : Int) := Int.natCast_nonneg _
    have y0 := (HA.out.below HBB.out (by omega)).b0
    have y1 := (HA.out.below HBB.out (by omega)).b1
    have z0 := (HCB.out.below HBB.out (by omega)).b0
    have z1 := (HCB.out.below HBB.out (by omega)).b1
    clear e0 e1 k0 k1
    by_cases hlt : k < F
    · have k1' : (k : Int) < (F : Int) := by omega
      have HS := Lib.hid (show leS (fun a => erQ (P a) (f a) l) (k + 1) = max (leS (fun a => erQ (P a) (f a) l) k) ((erQ (P k) (f k) l).natAbs : Int) from rfl)
      obtain ⟨eb0, eb1⟩ : -2000900000000000000 ≤ erQ (P k) (f k) l ∧ erQ (P k) (f k) l ≤ 2000900000000000000 := HEB.out k hlt
      have hle := leS_bnd (by omega) (fun j hj => HEB.out j (show j < F by have := (show j < k from hj); omega))
      obtain ⟨bp, op, rfl, t1, t2, r0, r1, r2, r3, r4⟩ := (HV.out.below BW.out hhi).pipe hlt
      obtain ⟨_, _, eef, hcf⟩ := (HF.out.below BW.out hhp).ex
      injection eef with ee1 _ ee3
      subst ee1 ee3
      obtain ⟨bf, of, rfl, _, hbf, hxf⟩ : ∃ b o, q0 = some ⟨b, o, none⟩ ∧ lp ≤ b ∧ b < hp ∧ ∀ k, k < F → wr.cell? ⟨b, o + k, none⟩ = some (.int .i64 (f k)) := by
        rcases hcf with e | e
        · omega
        · exact e
      have t0 := hxf k hlt
      have P5 := boxedP wr (P k) 58
      have b5 := below_new wr (.cells #[.int .i64 (P k).f, .int .i64 (P k).t, .int .i64 (P k).k, .int .i64 (P k).v, .int .i64 (P k).l] 58)
      have hs5 : (wr.alloc (.cells #[.int .i64 (P k).f, .int .i64 (P k).t, .int .i64 (P k).k, .int .i64 (P k).v, .int .i64 (P k).l] 58)).heap.size = wr.heap.size + 1 := by simp
      have t5 := (b5.cell (p := ⟨bf, of + k, none⟩) (by show bf < _; omega)).trans t0
      have z05 := (b5.cell (p := ⟨w.heap.size + 1, 0, none⟩) (by show w.heap.size + 1 < _; omega)).trans z0
      have z15 := (b5.cell (p := ⟨w.heap.size + 1, 1, none⟩) (by show w.heap.size + 1 < _; omega)).trans z1
      clear hcf hxf
      go_wp2_with fail
      obtain ⟨w5, hw5⟩ : ∃ w5, wr.alloc (.cells #[.int .i64 (P k).f, .int .i64 (P k).t, .int .i64 (P k).k, .int .i64 (P k).v, .int .i64 (P k).l] 58) = w5 := ⟨_, rfl⟩
      rw [hw5] at P5 b5 hs5 t5 z05 z15 ⊢
      clear hw5 r0 r1 r2 r3 r4 t0 z0 z1 y0 y1
      have c0' := P5.cell 0 (by omega)
      have c1' := P5.cell 1 (by omega)
      have c2' := P5.cell 2 (by omega)
      have c3' := P5.cell 3 (by omega)
      have c4' := P5.cell 4 (by omega)
      simp only [vp] at c0' c1' c2' c3' c4'
      have HB5 := Lib.hid (HBB.out.trans (b5.mono hsz))
      have BW5 := Lib.hid (BW.out.trans (b5.mono (by omega)))
      have hs6 := Nat.le_antisymm_iff.1 hs5
      clear b5 P5 hs5
      have n0 : wr.heap.size < w5.heap.size := by omega
      have n1 : bf < w5.heap.size := by omega
      have n2 : w.heap.size + 1 < w5.heap.size := by omega
      have HD := Lib.hid (fun (W : World) (hW : Below w5.heap.size w5 W) => errorOf_any W L (P k) (net_pip HBN.out hlt) (f k) (HFR.out k hlt).1 (HFR.out k hlt).2 _ l lp hp (HL.out.below (BW5.out.trans (hW.mono (by omega))) hhp) (by have := hW.size; omega) HLR.out hL9)
      have K0 : Below w5.heap.size w5 w5.drew := below_drw (Below.refl _ _)
      generalize hI : leS (fun a => erQ (P a) (f a) l) k = I at *
      generalize hE : erQ (P k) (f k) l = E at *
      clear hI hE
      have KS : ∀ W : World, Below w5.heap.size w5 W → (W.cell? ⟨wr.heap.size, 0, none⟩ = some (.int .i64 (P k).f) ∧ W.cell? ⟨wr.heap.size, 1, none⟩ = some (.int .i64 (P k).t) ∧ W.cell? ⟨wr.heap.size, 2, none⟩ = some (.int .i64 (P k).k) ∧ W.cell? ⟨wr.heap.size, 3, none⟩ = some (.int .i64 (P k).v) ∧ W.cell? ⟨wr.heap.size, 4, none⟩ = some (.int .i64 (P k).l) ∧ W.cell? ⟨bf, of + k, none⟩ = some (.int .i64 (f k)) ∧ W.cell? ⟨w.heap.size + 1, 0, none⟩ = some (.slice (some ⟨bf, of, none⟩) F d0) ∧ W.cell? ⟨w.heap.size + 1, 1, none⟩ = some (.slice q1 L d1)) := fun W hW => ⟨(hW.cell (p := ⟨wr.heap.size, 0, none⟩) n0).trans c0', (hW.cell (p := ⟨wr.heap.size, 1, none⟩) n0).trans c1', (hW.cell (p := ⟨wr.heap.size, 2, none⟩) n0).trans c2', (hW.cell (p := ⟨wr.heap.size, 3, none⟩) n0).trans c3', (hW.cell (p := ⟨wr.heap.size, 4, none⟩) n0).trans c4', (hW.cell (p := ⟨bf, of + k, none⟩) n1).trans t5, (hW.cell (p := ⟨w.heap.size + 1, 0, none⟩) n2).trans z05, (hW.cell (p := ⟨w.heap.size + 1, 1, none⟩) n2).trans z15⟩
      go_region_held3 (fun W : World => W.cell? ⟨wr.heap.size, 0, none⟩ = some (.int .i64 (P k).f) ∧ W.cell? ⟨wr.heap.size, 1, none⟩ = some (.int .i64 (P k).t) ∧ W.cell? ⟨wr.heap.size, 2, none⟩ = some (.int .i64 (P k).k) ∧ W.cell? ⟨wr.heap.size, 3, none⟩ = some (.int .i64 (P k).v) ∧ W.cell? ⟨wr.heap.size, 4, none⟩ = some (.int .i64 (P k).l) ∧ W.cell? ⟨bf, of + k, none⟩ = some (.int .i64 (f k)) ∧ W.cell? ⟨w.heap.size + 1, 0, none⟩ = some (.slice (some ⟨bf, of, none⟩) F d0) ∧ W.cell? ⟨w.heap.size + 1, 1, none⟩ = some (.slice q1 L d1)) (first | exact ⟨c0', c1', c2', c3', c4', t5, z05, z15⟩ | exact KS _ KX)
        (first
          | (go_at_call 29; refine (HD.out _ K0).mono ?_; rintro e wX ⟨rfl, hbX⟩; have KX := K0.trans (hbX.mono K0.size); clear hbX)
          | (go_at_call 34; refine (absN_any _ _ (by omega) (by omega)).mono ?_; rintro e w' ⟨rfl, rfl⟩))
      have zX := KX.size
      go_wp2_with fail
      go_roundw
      case rel => exact ⟨k + 1, by rw [HS.out], by go_num, hlt, by omega, HB5.out.trans (KX.mono (by omega))⟩
      case measure => simp [intOf]; omega
    · have hkn : k = F := by omega
      have k1' : ¬ ((k : Int) < (F : Int)) := by omega
      have HR := Lib.hid (show leS (fun a => erQ (P a) (f a) l) k = pwA L N F P F f L l by rw [H3.out, hkn])
      clear hkn
      go_wp2_with fail
      go_ret2
      exact ⟨ret_2 HR.out HC.out.symm, BW.out⟩
set_option maxRecDepth 100000 in
set_option maxHeartbeats 8000000 in
theorem proofErrorS_any (w : World) (v : Value) (n : Nat) (N : Nat → Nod) (m : Nat) (P : Nat → Pip) (lo hi : Nat) (h : NetAt w v n N m P lo hi) (hhi : hi ≤ w.heap.size) (hN : ∀ i, i < n → (N i).s.size ≤ 9223372036854775807) (vp : Value) (F : Nat) (f : Nat → Int) (L : Nat) (l : Nat → Int) (lp hp : Nat) (hpr : PrAt w vp F f L l lp hp) (hhp : hp ≤ w.heap.size) (hF9 : F ≤ 9223372036854775807) (hL9 : L ≤ 9223372036854775807) :
    Calls Try.prog 14 #[v, vp] w (IIPost w (pwA n N m P F f L l) (prC n N m P F f L l)) := by
  obtain ⟨p0, c0, p1, c1, rfl, hn9, hm9⟩ := h.parts
  obtain ⟨q0, d0, q1, d1, rfl⟩ := hpr.shape
  obtain ⟨hf, hl⟩ := hpr.two
  have HV := Lib.hid h
  have HN := Lib.hid hN
  have HF := Lib.hid hf
  have HL := Lib.hid hl
  have HPR := Lib.hid hpr
  have A0 := (boxed w (.slice p0 n c0) (.slice p1 m c1) 36).keep (Below.heap_alloc _ (.cells #[.slice q0 F d0, .slice q1 L d1] 38) _ (by rw [szal]; omega))
  have C0 := boxed (w.alloc (.cells #[.slice p0 n c0, .slice p1 m c1] 36)) (.slice q0 F d0) (.slice q1 L d1) 38
  simp only [szal] at C0
  have B0 := (below_new w (.cells #[.slice p0 n c0, .slice p1 m c1] 36)).trans ((below_new _ (.cells #[.slice q0 F d0, .slice q1 L d1] 38)).mono (by rw [szal]; omega))
  have hs0 : ((w.alloc (.cells #[.slice p0 n c0, .slice p1 m c1] 36)).alloc (.cells #[.slice q0 F d0, .slice q1 L d1] 38)).heap.size = w.heap.size + 1 + 1 := by simp
  clear h hN hpr hf hl
  go_enter Try.func14, Try.ntmps14
  have e0' := A0.b0
  have e1' := A0.b1
  have k0' := C0.b0
  have k1' := C0.b1
  go_wp2_with fail
  refine (l12Form_any _ _ n N m P lo hi (HV.out.below B0 hhi) (by omega) HN.out _ F f L l lp hp (HPR.out.below B0 hhp) (by omega) hF9 hL9).mono ?_
  rintro e w2 ⟨rfl, b2⟩
  have A2 := A0.below b2 (by omega)
  have C2 := C0.below b2 (by omega)
  have B2 := B0.trans (b2.mono (by omega))
  have hs2 := b2.size
  have u2 : w.heap.size + 1 + 1 ≤ w2.heap.size := by omega
  clear A0 C0 B0 b2 hs2 e0' e1' k0' k1' hs0
  have e0 := A2.b0
  have e1 := A2.b1
  have k0 := C2.b0
  have k1 := C2.b1
  by_cases hc : prC n N m P F f L l = 0
  rotate_left 1
  · have hb1 : (prC n N m P F f L l != 0) = true := by simpa using hc
    have H3 := Lib.hid (show pwA n N m P F f L l = 0 by unfold pwA; rw [if_neg hc])
    clear hc
    go_wp2_with fail
    go_ret2
    exact ⟨ret_2 H3.out.symm rfl, B2⟩
  obtain ⟨hB, rfl, rfl, hf, hl⟩ := prC_ok hc
  have hm40 := (net_sz hB).2.2
  have HC := Lib.hid hc
  have HBN := Lib.hid hB
  have HFR := Lib.hid hf
  have HLR := Lib.hid hl
  have HEB := Lib.hid (erB hB hf hl)
  have H3 := Lib.hid (show pwA L N F P F f L l = leS (fun a => erQ (P a) (f a) l) F by unfold pwA; rw [if_pos hc])
  rw [hc]
  clear hc hB hf hl
  have HA := Lib.hid A2
  have HCB := Lib.hid C2
  have HB2 := Lib.hid B2
  clear A2 C2 B2
  go_wp2_with fail
  go_loopw [7, 8] (fun bv iv wr => ∃ k : Nat, bv = .int .i64 (leS (fun a => erQ (P a) (f a) l) k) ∧ iv = .int .i64 k ∧ k ≤ F ∧ w2.heap.size ≤ wr.heap.size ∧ Below w2.heap.size w2 wr) (fun _ iv _ => F - (intOf iv).toNat)
  case atStart => exact ⟨0, rfl, rfl, Nat.zero_le _, Nat.le_refl _, Below.refl _ _⟩
  case round =>
    obtain ⟨k, rfl, rfl, hk, hsz, hb⟩ := hrel
    have HBB := Lib.hid hb
    have BW := Lib.hid (HB2.out.trans (HBB.out.mono (by omega)))
    clear hb
    have k0' : (0 : Int) ≤ (k : Int) := Int.natCast_nonneg _
    have y0 := (HA.out.below HBB.out (by omega)).b0
    have y1 := (HA.out.below HBB.out (by omega)).b1
    have z0 := (HCB.out.below HBB.out (by omega)).b0
    have z1 := (HCB.out.below HBB.out (by omega)).b1
    clear e0 e1 k0 k1
    by_cases hlt : k < F
    · have k1' : (k : Int) < (F : Int) := by omega
      have HS := Lib.hid (show leS (fun a => erQ (P a) (f a) l) (k + 1) = max (leS (fun a => erQ (P a) (f a) l) k) ((erQ (P k) (f k) l).natAbs : Int) from rfl)
      obtain ⟨eb0, eb1⟩ : -2000900000000000000 ≤ erQ (P k) (f k) l ∧ erQ (P k) (f k) l ≤ 2000900000000000000 := HEB.out k hlt
      have hle := leS_bnd (by omega) (fun j hj => HEB.out j (show j < F by have := (show j < k from hj); omega))
      have HD := Lib.hid (l12Error_any wr _ L N F P lo hi (HV.out.below BW.out hhi) (by omega) HBN.out _ f l lp hp (HPR.out.below BW.out hhp) (by omega) HFR.out HLR.out k hlt)
      generalize hI : leS (fun a => erQ (P a) (f a) l) k = I at *
      generalize hE : erQ (P k) (f k) l = E at *
      clear hI hE
      go_wp2_with (first
        | (go_at_call 23; refine HD.out.mono ?_; rintro e wX ⟨rfl, hbX⟩)
        | (go_at_call 33; refine (absS_any _ _ (by omega) (by omega)).mono ?_; rintro e w' ⟨rfl, rfl⟩))
      have zX := hbX.size
      go_roundw
      case rel => exact ⟨k + 1, by rw [HS.out], by go_num, hlt, by omega, HBB.out.trans (hbX.mono (by omega))⟩
      case measure => simp [intOf]; omega
    · have hkn : k = F := by omega
      have k1' : ¬ ((k : Int) < (F : Int)) := by omega
      have HR := Lib.hid (show leS (fun a => erQ (P a) (f a) l) k = pwA L N F P F f L l by rw [H3.out, hkn])
      clear hkn
      go_wp2_with fail
      go_ret2
      exact ⟨ret_2 HR.out HC.out.symm, BW.out⟩
end Go.Proofs.Ytdbgcbkmcbgdiaa.mem
