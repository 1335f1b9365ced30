/-
  Several texts in one: Lte, Lsx, Lsw, Lst, Lsg, ESolveStep.
-/
import Derived.Test.YtdbgcbkmcbgdiaaGreatRows
import Derived.Test.YtdbgcbkmcbgdiaaGreatBsM
import Derived.Test.YtdbgcbkmcbgdiaaGreatLfm
import Derived.Test.YtdbgcbkmcbgdiaaGreatLsv
import Derived.Deep.RegionHeld3
import Derived.Test.YtdbgcbkmcbgdiaaGreatNetX
import Derived.WalkKit
import Derived.ProofKit
import Derived.OpenShut
import Derived.ChangeMaps5
import Derived.Lib.Hide
import Derived.OwnWalk
import Derived.Test.YtdbgcbkmcbgdiaaGreatIntA
namespace Go.Proofs.YtdbgcbkmcbgdiaaGreat.mem
open Go.RowKit
set_option linter.unusedVariables false

theorem csm_bdW {R s : Nat → Int} {z : Int} : ∀ {k : Nat}, (∀ i, i < k → -4000000 ≤ s i ∧ s i ≤ 4000000) → -4000000 * (k : Int) ≤ csm R s k z ∧ csm R s k z ≤ 4000000 * (k : Int)
  | 0, _ => by show _ ≤ (0 : Int) ∧ (0 : Int) ≤ _; omega
  | k + 1, h => by
    have ih := csm_bdW (R := R) (s := s) (z := z) (k := k) (fun i hi => h i (by omega))
    have h1 := h k (by omega)
    unfold csm
    split <;> omega
set_option maxRecDepth 100000 in
set_option maxHeartbeats 8000000 in
theorem l06EvenW_any (w : World) (v : Value) (n : Nat) (N : Nat → Nod) (m : Nat) (P : Nat → Pip) (lo hi : Nat) (h : NetAt w v n N m P lo hi) (hhi : hi ≤ w.heap.size) (hN : ∀ i, i < n → (N i).s.size ≤ 9223372036854775807) (hB : netB n N m P = true) (va : Value) (s : Nat → Int) (la ha : Nat) (hv : Sl w va n s la ha) (hha : ha ≤ w.heap.size) (hf : ∀ i, i < n → -4000000 ≤ s i ∧ s i ≤ 4000000) :
    Calls Tryz.prog 49 #[v, va] w fun e w' => e = .returned (.bool (evB n P m s)) ∧ Below w.heap.size w w' := by
  obtain ⟨p0, c0, p1, c1, rfl, hn9, hm9⟩ := h.parts
  obtain ⟨hn1, hn24, hm40⟩ := net_sz hB
  have HV := Lib.hid h
  have HN := Lib.hid hN
  have HB := Lib.hid hB
  have HFR := Lib.hid hf
  obtain ⟨pa, ca, rfl, hva⟩ := hv
  have HVZ := Lib.hid hva
  have A0 := boxed w (.slice p0 n c0) (.slice p1 m c1) 27
  have B0 := below_new w (.cells #[.slice p0 n c0, .slice p1 m c1] 27)
  have hs0 : (w.alloc (.cells #[.slice p0 n c0, .slice p1 m c1] 27)).heap.size = w.heap.size + 1 := by simp
  have m1 := fun W => make_int64 W n (by omega)
  have n0 : (0 : Int) ≤ (n : Int) := Int.natCast_nonneg _
  clear h hN hB hva hf
  go_enter Tryz.func49, Tryz.ntmps49
  have e0' := A0.b0
  have e1' := A0.b1
  go_wp2_with fail
  refine (l04Components_any _ _ n N m P lo hi (HV.out.below B0 hhi) (by omega) HN.out HB.out).mono ?_
  rintro e w1 ⟨gc, rfl, hgc, oc, b1⟩
  have B1 := B0.trans (b1.mono (by omega))
  have hs1 := b1.size
  have b2 := below_new w1 (.cells (zeros n) 2)
  have lc := oc.lt
  have HS := Lib.hid (Ob.zeros w1 n)
  have HC := Lib.hid (oc.below b2 lc)
  have HBB := Lib.hid (B1.trans (b2.mono (by omega)))
  have hgl : w.heap.size < w1.heap.size := by omega
  clear A0 B0 e0' e1' b1 b2 oc B1 hs0 hs1 hgc
  go_wp2_with fail
  obtain ⟨w2, hw2⟩ : ∃ w2, w1.alloc (.cells (zeros n) 2) = w2 := ⟨_, rfl⟩
  obtain ⟨gs, hgs⟩ : ∃ gs, w1.heap.size = gs := ⟨_, rfl⟩
  rw [hw2] at HC HBB HS ⊢
  rw [hgs] at HS lc hgl ⊢
  clear hw2 hgs m1
  go_loopw [7] (fun iv wr => ∃ k : Nat, iv = .int .i64 k ∧ k ≤ n ∧ Ob wr gs n (ia (fun z => csm (cmpN n P m) s k ((z : Nat) : Int))) ∧ Ob wr gc n (tabC (cmp n P m n)) ∧ Below w.heap.size w wr) (fun iv _ => n - (intOf iv).toNat)
  case atStart => exact ⟨0, rfl, Nat.zero_le _, HS.out.congr (fun k _ => rfl), HC.out, HBB.out⟩
  case round =>
    obtain ⟨k, rfl, hk, os, oc, hb⟩ := hrel
    clear HS HC HBB
    have HS := Lib.hid os
    have HC := Lib.hid oc
    have HBB := Lib.hid hb
    clear os oc hb
    generalize hQ : Exit.then _ _ = Q
    have HQ := Lib.hid hQ
    clear hQ
    have k0 : (0 : Int) ≤ (k : Int) := Int.natCast_nonneg _
    by_cases hlt : k < n
    · have k1 : (k : Int) < (n : Int) := by omega
      obtain ⟨r, hr, hcr⟩ := cmp_nat (P := P) (m := m) HB.out hlt
      have yc : wr.cell? ⟨gc, k, none⟩ = some (.int .i64 (r : Nat)) := by rw [← hcr]; exact HC.out.cell k hlt
      obtain ⟨ba, oa, rfl, g1, g2, hx⟩ : ∃ b o, pa = some ⟨b, o, none⟩ ∧ la ≤ b ∧ b < ha ∧ ∀ k, k < n → w.cell? ⟨b, o + k, none⟩ = some (.int .i64 (s k)) := by
        rcases HVZ.out with e | e
        · omega
        · exact e
      have ya : wr.cell? ⟨ba, oa + k, none⟩ = some (.int .i64 (s k)) := (HBB.out.cell (p := ⟨ba, oa + k, none⟩) (by show ba < w.heap.size; omega)).trans (hx k hlt)
      have HX := Lib.hid hx
      clear hx
      have ys : wr.cell? ⟨gs, r, none⟩ = some (.int .i64 (csm (cmpN n P m) s k ((r : Nat) : Int))) := HS.out.cell r hr
      have yz := HS.out.free r
      have hb1 := csm_bdW (R := cmpN n P m) (s := s) (z := ((r : Nat) : Int)) (k := k) (fun i hi => HFR.out i (by omega))
      have hd := HFR.out k hlt
      have a1 : -4611686018427387904 ≤ csm (cmpN n P m) s k ((r : Nat) : Int) + s k ∧ csm (cmpN n P m) s k ((r : Nat) : Int) + s k ≤ 4611686018427387904 := by omega
      have r0 : (0 : Int) ≤ (r : Int) := Int.natCast_nonneg _
      have r1 : (r : Int) < (n : Int) := by omega
      have HU := Lib.hid (show ∀ z : Nat, upd (fun z => csm (cmpN n P m) s k ((z : Nat) : Int)) r (csm (cmpN n P m) s k ((r : Nat) : Int) + s k) z = csm (cmpN n P m) s (k + 1) ((z : Nat) : Int) from fun z => by
        simp only [upd]
        rw [csm]
        unfold cmpN
        rw [hcr]
        by_cases e : z = r
        · subst e; rw [if_pos rfl, if_pos rfl]
        · rw [if_neg e, if_neg (show ¬ ((r : Nat) : Int) = ((z : Nat) : Int) by omega), Int.add_zero])
      have o1 := (Only.refl gs wr).setCell r (.int .i64 (csm (cmpN n P m) s k ((r : Nat) : Int) + s k))
      have HS1 := Lib.hid (HS.out.setIn r (csm (cmpN n P m) s k ((r : Nat) : Int) + s k) hr)
      have HC1 := Lib.hid (HC.out.only o1 (by omega))
      have HB1 := Lib.hid (HBB.out.trans (o1.below (B := w.heap.size) (by omega)))
      clear hb1 hd hcr o1
      go_wp2_with fail
      go_still_tail 18, (by kernel_rfl)
      change wpList _ _ _ _ _ wr.drew
      go_wp2_with fail
      rw [← HQ.out]
      refine ⟨⟨_, _, _, _, _, _, _, _, _, _, _, _, _, _, _, _, _, _, _, _, _, _, _, _, _, ?rel, rfl⟩, ?measure⟩
      case rel => exact ⟨k + 1, by go_num, hlt, (HS1.out.congr (fun z _ => by unfold ia; rw [HU.out z])).keep rfl, HC1.out.keep rfl, below_drw HB1.out⟩
      case measure => simp [intOf]; omega
    · have hkn : n = k := by omega
      have hr : Ob wr gs n (ia (fun z => csm (cmpN n P m) s n ((z : Nat) : Int))) := by
        have := HS.out
        rwa [← hkn] at this
      have HR := Lib.hid hr
      have k1 : ¬ ((k : Int) < (n : Int)) := by omega
      clear hkn hr
      go_wp2_with fail
      rw [← HQ.out]
      go_wp2_with fail
      refine (l05Zero_any _ _ n _ _ _ (HR.out.sl n n (Nat.le_refl _)) (by omega)).mono ?_
      rintro e w9 ⟨rfl, rfl⟩
      go_wp2_with fail
      go_ret
      exact ⟨rfl, HBB.out⟩
end Go.Proofs.YtdbgcbkmcbgdiaaGreat.mem

namespace Go.Proofs.YtdbgcbkmcbgdiaaGreat.mem
open Go.RowKit
set_option linter.unusedVariables false

theorem ffl_bd {n : Nat} {N : Nat → Nod} {P : Nat → Pip} {m : Nat} (hN : netB n N m P = true) {s : Nat → Int} (hs : ∀ i, i < n → -30000 ≤ s i ∧ s i ≤ 30000) (a : Nat) : ∀ k, k ≤ n → -30000 * (k : Int) ≤ ffl P (fE n P m) (fD n P m) s k a ∧ ffl P (fE n P m) (fD n P m) s k a ≤ 30000 * (k : Int)
  | 0, _ => by show _ ≤ (0 : Int) ∧ (0 : Int) ≤ _; omega
  | k + 1, hk => by
    have ih := ffl_bd hN hs a k (by omega)
    have h1 := (fo_net hN).asc_rng (z := ((k : Nat) : Int)) ⟨by omega, by omega⟩ a
    have h2 := hs k (by omega)
    unfold ffl
    rcases (by omega : asc P (fE n P m) (fD n P m) ((k : Nat) : Int) a = -1 ∨ asc P (fE n P m) (fD n P m) ((k : Nat) : Int) a = 0 ∨ asc P (fE n P m) (fD n P m) ((k : Nat) : Int) a = 1) with e | e | e
    all_goals
      rw [e]
      omega
def ssX (n m : Nat) (P : Nat → Pip) (d s : Nat → Int) (k : Nat) : Int := d k + 1 * fflN n P m s k + -1 * fflN n P m (suD m P d) k
def ssB (n m : Nat) (P : Nat → Pip) (d s : Nat → Int) : Bool := flB (fflN n P m s) m && flB (fflN n P m (suD m P d)) m && flB (ssX n m P d s) m
noncomputable def ssC (n : Nat) (N : Nat → Nod) (m : Nat) (P : Nat → Pip) (K : Nat) (d : Nat → Int) (L : Nat) (s : Nat → Int) : Int :=
  if flC n N m P K d = 0 then (if liB n L s = true then (if evB n P m s = true then (if flB (suD m P d) n = true then (if ssB n m P d s = true then 0 else 2) else 2) else 5) else 3) else flC n N m P K d
noncomputable def ssN (n : Nat) (N : Nat → Nod) (m : Nat) (P : Nat → Pip) (K : Nat) (d : Nat → Int) (L : Nat) (s : Nat → Int) : Nat := if ssC n N m P K d L s = 0 then m else 0
theorem sv_li {n : Nat} {N : Nat → Nod} {m : Nat} {P : Nat → Pip} {L : Nat} {s : Nat → Int} (hB : netB n N m P = true) : svC n N m P L s = if liB n L s = true then 0 else 3 := by
  unfold svC
  rw [if_pos hB]
  cases hl : liB n L s
  · rw [if_neg (fun g => by rw [liB_iff.2 g] at hl; cases hl)]
    rfl
  · rw [if_pos (liB_iff.1 hl)]
    rfl
theorem ss_ff {n : Nat} {N : Nat → Nod} {m : Nat} {P : Nat → Pip} {K : Nat} {d : Nat → Int} {L : Nat} {s : Nat → Int} (hc : flC n N m P K d = 0) (h : ffC n N m P L s ≠ 0) : ssC n N m P K d L s = ffC n N m P L s := by
  obtain ⟨hB, _, _⟩ := flC_ok hc
  unfold ssC ffC at *
  rw [if_pos hc]
  rw [sv_li hB] at h ⊢
  cases hl : liB n L s
  · rfl
  · rw [hl] at h
    simp only [if_true] at h ⊢
    cases he : evB n P m s
    · rfl
    · rw [he] at h
      simp only [if_true] at h ⊢
      cases hf : flB (fflN n P m s) m
      · have hq : ssB n m P d s = false := by unfold ssB; rw [hf]; rfl
        rw [hq]
        simp
      · rw [hf] at h
        simp at h
theorem ss_su {n : Nat} {N : Nat → Nod} {m : Nat} {P : Nat → Pip} {K : Nat} {d : Nat → Int} {L : Nat} {s : Nat → Int} (hc : flC n N m P K d = 0) (h : ffC n N m P L s = 0) (hu : suC n N m P K d ≠ 0) : suC n N m P K d = 2 ∧ ssC n N m P K d L s = 2 := by
  obtain ⟨hB, _, hf0⟩ := flC_ok hc
  obtain ⟨_, h1, h2, h3, h4⟩ := ffC_ok h
  have hl : liB n L s = true := liB_iff.2 ⟨h1, h2⟩
  have hs : flB (suD m P d) n = false := by
    cases hx : flB (suD m P d) n
    · rfl
    · exfalso
      apply hu
      unfold suC
      rw [if_pos hc, if_pos (show flB (fun z => dv P d m ((z : Nat) : Int)) n = true from hx)]
  refine ⟨by unfold suC; rw [if_pos hc, if_neg (by rw [show (fun z => dv P d m ((z : Nat) : Int)) = suD m P d from rfl, hs]; simp)], ?_⟩
  unfold ssC
  rw [if_pos hc, if_pos hl, if_pos h3, if_neg (by rw [hs]; simp)]
theorem su_ok {n : Nat} {N : Nat → Nod} {m : Nat} {P : Nat → Pip} {K : Nat} {d : Nat → Int} (hc : flC n N m P K d = 0) (hu : suC n N m P K d = 0) : flB (suD m P d) n = true := by
  unfold suC at hu
  rw [if_pos hc] at hu
  split at hu
  · next h => exact h
  · omega
theorem ss_fo {n : Nat} {N : Nat → Nod} {m : Nat} {P : Nat → Pip} {K : Nat} {d : Nat → Int} {L : Nat} {s : Nat → Int} (hc : flC n N m P K d = 0) (h : ffC n N m P L s = 0) (hu : suC n N m P K d = 0) (hp : ffC n N m P n (suD m P d) ≠ 0) : ffC n N m P n (suD m P d) = 2 ∧ ssC n N m P K d L s = 2 := by
  obtain ⟨hB, _, _⟩ := flC_ok hc
  obtain ⟨_, h1, h2, h3, h4⟩ := ffC_ok h
  have hl : liB n L s = true := liB_iff.2 ⟨h1, h2⟩
  have hs := su_ok hc hu
  have he : evB n P m (suD m P d) = true := even_of hB (fun z _ => rfl)
  have hf : flB (fflN n P m (suD m P d)) m = false := by
    cases hx : flB (fflN n P m (suD m P d)) m
    · rfl
    · exfalso
      apply hp
      unfold ffC
      rw [if_pos (svC_is hB hs), if_pos he, if_pos hx]
  refine ⟨by unfold ffC; rw [if_pos (svC_is hB hs), if_pos he, if_neg (by rw [hf]; simp)], ?_⟩
  unfold ssC ssB
  rw [if_pos hc, if_pos hl, if_pos h3, if_pos hs, h4, hf]
  rfl
theorem ss_all {n : Nat} {N : Nat → Nod} {m : Nat} {P : Nat → Pip} {K : Nat} {d : Nat → Int} {L : Nat} {s : Nat → Int} (hc : flC n N m P K d = 0) (h : ffC n N m P L s = 0) (hu : suC n N m P K d = 0) (hp : ffC n N m P n (suD m P d) = 0) : ssC n N m P K d L s = if flB (ssX n m P d s) m = true then 0 else 2 := by
  obtain ⟨hB, _, _⟩ := flC_ok hc
  obtain ⟨_, h1, h2, h3, h4⟩ := ffC_ok h
  obtain ⟨_, _, _, _, h5⟩ := ffC_ok hp
  unfold ssC ssB
  rw [if_pos hc, if_pos (liB_iff.2 ⟨h1, h2⟩), if_pos h3, if_pos (su_ok hc hu), h4, h5]
  rfl
end Go.Proofs.YtdbgcbkmcbgdiaaGreat.mem

namespace Go.Proofs.YtdbgcbkmcbgdiaaGreat.mem
open Go.RowKit
set_option linter.unusedVariables false

set_option maxRecDepth 100000 in
set_option maxHeartbeats 8000000 in
theorem flowsWith_any (w : World) (v : Value) (n : Nat) (N : Nat → Nod) (m : Nat) (P : Nat → Pip) (lo hi : Nat) (h : NetAt w v n N m P lo hi) (hhi : hi ≤ w.heap.size) (hN : ∀ i, i < n → (N i).s.size ≤ 9223372036854775807) (va : Value) (K : Nat) (d : Nat → Int) (la ha : Nat) (hv : Sl w va K d la ha) (hha : ha ≤ w.heap.size) (hK9 : K ≤ 9223372036854775807) (vb : Value) (L : Nat) (s : Nat → Int) (lb hb : Nat) (hu : Sl w vb L s lb hb) (hhb : hb ≤ w.heap.size) (hL9 : L ≤ 9223372036854775807) :
    Calls Tryz.prog 44 #[v, va, vb] w (LIPost w (ssN n N m P K d L s) (ssX n m P d s) (ssC n N m P K d L s)) := by
  obtain ⟨p0, c0, p1, c1, rfl, hn9, hm9⟩ := h.parts
  have HV := Lib.hid h
  have HN := Lib.hid hN
  obtain ⟨pa, ca, rfl⟩ := hv.sh
  obtain ⟨pb, cb, rfl⟩ := hu.sh
  have HSV := Lib.hid hv
  have HSU := Lib.hid hu
  have A0 := (boxed w (.slice p0 n c0) (.slice p1 m c1) 27).keep (Below.heap_alloc _ (.cells #[.slice pa K ca] 28) _ (by rw [szal]; omega))
  have B0 := (below_new w (.cells #[.slice p0 n c0, .slice p1 m c1] 27)).trans ((below_new _ (.cells #[.slice pa K ca] 28)).mono (by rw [szal]; omega))
  have hs0 : ((w.alloc (.cells #[.slice p0 n c0, .slice p1 m c1] 27)).alloc (.cells #[.slice pa K ca] 28)).heap.size = w.heap.size + 1 + 1 := by simp
  have y0' := cell_newV (w.alloc (.cells #[.slice p0 n c0, .slice p1 m c1] 27)) (.slice pa K ca) 28
  simp only [szal] at y0'
  clear h hN hv hu
  go_enter Tryz.func44, Tryz.ntmps44
  have e0' := A0.b0
  have e1' := A0.b1
  go_wp2_with fail
  refine (checkFlows_any _ _ n N m P lo hi (HV.out.below B0 hhi) (by omega) HN.out _ _ y0' (by omega) K d la ha (HSV.out.below B0 hha) (by omega) hK9).mono ?_
  rintro e w1 ⟨rfl, b1⟩
  have A1 := A0.below b1 (by omega)
  have B1 := B0.trans (b1.mono (by omega))
  have z1 := b1.size
  have u1 : w.heap.size < w1.heap.size := by omega
  have e0 := A1.b0
  have e1 := A1.b1
  clear A0 B0 b1 e0' e1' y0' hs0
  by_cases hc : flC n N m P K d = 0
  rotate_left 1
  · have hb1 : (flC n N m P K d != 0) = true := by simpa using hc
    have H4 := Lib.hid (show ssC n N m P K d L s = flC n N m P K d by unfold ssC; rw [if_neg hc])
    have H3 := Lib.hid (show ssN n N m P K d L s = 0 by unfold ssN; rw [H4.out, if_neg hc])
    clear hc
    go_wp2_with fail
    go_ret2
    exact li_err H3.out H4.out.symm rfl B1
  obtain ⟨hB, hKm, hf⟩ := flC_ok hc
  subst hKm
  obtain ⟨hn1, hn24, hm40⟩ := net_sz hB
  have HBN := Lib.hid hB
  have HCC := Lib.hid hc
  have HFL := Lib.hid hf
  rw [hc]
  clear hc hB hf
  go_wp2_with fail
  refine (forestFlowsI_any _ _ n N K P lo hi (HV.out.below B1 hhi) (by omega) HN.out _ L s lb hb (HSU.out.below B1 hhb) (by omega) hL9).mono ?_
  rintro e w2 ⟨vw, gw, rfl, ow, hgw, b2⟩
  have A2 := A1.below b2 (by omega)
  have B2 := B1.trans (b2.mono (by omega))
  have z2 := b2.size
  have u2 : w.heap.size < w2.heap.size := by omega
  clear A1 B1 b2 e0 e1
  have e0 := A2.b0
  have e1 := A2.b1
  obtain ⟨pw, cw, rfl⟩ := ownS_shE ow
  by_cases hfs : ffC n N K P L s = 0
  rotate_left 1
  · have hb1 : (ffC n N K P L s != 0) = true := by simpa using hfs
    have H4 := Lib.hid (ss_ff HCC.out hfs)
    have H3 := Lib.hid (show ssN n N K P K d L s = 0 by unfold ssN; rw [H4.out, if_neg hfs])
    clear hfs ow
    go_wp2_with fail
    go_ret2
    exact li_err H3.out H4.out.symm rfl B2
  have HFS := Lib.hid hfs
  obtain ⟨_, _, _, _, hwf⟩ := ffC_ok hfs
  rw [show ffN n N K P L s = K by unfold ffN; rw [if_pos hfs]] at ow ⊢
  have HWF := Lib.hid hwf
  have lw := ow.lt
  have OW := Lib.hid (owns_sl1 ow)
  rw [hfs]
  clear hfs hwf ow
  go_wp2_with fail
  refine (suppliesOfI_any _ _ n N K P lo hi (HV.out.below B2 hhi) (by omega) HN.out _ K d la ha (HSV.out.below B2 hha) (by omega) hK9).mono ?_
  rintro e w3 ⟨vo, go, rfl, oo, hgo, b3⟩
  have A3 := A2.below b3 (by omega)
  have B3 := B2.trans (b3.mono (by omega))
  have z3 := b3.size
  have u3 : w.heap.size < w3.heap.size := by omega
  have OW3 := Lib.hid (OW.out.below b3 (Nat.le_refl _))
  clear A2 B2 b3 e0 e1 OW
  have e0 := A3.b0
  have e1 := A3.b1
  obtain ⟨po, co, rfl⟩ := ownS_shE oo
  by_cases hsu : suC n N K P K d = 0
  rotate_left 1
  · have hb1 : (suC n N K P K d != 0) = true := by simpa using hsu
    obtain ⟨q2, q4⟩ := ss_su HCC.out HFS.out hsu
    have H4 := Lib.hid (show ssC n N K P K d L s = suC n N K P K d by rw [q2, q4])
    have H3 := Lib.hid (show ssN n N K P K d L s = 0 by unfold ssN; rw [H4.out, if_neg hsu])
    clear hsu oo q2 q4
    go_wp2_with fail
    go_ret2
    exact li_err H3.out H4.out.symm rfl B3
  have HSC := Lib.hid hsu
  rw [show suN n N K P K d = n by unfold suN; rw [if_pos hsu]] at oo ⊢
  have OO := Lib.hid (owns_sl1 oo)
  rw [hsu]
  clear hsu oo
  go_wp2_with fail
  refine (forestFlowsI_any _ _ n N K P lo hi (HV.out.below B3 hhi) (by omega) HN.out _ n (suD K P d) 0 w3.heap.size OO.out (Nat.le_refl _) hn9).mono ?_
  rintro e w4 ⟨vp, gp, rfl, op, hgp, b4⟩
  have A4 := A3.below b4 (by omega)
  have B4 := B3.trans (b4.mono (by omega))
  have z4 := b4.size
  have u4 : w.heap.size < w4.heap.size := by omega
  have OW4 := Lib.hid (OW3.out.below b4 (by omega))
  clear A3 B3 b4 e0 e1 OW3 OO
  have e0 := A4.b0
  have e1 := A4.b1
  obtain ⟨pp, cp, rfl⟩ := ownS_shE op
  by_cases hfp : ffC n N K P n (suD K P d) = 0
  rotate_left 1
  · have hb1 : (ffC n N K P n (suD K P d) != 0) = true := by simpa using hfp
    obtain ⟨q2, q4⟩ := ss_fo HCC.out HFS.out HSC.out hfp
    have H4 := Lib.hid (show ssC n N K P K d L s = ffC n N K P n (suD K P d) by rw [q2, q4])
    have H3 := Lib.hid (show ssN n N K P K d L s = 0 by unfold ssN; rw [H4.out, if_neg hfp])
    clear hfp op q2 q4
    go_wp2_with fail
    go_ret2
    exact li_err H3.out H4.out.symm rfl B4
  have HSS := Lib.hid (ss_all HCC.out HFS.out HSC.out hfp)
  obtain ⟨_, _, _, _, hpf⟩ := ffC_ok hfp
  rw [show ffN n N K P n (suD K P d) = K by unfold ffN; rw [if_pos hfp]] at op ⊢
  have HPF := Lib.hid hpf
  have OP4 := Lib.hid (owns_sl1 op)
  rw [hfp]
  clear hfp hpf op
  obtain ⟨xw, hxw⟩ : ∃ x : Nat → Int, fflN n P K s = x := ⟨_, rfl⟩
  obtain ⟨xp, hxp⟩ : ∃ x : Nat → Int, fflN n P K (suD K P d) = x := ⟨_, rfl⟩
  rw [hxw] at OW4 HWF
  rw [hxp] at OP4 HPF
  have HX := Lib.hid (show ssX n K P d s = fun k => d k + 1 * xw k + -1 * xp k by unfold ssX; rw [hxw, hxp])
  clear hxw hxp
  have hr1 : ∀ k, k < 40 → -30000 ≤ pad K d k ∧ pad K d k ≤ 30000 := fun k _ => by
    unfold pad
    split
    · next hk => exact flQ_iff.1 (flB_iff.1 HFL.out k hk)
    · omega
  have hr2 : ∀ k, k < 40 → -30000 ≤ pad K xw k ∧ pad K xw k ≤ 30000 := fun k _ => by
    unfold pad
    split
    · next hk => exact flQ_iff.1 (flB_iff.1 HWF.out k hk)
    · omega
  have hr3 : ∀ k, k < 40 → -30000 ≤ pad K xp k ∧ pad K xp k ≤ 30000 := fun k _ => by
    unfold pad
    split
    · next hk => exact flQ_iff.1 (flB_iff.1 HPF.out k hk)
    · omega
  have HP1 := Lib.hid (show ∀ k, k < 40 → (-4611686018427387904 ≤ pad K d k + pad K xw k * 1 ∧ pad K d k + pad K xw k * 1 ≤ 4611686018427387904) ∧ (-4611686018427387904 ≤ pad K xw k * 1 ∧ pad K xw k * 1 ≤ 4611686018427387904) from fun k hk => by have := hr1 k hk; have := hr2 k hk; omega)
  have HP2 := Lib.hid (show ∀ k, k < 40 → (-4611686018427387904 ≤ (fun k => pad K d k + pad K xw k * 1) k + pad K xp k * -1 ∧ (fun k => pad K d k + pad K xw k * 1) k + pad K xp k * -1 ≤ 4611686018427387904) ∧ (-4611686018427387904 ≤ pad K xp k * -1 ∧ pad K xp k * -1 ≤ 4611686018427387904) from fun k hk => by have := hr1 k hk; have := hr2 k hk; have := hr3 k hk; dsimp only; omega)
  have HZ := Lib.hid (show flB (fun k => (fun k => pad K d k + pad K xw k * 1) k + pad K xp k * -1) 40 = flB (ssX n K P d s) K from by
    rw [HX.out, flB_ext hm40 (fun k hk => by dsimp only; unfold pad; rw [if_neg (by omega), if_neg (by omega), if_neg (by omega)]; rfl)]
    refine flB_congr fun k hk => ?_
    dsimp only
    unfold pad
    rw [if_pos hk, if_pos hk, if_pos hk]
    omega)
  have HQ := Lib.hid (show ∀ k, k < K → (fun k => (fun k => pad K d k + pad K xw k * 1) k + pad K xp k * -1) k = ssX n K P d s k from fun k hk => by
    rw [HX.out]
    dsimp only
    unfold pad
    rw [if_pos hk, if_pos hk, if_pos hk]
    omega)
  have K0 : Below w4.heap.size w4 w4.drew := below_drw (Below.refl _ _)
  have HD1 := Lib.hid (fun (W : World) (hW : Below w4.heap.size w4 W) => arrayOf_any W (.slice pa K ca) K d la ha (HSV.out.below (B4.trans (hW.mono (by omega))) hha) (by have := hW.size; omega) hm40)
  have HD2 := Lib.hid (fun (W : World) (hW : Below w4.heap.size w4 W) => arrayOf_any W (.slice pw K cw) K xw _ _ (OW4.out.below hW (by omega)) (by have := hW.size; omega) hm40)
  have HD3 := Lib.hid (fun (W : World) (hW : Below w4.heap.size w4 W) => arrayOf_any W (.slice pp K cp) K xp _ _ (OP4.out.below hW (Nat.le_refl _)) (by have := hW.size; omega) hm40)
  have KS : ∀ W : World, Below w4.heap.size w4 W → (W.cell? ⟨w.heap.size, 0, none⟩ = some (.slice p0 n c0) ∧ W.cell? ⟨w.heap.size, 1, none⟩ = some (.slice p1 K c1)) := fun W hW => ⟨(hW.cell (p := ⟨w.heap.size, 0, none⟩) u4).trans e0, (hW.cell (p := ⟨w.heap.size, 1, none⟩) u4).trans e1⟩
  generalize hX1 : pad K d = X1 at *
  generalize hX2 : pad K xw = X2 at *
  generalize hX3 : pad K xp = X3 at *
  clear hX1 hX2 hX3 hr1 hr2 hr3
  have HPL1 := Lib.hid (fun (W : World) => plus_any W X1 X2 1 (fun k hk => (HP1.out k hk).1) (fun k hk => (HP1.out k hk).2))
  obtain ⟨X4, hX4⟩ : ∃ X4 : Nat → Int, (fun k => X1 k + X2 k * 1) = X4 := ⟨_, rfl⟩
  rw [hX4] at HPL1 HP2 HZ HQ
  have HPL2 := Lib.hid (fun (W : World) => plus_any W X4 X3 (-1) (fun k hk => (HP2.out k hk).1) (fun k hk => (HP2.out k hk).2))
  obtain ⟨X5, hX5⟩ : ∃ X5 : Nat → Int, (fun k => X4 k + X3 k * -1) = X5 := ⟨_, rfl⟩
  rw [hX5] at HPL2 HZ HQ
  clear hX4 hX5
  go_wp2_with fail
  go_region_held3 (fun w' : World => w'.cell? ⟨w.heap.size, 0, none⟩ = some (.slice p0 n c0) ∧ w'.cell? ⟨w.heap.size, 1, none⟩ = some (.slice p1 K c1))
    (first | exact ⟨e0, e1⟩ | exact KS _ KF | exact KS _ KE | exact KS _ KD | exact KS _ KC | exact KS _ KB | exact KS _ KA)
    (first
      | (go_at_call 90; refine (flowListOf_any _ p0 p1 n K c0 c1 _ hm40).mono ?_; rintro e wF ⟨hbF, hcase⟩; obtain ⟨v2, cd, rfl, hout⟩ := flo_out hcase; have KF := KE.trans (hbF.mono KE.size))
      | (go_at_call 92; have hpre := KD; go_loud (with_reducible refine (HPL2.out _).mono ?_); rintro e wE ⟨rfl, hbE⟩; have KE := KD.trans (hbE.mono KD.size))
      | (go_at_call 91; have hpre := KC; refine (HD3.out _ KC).mono ?_; rintro e wD ⟨rfl, hbD⟩; have KD := KC.trans (hbD.mono KC.size))
      | (go_at_call 92; with_reducible refine (HPL1.out _).mono ?_; rintro e wC ⟨rfl, hbC⟩; have KC := KB.trans (hbC.mono KB.size))
      | (go_at_call 91; have hpre := KA; refine (HD2.out _ KA).mono ?_; rintro e wB ⟨rfl, hbB⟩; have KB := KA.trans (hbB.mono KA.size))
      | (go_at_call 91; refine (HD1.out _ K0).mono ?_; rintro e wA ⟨rfl, hbA⟩; have KA := K0.trans (hbA.mono K0.size)))
  go_wp2_with fail
  go_ret2
  have BF := B4.trans (KF.mono (by omega))
  rcases hout.out with ⟨hz, rfl, g, ho, hg⟩ | ⟨hz, rfl, rfl⟩
  · rw [HZ.out] at hz
    have H4 := Lib.hid (show ssC n N K P K d L s = 0 by rw [HSS.out, hz]; rfl)
    exact li_ok (show K = _ by unfold ssN; rw [H4.out]; rfl) (by rw [H4.out]; rfl) (ho.congr HQ.out) (by have := KE.size; omega) BF
  · rw [HZ.out] at hz
    have H4 := Lib.hid (show ssC n N K P K d L s = 2 by rw [HSS.out, hz]; rfl)
    exact li_err (show _ = 0 by unfold ssN; rw [H4.out]; rfl) H4.out.symm rfl BF
set_option maxRecDepth 100000 in
set_option maxHeartbeats 8000000 in
theorem solveStepI_any (w : World) (v : Value) (n : Nat) (N : Nat → Nod) (m : Nat) (P : Nat → Pip) (lo hi : Nat) (h : NetAt w v n N m P lo hi) (hhi : hi ≤ w.heap.size) (hN : ∀ i, i < n → (N i).s.size ≤ 9223372036854775807) (va : Value) (K : Nat) (d : Nat → Int) (la ha : Nat) (hv : Sl w va K d la ha) (hha : ha ≤ w.heap.size) (hK9 : K ≤ 9223372036854775807) (vb : Value) (L : Nat) (s : Nat → Int) (lb hb : Nat) (hu : Sl w vb L s lb hb) (hhb : hb ≤ w.heap.size) (hL9 : L ≤ 9223372036854775807) :
    Calls Tryz.prog 11 #[v, va, vb] w (LIPost w (ssN n N m P K d L s) (rfR n m P (ssX n m P d s) 1).1 (ssC n N m P K d L s)) := by
  obtain ⟨p0, c0, p1, c1, rfl, hn9, hm9⟩ := h.parts
  have HV := Lib.hid h
  have HN := Lib.hid hN
  obtain ⟨pa, ca, rfl⟩ := hv.sh
  obtain ⟨pb, cb, rfl⟩ := hu.sh
  have A0 := boxed w (.slice p0 n c0) (.slice p1 m c1) 27
  have B0 := below_new w (.cells #[.slice p0 n c0, .slice p1 m c1] 27)
  have hs0 : (w.alloc (.cells #[.slice p0 n c0, .slice p1 m c1] 27)).heap.size = w.heap.size + 1 := by simp
  have HC := Lib.hid (flowsWith_any _ _ n N m P lo hi (HV.out.below B0 hhi) (by omega) HN.out _ K d la ha (hv.below B0 hha) (by omega) hK9 _ L s lb hb (hu.below B0 hhb) (by omega) hL9)
  clear h hN hv hu
  go_enter Tryz.func11, Tryz.ntmps11
  have e0' := A0.b0
  have e1' := A0.b1
  go_wp2_with fail
  refine HC.out.mono ?_
  rintro e w1 ⟨vr, gr, rfl, or, hgr, b1⟩
  have A1 := A0.below b1 (by omega)
  have B1 := B0.trans (b1.mono (by omega))
  have z1 := b1.size
  have u1 : w.heap.size < w1.heap.size := by omega
  have e0 := A1.b0
  have e1 := A1.b1
  clear A0 B0 b1 e0' e1' hs0 HC
  obtain ⟨p9, c9, rfl⟩ := ownS_shE or
  by_cases hc : ssC n N m P K d L s = 0
  rotate_left 1
  · have hb1 : (ssC n N m P K d L s != 0) = true := by simpa using hc
    have H3 := Lib.hid (show ssN n N m P K d L s = 0 by unfold ssN; rw [if_neg hc])
    clear hc or
    go_wp2_with fail
    go_ret2
    exact li_err H3.out rfl rfl B1
  have hmm : ssN n N m P K d L s = m := by unfold ssN; rw [if_pos hc]
  have HM := Lib.hid hmm
  have HCC := Lib.hid hc
  obtain ⟨hB, hx⟩ : netB n N m P = true ∧ flB (ssX n m P d s) m = true := by
    unfold ssC at hc
    split at hc
    · next h0 =>
      refine ⟨(flC_ok h0).1, ?_⟩
      split at hc
      · split at hc
        · split at hc
          · split at hc
            · next h4 =>
              unfold ssB at h4
              rw [Bool.and_eq_true] at h4
              exact h4.2
            · omega
          · omega
        · omega
      · omega
    · next h0 => exact absurd hc h0
  obtain ⟨q1, q2, q3⟩ := rf_of hB hx stB_one
  have hm40 := (net_sz hB).2.2
  rw [hmm] at or ⊢
  have OS := owns_sl1 or
  have hpc := relaxFlowsI_any w1 _ n N m P lo hi (HV.out.below B1 hhi) (by omega) HN.out _ m (ssX n m P d s) 0 _ OS (Nat.le_refl _) (by omega) 1
  rw [q1, q2, q3] at hpc
  generalize hr : (rfR n m P (ssX n m P d s) 1) = r at *
  have HRE := Lib.hid hr
  rw [hc]
  clear hr OS hB hx hmm hc or q1 q2 q3
  go_wp2_with fail
  refine hpc.mono ?_
  rintro e w2 ⟨v2, g2, rfl, o2, hg2, b2⟩
  clear hpc
  obtain ⟨p8, c8, rfl⟩ := ownS_shE o2
  go_wp2_with fail
  go_ret2
  rw [HM.out, HCC.out, HRE.out]
  exact ⟨_, g2, rfl, o2, by omega, B1.trans (b2.mono B1.size)⟩
end Go.Proofs.YtdbgcbkmcbgdiaaGreat.mem

namespace Go.Proofs.YtdbgcbkmcbgdiaaGreat.mem
open Go.RowKit
set_option linter.unusedVariables false

set_option maxRecDepth 100000 in
set_option maxHeartbeats 8000000 in
theorem solveStepS_any (w : World) (v : Value) (n : Nat) (N : Nat → Nod) (m : Nat) (P : Nat → Pip) (lo hi : Nat) (h : NetAt w v n N m P lo hi) (hhi : hi ≤ w.heap.size) (hN : ∀ i, i < n → (N i).s.size ≤ 9223372036854775807) (va : Value) (K : Nat) (d : Nat → Int) (la ha : Nat) (hv : Sl w va K d la ha) (hha : ha ≤ w.heap.size) (hK9 : K ≤ 9223372036854775807) (vb : Value) (L : Nat) (s : Nat → Int) (lb hb : Nat) (hu : Sl w vb L s lb hb) (hhb : hb ≤ w.heap.size) (hL9 : L ≤ 9223372036854775807) :
    Calls Tryz.prog 12 #[v, va, vb] w (LIPost w (ssN n N m P K d L s) (rfR n m P (ssX n m P d s) 1).1 (ssC n N m P K d L s)) := by
  obtain ⟨p0, c0, p1, c1, rfl, hn9, hm9⟩ := h.parts
  have HV := Lib.hid h
  have HN := Lib.hid hN
  obtain ⟨pa, ca, rfl⟩ := hv.sh
  obtain ⟨pb, cb, rfl⟩ := hu.sh
  have A0 := boxed w (.slice p0 n c0) (.slice p1 m c1) 27
  have B0 := below_new w (.cells #[.slice p0 n c0, .slice p1 m c1] 27)
  have hs0 : (w.alloc (.cells #[.slice p0 n c0, .slice p1 m c1] 27)).heap.size = w.heap.size + 1 := by simp
  clear h hN
  go_enter Tryz.func12, Tryz.ntmps12
  have e0' := A0.b0
  have e1' := A0.b1
  go_wp2_with fail
  refine (l05Code_any _ _ n N m P lo hi (HV.out.below B0 hhi) (by omega) HN.out _ K d la ha (hv.below B0 hha) (by omega) hK9).mono ?_
  rintro e w1 ⟨rfl, b1⟩
  have A1 := A0.below b1 (by omega)
  have B1 := B0.trans (b1.mono (by omega))
  have hs1 := b1.size
  have e0 := A1.b0
  have e1 := A1.b1
  have e2 : w.heap.size < w1.heap.size := by omega
  have H1 := Lib.hid (hv.below B1 hha)
  have H2 := Lib.hid (hu.below B1 hhb)
  clear A0 B0 b1 e0' e1' hv hu
  by_cases hc : flC n N m P K d = 0
  rotate_left 1
  · have hb1 : (flC n N m P K d == 0) = false := by simpa using hc
    have hb2 : (flC n N m P K d != 0) = true := by simpa using hc
    have H4 := Lib.hid (show ssC n N m P K d L s = flC n N m P K d by unfold ssC; rw [if_neg hc])
    have H3 := Lib.hid (show ssN n N m P K d L s = 0 by unfold ssN; rw [H4.out, if_neg hc])
    clear hc
    go_wp2_with fail
    go_ret2
    exact li_err H3.out H4.out.symm rfl B1
  · obtain ⟨hB, rfl, hf⟩ := flC_ok hc
    obtain ⟨hn1, hn24, hm40⟩ := net_sz hB
    have HB := Lib.hid hB
    have HFL := Lib.hid hf
    have HRG := Lib.hid (show ∀ j, j < K → -30000 ≤ d j ∧ d j ≤ 30000 from fun j hj => flQ_iff.1 (flB_iff.1 hf j hj))
    have HSC := Lib.hid (show ssC n N K P K d L s = if liB n L s = true then (if evB n P K s = true then (if flB (suD K P d) n = true then (if ssB n K P d s = true then 0 else 2) else 2) else 5) else 3 by unfold ssC; rw [if_pos hc])
    have HEO := Lib.hid (show evB n P K (suD K P d) = true from even_of hB (fun z _ => rfl))
    have HOB := Lib.hid (show ∀ z, z < n → -4000000 ≤ suD K P d z ∧ suD K P d z ≤ 4000000 from fun z _ => by
      have := dv_bd (P := P) (x := d) (z := ((z : Nat) : Int)) (k := K) HRG.out
      unfold suD
      omega)
    rw [hc]
    clear hc hB hf
    cases hl : liB n L s
    · have H4 := Lib.hid (show ssC n N K P K d L s = 3 by rw [HSC.out, hl]; rfl)
      have H3 := Lib.hid (show ssN n N K P K d L s = 0 by unfold ssN; rw [H4.out]; rfl)
      go_wp2_with (go_at_call 47; refine (l06List_any _ p0 p1 n K c0 c1 _ L s _ _ H2.out (by omega) hL9 hn9).mono ?_; rintro e w4 ⟨rfl, hb4⟩; rw [hl])
      go_ret2
      exact li_err H3.out H4.out.symm rfl (B1.trans (hb4.mono (by omega)))
    · obtain ⟨hLn, hf2⟩ := liB_iff.1 hl
      obtain rfl : n = L := hLn.symm
      have HLL := Lib.hid hl
      have HF2 := Lib.hid hf2
      clear hl hf2 hLn
      cases hev : evB n P K s
      · have HEV := Lib.hid hev
        have H4 := Lib.hid (show ssC n N K P K d n s = 5 by rw [HSC.out, HLL.out, HEV.out]; rfl)
        have H3 := Lib.hid (show ssN n N K P K d n s = 0 by unfold ssN; rw [H4.out]; rfl)
        clear hev
        go_wp2_with (first
          | (go_at_call 47; with_reducible refine (l06List_any w1 p0 p1 n K c0 c1 (.slice pb n cb) n s lb hb H2.out (by omega) hL9 hn9).mono ?_; rintro e w4 ⟨rfl, hb4⟩; rw [HLL.out]; have B4 := B1.trans (hb4.mono (by omega)); have z4 := hb4.size; have A4 := A1.below hb4 e2; have f0 := A4.b0; have f1 := A4.b1; clear e0 e1)
          | (go_at_call 48; refine (l05Out_any w4 _ n N K P lo hi (HV.out.below B4 hhi) (by omega) HN.out HB.out _ d la ha (H1.out.below hb4 (by omega)) (by omega) HFL.out).mono ?_; rintro e w5 ⟨vo, go, rfl, ho, hgo, hgo2, b5⟩; obtain ⟨po, co, rfl⟩ := ho.sh; have z5 := b5.size; have B5 := B4.trans (b5.mono (by omega)); have A5 := A4.below b5 (by omega); have g0 := A5.b0; have g1 := A5.b1; have HO := Lib.hid (show Sl w5 (.slice po n co) n (suD K P d) go (go + 1) from ho); clear f0 f1)
          | (go_at_call 49; with_reducible refine (l06Even_any w5 _ n N K P lo hi (HV.out.below B5 hhi) (by omega) HN.out HB.out (.slice pb n cb) s lb hb ((H2.out.below hb4 (by omega)).below b5 (by omega)) (by omega) HF2.out).mono ?_; rintro e w6 ⟨rfl, b6⟩; rw [HEV.out]; have z6 := b6.size; have B6 := B5.trans (b6.mono (by omega)); have A6 := A5.below b6 (by omega); have i0 := A6.b0; have i1 := A6.b1; have HO6 := Lib.hid (HO.out.below b6 (by omega)); clear g0 g1))
        go_ret2
        exact li_err H3.out H4.out.symm rfl B6
      · have HEV := Lib.hid hev
        clear hev
        cases hlo : flB (suD K P d) n
        · have HLO := Lib.hid hlo
          have H4 := Lib.hid (show ssC n N K P K d n s = 2 by rw [HSC.out, HLL.out, HEV.out, HLO.out]; rfl)
          have H3 := Lib.hid (show ssN n N K P K d n s = 0 by unfold ssN; rw [H4.out]; rfl)
          clear hlo
          go_wp2_with (first
            | (go_at_call 47; with_reducible refine (l06List_any w1 p0 p1 n K c0 c1 (.slice pb n cb) n s lb hb H2.out (by omega) hL9 hn9).mono ?_; rintro e w4 ⟨rfl, hb4⟩; rw [HLL.out]; have B4 := B1.trans (hb4.mono (by omega)); have z4 := hb4.size; have A4 := A1.below hb4 e2; have f0 := A4.b0; have f1 := A4.b1; clear e0 e1)
            | (go_at_call 48; refine (l05Out_any w4 _ n N K P lo hi (HV.out.below B4 hhi) (by omega) HN.out HB.out _ d la ha (H1.out.below hb4 (by omega)) (by omega) HFL.out).mono ?_; rintro e w5 ⟨vo, go, rfl, ho, hgo, hgo2, b5⟩; obtain ⟨po, co, rfl⟩ := ho.sh; have z5 := b5.size; have B5 := B4.trans (b5.mono (by omega)); have A5 := A4.below b5 (by omega); have g0 := A5.b0; have g1 := A5.b1; have HO := Lib.hid (show Sl w5 (.slice po n co) n (suD K P d) go (go + 1) from ho); clear f0 f1)
            | (go_at_call 49; with_reducible refine (l06Even_any w5 _ n N K P lo hi (HV.out.below B5 hhi) (by omega) HN.out HB.out (.slice pb n cb) s lb hb ((H2.out.below hb4 (by omega)).below b5 (by omega)) (by omega) HF2.out).mono ?_; rintro e w6 ⟨rfl, b6⟩; rw [HEV.out]; have z6 := b6.size; have B6 := B5.trans (b6.mono (by omega)); have A6 := A5.below b6 (by omega); have i0 := A6.b0; have i1 := A6.b1; have HO6 := Lib.hid (HO.out.below b6 (by omega)); clear g0 g1)
            | (go_at_call 49; refine (l06EvenW_any w6 _ n N K P lo hi (HV.out.below B6 hhi) (by omega) HN.out HB.out _ (suD K P d) go (go + 1) HO6.out (by omega) HOB.out).mono ?_; rintro e w7 ⟨rfl, b7⟩; rw [HEO.out]; have z7 := b7.size; have B7 := B6.trans (b7.mono (by omega)); have A7 := A6.below b7 (by omega); have j0 := A7.b0; have j1 := A7.b1; have HO7 := Lib.hid (HO6.out.below b7 (by omega)); clear i0 i1)
            | (go_at_call 47; refine (l06List_any w7 p0 p1 n K c0 c1 _ n (suD K P d) go (go + 1) HO7.out (by omega) hn9 hn9).mono ?_; rintro e w8 ⟨rfl, b8⟩; rw [show liB n n (suD K P d) = flB (suD K P d) n from by unfold liB; simp, HLO.out]; have z8 := b8.size; have B8 := B7.trans (b8.mono (by omega)); have A8 := A7.below b8 (by omega); have l0 := A8.b0; have l1 := A8.b1; have HO8 := Lib.hid (HO7.out.below b8 (by omega)); clear j0 j1))
          go_ret2
          exact li_err H3.out H4.out.symm rfl B8
        · have HLO := Lib.hid hlo
          clear hlo
          have HSD := Lib.hid (show ssC n N K P K d n s = if ssB n K P d s = true then 0 else 2 by rw [HSC.out, HLL.out, HEV.out, HLO.out]; rfl)
          go_wp2_with (first
            | (go_at_call 47; with_reducible refine (l06List_any w1 p0 p1 n K c0 c1 (.slice pb n cb) n s lb hb H2.out (by omega) hL9 hn9).mono ?_; rintro e w4 ⟨rfl, hb4⟩; rw [HLL.out]; have B4 := B1.trans (hb4.mono (by omega)); have z4 := hb4.size; have A4 := A1.below hb4 e2; have f0 := A4.b0; have f1 := A4.b1; clear e0 e1)
            | (go_at_call 48; refine (l05Out_any w4 _ n N K P lo hi (HV.out.below B4 hhi) (by omega) HN.out HB.out _ d la ha (H1.out.below hb4 (by omega)) (by omega) HFL.out).mono ?_; rintro e w5 ⟨vo, go, rfl, ho, hgo, hgo2, b5⟩; obtain ⟨po, co, rfl⟩ := ho.sh; have z5 := b5.size; have B5 := B4.trans (b5.mono (by omega)); have A5 := A4.below b5 (by omega); have g0 := A5.b0; have g1 := A5.b1; have HO := Lib.hid (show Sl w5 (.slice po n co) n (suD K P d) go (go + 1) from ho); clear f0 f1)
            | (go_at_call 49; with_reducible refine (l06Even_any w5 _ n N K P lo hi (HV.out.below B5 hhi) (by omega) HN.out HB.out (.slice pb n cb) s lb hb ((H2.out.below hb4 (by omega)).below b5 (by omega)) (by omega) HF2.out).mono ?_; rintro e w6 ⟨rfl, b6⟩; rw [HEV.out]; have z6 := b6.size; have B6 := B5.trans (b6.mono (by omega)); have A6 := A5.below b6 (by omega); have i0 := A6.b0; have i1 := A6.b1; have HO6 := Lib.hid (HO.out.below b6 (by omega)); clear g0 g1)
            | (go_at_call 49; refine (l06EvenW_any w6 _ n N K P lo hi (HV.out.below B6 hhi) (by omega) HN.out HB.out _ (suD K P d) go (go + 1) HO6.out (by omega) HOB.out).mono ?_; rintro e w7 ⟨rfl, b7⟩; rw [HEO.out]; have z7 := b7.size; have B7 := B6.trans (b7.mono (by omega)); have A7 := A6.below b7 (by omega); have j0 := A7.b0; have j1 := A7.b1; have HO7 := Lib.hid (HO6.out.below b7 (by omega)); clear i0 i1)
            | (go_at_call 47; refine (l06List_any w7 p0 p1 n K c0 c1 _ n (suD K P d) go (go + 1) HO7.out (by omega) hn9 hn9).mono ?_; rintro e w8 ⟨rfl, b8⟩; rw [show liB n n (suD K P d) = flB (suD K P d) n from by unfold liB; simp, HLO.out]; have z8 := b8.size; have B8 := B7.trans (b8.mono (by omega)); have A8 := A7.below b8 (by omega); have l0 := A8.b0; have l1 := A8.b1; have HO8 := Lib.hid (HO7.out.below b8 (by omega)); clear j0 j1))
          have HS8 := Lib.hid (((((H2.out.below hb4 (by omega)).below b5 (by omega)).below b6 (by omega)).below b7 (by omega)).below b8 (by omega))
          have HD8 := Lib.hid (((((H1.out.below hb4 (by omega)).below b5 (by omega)).below b6 (by omega)).below b7 (by omega)).below b8 (by omega))
          have qh : hi ≤ w8.drew.heap.size := by show hi ≤ w8.heap.size; omega
          have qb : hb ≤ w8.drew.heap.size := by show hb ≤ w8.heap.size; omega
          have qo : go + 1 ≤ w8.drew.heap.size := by show go + 1 ≤ w8.heap.size; omega
          have HY0 := Lib.hid (HV.out.below B8.drew hhi)
          have HY1 := Lib.hid (sl_dr HS8.out)
          have HY2 := Lib.hid (sl_dr HO8.out)
          clear hb4 b5 b6 b7 b8 H1 H2 HO HO6 HO7 A1 A4 A5 A6 A7 B1 B4 B5 B6 B7
          go_region_held3 (fun w' : World => w'.cell? ⟨w.heap.size, 0, none⟩ = some (.slice p0 n c0) ∧ w'.cell? ⟨w.heap.size, 1, none⟩ = some (.slice p1 K c1))
            (first | exact ⟨l0, l1⟩ | exact SZ | exact SA | exact SO)
            (first
              | (go_at_call 50; with_reducible refine (l06Forest_any wA _ n N K P lo hi (HV.out.below BA hhi) (by omega) HN.out HB.out (.slice po n co) (suD K P d) go (go + 1) (HO8.out.below bA' (by omega)) (by omega) HLO.out HEO.out).mono ?_; rintro e wZ ⟨vO, gO, rfl, oO, lO, bZ⟩; have zZ := bZ.size; have lgS := oS.lt; have FS := Lib.hid (oS.below bZ (by omega)); have FO := Lib.hid oO; have WZ := Lib.hid (bA'.trans (bZ.mono zA)); have SZ : ((fun w' : World => w'.cell? ⟨w.heap.size, 0, none⟩ = some (.slice p0 n c0) ∧ w'.cell? ⟨w.heap.size, 1, none⟩ = some (.slice p1 K c1))) wZ := ⟨(bZ.cell (p := ⟨w.heap.size, 0, none⟩) (by show w.heap.size < _; omega)).trans SA.1, (bZ.cell (p := ⟨w.heap.size, 1, none⟩) (by show w.heap.size < _; omega)).trans SA.2⟩; clear oS oO)
              | (go_at_call 50; with_reducible refine (l06Forest_any wO _ n N K P lo hi (HV.out.below BO hhi) (by omega) HN.out HB.out (.slice pb n cb) s lb hb (HS8.out.below bO' (by omega)) (by omega) HF2.out HEV.out).mono ?_; rintro e wZ ⟨vS, gS, rfl, oS, lS, bZ⟩; have zZ := bZ.size; have lgO := oO.lt; have FO := Lib.hid (oO.below bZ (by omega)); have FS := Lib.hid oS; have WZ := Lib.hid (bO'.trans (bZ.mono zO)); have SZ : ((fun w' : World => w'.cell? ⟨w.heap.size, 0, none⟩ = some (.slice p0 n c0) ∧ w'.cell? ⟨w.heap.size, 1, none⟩ = some (.slice p1 K c1))) wZ := ⟨(bZ.cell (p := ⟨w.heap.size, 0, none⟩) (by show w.heap.size < _; omega)).trans SO.1, (bZ.cell (p := ⟨w.heap.size, 1, none⟩) (by show w.heap.size < _; omega)).trans SO.2⟩; clear oS oO)
              | (go_at_call 50; with_reducible refine (l06Forest_any w8.drew _ n N K P lo hi HY0.out qh HN.out HB.out (.slice pb n cb) s lb hb HY1.out qb HF2.out HEV.out).mono ?_; rintro e wA ⟨vS, gS, rfl, oS, lS, bA⟩; have bA' := below_dr0 bA; have zA := bA'.size; have BA := B8.trans (bA'.mono (by omega)); have SA : ((fun w' : World => w'.cell? ⟨w.heap.size, 0, none⟩ = some (.slice p0 n c0) ∧ w'.cell? ⟨w.heap.size, 1, none⟩ = some (.slice p1 K c1))) wA := ⟨(bA'.cell (p := ⟨w.heap.size, 0, none⟩) (by show w.heap.size < _; omega)).trans l0, (bA'.cell (p := ⟨w.heap.size, 1, none⟩) (by show w.heap.size < _; omega)).trans l1⟩)
              | (go_at_call 50; with_reducible refine (l06Forest_any w8.drew _ n N K P lo hi HY0.out qh HN.out HB.out (.slice po n co) (suD K P d) go (go + 1) HY2.out qo HLO.out HEO.out).mono ?_; rintro e wO ⟨vO, gO, rfl, oO, lO, bO⟩; have bO' := below_dr0 bO; have zO := bO'.size; have BO := B8.trans (bO'.mono (by omega)); have SO : ((fun w' : World => w'.cell? ⟨w.heap.size, 0, none⟩ = some (.slice p0 n c0) ∧ w'.cell? ⟨w.heap.size, 1, none⟩ = some (.slice p1 K c1))) wO := ⟨(bO'.cell (p := ⟨w.heap.size, 0, none⟩) (by show w.heap.size < _; omega)).trans l0, (bO'.cell (p := ⟨w.heap.size, 1, none⟩) (by show w.heap.size < _; omega)).trans l1⟩))
          · obtain ⟨r0, r1⟩ := SZ
            have BZ := B8.trans (WZ.out.mono (by omega))
            have zz := WZ.out.size
            have hzS := FS.out.lt
            have hzO := FO.out.lt
            have AZ := A8.below WZ.out (by omega)
            have HDZ := Lib.hid (HD8.out.below WZ.out (by omega))
            obtain ⟨xs, hxs⟩ : ∃ x : Nat → Int, fflN n P K s = x := ⟨_, rfl⟩
            obtain ⟨xo, hxo⟩ : ∃ x : Nat → Int, fflN n P K (suD K P d) = x := ⟨_, rfl⟩
            have hS9 : ∀ k, -720000 ≤ xs k ∧ xs k ≤ 720000 := fun k => by
              have := ffl_bd (P := P) (m := K) HB.out (fun i hi => flQ_iff.1 (flB_iff.1 HF2.out i hi)) k n (Nat.le_refl n)
              rw [← hxs]
              unfold fflN
              omega
            have hO9 : ∀ k, -720000 ≤ xo k ∧ xo k ≤ 720000 := fun k => by
              have := ffl_bd (P := P) (m := K) HB.out (fun i hi => flQ_iff.1 (flB_iff.1 HLO.out i hi)) k n (Nat.le_refl n)
              rw [← hxo]
              unfold fflN
              omega
            rw [hxs] at FS
            rw [hxo] at FO
            obtain ⟨x1, h1x⟩ : ∃ x : Nat → Int, (fun k => d k + 1 * xs k) = x := ⟨_, rfl⟩
            obtain ⟨xn, h2x⟩ : ∃ x : Nat → Int, (fun k => x1 k + -1 * xo k) = x := ⟨_, rfl⟩
            have HXN := Lib.hid (show ssX n K P d s = xn by rw [← h2x, ← h1x, ← hxs, ← hxo]; rfl)
            have HSB := Lib.hid (show ssB n K P d s = (flB xs K && flB xo K && flB xn K) by unfold ssB; rw [HXN.out, hxs, hxo])
            have HX1 := Lib.hid (show ∀ k, k < K → -1000000 ≤ x1 k ∧ x1 k ≤ 1000000 from fun k hk => by rw [← h1x]; have := hS9 k; have := HRG.out k hk; dsimp only; omega)
            have HP1 := Lib.hid (show ∀ k, k < K → -4611686018427387904 ≤ d k + 1 * xs k ∧ d k + 1 * xs k ≤ 4611686018427387904 from fun k hk => by have := hS9 k; have := HRG.out k hk; omega)
            have HP2 := Lib.hid (show ∀ k, k < K → -4611686018427387904 ≤ 1 * xs k ∧ 1 * xs k ≤ 4611686018427387904 from fun k hk => by have := hS9 k; omega)
            have HP3 := Lib.hid (show ∀ k, k < K → -4611686018427387904 ≤ x1 k + -1 * xo k ∧ x1 k + -1 * xo k ≤ 4611686018427387904 from fun k hk => by have := HX1.out k hk; have := hO9 k; omega)
            have HP4 := Lib.hid (show ∀ k, k < K → -4611686018427387904 ≤ -1 * xo k ∧ -1 * xo k ≤ 4611686018427387904 from fun k hk => by have := hO9 k; omega)
            have HAD1 := Lib.hid (l05Add_any wZ (.slice pa K ca) _ K d xs 1 la ha _ _ HDZ.out (by omega) FS.out.sl (by omega) (by omega) HP1.out HP2.out)
            clear hS9 hO9 hxs hxo HS8 HD8 HY0 HY1 HY2 HO8 HF2 HRG HOB HEO HEV HLL HFL HX1 HP1 HP2 A8 WZ HDZ qh qb qo B8
            cases q1 : flB xs K
            · have Q1 := Lib.hid q1
              clear q1
              have H4 := Lib.hid (show ssC n N K P K d n s = 2 by rw [HSD.out, HSB.out, Q1.out]; simp)
              have H3 := Lib.hid (show ssN n N K P K d n s = 0 by unfold ssN; rw [H4.out]; rfl)
              go_wp2_with (first
                | (go_at_call 52; have hpre := OY; with_reducible refine (l05List_any wY p0 p1 n K c0 c1 _ K xs _ _ FSY.out.sl (by omega) hm9 hm9).mono ?_; rintro e wP ⟨rfl, bP⟩; rw [show liB K K xs = flB xs K from by unfold liB; simp, Q1.out]; have zP := bP.size; have AP := AY.below bP (by omega); have u0 := AP.b0; have u1 := AP.b1; have BP := BY.trans (bP.mono (by omega)); have FOP := Lib.hid (FOY.out.below bP (by omega)); have OXP := Lib.hid (OY.out.below bP (by omega)); clear t0 t1)
                | (go_at_call 51; have hpre := oX; with_reducible refine (l05Add_any wX _ _ K x1 xo (-1) _ _ _ _ oX.sl (by omega) FOX.out.sl (by omega) (by omega) HP3.out HP4.out).mono ?_; rintro e wY ⟨vY, gY, rfl, oY, lY, bY⟩; obtain ⟨cY, rfl⟩ := oY.shape; rw [h2x] at oY; have zY := bY.size; have AY := AX.below bY (by omega); have t0 := AY.b0; have t1 := AY.b1; have FSY := Lib.hid (FSX.out.below bY (by omega)); have FOY := Lib.hid (FOX.out.below bY (by omega)); have BY := BX.trans (bY.mono (by omega)); have loY := oY.lt; have OY := Lib.hid oY; clear s0 s1 oY)
                | (go_at_call 51; with_reducible refine HAD1.out.mono ?_; rintro e wX ⟨vX, gX, rfl, oX, lX, bX⟩; obtain ⟨cX, rfl⟩ := oX.shape; rw [h1x] at oX; have zX := bX.size; have AX := AZ.below bX (by omega); have s0 := AX.b0; have s1 := AX.b1; have FSX := Lib.hid (FS.out.below bX (by omega)); have FOX := Lib.hid (FO.out.below bX (by omega)); have BX := BZ.trans (bX.mono (by omega)); have loX := oX.lt; clear r0 r1))
              go_ret2
              exact li_err H3.out H4.out.symm rfl BP
            · have Q1 := Lib.hid q1
              clear q1
              cases q2 : flB xo K
              · have Q2 := Lib.hid q2
                clear q2
                have H4 := Lib.hid (show ssC n N K P K d n s = 2 by rw [HSD.out, HSB.out, Q1.out, Q2.out]; simp)
                have H3 := Lib.hid (show ssN n N K P K d n s = 0 by unfold ssN; rw [H4.out]; rfl)
                go_wp2_with (first
                  | (go_at_call 52; have hpre := FOP; with_reducible refine (l05List_any wP p0 p1 n K c0 c1 _ K xo _ _ FOP.out.sl (by omega) hm9 hm9).mono ?_; rintro e wQ ⟨rfl, bQ⟩; rw [show liB K K xo = flB xo K from by unfold liB; simp, Q2.out]; have zQ := bQ.size; have AQ := AP.below bQ (by omega); have x0 := AQ.b0; have x1' := AQ.b1; have BQ := BP.trans (bQ.mono (by omega)); have OXQ := Lib.hid (OXP.out.below bQ (by omega)); clear u0 u1)
                  | (go_at_call 52; have hpre := OY; with_reducible refine (l05List_any wY p0 p1 n K c0 c1 _ K xs _ _ FSY.out.sl (by omega) hm9 hm9).mono ?_; rintro e wP ⟨rfl, bP⟩; rw [show liB K K xs = flB xs K from by unfold liB; simp, Q1.out]; have zP := bP.size; have AP := AY.below bP (by omega); have u0 := AP.b0; have u1 := AP.b1; have BP := BY.trans (bP.mono (by omega)); have FOP := Lib.hid (FOY.out.below bP (by omega)); have OXP := Lib.hid (OY.out.below bP (by omega)); clear t0 t1)
                  | (go_at_call 51; have hpre := oX; with_reducible refine (l05Add_any wX _ _ K x1 xo (-1) _ _ _ _ oX.sl (by omega) FOX.out.sl (by omega) (by omega) HP3.out HP4.out).mono ?_; rintro e wY ⟨vY, gY, rfl, oY, lY, bY⟩; obtain ⟨cY, rfl⟩ := oY.shape; rw [h2x] at oY; have zY := bY.size; have AY := AX.below bY (by omega); have t0 := AY.b0; have t1 := AY.b1; have FSY := Lib.hid (FSX.out.below bY (by omega)); have FOY := Lib.hid (FOX.out.below bY (by omega)); have BY := BX.trans (bY.mono (by omega)); have loY := oY.lt; have OY := Lib.hid oY; clear s0 s1 oY)
                  | (go_at_call 51; with_reducible refine HAD1.out.mono ?_; rintro e wX ⟨vX, gX, rfl, oX, lX, bX⟩; obtain ⟨cX, rfl⟩ := oX.shape; rw [h1x] at oX; have zX := bX.size; have AX := AZ.below bX (by omega); have s0 := AX.b0; have s1 := AX.b1; have FSX := Lib.hid (FS.out.below bX (by omega)); have FOX := Lib.hid (FO.out.below bX (by omega)); have BX := BZ.trans (bX.mono (by omega)); have loX := oX.lt; clear r0 r1))
                go_ret2
                exact li_err H3.out H4.out.symm rfl BQ
              · have Q2 := Lib.hid q2
                clear q2
                cases q3 : flB xn K
                · have Q3 := Lib.hid q3
                  clear q3
                  have H4 := Lib.hid (show ssC n N K P K d n s = 2 by rw [HSD.out, HSB.out, Q1.out, Q2.out, Q3.out]; simp)
                  have H3 := Lib.hid (show ssN n N K P K d n s = 0 by unfold ssN; rw [H4.out]; rfl)
                  go_wp2_with (first
                    | (go_at_call 52; have hpre := OXQ; with_reducible refine (l05List_any wQ p0 p1 n K c0 c1 _ K xn _ _ OXQ.out.sl (by omega) hm9 hm9).mono ?_; rintro e wR ⟨rfl, bR⟩; rw [show liB K K xn = flB xn K from by unfold liB; simp, Q3.out]; have zR := bR.size; have AR := AQ.below bR (by omega); have y0 := AR.b0; have y1 := AR.b1; have BR := BQ.trans (bR.mono (by omega)); have OXR := Lib.hid (OXQ.out.below bR (by omega)); clear x0 x1')
                    | (go_at_call 52; have hpre := FOP; with_reducible refine (l05List_any wP p0 p1 n K c0 c1 _ K xo _ _ FOP.out.sl (by omega) hm9 hm9).mono ?_; rintro e wQ ⟨rfl, bQ⟩; rw [show liB K K xo = flB xo K from by unfold liB; simp, Q2.out]; have zQ := bQ.size; have AQ := AP.below bQ (by omega); have x0 := AQ.b0; have x1' := AQ.b1; have BQ := BP.trans (bQ.mono (by omega)); have OXQ := Lib.hid (OXP.out.below bQ (by omega)); clear u0 u1)
                    | (go_at_call 52; have hpre := OY; with_reducible refine (l05List_any wY p0 p1 n K c0 c1 _ K xs _ _ FSY.out.sl (by omega) hm9 hm9).mono ?_; rintro e wP ⟨rfl, bP⟩; rw [show liB K K xs = flB xs K from by unfold liB; simp, Q1.out]; have zP := bP.size; have AP := AY.below bP (by omega); have u0 := AP.b0; have u1 := AP.b1; have BP := BY.trans (bP.mono (by omega)); have FOP := Lib.hid (FOY.out.below bP (by omega)); have OXP := Lib.hid (OY.out.below bP (by omega)); clear t0 t1)
                    | (go_at_call 51; have hpre := oX; with_reducible refine (l05Add_any wX _ _ K x1 xo (-1) _ _ _ _ oX.sl (by omega) FOX.out.sl (by omega) (by omega) HP3.out HP4.out).mono ?_; rintro e wY ⟨vY, gY, rfl, oY, lY, bY⟩; obtain ⟨cY, rfl⟩ := oY.shape; rw [h2x] at oY; have zY := bY.size; have AY := AX.below bY (by omega); have t0 := AY.b0; have t1 := AY.b1; have FSY := Lib.hid (FSX.out.below bY (by omega)); have FOY := Lib.hid (FOX.out.below bY (by omega)); have BY := BX.trans (bY.mono (by omega)); have loY := oY.lt; have OY := Lib.hid oY; clear s0 s1 oY)
                    | (go_at_call 51; with_reducible refine HAD1.out.mono ?_; rintro e wX ⟨vX, gX, rfl, oX, lX, bX⟩; obtain ⟨cX, rfl⟩ := oX.shape; rw [h1x] at oX; have zX := bX.size; have AX := AZ.below bX (by omega); have s0 := AX.b0; have s1 := AX.b1; have FSX := Lib.hid (FS.out.below bX (by omega)); have FOX := Lib.hid (FO.out.below bX (by omega)); have BX := BZ.trans (bX.mono (by omega)); have loX := oX.lt; clear r0 r1))
                  go_ret2
                  exact li_err H3.out H4.out.symm rfl BR
                · have Q3 := Lib.hid q3
                  clear q3
                  have H4 := Lib.hid (show ssC n N K P K d n s = 0 by rw [HSD.out, HSB.out, Q1.out, Q2.out, Q3.out]; rfl)
                  have H3 := Lib.hid (show ssN n N K P K d n s = K by unfold ssN; rw [H4.out]; rfl)
                  go_wp2_with (first
                    | (go_at_call 52; have hpre := OXQ; with_reducible refine (l05List_any wQ p0 p1 n K c0 c1 _ K xn _ _ OXQ.out.sl (by omega) hm9 hm9).mono ?_; rintro e wR ⟨rfl, bR⟩; rw [show liB K K xn = flB xn K from by unfold liB; simp, Q3.out]; have zR := bR.size; have AR := AQ.below bR (by omega); have y0 := AR.b0; have y1 := AR.b1; have BR := BQ.trans (bR.mono (by omega)); have OXR := Lib.hid (OXQ.out.below bR (by omega)); clear x0 x1')
                    | (go_at_call 52; have hpre := FOP; with_reducible refine (l05List_any wP p0 p1 n K c0 c1 _ K xo _ _ FOP.out.sl (by omega) hm9 hm9).mono ?_; rintro e wQ ⟨rfl, bQ⟩; rw [show liB K K xo = flB xo K from by unfold liB; simp, Q2.out]; have zQ := bQ.size; have AQ := AP.below bQ (by omega); have x0 := AQ.b0; have x1' := AQ.b1; have BQ := BP.trans (bQ.mono (by omega)); have OXQ := Lib.hid (OXP.out.below bQ (by omega)); clear u0 u1)
                    | (go_at_call 52; have hpre := OY; with_reducible refine (l05List_any wY p0 p1 n K c0 c1 _ K xs _ _ FSY.out.sl (by omega) hm9 hm9).mono ?_; rintro e wP ⟨rfl, bP⟩; rw [show liB K K xs = flB xs K from by unfold liB; simp, Q1.out]; have zP := bP.size; have AP := AY.below bP (by omega); have u0 := AP.b0; have u1 := AP.b1; have BP := BY.trans (bP.mono (by omega)); have FOP := Lib.hid (FOY.out.below bP (by omega)); have OXP := Lib.hid (OY.out.below bP (by omega)); clear t0 t1)
                    | (go_at_call 51; have hpre := oX; with_reducible refine (l05Add_any wX _ _ K x1 xo (-1) _ _ _ _ oX.sl (by omega) FOX.out.sl (by omega) (by omega) HP3.out HP4.out).mono ?_; rintro e wY ⟨vY, gY, rfl, oY, lY, bY⟩; obtain ⟨cY, rfl⟩ := oY.shape; rw [h2x] at oY; have zY := bY.size; have AY := AX.below bY (by omega); have t0 := AY.b0; have t1 := AY.b1; have FSY := Lib.hid (FSX.out.below bY (by omega)); have FOY := Lib.hid (FOX.out.below bY (by omega)); have BY := BX.trans (bY.mono (by omega)); have loY := oY.lt; have OY := Lib.hid oY; clear s0 s1 oY)
                    | (go_at_call 51; with_reducible refine HAD1.out.mono ?_; rintro e wX ⟨vX, gX, rfl, oX, lX, bX⟩; obtain ⟨cX, rfl⟩ := oX.shape; rw [h1x] at oX; have zX := bX.size; have AX := AZ.below bX (by omega); have s0 := AX.b0; have s1 := AX.b1; have FSX := Lib.hid (FS.out.below bX (by omega)); have FOX := Lib.hid (FO.out.below bX (by omega)); have BX := BZ.trans (bX.mono (by omega)); have loX := oX.lt; clear r0 r1))
                  have hpc := l11Relax_any wR _ n N K P lo hi (HV.out.below BR hhi) (by omega) HN.out HB.out _ xn _ _ OXR.out.sl (by omega) (fun k hk => flQ_iff.1 (flB_iff.1 Q3.out k hk)) 1 (by omega)
                  rw [show rlx K P (fun i => cyc P (fE n P K) (fD n P K) (chS n P K i)) (chN n P K) xn 1 = rfR n K P xn 1 from rfl] at hpc
                  generalize hr : rfR n K P xn 1 = r at *
                  have HRE := Lib.hid hr
                  clear hr
                  refine hpc.mono ?_
                  rintro e wT ⟨vT, gT, rfl, oT, lT, bT⟩
                  clear hpc
                  go_wp2_with fail
                  go_ret2
                  rw [H3.out, H4.out, HXN.out, HRE.out]
                  exact ⟨vT, gT, rfl, oT.ownS, by omega, BR.trans (bT.mono BR.size)⟩

end Go.Proofs.YtdbgcbkmcbgdiaaGreat.mem

namespace Go.Proofs.YtdbgcbkmcbgdiaaGreat.mem
open Go.RowKit
set_option linter.unusedVariables false

theorem ssN_le (n : Nat) (N : Nat → Nod) (m : Nat) (P : Nat → Pip) (K : Nat) (d : Nat → Int) (L : Nat) (s : Nat → Int) : ssN n N m P K d L s ≤ m := by
  unfold ssN
  split <;> omega
theorem agreeSolveStep (n : Nat) (N : Nat → Nod) (m : Nat) (P : Nat → Pip) (K : Nat) (d : Nat → Int) (L : Nat) (s : Nat → Int) (hN : ∀ i, i < n → (N i).s.size ≤ 9223372036854775807) (_hn : n ≤ 2000000) (hm : m ≤ 2000000) (hK : K ≤ 2000000) (hL : L ≤ 2000000) :
    ∃ rn rd rc, rn ≤ 2000000 ∧ (∀ w v va vb, NetAt w v n N m P 0 w.heap.size → Sl w va K d 0 w.heap.size → Sl w vb L s 0 w.heap.size → Calls Tryz.prog 11 #[v, va, vb] w (LIPost w rn rd rc)) ∧ (∀ w v va vb, NetAt w v n N m P 0 w.heap.size → Sl w va K d 0 w.heap.size → Sl w vb L s 0 w.heap.size → Calls Tryz.prog 12 #[v, va, vb] w (LIPost w rn rd rc)) :=
  ⟨ssN n N m P K d L s, (rfR n m P (ssX n m P d s) 1).1, ssC n N m P K d L s, Nat.le_trans (ssN_le n N m P K d L s) hm, fun w v va vb h hv hu => solveStepI_any w v n N m P 0 _ h (Nat.le_refl _) hN va K d 0 _ hv (Nat.le_refl _) (by omega) vb L s 0 _ hu (Nat.le_refl _) (by omega), fun w v va vb h hv hu => solveStepS_any w v n N m P 0 _ h (Nat.le_refl _) hN va K d 0 _ hv (Nat.le_refl _) (by omega) vb L s 0 _ hu (Nat.le_refl _) (by omega)⟩
end Go.Proofs.YtdbgcbkmcbgdiaaGreat.mem

namespace Go.Proofs.YtdbgcbkmcbgdiaaGreat.fnExactSolveStep
open Go.ChangeShapes Go.WideShapes Go.ChangeAt Go.RowKit Go.Proofs.YtdbgcbkmcbgdiaaGreat.mem
set_option linter.unusedVariables false

theorem own : ownKnob Tryz.prog.godebug = none := by kernel_rfl
theorem laidOut : laidOutB Tryz.prog = true := by kernel_rfl

set_option maxRecDepth 100000 in
set_option maxHeartbeats 20000000 in
theorem walk (v : Value) (a1 : Value) (a2 : Value) (w : World) (hc : NetArg w v) (hc1 : IntsArg w a1) (hc2 : IntsArg w a2) :
    Calls Tryz.prog 6 #[v, a1, a2] w fun e w' => e = .returned (.bool true) ∧ Below w.heap.size w w' := by
  obtain ⟨n, N, m, P, V0, hN⟩ := hc
  obtain ⟨p0, c0, p1, c1, rfl⟩ := V0.shape
  obtain ⟨K1, D1, hK1, hS1⟩ := hc1
  have hsh1 : ∃ p cap, a1 = .slice p K1 cap := by
    obtain ⟨p, cap, e, _⟩ := hS1.ex
    exact ⟨p, cap, e⟩
  obtain ⟨pp1, cc1, rfl⟩ := hsh1
  by_cases hbig1 : (1048576 : Int) < K1
  · clear V0 hN hS1
    go_enter Tryz.func6, Tryz.ntmps6
    go_wp2_with fail
    go_ret
    exact ⟨rfl, below_new _ _⟩
  have hKs1 : K1 ≤ 2000000 := by omega
  have V1 := Lib.hid hS1
  clear hS1
  obtain ⟨K2, D2, hK2, hS2⟩ := hc2
  have hsh2 : ∃ p cap, a2 = .slice p K2 cap := by
    obtain ⟨p, cap, e, _⟩ := hS2.ex
    exact ⟨p, cap, e⟩
  obtain ⟨pp2, cc2, rfl⟩ := hsh2
  by_cases hbig2 : (1048576 : Int) < K2
  · clear V0 hN hS2
    go_enter Tryz.func6, Tryz.ntmps6
    go_wp2_with fail
    go_ret
    exact ⟨rfl, below_new _ _⟩
  have hKs2 : K2 ≤ 2000000 := by omega
  have V2 := Lib.hid hS2
  clear hS2
  have HV := Lib.hid V0
  have HN := Lib.hid hN
  clear V0 hN
  have A1 := boxed w (.slice p0 n c0) (.slice p1 m c1) 52
  have C1 : Below w.heap.size w _ := below_new w (.cells #[.slice p0 n c0, .slice p1 m c1] 52)
  have hs1 := C1.size
  go_enter Tryz.func6, Tryz.ntmps6
  go_wp2_with fail
  generalize hW1 : w.alloc (Obj.cells #[.slice p0 n c0, .slice p1 m c1] 52) = w1 at *
  clear hW1
  have lA := A1.lt
  refine (szNetwork_any _ _ n N m P 0 w.heap.size 1048576 (HV.out.below C1 (Nat.le_refl _)) hs1 (by omega) (by omega) HN.out).mono ?_
  rintro e w2 ⟨r, rfl, hr, bb⟩
  have hs2 := bb.size
  have A2 := A1.next bb
  have C2 := belowNext C1 bb
  clear bb A1 C1
  rcases hr with rfl | ⟨hr0, hr1, hr2⟩
  · go_wp2_with fail
    go_ret
    exact ⟨rfl, C2⟩
  have hn : n ≤ 2000000 := by omega
  have hm : m ≤ 2000000 := by omega
  clear hr1 hr2
  obtain ⟨rn, rd, rc, hrn, agi, ags⟩ := agreeSolveStep n N m P K1 D1 K2 D2 HN.out hn hm hKs1 hKs2
  have GI := Lib.hid agi
  have GS := Lib.hid ags
  clear agi ags
  have hb2 : (rc != rc) = false := by simp
  obtain ⟨qx, hqx⟩ : ∃ q, q = 1 + 3 * n + 5 * m := ⟨_, rfl⟩
  obtain ⟨qr, hqr⟩ : ∃ q, q = 1 + rn := ⟨_, rfl⟩
  have hqx0 : ¬ ((qx : Int) < 0) := by omega
  have hqr0 : ¬ ((qr : Int) < 0) := by omega
  have hqr1 : ((qr : Int) != qr) = false := by simp
  have QX := Lib.hid hqx
  have QR := Lib.hid hqr
  clear hqx hqr
  have qA0 := A2.b0
  have qA1 := A2.b1
  have qA2 := A2.lt
  go_wp2_with fail
  refine (toNetwork_any _ _ n N m P 0 w.heap.size (HV.out.below C2 (Nat.le_refl _)) hn hm (by omega)).mono ?_
  rintro e w3 ⟨xt, gt1, gt2, rfl, ot, lt1, lt2, bb⟩
  have hs3 := bb.size
  have A3 := A2.next bb
  have C3 := belowNext C2 bb
  clear qA0 qA1 qA2
  clear bb A2 C2
  have lxt := ot.lts
  have qA0 := A3.b0
  have qA1 := A3.b1
  have qA2 := A3.lt
  go_wp2_with fail
  refine (copy_any _ _ K1 D1 0 w.heap.size (V1.out.below C3 (Nat.le_refl _)) hKs1 (by omega)).mono ?_
  rintro e w4 ⟨rfl, rti1, bb, zz4⟩
  replace zz4 := Nat.le_antisymm_iff.1 zz4
  have hs4 := bb.size
  have A4 := A3.next bb
  have C4 := belowNext C3 bb
  have t4 := ot.next bb
  clear qA0 qA1 qA2
  clear bb A3 C3 ot
  have qA0 := A4.b0
  have qA1 := A4.b1
  have qA2 := A4.lt
  go_wp2_with fail
  refine (copy_any _ _ K2 D2 0 w.heap.size (V2.out.below C4 (Nat.le_refl _)) hKs2 (by omega)).mono ?_
  rintro e w5 ⟨rfl, rti2, bb, zz5⟩
  replace zz5 := Nat.le_antisymm_iff.1 zz5
  have hs5 := bb.size
  have A5 := A4.next bb
  have C5 := belowNext C4 bb
  have t5 := t4.next bb
  have ti15 := rti1.next bb (by omega)
  clear qA0 qA1 qA2
  clear bb A4 C4 t4 rti1
  have qA0 := A5.b0
  have qA1 := A5.b1
  have qA2 := A5.lt
  go_wp2_with fail
  refine (GS.out _ _ _ _ t5.net (ti15.all (by omega)) (rti2.all (by omega))).mono ?_
  rintro e w6 ⟨xW, gW, rfl, oW, lW, bb⟩
  have hs6 := bb.size
  have A6 := A5.next bb
  have C6 := belowNext C5 bb
  have t6 := t5.next bb
  have ti16 := ti15.next bb (by omega)
  have ti26 := rti2.next bb (by omega)
  clear qA0 qA1 qA2
  clear bb A5 C5 t5 ti15 rti2
  have lxW := oW.lt
  clear t6 ti16 ti26
  have qA0 := A6.b0
  have qA1 := A6.b1
  have qA2 := A6.lt
  go_wp2_with fail
  refine (toNetwork_any _ _ n N m P 0 w.heap.size (HV.out.below C6 (Nat.le_refl _)) hn hm (by omega)).mono ?_
  rintro e w7 ⟨xx, gx1, gx2, rfl, ox, lx1, lx2, bb⟩
  have hs7 := bb.size
  have A7 := A6.next bb
  have C7 := belowNext C6 bb
  have W7 := oW.next bb
  clear qA0 qA1 qA2
  clear bb A6 C6 oW
  have lxx := ox.lts
  obtain ⟨sx1, sx2, sx3, sx4, rfl⟩ := ox.shape
  have qA0 := A7.b0
  have qA1 := A7.b1
  have qA2 := A7.lt
  go_wp2_with fail
  have bb := below_new w7 (.cells #[.slice sx1 n sx2, .slice sx3 m sx4] 27)
  have B_x := boxed w7 (.slice sx1 n sx2) (.slice sx3 m sx4) 27
  have hs8 := bb.size
  have A8 := A7.next bb
  have C8 := belowNext C7 bb
  have W8 := W7.next bb
  have x8 := ox.next bb
  clear qA0 qA1 qA2
  clear bb A7 C7 W7 ox
  generalize hW8 : w7.alloc (Obj.cells #[.slice sx1 n sx2, .slice sx3 m sx4] 27) = w8 at *
  clear hW8
  have Bx8 := B_x
  clear B_x
  have lBx := Bx8.lt
  refine (copy_any _ _ K1 D1 0 w.heap.size (V1.out.below C8 (Nat.le_refl _)) hKs1 (by omega)).mono ?_
  rintro e w9 ⟨rfl, rxi1, bb, zz9⟩
  replace zz9 := Nat.le_antisymm_iff.1 zz9
  have hs9 := bb.size
  have A9 := A8.next bb
  have C9 := belowNext C8 bb
  have W9 := W8.next bb
  have x9 := x8.next bb
  have Bx9 := Bx8.next bb
  clear bb A8 C8 W8 x8 Bx8
  have qA0 := A9.b0
  have qA1 := A9.b1
  have qA2 := A9.lt
  have qBx0 := Bx9.b0
  have qBx1 := Bx9.b1
  have qBx2 := Bx9.lt
  go_wp2_with fail
  refine (copy_any _ _ K2 D2 0 w.heap.size (V2.out.below C9 (Nat.le_refl _)) hKs2 (by omega)).mono ?_
  rintro e w10 ⟨rfl, rxi2, bb, zz10⟩
  replace zz10 := Nat.le_antisymm_iff.1 zz10
  have hs10 := bb.size
  have A10 := A9.next bb
  have C10 := belowNext C9 bb
  have W10 := W9.next bb
  have x10 := x9.next bb
  have Bx10 := Bx9.next bb
  have xi110 := rxi1.next bb (by omega)
  clear qA0 qA1 qA2 qBx0 qBx1 qBx2
  clear bb A9 C9 W9 x9 Bx9 rxi1
  have qA0 := A10.b0
  have qA1 := A10.b1
  have qA2 := A10.lt
  have qBx0 := Bx10.b0
  have qBx1 := Bx10.b1
  have qBx2 := Bx10.lt
  go_wp2_with fail
  refine (GI.out _ _ _ _ x10.net (xi110.all (by omega)) (rxi2.all (by omega))).mono ?_
  rintro e w11 ⟨xG, gG, rfl, oG, lG, bb⟩
  have hs11 := bb.size
  have A11 := A10.next bb
  have C11 := belowNext C10 bb
  have W11 := W10.next bb
  have x11 := x10.next bb
  have Bx11 := Bx10.next bb
  have xi111 := xi110.next bb (by omega)
  have xi211 := rxi2.next bb (by omega)
  clear qA0 qA1 qA2 qBx0 qBx1 qBx2
  clear bb A10 C10 W10 x10 Bx10 xi110 rxi2
  have lxG := oG.lt
  have qA0 := A11.b0
  have qA1 := A11.b1
  have qA2 := A11.lt
  have qBx0 := Bx11.b0
  have qBx1 := Bx11.b1
  have qBx2 := Bx11.lt
  go_wp2_with fail
  refine (eqInts_any _ _ _ rn rd 0 w11.heap.size 0 w11.heap.size (oG.cs (.inr rfl) (Nat.le_refl _)) (W11.cs (.inr rfl) (Nat.le_refl _))).mono ?_
  rintro e w12 ⟨rfl, bb⟩
  have hs12 := bb.size
  have A12 := A11.next bb
  have C12 := belowNext C11 bb
  have W12 := W11.next bb
  have x12 := x11.next bb
  have Bx12 := Bx11.next bb
  have xi112 := xi111.next bb (by omega)
  have xi212 := xi211.next bb (by omega)
  have G12 := oG.next bb
  clear qA0 qA1 qA2 qBx0 qBx1 qBx2
  clear bb A11 C11 W11 x11 Bx11 xi111 xi211 oG
  have qA0 := A12.b0
  have qA1 := A12.b1
  have qA2 := A12.lt
  have qBx0 := Bx12.b0
  have qBx1 := Bx12.b1
  have qBx2 := Bx12.lt
  go_wp2_with fail
  go_region_held3 (fun w' => w'.cell? ⟨w.heap.size, 0, none⟩ = some (.slice p0 n c0) ∧ w'.cell? ⟨w.heap.size, 1, none⟩ = some (.slice p1 m c1) ∧ w'.cell? ⟨w7.heap.size, 0, none⟩ = some (.slice sx1 n sx2) ∧ w'.cell? ⟨w7.heap.size, 1, none⟩ = some (.slice sx3 m sx4)) (first | exact ⟨qA0, qA1, qBx0, qBx1⟩ | exact hold4 hb2 hsaA hsaX (hold4 hb1 qA2 qBx2 ⟨qA0, qA1, qBx0, qBx1⟩) | exact hold4 hb1 qA2 qBx2 ⟨qA0, qA1, qBx0, qBx1⟩)
    (first | (go_at_call 26; refine (toNetwork_any _ _ n N m P 0 w.heap.size (HV.out.below C12 (Nat.le_refl _)).drew hn hm (by simp; omega)).mono ?_; rintro e wa ⟨xy, gy1, gy2, rfl, oy, ly1, ly2, hb1⟩; have hsa := hb1.size; simp only [World.heap_drew] at hsa; have hsaA := Nat.lt_of_lt_of_le qA2 hsa; have hsaX := Nat.lt_of_lt_of_le qBx2 hsa) | (go_at_call 29; refine (eqNetwork_any _ _ _ n N m P 0 _ 0 _ (x12.drew.next hb1).net oy.net (Nat.le_refl _) (Nat.le_refl _)).mono ?_; rintro e wb ⟨rfl, hb2⟩))
  obtain ⟨w13, hwb⟩ : ∃ w', w' = wb := ⟨_, rfl⟩
  subst hwb
  have bb : Below w12.heap.size w12 w13 := below_dr0 (belowNext hb1 hb2)
  clear hb1 hb2 oy ly1 ly2 hsa hsaA hsaX
  have hs13 := bb.size
  have A13 := A12.next bb
  have C13 := belowNext C12 bb
  have W13 := W12.next bb
  have x13 := x12.next bb
  have Bx13 := Bx12.next bb
  have xi113 := xi112.next bb (by omega)
  have xi213 := xi212.next bb (by omega)
  have G13 := G12.next bb
  clear qA0 qA1 qA2 qBx0 qBx1 qBx2
  clear bb A12 C12 W12 x12 Bx12 xi112 xi212 G12
  have qA0 := A13.b0
  have qA1 := A13.b1
  have qA2 := A13.lt
  have qBx0 := Bx13.b0
  have qBx1 := Bx13.b1
  have qBx2 := Bx13.lt
  go_wp2_with fail
  refine (copy_any _ _ K1 D1 0 w.heap.size (V1.out.below C13 (Nat.le_refl _)) hKs1 (by omega)).mono ?_
  rintro e w14 ⟨rfl, ryi1, bb, zz14⟩
  replace zz14 := Nat.le_antisymm_iff.1 zz14
  have hs14 := bb.size
  have A14 := A13.next bb
  have C14 := belowNext C13 bb
  have W14 := W13.next bb
  have x14 := x13.next bb
  have Bx14 := Bx13.next bb
  have xi114 := xi113.next bb (by omega)
  have xi214 := xi213.next bb (by omega)
  have G14 := G13.next bb
  clear qA0 qA1 qA2 qBx0 qBx1 qBx2
  clear bb A13 C13 W13 x13 Bx13 xi113 xi213 G13
  have qA0 := A14.b0
  have qA1 := A14.b1
  have qA2 := A14.lt
  have qBx0 := Bx14.b0
  have qBx1 := Bx14.b1
  have qBx2 := Bx14.lt
  go_wp2_with fail
  refine (eq_any _ _ _ K1 D1 0 w14.heap.size 0 w14.heap.size (xi114.all (by omega)) (ryi1.all (by omega)) hKs1).mono ?_
  rintro e w15 ⟨rfl, mm15, hmm15⟩
  have bb : Below w14.heap.size w14 w15 := by rw [hmm15]; exact below_drNN (Below.refl _ _) mm15
  clear hmm15
  clear ryi1
  have hs15 := bb.size
  have A15 := A14.next bb
  have C15 := belowNext C14 bb
  have W15 := W14.next bb
  have x15 := x14.next bb
  have Bx15 := Bx14.next bb
  have xi115 := xi114.next bb (by omega)
  have xi215 := xi214.next bb (by omega)
  have G15 := G14.next bb
  clear qA0 qA1 qA2 qBx0 qBx1 qBx2
  clear bb A14 C14 W14 x14 Bx14 xi114 xi214 G14
  have qA0 := A15.b0
  have qA1 := A15.b1
  have qA2 := A15.lt
  have qBx0 := Bx15.b0
  have qBx1 := Bx15.b1
  have qBx2 := Bx15.lt
  go_wp2_with fail
  refine (copy_any _ _ K2 D2 0 w.heap.size (V2.out.below C15 (Nat.le_refl _)) hKs2 (by omega)).mono ?_
  rintro e w16 ⟨rfl, ryi2, bb, zz16⟩
  replace zz16 := Nat.le_antisymm_iff.1 zz16
  have hs16 := bb.size
  have A16 := A15.next bb
  have C16 := belowNext C15 bb
  have W16 := W15.next bb
  have x16 := x15.next bb
  have Bx16 := Bx15.next bb
  have xi116 := xi115.next bb (by omega)
  have xi216 := xi215.next bb (by omega)
  have G16 := G15.next bb
  clear qA0 qA1 qA2 qBx0 qBx1 qBx2
  clear bb A15 C15 W15 x15 Bx15 xi115 xi215 G15
  have qA0 := A16.b0
  have qA1 := A16.b1
  have qA2 := A16.lt
  have qBx0 := Bx16.b0
  have qBx1 := Bx16.b1
  have qBx2 := Bx16.lt
  go_wp2_with fail
  refine (eq_any _ _ _ K2 D2 0 w16.heap.size 0 w16.heap.size (xi216.all (by omega)) (ryi2.all (by omega)) hKs2).mono ?_
  rintro e w17 ⟨rfl, mm17, hmm17⟩
  have bb : Below w16.heap.size w16 w17 := by rw [hmm17]; exact below_drNN (Below.refl _ _) mm17
  clear hmm17
  clear ryi2
  have hs17 := bb.size
  have A17 := A16.next bb
  have C17 := belowNext C16 bb
  have W17 := W16.next bb
  have x17 := x16.next bb
  have Bx17 := Bx16.next bb
  have xi117 := xi116.next bb (by omega)
  have xi217 := xi216.next bb (by omega)
  have G17 := G16.next bb
  clear qA0 qA1 qA2 qBx0 qBx1 qBx2
  clear bb A16 C16 W16 x16 Bx16 xi116 xi216 G16
  have qA0 := A17.b0
  have qA1 := A17.b1
  have qA2 := A17.lt
  have qBx0 := Bx17.b0
  have qBx1 := Bx17.b1
  have qBx2 := Bx17.lt
  go_wp2_with fail
  refine (mark1N _ _ n m N P gx1 gx2 qx QX.out x17 hn hm).mono ?_
  rintro e w18 ⟨rfl, ox', bb⟩
  clear ox'
  clear x17 Bx17
  have hs18 := bb.size
  have A18 := A17.next_upd bb (by intro hx; rcases hx with ⟨_, hx⟩ | ⟨_, hx⟩; all_goals omega)
  have C18 := belowNextUpd C17 bb (by intro x hx; rcases hx with ⟨_, hx⟩ | ⟨_, hx⟩; all_goals omega)
  have W18 := W17.next_upd bb (by rcases Nat.eq_zero_or_pos rn with h0 | h0; exact .inl h0; exact .inr (by intro hx; rcases hx with ⟨_, hx⟩ | ⟨_, hx⟩; all_goals omega))
  have xi118 := xi117.next_upd bb (by omega) (by intro hx; rcases hx with ⟨_, hx⟩ | ⟨_, hx⟩; all_goals omega)
  have xi218 := xi217.next_upd bb (by omega) (by intro hx; rcases hx with ⟨_, hx⟩ | ⟨_, hx⟩; all_goals omega)
  have G18 := G17.next_upd bb (by rcases Nat.eq_zero_or_pos rn with h0 | h0; exact .inl h0; exact .inr (by intro hx; rcases hx with ⟨_, hx⟩ | ⟨_, hx⟩; all_goals omega))
  clear qA0 qA1 qA2 qBx0 qBx1 qBx2
  clear bb A17 C17 W17 xi117 xi217 G17
  have qA0 := A18.b0
  have qA1 := A18.b1
  have qA2 := A18.lt
  go_wp2_with fail
  refine (mark_any _ w8.heap.size K1 K1 D1 qx xi118 hKs1 (by omega) (by have := QX.out; omega)).mono ?_
  rintro e w19 ⟨rfl, rM1, oo19⟩
  have bb := Upd.of_only oo19
  clear rM1 oo19
  clear xi118
  have hs19 := bb.size
  have A19 := A18.next_upd bb (by intro hx; skip; all_goals omega)
  have C19 := belowNextUpd C18 bb (by intro x hx; skip; all_goals omega)
  have W19 := W18.next_upd bb (by rcases Nat.eq_zero_or_pos rn with h0 | h0; exact .inl h0; exact .inr (by intro hx; skip; all_goals omega))
  have xi219 := xi218.next_upd bb (by omega) (by intro hx; skip; all_goals omega)
  have G19 := G18.next_upd bb (by rcases Nat.eq_zero_or_pos rn with h0 | h0; exact .inl h0; exact .inr (by intro hx; skip; all_goals omega))
  clear qA0 qA1 qA2
  clear bb A18 C18 W18 xi218 G18
  have hqk1 : ¬ ((qx : Int) + (K1 : Int) < 0) := by omega
  obtain ⟨qy, hqy⟩ : ∃ q : Nat, (qx : Int) + (K1 : Int) = (q : Int) := ⟨qx + K1, by omega⟩
  have QY := Lib.hid hqy
  have qA0 := A19.b0
  have qA1 := A19.b1
  have qA2 := A19.lt
  go_wp2_with fail
  refine (mark_any _ w9.heap.size K2 K2 D2 qy xi219 hKs2 (by omega) (by have := QX.out; have := QY.out; omega)).mono ?_
  rintro e w20 ⟨rfl, rM2, oo20⟩
  have bb := Upd.of_only oo20
  clear rM2 oo20
  clear xi219
  have hs20 := bb.size
  have A20 := A19.next_upd bb (by intro hx; skip; all_goals omega)
  have C20 := belowNextUpd C19 bb (by intro x hx; skip; all_goals omega)
  have W20 := W19.next_upd bb (by rcases Nat.eq_zero_or_pos rn with h0 | h0; exact .inl h0; exact .inr (by intro hx; skip; all_goals omega))
  have G20 := G19.next_upd bb (by rcases Nat.eq_zero_or_pos rn with h0 | h0; exact .inl h0; exact .inr (by intro hx; skip; all_goals omega))
  clear qA0 qA1 qA2
  clear bb A19 C19 W19 G19
  have hqk2 : ¬ ((qy : Int) + (K2 : Int) < 0) := by omega
  have qA0 := A20.b0
  have qA1 := A20.b1
  have qA2 := A20.lt
  go_wp2_with fail
  refine (eqInts_any _ _ _ rn rd 0 w20.heap.size 0 w20.heap.size (G20.cs (.inr rfl) (Nat.le_refl _)) (W20.cs (.inr rfl) (Nat.le_refl _))).mono ?_
  rintro e w21 ⟨rfl, bb⟩
  have hs21 := bb.size
  have A21 := A20.next bb
  have C21 := belowNext C20 bb
  have W21 := W20.next bb
  have G21 := G20.next bb
  clear qA0 qA1 qA2
  clear bb A20 C20 W20 G20
  have qA0 := A21.b0
  have qA1 := A21.b1
  have qA2 := A21.lt
  go_wp2_with fail
  refine (mark1I _ _ rn rd gG qr QR.out G21 hrn).mono ?_
  rintro e w22 ⟨rfl, oG', bb⟩
  clear G21
  have hs22 := bb.size
  have A22 := A21.next_upd bb (by intro hx; obtain ⟨_, hx⟩ := hx; all_goals omega)
  have C22 := belowNextUpd C21 bb (by intro x hx; obtain ⟨_, hx⟩ := hx; all_goals omega)
  have W22 := W21.next_upd bb (by rcases Nat.eq_zero_or_pos rn with h0 | h0; exact .inl h0; exact .inr (by intro hx; obtain ⟨_, hx⟩ := hx; all_goals omega))
  clear qA0 qA1 qA2
  clear bb A21 C21 W21
  have oM := oG'
  clear oG'
  have qA0 := A22.b0
  have qA1 := A22.b1
  have qA2 := A22.lt
  go_wp2_with fail
  refine (held1I _ _ rn gG qr QR.out oM hrn).mono ?_
  rintro e w23 ⟨rfl, bb⟩
  have hs23 := bb.size
  have A23 := A22.next bb
  have C23 := belowNext C22 bb
  have W23 := W22.next bb
  have M23 := oM.next bb
  clear qA0 qA1 qA2
  clear bb A22 C22 W22 oM
  have qA0 := A23.b0
  have qA1 := A23.b1
  have qA2 := A23.lt
  go_wp2_with fail
  refine (toNetwork_any _ _ n N m P 0 w.heap.size (HV.out.below C23 (Nat.le_refl _)) hn hm (by omega)).mono ?_
  rintro e w24 ⟨xt, gt1, gt2, rfl, ot, lt1, lt2, bb⟩
  have hs24 := bb.size
  have A24 := A23.next bb
  have C24 := belowNext C23 bb
  have W24 := W23.next bb
  have M24 := M23.next bb
  clear qA0 qA1 qA2
  clear bb A23 C23 W23 M23
  have lxt := ot.lts
  have qA0 := A24.b0
  have qA1 := A24.b1
  have qA2 := A24.lt
  go_wp2_with fail
  refine (copy_any _ _ K1 D1 0 w.heap.size (V1.out.below C24 (Nat.le_refl _)) hKs1 (by omega)).mono ?_
  rintro e w25 ⟨rfl, rti1, bb, zz25⟩
  replace zz25 := Nat.le_antisymm_iff.1 zz25
  have hs25 := bb.size
  have A25 := A24.next bb
  have C25 := belowNext C24 bb
  have W25 := W24.next bb
  have M25 := M24.next bb
  have t25 := ot.next bb
  clear qA0 qA1 qA2
  clear bb A24 C24 W24 M24 ot
  have qA0 := A25.b0
  have qA1 := A25.b1
  have qA2 := A25.lt
  go_wp2_with fail
  refine (copy_any _ _ K2 D2 0 w.heap.size (V2.out.below C25 (Nat.le_refl _)) hKs2 (by omega)).mono ?_
  rintro e w26 ⟨rfl, rti2, bb, zz26⟩
  replace zz26 := Nat.le_antisymm_iff.1 zz26
  have hs26 := bb.size
  have A26 := A25.next bb
  have C26 := belowNext C25 bb
  have W26 := W25.next bb
  have M26 := M25.next bb
  have t26 := t25.next bb
  have ti126 := rti1.next bb (by omega)
  clear qA0 qA1 qA2
  clear bb A25 C25 W25 M25 t25 rti1
  have qA0 := A26.b0
  have qA1 := A26.b1
  have qA2 := A26.lt
  go_wp2_with fail
  refine (GI.out _ _ _ _ t26.net (ti126.all (by omega)) (rti2.all (by omega))).mono ?_
  rintro e w27 ⟨xH, gH, rfl, oH, lH, bb⟩
  have hs27 := bb.size
  have A27 := A26.next bb
  have C27 := belowNext C26 bb
  have W27 := W26.next bb
  have M27 := M26.next bb
  have t27 := t26.next bb
  have ti127 := ti126.next bb (by omega)
  have ti227 := rti2.next bb (by omega)
  clear qA0 qA1 qA2
  clear bb A26 C26 W26 M26 t26 ti126 rti2
  have lxH := oH.lt
  clear t27 ti127 ti227
  have qA0 := A27.b0
  have qA1 := A27.b1
  have qA2 := A27.lt
  go_wp2_with fail
  refine (eqInts_any _ _ _ rn rd 0 w27.heap.size 0 w27.heap.size (oH.cs (.inr rfl) (Nat.le_refl _)) (W27.cs (.inr rfl) (Nat.le_refl _))).mono ?_
  rintro e w28 ⟨rfl, bb⟩
  have hs28 := bb.size
  have A28 := A27.next bb
  have C28 := belowNext C27 bb
  have W28 := W27.next bb
  have M28 := M27.next bb
  have H28 := oH.next bb
  clear qA0 qA1 qA2
  clear bb A27 C27 W27 M27 oH
  have qA0 := A28.b0
  have qA1 := A28.b1
  have qA2 := A28.lt
  go_wp2_with fail
  refine (held1I _ _ rn gG qr QR.out M28 hrn).mono ?_
  rintro e w29 ⟨rfl, bb⟩
  have hs29 := bb.size
  have A29 := A28.next bb
  have C29 := belowNext C28 bb
  have W29 := W28.next bb
  have M29 := M28.next bb
  have H29 := H28.next bb
  clear qA0 qA1 qA2
  clear bb A28 C28 W28 M28 H28
  go_wp2_with fail
  go_ret
  exact ⟨rfl, C29⟩

set_option maxRecDepth 100000 in
theorem lifted (os : Os) (started : os.Started) (H : Type) (enc : TypeId × Value → H) :
    ReturnsInHanded {} Tryz.checked os 6 .any (Rows.fnExactSolveStepSpec.pre6 enc Tryz.prog Tryz.f6 Rows.fnExactSolveStepRow.domain false) (Rows.fnExactSolveStepSpec.post enc Tryz.prog Tryz.f6 false true false false) := by
  refine returnsInHanded_of_change (C := Tryz.checked) own started (by kernel_rfl) Tryz.func6
    (ChangeSpec.witness6 (enc := enc) (C := Tryz.checked) false ⟨#[], #[.agg #[.slice none 0 0, .slice none 0 0], .slice none 0 0, .slice none 0 0], []⟩ 8 (by kernel_rfl) (by kernel_rfl) (by kernel_rfl) (by kernel_rfl)) ?_
  intro W base args ds gs before hval0 hW hcnd _
  have hval : ∀ (j : Nat) t v, Tryz.f6.params[j]? = some t → args[j]? = some v → Value.okWide Tryz.prog W .any base t v := hval0
  have hW' := hW
  obtain ⟨p, q, hA0, hV, rfl, hfz, hnd⟩ := hW
  have hA : DataW.TrodAll enc Tryz.prog W 0 (fun _ => true) true Tryz.f6.params.toList args.toList ds p := hA0
  rw [Tryz.params6] at hA hval
  obtain ⟨v0, vs0, d0, ds0, p0, q0, hargs, rfl, rfl, h0, r0⟩ := trodAll_cons hA
  obtain ⟨v1, vs1, d1, ds1, p1, q1, rfl, rfl, rfl, h1, r1⟩ := trodAll_cons r0
  obtain ⟨v2, vs2, d2, ds2, p2, q2, rfl, rfl, rfl, h2, r2⟩ := trodAll_cons r1
  obtain ⟨rfl, rfl, rfl⟩ := trodAll_nil r2
  obtain rfl : args = #[v0, v1, v2] := by cases args; simp_all
  obtain ⟨rfl, rfl⟩ := trodVars_none hV
  have hc := open_net (hval 0 52 v0 rfl rfl) h0
  have hc1 := open_ints64 (hval 1 28 v1 rfl rfl) h1
  have hc2 := open_ints64 (hval 2 28 v2 rfl rfl) h2
  refine (walk v0 v1 v2 W hc hc1 hc2).mono fun e W' ⟨he, hg⟩ => ?_
  subst he
  exact ⟨_, rfl, law.law_post hW' hg laidOut (by kernel_rfl) rfl rfl (by kernel_rfl) Tryz.underlying4⟩

theorem over : Rows.fnExactSolveStepRow.holds Tryz.pinned (OpenSpec.ofChange Rows.fnExactSolveStepSpec) :=
  OpenClaim.holds_of_wide 6 Tryz.f6 rfl rfl rfl rfl rfl rfl rfl ⟨rfl, rfl, rfl, rfl, rfl⟩ rfl rfl rfl rfl rfl (by kernel_rfl) Tryz.func6 (by kernel_rfl)
    (of_decide_eq_true (by kernel_rfl)) (by unfold Func.isWrapper; first | (rw [if_pos (by decide +kernel)]; kernel_rfl) | (rw [if_neg (by decide +kernel)]; exact ⟨rfl, rfl⟩))
    (fun os started H enc _ => lifted os started H enc)

theorem proved : Rows.FnExactSolveStepSaid :=
  over
#print axioms proved
end Go.Proofs.YtdbgcbkmcbgdiaaGreat.fnExactSolveStep
