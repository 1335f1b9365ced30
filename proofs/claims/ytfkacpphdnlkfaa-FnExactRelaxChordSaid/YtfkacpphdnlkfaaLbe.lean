/-
  The program's allowedTimes, bestTimes. Conditions: as each states.
-/
import Derived.Test.YtfkacpphdnlkfaaRows
import Derived.Test.YtfkacpphdnlkfaaLrr
import Derived.Lib.MinMax
import Derived.Laws.EntriesVeiled
namespace Go.Proofs.Ytfkacpphdnlkfaa.mem
open Go.RowKit
set_option linter.unusedVariables false

set_option maxRecDepth 100000 in
set_option maxHeartbeats 8000000 in
theorem allowedTimes_any (w : World) (s0 s1 : Value) (x : Nat → Int) (hx : ∀ k, k < 40 → -30000 ≤ x k ∧ x k ≤ 30000) (y : Nat → Int) (hy : ∀ k, k < 40 → -1 ≤ y k ∧ y k ≤ 1) :
    Calls Try.prog 104 #[.agg (nfL s0 s1 x).toArray, .agg (arr y)] w fun e w' => e = .returned (.tuple #[.int .i64 (alL x y 40), .int .i64 (alH x y 40)]) ∧ Below w.heap.size w w' := by
  have HX := Lib.hid hx
  have HYB := Lib.hid hy
  have A0 := (Ob.newN w s0 s1 x 70).keep (Below.heap_alloc _ (.cells (arr y) 68) _ (by rw [szal]; omega))
  have A1 := Ob.newA (w.alloc (.cells (nfL s0 s1 x).toArray 70)) y 68
  simp only [szal] at A1
  have B0 := (below_new w (.cells (nfL s0 s1 x).toArray 70)).trans ((below_new _ (.cells (arr y) 68)).mono (by rw [szal]; omega))
  have hs0 : ((w.alloc (.cells (nfL s0 s1 x).toArray 70)).alloc (.cells (arr y) 68)).heap.size = w.heap.size + 2 := by simp
  clear hx hy
  go_enter Try.func104, Try.ntmps104
  go_upto_region 1 with (fail)
  obtain ⟨w1, hw1⟩ : ∃ w1, (w.alloc (.cells (nfL s0 s1 x).toArray 70)).alloc (.cells (arr y) 68) = w1 := ⟨_, rfl⟩
  rw [hw1] at A0 A1 B0 hs0 ⊢
  clear hw1
  have HA := Lib.hid A0
  have HB := Lib.hid B0
  have g1 := A1.range
  obtain ⟨Ly, hLy, eLy⟩ : ∃ L : List Value, arr y = List.toArray L ∧ L = arrL y := ⟨_, rfl, rfl⟩
  rw [← eLy] at g1
  have nLy : Ly.length = 40 := by rw [eLy, arr_len]
  have HEy := Lib.hid eLy
  have hs1 := Nat.le_antisymm_iff.1 hs0
  clear hLy eLy A0 A1 B0 hs0
  go_upto_region 3 with (refine wpList_ldF rfl _ rfl (w.heap.size + 1) 0 Ly rfl nLy g1 ?_)
  clear g1
  go_loopw [6, 7, 11] (fun av bv iv wr => ∃ k : Nat, av = .int .i64 (alL x y k) ∧ bv = .int .i64 (alH x y k) ∧ iv = .int .i64 k ∧ k ≤ 40 ∧ w1.heap.size ≤ wr.heap.size ∧ Below w1.heap.size w1 wr) (fun _ _ iv _ => 40 - (intOf iv).toNat)
  case atStart => exact ⟨0, rfl, rfl, rfl, Nat.zero_le _, Nat.le_refl _, Below.refl _ _⟩
  case round =>
    obtain ⟨k, rfl, rfl, rfl, hk, hsz, hb⟩ := hrel
    have HBB := Lib.hid hb
    clear hb
    have k0 : (0 : Int) ≤ (k : Int) := Int.natCast_nonneg _
    have BW := Lib.hid (HB.out.trans (HBB.out.mono (by omega)))
    by_cases hlt : k < 40
    · have k1 : (k : Int) < 40 := by omega
      have yx := (HA.out.below HBB.out (by omega)).nx k hlt
      have hLk : Ly.toArray[(k : Int).toNat]? = some (.int .i64 (y k)) := by
        rw [List.getElem?_toArray, Int.toNat_natCast, HEy.out]
        exact arrL_get y k hlt
      obtain ⟨x0, x1⟩ := HX.out k hlt
      obtain ⟨y0, y1⟩ := HYB.out k hlt
      have hbd := al_bnd (k := k) (fun j hj => HX.out j (by omega)) (fun j hj => HYB.out j (by omega))
      obtain ⟨⟨b0, b1⟩, b2, b3⟩ := hbd
      have HL1 := Lib.hid (show alL x y (k + 1) = if y k = 0 then alL x y k else max (alL x y k) (-30000 - y k * x k) from rfl)
      have HH1 := Lib.hid (show alH x y (k + 1) = if y k = 0 then alH x y k else min (alH x y k) (30000 - y k * x k) from rfl)
      have hm : -30000 ≤ y k * x k ∧ y k * x k ≤ 30000 := by
        have := mulc (b := 30000) (x := x k) (c := y k) ⟨x0, x1⟩ ⟨y0, y1⟩
        rw [Int.mul_comm]
        exact this
      have hw1 : IntKind.i64.wrap (y k * x k) = y k * x k := IntWalk.i64_in _ (by omega)
      have hw2 : IntKind.i64.wrap (-30000 - y k * x k) = -30000 - y k * x k := IntWalk.i64_in _ (by omega)
      have hw3 : IntKind.i64.wrap (30000 - y k * x k) = 30000 - y k * x k := IntWalk.i64_in _ (by omega)
      generalize ha : alL x y k = a at *
      generalize hb' : alH x y k = b at *
      generalize hyk : y k = yk at *
      generalize hxk : x k = xk at *
      clear ha hb' hyk hxk
      by_cases h0 : yk = 0
      · have hd : (yk != 0) = false := by simpa using h0
        have HL2 := Lib.hid (by have := HL1.out; rwa [if_pos h0] at this)
        have HH2 := Lib.hid (by have := HH1.out; rwa [if_pos h0] at this)
        clear h0
        go_wp2_with (refine wpList_indexV rfl 68 40 _ _ rfl Ly.toArray _ _ (.int .i64 yk) rfl rfl Try.underlying68 k0 k1 hLk ?_)
        go_roundw
        case rel => exact ⟨k + 1, by rw [HL2.out], by rw [HH2.out], by go_num, hlt, by (first | omega | (simp; omega)), (by first | exact HBB.out | exact below_drN1 HBB.out _)⟩
        case measure => simp [intOf]; omega
      · have hd : (yk != 0) = true := by simpa using h0
        have HL2 := Lib.hid (by have := HL1.out; rwa [if_neg h0] at this)
        have HH2 := Lib.hid (by have := HH1.out; rwa [if_neg h0] at this)
        clear h0
        go_wp2_with (refine wpList_indexV rfl 68 40 _ _ rfl Ly.toArray _ _ (.int .i64 yk) rfl rfl Try.underlying68 k0 k1 hLk ?_)
        go_roundw
        case rel => exact ⟨k + 1, by rw [HL2.out], by rw [HH2.out], by go_num, hlt, by (first | omega | (simp; omega)), (by first | exact HBB.out | exact below_drN1 HBB.out _)⟩
        case measure => simp [intOf]; omega
    · have hkn : k = 40 := by omega
      have k1 : ¬ ((k : Int) < 40) := by omega
      have HL2 := Lib.hid (show alL x y k = alL x y 40 by rw [hkn])
      have HH2 := Lib.hid (show alH x y k = alH x y 40 by rw [hkn])
      clear hkn
      go_wp2_with fail
      go_ret2
      exact ⟨ret_2 HL2.out HH2.out, BW.out⟩
/-- the flows and the cycle that the closure reads -/
structure EnC (w : World) (b : Nat) (s0 s1 : Value) (x y : Nat → Int) : Prop where
  f : Ob w b 42 (nfc s0 s1 x)
  y : Ob w (b + 1) 40 (ia y)
theorem EnC.next {w w' : World} {b : Nat} {s0 s1 : Value} {x y : Nat → Int} (h : EnC w b s0 s1 x y) (g : Below w.heap.size w w') : EnC w' b s0 s1 x y := ⟨h.f.below g h.f.lt, h.y.below g h.y.lt⟩
/-- enough, as a test -/
noncomputable def beB (P : Nat → Pip) (x y : Nat → Int) (m : Nat) (t : Int) : Bool := decide (egC P x y m (t + 1) - egC P x y m t > 0) || (decide (egC P x y m (t + 1) - egC P x y m t = 0) && decide (t ≥ 0))
theorem beB_iff {P : Nat → Pip} {x y : Nat → Int} {m : Nat} {t : Int} : beB P x y m t = true ↔ bePr P x y m t := by
  unfold beB bePr
  rw [Bool.or_eq_true, Bool.and_eq_true, decide_eq_true_iff, decide_eq_true_iff, decide_eq_true_iff]
theorem egC_arr {P : Nat → Pip} {x y : Nat → Int} {m : Nat} (t : Int) : egS P (fun k => x k + y k * t) m = egC P x y m t := egS_congr fun k _ => by rw [Int.mul_comm]
theorem egC_bnd {n : Nat} {N : Nat → Nod} {m : Nat} {P : Nat → Pip} (hB : netB n N m P = true) {x y : Nat → Int} {t : Int} (h : ∀ k, k < m → -30000 ≤ x k + t * y k ∧ x k + t * y k ≤ 30000) : 0 ≤ egC P x y m t ∧ egC P x y m t ≤ 1080000000000000000 := by
  have h1 := egS_bnd (P := P) (x := fun k => x k + t * y k) (k := m) (fun j hj => egB_of (net_pip hB hj) (h j hj).1 (h j hj).2)
  have h2 := (net_sz hB).2.2
  unfold egC
  omega
set_option maxRecDepth 100000 in
set_option maxHeartbeats 8000000 in
theorem best1_any (w : World) (p0 p1 : Option Addr) (c0 c1 : Nat) (n : Nat) (N : Nat → Nod) (m : Nat) (P : Nat → Pip) (lo hi : Nat) (h : NetAt w (.agg #[.slice p0 n c0, .slice p1 m c1]) n N m P lo hi) (hhi : hi ≤ w.heap.size) (hB : netB n N m P = true) (b : Nat) (x : Nat → Int) (hx : ∀ k, k < 40 → -30000 ≤ x k ∧ x k ≤ 30000) (y : Nat → Int) (hy : ∀ k, k < 40 → -1 ≤ y k ∧ y k ≤ 1) (h2 : EnC w b (.slice p0 n c0) (.slice p1 m c1) x y) (t : Int) (ht : alL x y m ≤ t ∧ t < alH x y m) :
    Calls Try.prog 106 #[.int .i64 t, .pointer (some ⟨b, 0, none⟩), .pointer (some ⟨b + 1, 0, none⟩)] w fun e w' => e = .returned (.bool (beB P x y m t)) ∧ Below w.heap.size w w' := by
  have hm40 := (net_sz hB).2.2
  have HV := Lib.hid h
  have HB := Lib.hid hB
  have hal := al_bnd (x := x) (y := y) (k := m) (fun j hj => hx j (by omega)) (fun j hj => hy j (by omega))
  have hi1 := fun u (hu : alL x y m ≤ u) (hv : u ≤ alH x y m) => al_in (k := m) (fun j hj => hx j (by omega)) (fun j hj => hy j (by omega)) hu hv
  have HYR := Lib.hid (show ∀ u, -100000 ≤ u ∧ u ≤ 100000 → ∀ k, k < 40 → (-4611686018427387904 ≤ x k + y k * u ∧ x k + y k * u ≤ 4611686018427387904) ∧ (-4611686018427387904 ≤ y k * u ∧ y k * u ≤ 4611686018427387904) from fun u hu k hk => by
    have h1 := mulc hu (hy k hk)
    have h2 := hx k hk
    rw [Int.mul_comm] at h1
    omega)
  obtain ⟨z0, hz0⟩ : ∃ z0 : Nat → Int, (fun k => x k + y k * t) = z0 := ⟨_, rfl⟩
  obtain ⟨z1, hz1⟩ : ∃ z1 : Nat → Int, (fun k => x k + y k * (t + 1)) = z1 := ⟨_, rfl⟩
  have HR0 := Lib.hid (show ∀ k, k < m → -30000 ≤ z0 k ∧ z0 k ≤ 30000 from fun k hk => by rw [← hz0]; have := hi1 t (by omega) (by omega) k hk; rw [Int.mul_comm] at this; exact this)
  have HR1 := Lib.hid (show ∀ k, k < m → -30000 ≤ z1 k ∧ z1 k ≤ 30000 from fun k hk => by rw [← hz1]; have := hi1 (t + 1) (by omega) (by omega) k hk; rw [Int.mul_comm] at this; exact this)
  have HE0 := Lib.hid (show egS P z0 m = egC P x y m t by rw [← hz0]; exact egC_arr t)
  have HE1 := Lib.hid (show egS P z1 m = egC P x y m (t + 1) by rw [← hz1]; exact egC_arr (t + 1))
  obtain ⟨q0, q1⟩ := egC_bnd hB (hi1 t (by omega) (by omega))
  obtain ⟨q2, q3⟩ := egC_bnd hB (hi1 (t + 1) (by omega) (by omega))
  have HZ0 := Lib.hid hz0
  have HZ1 := Lib.hid hz1
  have HD := Lib.hid (show beB P x y m t = (decide (egC P x y m (t + 1) - egC P x y m t > 0) || (decide (egC P x y m (t + 1) - egC P x y m t = 0) && decide (t ≥ 0))) from rfl)
  have hw1 : IntKind.i64.wrap (t + 1) = t + 1 := IntWalk.i64_in _ (by omega)
  generalize hg0 : egC P x y m t = e0 at *
  generalize hg1 : egC P x y m (t + 1) = e1 at *
  have hw2 : IntKind.i64.wrap (e1 - e0) = e1 - e0 := IntWalk.i64_in _ (by omega)
  have g0 := h2.f.nall
  have g1 := h2.y.range
  have lb := h2.f.lt
  have lb1 := h2.y.lt
  obtain ⟨Ly, hLy, eLy⟩ : ∃ L : List Value, arr y = List.toArray L ∧ L = arrL y := ⟨_, rfl, rfl⟩
  rw [← eLy] at g1
  have nLy : Ly.length = 40 := by rw [eLy, arr_len]
  have HLy := Lib.hid hLy
  have KS : ∀ W : World, Below w.heap.size w W → (Below w.heap.size w W ∧ W.rangeAt b 0 (nfL (.slice p0 n c0) (.slice p1 m c1) x) ∧ W.rangeAt (b + 1) 0 Ly) := fun W hW => ⟨hW, range_blockN g0 (hW.block _ lb), range_blockN g1 (hW.block _ lb1)⟩
  clear h hB hx hy h2 hi1 hz0 hz1 hg0 hg1 hLy eLy
  go_enter Try.func106, Try.ntmps106
  go_wp2_with fail
  refine wp_region_noPanic ?_
  refine wp_region_held_drew (S := fun w' : World => Below w.heap.size w w' ∧ w'.rangeAt b 0 (nfL (.slice p0 n c0) (.slice p1 m c1) x) ∧ w'.rangeAt (b + 1) 0 Ly) (by kernel_rfl) (KS _ (below_drw (Below.refl _ _))) (fun sH => ?_)
  refine wpAnyH_take (i := 0) (v := .agg (nfL (.slice p0 n c0) (.slice p1 m c1) x).toArray) nthe0 (by kernel_rfl) (by kernel_rfl) (by kernel_rfl) (fun _ _ _ h => h) (yieldsIf_load_mid (by rfl) _ _ rfl b 0 rfl (nfL (.slice p0 n c0) (.slice p1 m c1) x) _ (fun _ h => h.2.1) Try.underlying70 rfl (by rw [nfL_len]; exact nf_info)) sH ?_
  try simp only [Act.put, List.setIfInBounds_toArray, List.set_cons_zero, List.set_cons_succ]
  refine wpAnyH_take (i := 1) (v := .agg (Ly).toArray) nthe1 (by kernel_rfl) (by kernel_rfl) (by kernel_rfl) (fun _ _ _ h => h) (yieldsIf_load_mid (by rfl) _ _ rfl (b + 1) 0 rfl (Ly) _ (fun _ h => h.2.2) Try.underlying68 rfl (by rw [nLy]; exact flow_info)) sH ?_
  try simp only [Act.put, List.setIfInBounds_toArray, List.set_cons_zero, List.set_cons_succ]
  refine wpAnyH_take (i := 2) (v := ?_) nthe2 (by kernel_rfl) (by kernel_rfl) (by kernel_rfl) (fun _ _ _ h => h) (Or.inl ⟨by rfl, ?_⟩) sH ?_
  rotate_left
  · intro wS hSw; (try dsimp only at hSw); go_simp; try with_reducible rfl
  try simp only [Act.put, List.setIfInBounds_toArray, List.set_cons_zero, List.set_cons_succ]
  refine wpAnyH_take (i := 3) (v := ?_) nthe3 (by kernel_rfl) (by kernel_rfl) (by kernel_rfl) (fun _ _ _ h => h) (Or.inl ⟨by rfl, ?_⟩) sH ?_
  rotate_left
  · intro wS hSw; (try dsimp only at hSw); go_simp; try with_reducible rfl
  try simp only [Act.put, List.setIfInBounds_toArray, List.set_cons_zero, List.set_cons_succ]
  refine wpAnyH_take (i := 6) (v := .agg (nfL (.slice p0 n c0) (.slice p1 m c1) x).toArray) nthe6 (by kernel_rfl) (by kernel_rfl) (by kernel_rfl) (fun _ _ _ h => h) (yieldsIf_load_mid (by rfl) _ _ rfl b 0 rfl (nfL (.slice p0 n c0) (.slice p1 m c1) x) _ (fun _ h => h.2.1) Try.underlying70 rfl (by rw [nfL_len]; exact nf_info)) sH ?_
  try simp only [Act.put, List.setIfInBounds_toArray, List.set_cons_zero, List.set_cons_succ]
  refine wpAnyH_take (i := 7) (v := .agg (Ly).toArray) nthe7 (by kernel_rfl) (by kernel_rfl) (by kernel_rfl) (fun _ _ _ h => h) (yieldsIf_load_mid (by rfl) _ _ rfl (b + 1) 0 rfl (Ly) _ (fun _ h => h.2.2) Try.underlying68 rfl (by rw [nLy]; exact flow_info)) sH ?_
  try simp only [Act.put, List.setIfInBounds_toArray, List.set_cons_zero, List.set_cons_succ]
  refine wpAnyH_take (i := 8) (v := ?_) nthe8 (by kernel_rfl) (by kernel_rfl) (by kernel_rfl) (fun _ _ _ h => h) (Or.inl ⟨by rfl, ?_⟩) sH ?_
  rotate_left
  · intro wS hSw; (try dsimp only at hSw); go_simp; try with_reducible rfl
  try simp only [Act.put, List.setIfInBounds_toArray, List.set_cons_zero, List.set_cons_succ]
  refine wpAnyH_ready (rs := [4]) (by kernel_rfl) (by simp) (AllReadyH.cons nthe4 (fun KON hKON => ?_) AllReadyH.nil)
  clear sH
  go_simp
  have hpc := plusCycle_any (w.drew) (.slice p0 n c0) (.slice p1 m c1) rfl rfl x y (t + 1) (fun k hk => (HYR.out (t + 1) (by omega) k hk).1) (fun k hk => (HYR.out (t + 1) (by omega) k hk).2)
  rw [HZ1.out, HLy.out] at hpc
  refine hpc.mono ?_
  clear hpc
  rintro e wA ⟨rfl, hbwA⟩
  have BwA : Below w.heap.size w wA := (below_drw (Below.refl w.heap.size w)).trans (hbwA.mono (below_drw (Below.refl w.heap.size w)).size)
  refine hKON.out _ _ (KS _ BwA) (fun sH => ?_)
  clear hKON KON
  try simp only [Act.put, List.setIfInBounds_toArray, List.set_cons_zero, List.set_cons_succ]
  refine wpAnyH_ready (rs := [5]) (by kernel_rfl) (by simp) (AllReadyH.cons nthe5 (fun KON hKON => ?_) AllReadyH.nil)
  clear sH
  go_simp
  have hen := energy_any (wA) p0 p1 c0 c1 n N m P lo hi (HV.out.below BwA hhi) (Nat.le_trans hhi BwA.size) HB.out (z1) HR1.out
  rw [HE1.out] at hen
  refine hen.mono ?_
  clear hen
  rintro e wB ⟨rfl, hbwB⟩
  have BwB : Below w.heap.size w wB := BwA.trans (hbwB.mono BwA.size)
  refine hKON.out _ _ (KS _ BwB) (fun sH => ?_)
  clear hKON KON
  try simp only [Act.put, List.setIfInBounds_toArray, List.set_cons_zero, List.set_cons_succ]
  refine wpAnyH_ready (rs := [9]) (by kernel_rfl) (by simp) (AllReadyH.cons nthe9 (fun KON hKON => ?_) AllReadyH.nil)
  clear sH
  go_simp
  have hpc := plusCycle_any (wB) (.slice p0 n c0) (.slice p1 m c1) rfl rfl x y (t) (fun k hk => (HYR.out (t) (by omega) k hk).1) (fun k hk => (HYR.out (t) (by omega) k hk).2)
  rw [HZ0.out, HLy.out] at hpc
  refine hpc.mono ?_
  clear hpc
  rintro e wC ⟨rfl, hbwC⟩
  have BwC : Below w.heap.size w wC := BwB.trans (hbwC.mono BwB.size)
  refine hKON.out _ _ (KS _ BwC) (fun sH => ?_)
  clear hKON KON
  try simp only [Act.put, List.setIfInBounds_toArray, List.set_cons_zero, List.set_cons_succ]
  refine wpAnyH_ready (rs := [10]) (by kernel_rfl) (by simp) (AllReadyH.cons nthe10 (fun KON hKON => ?_) AllReadyH.nil)
  clear sH
  go_simp
  have hen := energy_any (wC) p0 p1 c0 c1 n N m P lo hi (HV.out.below BwC hhi) (Nat.le_trans hhi BwC.size) HB.out (z0) HR0.out
  rw [HE0.out] at hen
  refine hen.mono ?_
  clear hen
  rintro e wD ⟨rfl, hbwD⟩
  have BwD : Below w.heap.size w wD := BwC.trans (hbwD.mono BwC.size)
  refine hKON.out _ _ (KS _ BwD) (fun sH => ?_)
  clear hKON KON
  try simp only [Act.put, List.setIfInBounds_toArray, List.set_cons_zero, List.set_cons_succ]
  refine wpAnyH_take (i := 11) (v := ?_) nthe11 (by kernel_rfl) (by kernel_rfl) (by kernel_rfl) (fun _ _ _ h => h) (Or.inl ⟨by rfl, ?_⟩) sH ?_
  rotate_left
  · intro wS hSw; (try dsimp only at hSw); go_simp; try with_reducible rfl
  try simp only [Act.put, List.setIfInBounds_toArray, List.set_cons_zero, List.set_cons_succ]
  refine wpAnyH_take (i := 12) (v := ?_) nthe12 (by kernel_rfl) (by kernel_rfl) (by kernel_rfl) (fun _ _ _ h => h) (Or.inl ⟨by rfl, ?_⟩) sH ?_
  rotate_left
  · intro wS hSw; (try dsimp only at hSw); go_simp; try with_reducible rfl
  try simp only [Act.put, List.setIfInBounds_toArray, List.set_cons_zero, List.set_cons_succ]
  refine wpAnyH_done (by kernel_rfl) ?_ _
  refine NoPanic.normal ?_
  have HD2 := HD.out
  by_cases c1 : e1 - e0 > 0
  · have d1 : decide (e0 < e1) = true := decide_eq_true (by omega)
    have HR := Lib.hid (show beB P x y m t = true by rw [HD2, decide_eq_true c1]; rfl)
    clear HD2 c1
    go_wp2_with fail
    go_ret
    exact ⟨ret_b HR.out.symm, BwD⟩
  · have d1 : decide (e0 < e1) = false := decide_eq_false (by omega)
    rw [decide_eq_false c1, Bool.false_or] at HD2
    by_cases c2 : e1 - e0 = 0
    · have d2 : (e1 - e0 == 0) = true := by simpa using c2
      have HR := Lib.hid (show beB P x y m t = decide (0 ≤ t) by rw [HD2, decide_eq_true c2, Bool.true_and])
      clear HD2 c1 c2
      by_cases c3 : 0 ≤ t
      · have d3 : decide (0 ≤ t) = true := decide_eq_true c3
        have HR2 := Lib.hid (HR.out.trans d3)
        clear c3
        go_wp2_with fail
        go_ret
        exact ⟨ret_b HR2.out.symm, BwD⟩
      · have d3 : decide (0 ≤ t) = false := decide_eq_false c3
        have HR2 := Lib.hid (HR.out.trans d3)
        clear c3
        go_wp2_with fail
        go_ret
        exact ⟨ret_b HR2.out.symm, BwD⟩
    · have d2 : (e1 - e0 == 0) = false := by simpa using c2
      have HR := Lib.hid (show beB P x y m t = false by rw [HD2, decide_eq_false c2, Bool.false_and])
      clear HD2 c1 c2
      go_wp2_with fail
      go_ret
      exact ⟨ret_b HR.out.symm, BwD⟩
set_option maxRecDepth 100000 in
set_option maxHeartbeats 8000000 in
theorem least_any (w : World) (p0 p1 : Option Addr) (c0 c1 : Nat) (n : Nat) (N : Nat → Nod) (m : Nat) (P : Nat → Pip) (lo hi : Nat) (h : NetAt w (.agg #[.slice p0 n c0, .slice p1 m c1]) n N m P lo hi) (hhi : hi ≤ w.heap.size) (hB : netB n N m P = true) (b : Nat) (x : Nat → Int) (hx : ∀ k, k < 40 → -30000 ≤ x k ∧ x k ≤ 30000) (y : Nat → Int) (hy : ∀ k, k < 40 → -1 ≤ y k ∧ y k ≤ 1) (hcy : CyO P y m) (h2 : EnC w b (.slice p0 n c0) (.slice p1 m c1) x y) :
    Calls Try.prog 105 #[.int .i64 (alL x y m), .int .i64 (alH x y m), .func (.func 106) #[] #[.pointer (some ⟨b, 0, none⟩), .pointer (some ⟨b + 1, 0, none⟩)]] w fun e w' => e = .returned (.int .i64 (bstT m P x y)) ∧ Below w.heap.size w w' := by
  have hm40 := (net_sz hB).2.2
  have HV := Lib.hid h
  have HBN := Lib.hid hB
  have HX := Lib.hid hx
  have HYB := Lib.hid hy
  have HE := Lib.hid h2
  have HCY := Lib.hid hcy
  have hal := al_bnd (x := x) (y := y) (k := m) (fun j hj => hx j (by omega)) (fun j hj => hy j (by omega))
  have HST := Lib.hid (Hlv.start (bePr P x y m) (show alL x y m ≤ alH x y m by omega))
  have HBS := Lib.hid (show ∀ r, Lst (bePr P x y m) (alL x y m) (alH x y m) r → r = bstT m P x y from fun r hr => bstT_eq hr)
  clear h hB hx hy h2 hcy
  go_enter Try.func105, Try.ntmps105
  go_wp2_with fail
  go_loopw [0, 1] (fun a c wr => ∃ l h : Int, a = .int .i64 l ∧ c = .int .i64 h ∧ Hlv (bePr P x y m) (alL x y m) (alH x y m) l h ∧ Below w.heap.size w wr) (fun a b _ => (intOf b - intOf a).toNat)
  case atStart => exact ⟨_, _, rfl, rfl, HST.out, Below.refl _ _⟩
  case round =>
    obtain ⟨l, h, rfl, rfl, g, hB⟩ := hrel
    have HG := Lib.hid g
    have HB := Lib.hid hB
    have l0 := g.a
    have h9 := g.c
    by_cases hlt : l < h
    · have hq : (h - l).tdiv 2 = (h - l) / 2 := Int.tdiv_eq_ediv_of_nonneg (by omega)
      obtain ⟨m2, m3⟩ : l ≤ l + (h - l) / 2 ∧ l + (h - l) / 2 < h := by omega
      clear g hB
      cases hc : beB P x y m (l + (h - l) / 2)
      · have HP := Lib.hid (HG.out.up (fun a b hab hp => HCY.out.be_mono hab hp) m2 m3 (fun hp => by rw [beB_iff.2 hp] at hc; exact absurd hc (by simp)))
        have HD := Lib.hid hc
        clear hc
        go_wp2_with (go_at_call 106; refine (best1_any _ p0 p1 c0 c1 n N m P lo hi (HV.out.below HB.out hhi) (Nat.le_trans hhi HB.out.size) HBN.out b x HX.out y HYB.out (HE.out.next HB.out) _ (by omega)).mono ?_; rintro e w2 ⟨rfl, b2⟩; rw [HD.out])
        go_roundw
        case rel => exact ⟨_, _, rfl, rfl, HP.out, HB.out.trans (b2.mono HB.out.size)⟩
        case measure => simp [intOf]; omega
      · have HP := Lib.hid (HG.out.down m2 m3 (beB_iff.1 hc))
        have HD := Lib.hid hc
        clear hc
        go_wp2_with (go_at_call 106; refine (best1_any _ p0 p1 c0 c1 n N m P lo hi (HV.out.below HB.out hhi) (Nat.le_trans hhi HB.out.size) HBN.out b x HX.out y HYB.out (HE.out.next HB.out) _ (by omega)).mono ?_; rintro e w2 ⟨rfl, b2⟩; rw [HD.out])
        go_roundw
        case rel => exact ⟨_, _, rfl, rfl, HP.out, HB.out.trans (b2.mono HB.out.size)⟩
        case measure => simp [intOf]; omega
    · have HD := Lib.hid (HBS.out _ (g.done hlt))
      clear g hB
      go_wp2_with fail
      go_ret
      exact ⟨ret_i HD.out, HB.out⟩
set_option maxRecDepth 100000 in
set_option maxHeartbeats 8000000 in
theorem bestTimes_any (w : World) (p0 p1 : Option Addr) (c0 c1 : Nat) (n : Nat) (N : Nat → Nod) (m : Nat) (P : Nat → Pip) (lo hi : Nat) (h : NetAt w (.agg #[.slice p0 n c0, .slice p1 m c1]) n N m P lo hi) (hhi : hi ≤ w.heap.size) (hB : netB n N m P = true) (x : Nat → Int) (hx : ∀ k, k < 40 → -30000 ≤ x k ∧ x k ≤ 30000) (y : Nat → Int) (hy : ∀ k, k < 40 → -1 ≤ y k ∧ y k ≤ 1) (hy0 : ∀ k, m ≤ k → y k = 0) (hcy : CyO P y m) :
    Calls Try.prog 61 #[.agg (nfL (.slice p0 n c0) (.slice p1 m c1) x).toArray, .agg (arr y)] w fun e w' => e = .returned (.int .i64 (bstT m P x y)) ∧ Below w.heap.size w w' := by
  have hm40 := (net_sz hB).2.2
  have HV := Lib.hid h
  have HBN := Lib.hid hB
  have HX := Lib.hid hx
  have HYB := Lib.hid hy
  have HCY := Lib.hid hcy
  have HAL := Lib.hid (show alL x y 40 = alL x y m ∧ alH x y 40 = alH x y m by have := al_ext (x := x) hy0 (40 - m); rwa [show m + (40 - m) = 40 by omega] at this)
  have A0 := (Ob.newN w (.slice p0 n c0) (.slice p1 m c1) x 70).keep (Below.heap_alloc _ (.cells (arr y) 68) _ (by rw [szal]; omega))
  have A1 := Ob.newA (w.alloc (.cells (nfL (.slice p0 n c0) (.slice p1 m c1) x).toArray 70)) y 68
  simp only [szal] at A1
  have B0 := (below_new w (.cells (nfL (.slice p0 n c0) (.slice p1 m c1) x).toArray 70)).trans ((below_new _ (.cells (arr y) 68)).mono (by rw [szal]; omega))
  have hs0 : ((w.alloc (.cells (nfL (.slice p0 n c0) (.slice p1 m c1) x).toArray 70)).alloc (.cells (arr y) 68)).heap.size = w.heap.size + 2 := by simp
  clear h hB hx hy hy0 hcy
  go_enter Try.func61, Try.ntmps61
  go_upto_region 1 with (fail)
  obtain ⟨w1, hw1⟩ : ∃ w1, (w.alloc (.cells (nfL (.slice p0 n c0) (.slice p1 m c1) x).toArray 70)).alloc (.cells (arr y) 68) = w1 := ⟨_, rfl⟩
  rw [hw1] at A0 A1 B0 hs0 ⊢
  clear hw1
  have HEC := Lib.hid (EnC.mk A0 A1)
  have HB := Lib.hid B0
  have g0 := A0.nall
  have g1 := A1.range
  obtain ⟨Ly, hLy, eLy⟩ : ∃ L : List Value, arr y = List.toArray L ∧ L = arrL y := ⟨_, rfl, rfl⟩
  rw [← eLy] at g1
  have nLy : Ly.length = 40 := by rw [eLy, arr_len]
  have HLy := Lib.hid hLy
  have hs1 := Nat.le_antisymm_iff.1 hs0
  clear hLy eLy A0 A1 B0 hs0
  go_wp2_with (first
    | (refine wpList_ldN rfl _ rfl w.heap.size (.slice p0 n c0) (.slice p1 m c1) x rfl g0 ?_)
    | (refine wpList_ldF rfl _ rfl (w.heap.size + 1) 0 Ly rfl nLy g1 ?_)
    | (go_at_call 104; have hat := allowedTimes_any w1 (.slice p0 n c0) (.slice p1 m c1) x HX.out y HYB.out; rw [HAL.out.1, HAL.out.2, HLy.out] at hat; refine hat.mono ?_; clear hat; rintro e w2 ⟨rfl, hb2⟩; have z2 := hb2.size)
    | (go_at_call 105; refine (least_any w2 p0 p1 c0 c1 n N m P lo hi (HV.out.below (HB.out.trans (hb2.mono (by omega))) hhi) (by omega) HBN.out w.heap.size x HX.out y HYB.out HCY.out (HEC.out.next hb2)).mono ?_; rintro e w3 ⟨rfl, hb3⟩))
  go_ret
  exact ⟨rfl, (HB.out.trans (hb2.mono (by omega))).trans (hb3.mono (by omega))⟩
end Go.Proofs.Ytfkacpphdnlkfaa.mem
