/-
  Several texts in one: Esa, Esb, Esc, Esd, Ese, Esf, Esg, Esh, Eag.
-/
import Derived.Test.YtfkacpphdnlkfaaGreatRows
import Derived.Test.YtfkacpphdnlkfaaGreatEnM
import Derived.Test.YtfkacpphdnlkfaaGreatTsM
import Derived.BigQuiet
import Derived.IntWalk
import Derived.Test.YtfkacpphdnlkfaaGreatLfm
namespace Go.Proofs.YtfkacpphdnlkfaaGreat.mem
open Go.RowKit
set_option linter.unusedVariables false

set_option maxRecDepth 100000 in
set_option maxHeartbeats 8000000 in
theorem l10Energy_any (w : World) (v : Value) (n : Nat) (N : Nat → Nod) (m : Nat) (P : Nat → Pip) (lo hi : Nat) (h : NetAt w v n N m P lo hi) (hhi : hi ≤ w.heap.size) (hB : netB n N m P = true) (va : Value) (x : Nat → Int) (la ha : Nat) (hv : Sl w va m x la ha) (hha : ha ≤ w.heap.size) (hx : ∀ k, k < m → -30000 ≤ x k ∧ x k ≤ 30000) :
    Calls Tryz.prog 122 #[v, va] w fun e w' => e = .returned (.int .i64 (egS P x m)) ∧ Below w.heap.size w w' := by
  obtain ⟨p0, c0, p1, c1, rfl, hn9, hm9⟩ := h.parts
  obtain ⟨hn1, hn24, hm40⟩ := net_sz hB
  obtain ⟨pa, ca, rfl⟩ := hv.sh
  have HV := Lib.hid h
  have HSV := Lib.hid hv
  have HBN := Lib.hid hB
  have HE := Lib.hid (show ∀ k, k < m → EgB (P k).k ((x k).natAbs : Int) from fun k hk => egB_of (net_pip hB hk) (hx k hk).1 (hx k hk).2)
  have HX := Lib.hid hx
  have A0 := boxed w (.slice p0 n c0) (.slice p1 m c1) 33
  have B0 := below_new w (.cells #[.slice p0 n c0, .slice p1 m c1] 33)
  have hs0 : (w.alloc (.cells #[.slice p0 n c0, .slice p1 m c1] 33)).heap.size = w.heap.size + 1 := by simp
  clear h hB hv hx
  go_enter Tryz.func122, Tryz.ntmps122
  go_wp2_with fail
  obtain ⟨w1, hw1⟩ : ∃ w1, w.alloc (.cells #[.slice p0 n c0, .slice p1 m c1] 33) = w1 := ⟨_, rfl⟩
  rw [hw1] at A0 B0 hs0 ⊢
  clear hw1
  have HA := Lib.hid A0
  have HBB := Lib.hid B0
  clear A0 B0
  go_loopw [5, 6] (fun sv iv wr => ∃ k : Nat, sv = .int .i64 (egS P x k) ∧ iv = .int .i64 k ∧ k ≤ m ∧ w1.heap.size ≤ wr.heap.size ∧ Below w1.heap.size w1 wr) (fun _ iv _ => m - (intOf iv).toNat)
  case atStart => exact ⟨0, rfl, rfl, Nat.zero_le _, Nat.le_refl _, Below.refl _ _⟩
  case round =>
    obtain ⟨k, rfl, rfl, hk, hsz, hb⟩ := hrel
    have HL := Lib.hid hb
    clear hb
    have k0 : (0 : Int) ≤ (k : Int) := Int.natCast_nonneg _
    have BW := Lib.hid (HBB.out.trans (HL.out.mono (by omega)))
    by_cases hlt : k < m
    · have k1 : (k : Int) < (m : Int) := by omega
      obtain ⟨p', c', ee, hxx⟩ := (HSV.out.below BW.out hha).ex
      injection ee with e1 _ e3
      subst e1 e3
      obtain ⟨ba, oa, rfl, ga1, ga2, hxx⟩ : ∃ b o, pa = some ⟨b, o, none⟩ ∧ la ≤ b ∧ b < ha ∧ ∀ k, k < m → wr.cell? ⟨b, o + k, none⟩ = some (.int .i64 (x k)) := by
        rcases hxx with e | e
        · omega
        · exact e
      have yx := hxx k hlt
      clear hxx
      obtain ⟨bp, op, rfl, q1, q2, r0, r1, r2, r3, r4⟩ := (HV.out.below BW.out hhi).pipe hlt
      have f0 : wr.cell? ⟨w.heap.size, 0, none⟩ = some (.slice p0 n c0) := (HA.out.below HL.out (by omega)).b0
      have f1 : wr.cell? ⟨w.heap.size, 1, none⟩ = some (.slice (some ⟨bp, op, none⟩) m c1) := (HA.out.below HL.out (by omega)).b1
      obtain ⟨z0, z1⟩ := HX.out k hlt
      have he := HE.out k hlt
      have h1 := he.one
      have h2 := he.two
      have h3 := he.thr
      have hs := egS_bnd (P := P) (x := x) (k := k) (fun j hj => HE.out j (by omega))
      have HS := Lib.hid (show egS P x (k + 1) = egS P x k + (P k).k * ((x k).natAbs : Int) * ((x k).natAbs : Int) * ((x k).natAbs : Int) from rfl)
      have hs1 : egS P x k ≤ 1080000000000000000 := by omega
      have hs2 := hs.1
      clear hs
      go_wp2_with (go_at_call 135; refine (absS_any _ _ (by omega) (by omega)).mono ?_; rintro e w' ⟨rfl, rfl⟩)
      go_roundw
      case rel => exact ⟨k + 1, by rw [HS.out], by go_num, hlt, hsz, HL.out⟩
      case measure => simp [intOf]; omega
    · have hkn : k = m := by omega
      subst hkn
      have k1 : ¬ ((k : Int) < (k : Int)) := by omega
      go_wp2_with fail
      go_ret
      exact ⟨rfl, BW.out⟩

end Go.Proofs.YtfkacpphdnlkfaaGreat.mem

namespace Go.Proofs.YtfkacpphdnlkfaaGreat.mem
open Go.RowKit
set_option linter.unusedVariables false

end Go.Proofs.YtfkacpphdnlkfaaGreat.mem

namespace Go.Proofs.YtfkacpphdnlkfaaGreat.mem
open Go.RowKit
set_option linter.unusedVariables false

end Go.Proofs.YtfkacpphdnlkfaaGreat.mem

namespace Go.Proofs.YtfkacpphdnlkfaaGreat.mem
open Go.RowKit
set_option linter.unusedVariables false

set_option maxRecDepth 100000 in
set_option maxHeartbeats 8000000 in
theorem l10Lower_any (w : World) (v : Value) (n : Nat) (N : Nat → Nod) (m : Nat) (P : Nat → Pip) (lo hi : Nat) (h : NetAt w v n N m P lo hi) (hhi : hi ≤ w.heap.size) (hB : netB n N m P = true) (va : Value) (x : Nat → Int) (la ha : Nat) (hv : Sl w va m x la ha) (hha : ha ≤ w.heap.size) (hx : ∀ k, k < m → -30000 ≤ x k ∧ x k ≤ 30000) (vb : Value) (y : Nat → Int) (lb hb : Nat) (hu : Sl w vb m y lb hb) (hhb : hb ≤ w.heap.size) (hy : ∀ k, k < m → -1 ≤ y k ∧ y k ≤ 1) (t : Int) (ht : -1000000 ≤ t ∧ t ≤ 1000000) :
    Calls Tryz.prog 99 #[v, va, vb, .int .i64 t] w fun e w' => e = .returned (.bool (loB m P x y t)) ∧ Below w.heap.size w w' := by
  obtain ⟨p0, c0, p1, c1, rfl, hn9, hm9⟩ := h.parts
  obtain ⟨hn1, hn24, hm40⟩ := net_sz hB
  obtain ⟨pa, ca, rfl⟩ := hv.sh
  obtain ⟨pb, cb, rfl⟩ := hu.sh
  have HV := Lib.hid h
  have HSV := Lib.hid hv
  have HSU := Lib.hid hu
  have HBN := Lib.hid hB
  have HX := Lib.hid hx
  have HTY := Lib.hid (show ∀ k, k < m → (-4611686018427387904 ≤ x k + t * y k ∧ x k + t * y k ≤ 4611686018427387904) ∧ (-4611686018427387904 ≤ t * y k ∧ t * y k ≤ 4611686018427387904) from fun k hk => by
    have h1 := mulc ht (hy k hk)
    have h2 := hx k hk
    omega)
  have A0 := boxed w (.slice p0 n c0) (.slice p1 m c1) 33
  have B0 := below_new w (.cells #[.slice p0 n c0, .slice p1 m c1] 33)
  have hs0 : (w.alloc (.cells #[.slice p0 n c0, .slice p1 m c1] 33)).heap.size = w.heap.size + 1 := by simp
  clear h hB hv hx hu hy
  go_enter Tryz.func99, Tryz.ntmps99
  go_upto_region 1 with (fail)
  obtain ⟨w1, hw1⟩ : ∃ w1, w.alloc (.cells #[.slice p0 n c0, .slice p1 m c1] 33) = w1 := ⟨_, rfl⟩
  rw [hw1] at A0 B0 hs0 ⊢
  clear hw1
  go_upto_region 2 with (go_at_call 45; refine (l05Add_any _ _ _ m x y t la ha lb hb (HSV.out.below B0 hha) (by omega) (HSU.out.below B0 hhb) (by omega) (by omega) (fun k hk => (HTY.out k hk).1) (fun k hk => (HTY.out k hk).2)).mono ?_; rintro e w2 ⟨v2, g, rfl, oz, hg, b2⟩)
  obtain ⟨cz, rfl⟩ := oz.shape
  have lz := oz.lt
  have s2 := b2.size
  have B2 := B0.trans (b2.mono (by omega))
  have A2 := A0.below b2 (by omega)
  have g0 := range2 A2.b0 A2.b1
  have l2 : w.heap.size < w2.heap.size := by omega
  have hi2 : hi ≤ w2.heap.size := by omega
  have ha2 : ha ≤ w2.heap.size := by omega
  have hw2 : w.heap.size ≤ w2.heap.size := by omega
  have HOZ := Lib.hid oz
  have HS2 := Lib.hid (HSV.out.below B2 hha)
  have nN : (Tryz.prog.info? 33).map (·.size) = some 2 := by kernel_rfl
  have UN := Tryz.underlying33
  clear oz A0 A2 B0 b2
  have KS : ∀ W : World, Below w2.heap.size w2 W → (Below w2.heap.size w2 W ∧ W.rangeAt w.heap.size 0 [.slice p0 n c0, .slice p1 m c1]) := fun W hW => ⟨hW, range_blockN g0 (hW.block _ l2)⟩
  have hli : liB m m (fun k => x k + t * y k) = flB (fun k => x k + t * y k) m := by unfold liB; rw [decide_eq_true rfl, Bool.and_true]
  cases hf : flB (fun k => x k + t * y k) m
  · have HL := Lib.hid (show loB m P x y t = false by unfold loB; rw [hf]; rfl)
    refine wp_region_noPanic ?_
    refine wp_region_held_drew (S := fun w' : World => Below w2.heap.size w2 w' ∧ w'.rangeAt w.heap.size 0 [.slice p0 n c0, .slice p1 m c1]) (by kernel_rfl) (KS _ (below_drw (Below.refl _ _))) (fun sH => ?_)
    refine wpAnyH_take (i := 0) (v := .agg #[.slice p0 n c0, .slice p1 m c1]) nthe0 (by kernel_rfl) (by kernel_rfl) (by kernel_rfl) (fun _ _ _ h => h) (yieldsIf_load_mid (by rfl) _ _ rfl w.heap.size 0 rfl [.slice p0 n c0, .slice p1 m c1] _ (fun _ h => h.2) UN rfl (by exact nN)) sH ?_
    try simp only [Act.put, List.setIfInBounds_toArray, List.set_cons_zero, List.set_cons_succ]
    refine wpAnyH_take (i := 1) (v := ?_) nthe1 (by kernel_rfl) (by kernel_rfl) (by kernel_rfl) (fun _ _ _ h => h) (Or.inl ⟨by rfl, ?_⟩) sH ?_
    rotate_left
    · intro wS hSw; (try dsimp only at hSw); go_simp; try with_reducible rfl
    try simp only [Act.put, List.setIfInBounds_toArray, List.set_cons_zero, List.set_cons_succ]
    refine wpAnyH_ready (rs := [2]) (by kernel_rfl) (by simp) (AllReadyH.cons nthe2 (fun KON hKON => ?_) AllReadyH.nil)
    clear sH
    go_simp
    refine (l05List_any _ p0 p1 n m c0 c1 _ m _ g (g + 1) (HOZ.out.below (below_drw (Below.refl w2.heap.size w2)) (Nat.le_refl _)).sl (show g + 1 ≤ w2.heap.size by omega) (by omega) hm9).mono ?_
    rintro e wX ⟨rfl, hbX⟩
    rw [hli, hf]
    have KX : Below w2.heap.size w2 wX := below_dr0 hbX
    refine hKON.out _ _ (KS _ KX) (fun sH => ?_)
    clear hKON KON
    try simp only [Act.put, List.setIfInBounds_toArray, List.set_cons_zero, List.set_cons_succ]
    refine wpAnyH_take (i := 3) (v := ?_) nthe3 (by kernel_rfl) (by kernel_rfl) (by kernel_rfl) (fun _ _ _ h => h) (Or.inl ⟨by rfl, ?_⟩) sH ?_
    rotate_left
    · intro wS hSw; (try dsimp only at hSw); go_simp; try with_reducible rfl
    try simp only [Act.put, List.setIfInBounds_toArray, List.set_cons_zero, List.set_cons_succ]
    refine wpAnyH_take (i := 4) (v := undef) nthe4 (by kernel_rfl) (by kernel_rfl) (by kernel_rfl) (fun _ _ _ h => h) (Or.inr ⟨by rfl, rfl⟩) sH ?_
    try simp only [Act.put, List.setIfInBounds_toArray, List.set_cons_zero, List.set_cons_succ]
    refine wpAnyH_take (i := 5) (v := undef) nthe5 (by kernel_rfl) (by kernel_rfl) (by kernel_rfl) (fun _ _ _ h => h) (Or.inr ⟨by rfl, rfl⟩) sH ?_
    try simp only [Act.put, List.setIfInBounds_toArray, List.set_cons_zero, List.set_cons_succ]
    refine wpAnyH_take (i := 6) (v := undef) nthe6 (by kernel_rfl) (by kernel_rfl) (by kernel_rfl) (fun _ _ _ h => h) (Or.inr ⟨by rfl, rfl⟩) sH ?_
    try simp only [Act.put, List.setIfInBounds_toArray, List.set_cons_zero, List.set_cons_succ]
    refine wpAnyH_take (i := 7) (v := undef) nthe7 (by kernel_rfl) (by kernel_rfl) (by kernel_rfl) (fun _ _ _ h => h) (Or.inr ⟨by rfl, rfl⟩) sH ?_
    try simp only [Act.put, List.setIfInBounds_toArray, List.set_cons_zero, List.set_cons_succ]
    refine wpAnyH_take (i := 8) (v := undef) nthe8 (by kernel_rfl) (by kernel_rfl) (by kernel_rfl) (fun _ _ _ h => h) (Or.inr ⟨by rfl, rfl⟩) sH ?_
    try simp only [Act.put, List.setIfInBounds_toArray, List.set_cons_zero, List.set_cons_succ]
    refine wpAnyH_take (i := 9) (v := undef) nthe9 (by kernel_rfl) (by kernel_rfl) (by kernel_rfl) (fun _ _ _ h => h) (Or.inr ⟨by rfl, rfl⟩) sH ?_
    try simp only [Act.put, List.setIfInBounds_toArray, List.set_cons_zero, List.set_cons_succ]
    refine wpAnyH_take (i := 10) (v := undef) nthe10 (by kernel_rfl) (by kernel_rfl) (by kernel_rfl) (fun _ _ _ h => h) (Or.inr ⟨by rfl, rfl⟩) sH ?_
    try simp only [Act.put, List.setIfInBounds_toArray, List.set_cons_zero, List.set_cons_succ]
    refine wpAnyH_take (i := 11) (v := ?_) nthe11 (by kernel_rfl) (by kernel_rfl) (by kernel_rfl) (fun _ _ _ h => h) (Or.inl ⟨by rfl, ?_⟩) sH ?_
    rotate_left
    · intro wS hSw; (try dsimp only at hSw); go_simp; try with_reducible rfl
    try simp only [Act.put, List.setIfInBounds_toArray, List.set_cons_zero, List.set_cons_succ]
    refine wpAnyH_take (i := 12) (v := ?_) nthe12 (by kernel_rfl) (by kernel_rfl) (by kernel_rfl) (fun _ _ _ h => h) (Or.inl ⟨by rfl, ?_⟩) sH ?_
    rotate_left
    · intro wS hSw; (try dsimp only at hSw); go_simp; try with_reducible rfl
    try simp only [Act.put, List.setIfInBounds_toArray, List.set_cons_zero, List.set_cons_succ]
    refine wpAnyH_done (by kernel_rfl) ?_ _
    refine NoPanic.normal ?_
    go_wp2_with fail
    go_ret
    exact ⟨ret_b HL.out.symm, B2.trans (KX.mono hw2)⟩
  · have HL := Lib.hid (show loB m P x y t = decide (egS P (fun k => x k + t * y k) m < egS P x m) by unfold loB; rw [hf]; rfl)
    have HZR := Lib.hid (show ∀ k, k < m → -30000 ≤ x k + t * y k ∧ x k + t * y k ≤ 30000 from fun k hk => flQ_iff.1 (flB_iff.1 hf k hk))
    refine wp_region_noPanic ?_
    refine wp_region_held_drew (S := fun w' : World => Below w2.heap.size w2 w' ∧ w'.rangeAt w.heap.size 0 [.slice p0 n c0, .slice p1 m c1]) (by kernel_rfl) (KS _ (below_drw (Below.refl _ _))) (fun sH => ?_)
    refine wpAnyH_take (i := 0) (v := .agg #[.slice p0 n c0, .slice p1 m c1]) nthe0 (by kernel_rfl) (by kernel_rfl) (by kernel_rfl) (fun _ _ _ h => h) (yieldsIf_load_mid (by rfl) _ _ rfl w.heap.size 0 rfl [.slice p0 n c0, .slice p1 m c1] _ (fun _ h => h.2) UN rfl (by exact nN)) sH ?_
    try simp only [Act.put, List.setIfInBounds_toArray, List.set_cons_zero, List.set_cons_succ]
    refine wpAnyH_take (i := 1) (v := ?_) nthe1 (by kernel_rfl) (by kernel_rfl) (by kernel_rfl) (fun _ _ _ h => h) (Or.inl ⟨by rfl, ?_⟩) sH ?_
    rotate_left
    · intro wS hSw; (try dsimp only at hSw); go_simp; try with_reducible rfl
    try simp only [Act.put, List.setIfInBounds_toArray, List.set_cons_zero, List.set_cons_succ]
    refine wpAnyH_ready (rs := [2]) (by kernel_rfl) (by simp) (AllReadyH.cons nthe2 (fun KON hKON => ?_) AllReadyH.nil)
    clear sH
    go_simp
    refine (l05List_any _ p0 p1 n m c0 c1 _ m _ g (g + 1) (HOZ.out.below (below_drw (Below.refl w2.heap.size w2)) (Nat.le_refl _)).sl (show g + 1 ≤ w2.heap.size by omega) (by omega) hm9).mono ?_
    rintro e wX ⟨rfl, hbX⟩
    rw [hli, hf]
    have KX : Below w2.heap.size w2 wX := below_dr0 hbX
    refine hKON.out _ _ (KS _ KX) (fun sH => ?_)
    clear hKON KON
    try simp only [Act.put, List.setIfInBounds_toArray, List.set_cons_zero, List.set_cons_succ]
    refine wpAnyH_take (i := 3) (v := ?_) nthe3 (by kernel_rfl) (by kernel_rfl) (by kernel_rfl) (fun _ _ _ h => h) (Or.inl ⟨by rfl, ?_⟩) sH ?_
    rotate_left
    · intro wS hSw; (try dsimp only at hSw); go_simp; try with_reducible rfl
    try simp only [Act.put, List.setIfInBounds_toArray, List.set_cons_zero, List.set_cons_succ]
    refine wpAnyH_take (i := 4) (v := .agg #[.slice p0 n c0, .slice p1 m c1]) nthe4 (by kernel_rfl) (by kernel_rfl) (by kernel_rfl) (fun _ _ _ h => h) (yieldsIf_load_mid (by rfl) _ _ rfl w.heap.size 0 rfl [.slice p0 n c0, .slice p1 m c1] _ (fun _ h => h.2) UN rfl (by exact nN)) sH ?_
    try simp only [Act.put, List.setIfInBounds_toArray, List.set_cons_zero, List.set_cons_succ]
    refine wpAnyH_take (i := 5) (v := ?_) nthe5 (by kernel_rfl) (by kernel_rfl) (by kernel_rfl) (fun _ _ _ h => h) (Or.inl ⟨by rfl, ?_⟩) sH ?_
    rotate_left
    · intro wS hSw; (try dsimp only at hSw); go_simp; try with_reducible rfl
    try simp only [Act.put, List.setIfInBounds_toArray, List.set_cons_zero, List.set_cons_succ]
    refine wpAnyH_take (i := 7) (v := .agg #[.slice p0 n c0, .slice p1 m c1]) nthe7 (by kernel_rfl) (by kernel_rfl) (by kernel_rfl) (fun _ _ _ h => h) (yieldsIf_load_mid (by rfl) _ _ rfl w.heap.size 0 rfl [.slice p0 n c0, .slice p1 m c1] _ (fun _ h => h.2) UN rfl (by exact nN)) sH ?_
    try simp only [Act.put, List.setIfInBounds_toArray, List.set_cons_zero, List.set_cons_succ]
    refine wpAnyH_take (i := 8) (v := ?_) nthe8 (by kernel_rfl) (by kernel_rfl) (by kernel_rfl) (fun _ _ _ h => h) (Or.inl ⟨by rfl, ?_⟩) sH ?_
    rotate_left
    · intro wS hSw; (try dsimp only at hSw); go_simp; try with_reducible rfl
    try simp only [Act.put, List.setIfInBounds_toArray, List.set_cons_zero, List.set_cons_succ]
    refine wpAnyH_ready (rs := [6]) (by kernel_rfl) (by simp) (AllReadyH.cons nthe6 (fun KON hKON => ?_) AllReadyH.nil)
    clear sH
    go_simp
    refine (l10Energy_any _ _ n N m P lo hi (HV.out.below (B2.trans (KX.mono hw2)) hhi) (Nat.le_trans hi2 KX.size) HBN.out _ _ g (g + 1) (HOZ.out.below KX (Nat.le_refl _)).sl (Nat.le_trans lz KX.size) HZR.out).mono ?_
    rintro e wY ⟨rfl, hbY⟩
    have KY : Below w2.heap.size w2 wY := KX.trans (hbY.mono KX.size)
    refine hKON.out _ _ (KS _ KY) (fun sH => ?_)
    clear hKON KON
    try simp only [Act.put, List.setIfInBounds_toArray, List.set_cons_zero, List.set_cons_succ]
    refine wpAnyH_ready (rs := [9]) (by kernel_rfl) (by simp) (AllReadyH.cons nthe9 (fun KON hKON => ?_) AllReadyH.nil)
    clear sH
    go_simp
    refine (l10Energy_any _ _ n N m P lo hi (HV.out.below (B2.trans (KY.mono hw2)) hhi) (Nat.le_trans hi2 KY.size) HBN.out _ x la ha (HS2.out.below KY ha2) (Nat.le_trans ha2 KY.size) HX.out).mono ?_
    rintro e wZ ⟨rfl, hbZ⟩
    have KZ : Below w2.heap.size w2 wZ := KY.trans (hbZ.mono KY.size)
    refine hKON.out _ _ (KS _ KZ) (fun sH => ?_)
    clear hKON KON
    try simp only [Act.put, List.setIfInBounds_toArray, List.set_cons_zero, List.set_cons_succ]
    refine wpAnyH_take (i := 10) (v := ?_) nthe10 (by kernel_rfl) (by kernel_rfl) (by kernel_rfl) (fun _ _ _ h => h) (Or.inl ⟨by rfl, ?_⟩) sH ?_
    rotate_left
    · intro wS hSw; (try dsimp only at hSw); go_simp; try with_reducible rfl
    try simp only [Act.put, List.setIfInBounds_toArray, List.set_cons_zero, List.set_cons_succ]
    refine wpAnyH_take (i := 11) (v := ?_) nthe11 (by kernel_rfl) (by kernel_rfl) (by kernel_rfl) (fun _ _ _ h => h) (Or.inl ⟨by rfl, ?_⟩) sH ?_
    rotate_left
    · intro wS hSw; (try dsimp only at hSw); go_simp; try with_reducible rfl
    try simp only [Act.put, List.setIfInBounds_toArray, List.set_cons_zero, List.set_cons_succ]
    refine wpAnyH_take (i := 12) (v := ?_) nthe12 (by kernel_rfl) (by kernel_rfl) (by kernel_rfl) (fun _ _ _ h => h) (Or.inl ⟨by rfl, ?_⟩) sH ?_
    rotate_left
    · intro wS hSw; (try dsimp only at hSw); go_simp; try with_reducible rfl
    try simp only [Act.put, List.setIfInBounds_toArray, List.set_cons_zero, List.set_cons_succ]
    refine wpAnyH_done (by kernel_rfl) ?_ _
    refine NoPanic.normal ?_
    go_wp2_with fail
    go_ret
    exact ⟨ret_b HL.out.symm, B2.trans (KZ.mono hw2)⟩
end Go.Proofs.YtfkacpphdnlkfaaGreat.mem

namespace Go.Proofs.YtfkacpphdnlkfaaGreat.mem
open Go.RowKit
set_option linter.unusedVariables false

end Go.Proofs.YtfkacpphdnlkfaaGreat.mem

namespace Go.Proofs.YtfkacpphdnlkfaaGreat.mem
open Go.RowKit
set_option linter.unusedVariables false

end Go.Proofs.YtfkacpphdnlkfaaGreat.mem

namespace Go.Proofs.YtfkacpphdnlkfaaGreat.mem
open Go.RowKit
set_option linter.unusedVariables false

end Go.Proofs.YtfkacpphdnlkfaaGreat.mem

namespace Go.Proofs.YtfkacpphdnlkfaaGreat.mem
open Go.RowKit
set_option linter.unusedVariables false

end Go.Proofs.YtfkacpphdnlkfaaGreat.mem

namespace Go.Proofs.YtfkacpphdnlkfaaGreat.mem
open Go.RowKit
set_option linter.unusedVariables false

theorem cfN_le2 (n : Nat) (N : Nat → Nod) (m : Nat) (P : Nat → Pip) (K : Nat) (d : Nat → Int) (hm : m ≤ 2000000) : cfN n N m P K d ≤ 2000000 := by
  have := chN_le n P m
  unfold cfN
  split <;> omega
end Go.Proofs.YtfkacpphdnlkfaaGreat.mem
