/-
  Several texts in one: Lss, Lsl, Lsq, Lst.
-/
import Derived.Test.YtdbgcbkmcbgdiaaGreatRows
import Derived.Test.YtdbgcbkmcbgdiaaGreatBsM
import Derived.Test.YtdbgcbkmcbgdiaaGreatTvM
import Derived.IntWalk
import Derived.Deep.RegionHeld3
namespace Go.Proofs.YtdbgcbkmcbgdiaaGreat.mem
open Go.RowKit
set_option linter.unusedVariables false

theorem l01Signed_any (x : Int) (w : World) (h0 : -30000 ≤ x) (h1 : x ≤ 30000) : Calls Tryz.prog 157 #[.int .i64 x] w fun e w' => e = .returned (.int .i64 (x * (x.natAbs : Int))) ∧ w = w' := by
  obtain ⟨s0, s1⟩ := sq_bnd h0 h1
  have e : (30000 : Int) * 30000 = 900000000 := by decide
  rw [e] at s0 s1
  have W1 : IntKind.i64.wrap (x * (x.natAbs : Int)) = x * (x.natAbs : Int) := IntWalk.i64_in _ (by omega)
  clear e s0 s1
  go_enter Tryz.func157, Tryz.ntmps157
  go_wp2_with (go_at_call 126; refine (absS_any _ _ (by omega) (by omega)).mono ?_; rintro e w' ⟨rfl, rfl⟩)
  go_ret
  exact ⟨by first | rfl | (rw [W1]; rfl), rfl⟩
set_option maxRecDepth 100000 in
set_option maxHeartbeats 4000000 in
theorem l07Drop_any (w : World) (v : Value) (n : Nat) (N : Nat → Nod) (m : Nat) (P : Nat → Pip) (lo hi : Nat) (h : NetAt w v n N m P lo hi) (hhi : hi ≤ w.heap.size) (hB : netB n N m P = true) (a : Nat) (ha : a < m) (x : Int) (h0 : -30000 ≤ x) (h1 : x ≤ 30000) :
    Calls Tryz.prog 119 #[v, .int .i64 (a : Nat), .int .i64 x] w fun e w' => e = .returned (.int .i64 (drp (P a) x)) ∧ Below w.heap.size w w' := by
  obtain ⟨p0, c0, p1, c1, rfl, hn9, hm9⟩ := h.parts
  have hd := drp_bnd (net_pip hB ha) h0 h1
  have W2 : IntKind.i64.wrap ((P a).k * (x * (x.natAbs : Int))) = drp (P a) x := IntWalk.i64_in _ (by unfold drp at hd; omega)
  have A0 := boxed w (.slice p0 n c0) (.slice p1 m c1) 27
  have B0 := below_new w (.cells #[.slice p0 n c0, .slice p1 m c1] 27)
  obtain ⟨bp, op, rfl, q1, q2, r0, r1, r2, r3, r4⟩ := (h.below B0 hhi).pipe ha
  have e0 := A0.b0
  have e1 := A0.b1
  have a0 : (0 : Int) ≤ (a : Int) := Int.natCast_nonneg _
  have a1 : (a : Int) < (m : Int) := by omega
  have HBB := Lib.hid B0
  clear h hB hd B0 A0
  go_enter Tryz.func119, Tryz.ntmps119
  go_wp2_with fail
  go_quiet ((go_at_call 157; exact Calls.quiet_of_same ((l01Signed_any _ _ (by omega) (by omega)).mono fun e w' h => ⟨h.1, h.2.symm⟩)))
  go_wp2_with fail
  go_ret
  exact ⟨rfl, below_drN1 HBB.out _⟩

end Go.Proofs.YtdbgcbkmcbgdiaaGreat.mem

namespace Go.Proofs.YtdbgcbkmcbgdiaaGreat.mem
open Go.RowKit
set_option linter.unusedVariables false

/-- the levels of the nodes visited so far -/
def lvK (fs : List Vs) (lv : Int → Int) (k : Nat) (j : Nat) : Int := if vhas (fs.take k) ((j : Nat) : Int) = true then lv ((j : Nat) : Int) else 0
theorem lvK_step {fs : List Vs} {lv : Int → Int} {k Z : Nat} {v : Vs} (hv : fs[k]? = some v) (hz : v.nd = ((Z : Nat) : Int)) (j : Nat) : upd (lvK fs lv k) Z (lv (Z : Nat)) j = lvK fs lv (k + 1) j := by
  unfold upd lvK
  rw [take_one hv, vhas_app, hz]
  by_cases e : j = Z
  · subst e; simp
  · rw [if_neg e]
    have e2 : (((Z : Nat) : Int) == ((j : Nat) : Int)) = false := by simp; omega
    rw [e2, Bool.or_false]
/-- a visit behind the first: the pipe that it came by, and the node before it -/
theorem vis_back {n : Nat} {N : Nat → Nod} {P : Nat → Pip} {m : Nat} (hN : netB n N m P = true) {X : Nat} (hX : X < n) {k : Nat} (h0 : 0 < k) (hk : k < (vis n (frP n P m) (forest n P m).length (X : Nat)).length) :
    ∃ (v : Vs) (Z U j b : Nat), (vis n (frP n P m) (forest n P m).length (X : Nat))[k]? = some v ∧ v.nd = ((Z : Nat) : Int) ∧ Z < n ∧ U < n ∧ j < (forest n P m).length ∧ b < m ∧ inF n P m (fl (rts n P m) n) b = true ∧ lD (forest n P m) j = ((b : Nat) : Int) ∧ frP n P m j = P b ∧
      vval (·.en) (vis n (frP n P m) (forest n P m).length (X : Nat)) (Z : Nat) = ((j : Nat) : Int) ∧ othV (frP n P m j) (Z : Nat) = ((U : Nat) : Int) ∧ endB (frP n P m j) (Z : Nat) = true ∧ vhas ((vis n (frP n P m) (forest n P m).length (X : Nat)).take k) (U : Nat) = true ∧ U ≠ Z ∧ vhas ((vis n (frP n P m) (forest n P m).length (X : Nat)).take k) (Z : Nat) = false := by
  have hT := net_forest hN
  have ok := vis_ok (P := frP n P m) (m := (forest n P m).length) (x := ((X : Nat) : Int)) hT (by omega)
  generalize hfs : vis n (frP n P m) (forest n P m).length (X : Nat) = fs at *
  have hv : fs[k]? = some fs[k] := List.getElem?_eq_getElem hk
  obtain ⟨i, u, j, hi, hu, hj, hen, he, hn, _⟩ := ok.par k _ h0 hv
  have rv := ok.rng _ (List.mem_of_getElem? hv)
  have ru := ok.rng _ (List.mem_of_getElem? hu)
  obtain ⟨Z, hZ⟩ := Int.eq_ofNat_of_zero_le rv.1
  obtain ⟨U, hU⟩ := Int.eq_ofNat_of_zero_le ru.1
  obtain ⟨b, hb, hbF, hbL, _, hFb⟩ := forest_at hj
  obtain ⟨o1, o2, o3⟩ := oth_oth (net_pip hT hj) he
  have hnt := ok.has_take hv
  refine ⟨fs[k], Z, U, j, b, hv, hZ, by omega, by omega, hj, hb, hbF, hbL, hFb, ?_, ?_, ?_, ?_, ?_, ?_⟩
  · rw [← hZ, ok.val (·.en) hv]; exact hen
  · rw [← hZ, hn, o1]; exact hU
  · rw [← hZ, hn]; exact o2
  · have : (fs.take k)[i]? = some u := by rw [List.getElem?_take_of_lt hi]; exact hu
    rw [← hU]
    exact get_vhas this
  · intro e
    subst e
    exact o3 (by rw [← hn, hZ, hU])
  · rw [← hZ]; exact hnt
set_option maxRecDepth 100000 in
set_option maxHeartbeats 8000000 in
theorem l07Levels_any (w : World) (v : Value) (n : Nat) (N : Nat → Nod) (m : Nat) (P : Nat → Pip) (lo hi : Nat) (h : NetAt w v n N m P lo hi) (hhi : hi ≤ w.heap.size) (hN : ∀ i, i < n → (N i).s.size ≤ 9223372036854775807) (hB : netB n N m P = true) (hone : cnt n P m = 1) (va : Value) (x : Nat → Int) (la ha : Nat) (hv : Sl w va m x la ha) (hha : ha ≤ w.heap.size) (hx : ∀ a, a < m → -30000 ≤ x a ∧ x a ≤ 30000) (X0 : Nat) (hX : X0 < n) (level : Int) (hl0 : -1000000000000000000 ≤ level) (hl1 : level ≤ 1000000000000000000) :
    Calls Tryz.prog 65 #[v, va, .int .i64 (X0 : Nat), .int .i64 level] w fun e w' => ∃ v2 g, e = .returned v2 ∧ Own w' v2 n (fun j => lvl n P m x (X0 : Nat) level (j : Nat)) g ∧ w.heap.size ≤ g ∧ Below w.heap.size w w' := by
  obtain ⟨p0, c0, p1, c1, rfl, hn9, hm9⟩ := h.parts
  obtain ⟨hn1, hn24, hm40⟩ := net_sz hB
  have hfm := forest_le n P m
  obtain ⟨pa, ca, rfl⟩ := hv.sh
  have HV := Lib.hid h
  have HN := Lib.hid hN
  have HB := Lib.hid hB
  have HS := Lib.hid hv
  have HX := Lib.hid hx
  have HTB := Lib.hid (net_forest hB)
  have HBACK := Lib.hid (fun (k : Nat) (h0 : 0 < k) (hk : k < (vis n (frP n P m) (forest n P m).length (X0 : Nat)).length) => vis_back hB hX h0 hk)
  have HALL := Lib.hid (fun (j : Nat) (hj : j < n) => vis_all (P := frP n P m) (m := (forest n P m).length) (net_forest hB) (by rw [cnt_forest hB]; exact hone) (x := ((X0 : Nat) : Int)) (y := ((j : Nat) : Int)) ⟨Int.natCast_nonneg _, by omega⟩ ⟨Int.natCast_nonneg _, by omega⟩)
  have HST := Lib.hid (fun (a : Nat) (ha : a < m) (hf : inF n P m (fl (rts n P m) n) a = true) (z : Int) (hz : endB (P a) z = true) => lvl_step (x := x) (root := ((X0 : Nat) : Int)) (level := level) hB ha hf hz)
  have HBD := Lib.hid (fun (j : Nat) (hj : j < n) => lvl_bnd (x := x) (root := ((X0 : Nat) : Int)) (level := level) (z := ((j : Nat) : Int)) hB hn24 hx ⟨Int.natCast_nonneg _, by omega⟩ ⟨Int.natCast_nonneg _, by omega⟩)
  have HRT := Lib.hid (lvl_root n P m x ((X0 : Nat) : Int) level)
  have HOK := Lib.hid (vis_ok (P := frP n P m) (m := (forest n P m).length) (x := ((X0 : Nat) : Int)) (net_forest hB) (by omega))
  have HDR := Lib.hid (fun (a : Nat) (ha : a < m) => drp_bnd (net_pip hB ha) (hx a ha).1 (hx a ha).2)
  have A0 := boxed w (.slice p0 n c0) (.slice p1 m c1) 27
  have B0 := below_new w (.cells #[.slice p0 n c0, .slice p1 m c1] 27)
  have hs0 : (w.alloc (.cells #[.slice p0 n c0, .slice p1 m c1] 27)).heap.size = w.heap.size + 1 := by simp
  have e0 := A0.b0
  have e1 := A0.b1
  clear h hN hB hv hx hone
  go_enter Tryz.func65, Tryz.ntmps65
  go_wp2_with fail
  refine (l05Tree_any _ _ n N m P lo hi (HV.out.below B0 hhi) (by omega) HN.out HB.out).mono ?_
  rintro e w1 ⟨u1, u2, u3, u4, vf, gf, rfl, ⟨gR, tn, tp, hgR⟩, oi, hgf, b1⟩
  obtain ⟨ci, rfl⟩ := oi.shape
  have hgf' : w.heap.size + 1 ≤ gf := by omega
  have hgR' : w.heap.size + 1 ≤ gR ∨ (forest n P m).length = 0 := by
    rcases hgR with h | h
    · left; omega
    · exact .inr h
  have A1 := A0.below b1 (by omega)
  have B1 := B0.trans (b1.mono (by omega))
  have hs1 : w.heap.size + 1 ≤ w1.heap.size := by have := b1.size; omega
  have b2 := below_new w1 (.cells #[.slice u1 n u2, .slice u3 (forest n P m).length u4] 27)
  have T2 := boxed w1 (.slice u1 n u2) (.slice u3 (forest n P m).length u4) 27
  have hs2 : (w1.alloc (.cells #[.slice u1 n u2, .slice u3 (forest n P m).length u4] 27)).heap.size = w1.heap.size + 1 := by simp
  have li := oi.lt
  have HA := Lib.hid (A1.below b2 (by omega))
  have HBB := Lib.hid (B1.trans (b2.mono (by omega)))
  have HTN2 := Lib.hid (tn.below b2 (by omega))
  have HTP2 := Lib.hid (tp.below b2 (Nat.le_refl _))
  have HI := Lib.hid (oi.below b2 (Nat.le_refl _))
  have hgR4 : gR < w1.heap.size ∨ (forest n P m).length = 0 := tp.lt.symm
  have H6 := Lib.hid T2
  clear A0 B0 b1 A1 B1 b2 tn tp oi T2 e0 e1 hgR hgf
  have e0 := H6.out.b0
  have e1 := H6.out.b1
  go_wp2_with fail
  obtain ⟨w2, hw2⟩ : ∃ w2, w1.alloc (.cells #[.slice u1 n u2, .slice u3 (forest n P m).length u4] 27) = w2 := ⟨_, rfl⟩
  rw [hw2] at HA HBB HTN2 HTP2 HI H6 hs2 e0 e1 ⊢
  clear hw2 e0 e1
  have hwz : w.heap.size ≤ w2.heap.size := by omega
  have hwn : hi ≤ w2.heap.size := by omega
  refine (l04Search_any w2 _ n N (forest n P m).length (frP n P m) 0 w2.heap.size (treeAt HTN2.out HTP2.out hwn) (Nat.le_refl _) HN.out HTB.out X0 hX).mono ?_
  rintro e w3 ⟨vo, go, rfl, oe, oo, hgo, b3⟩
  obtain ⟨co, rfl⟩ := oo.shape
  have hs3 := b3.size
  obtain ⟨ge, hge⟩ : ∃ ge, w2.heap.size + 1 = ge := ⟨_, rfl⟩
  rw [hge] at oe ⊢
  have hge1 := Nat.le_antisymm_iff.1 hge
  have hs2' := Nat.le_antisymm_iff.1 hs2
  clear hge hs2
  have loe := oe.lt
  have loo := oo.lt
  have HA3 := Lib.hid (HA.out.below b3 (by omega))
  have HB3 := Lib.hid (HBB.out.trans (b3.mono hwz))
  have HTN3 := Lib.hid (HTN2.out.below b3 hwn)
  have HTP3 := Lib.hid (HTP2.out.below b3 (Nat.le_refl _))
  have HI3 := Lib.hid (HI.out.below b3 (Nat.le_refl _))
  have H63 := Lib.hid (H6.out.below b3 (by omega))
  have HE3 := Lib.hid oe
  have HO3 := Lib.hid oo
  have e0 := HA3.out.b0
  have e1 := HA3.out.b1
  have m1 := fun W => make_int64 W n (by omega)
  have zs : (zeros n).size = n := by unfold zeros; simp [madeCells]
  have k0 : (0 : Int) ≤ (X0 : Int) := Int.natCast_nonneg _
  have k1 : (X0 : Int) < (n : Int) := by omega
  have m0 : (0 : Int) ≤ (n : Int) := Int.natCast_nonneg _
  clear HA HBB HTN2 HTP2 HI H6 oe oo
  go_wp2_with fail
  have O4 := Own.made1 w3 n X0 level (by omega) hX
  have b4 := below_new w3 (.cells ((zeros n).setIfInBounds X0 (.int .i64 level)) 2)
  have hs4 : (w3.alloc (.cells ((zeros n).setIfInBounds X0 (.int .i64 level)) 2)).heap.size = w3.heap.size + 1 := by simp
  have HA4 := Lib.hid (HA3.out.below b4 (by omega))
  have HB4 := Lib.hid (HB3.out.trans (b4.mono (by omega)))
  have HTN4 := Lib.hid (HTN3.out.below b4 (by omega))
  have HTP4 := Lib.hid (HTP3.out.below b4 (Nat.le_refl _))
  have HI4 := Lib.hid (HI3.out.below b4 (Nat.le_refl _))
  have H64 := Lib.hid (H63.out.below b4 (by omega))
  have HE4 := Lib.hid (HE3.out.below b4 (by omega))
  have HO4 := Lib.hid (HO3.out.below b4 (Nat.le_refl _))
  have HW4 := Lib.hid O4
  clear HA3 HB3 HTN3 HTP3 HI3 H63 HE3 HO3 O4 b4 b3 e0 e1 m1
  obtain ⟨w4, hw4⟩ : ∃ w4, w3.alloc (.cells ((zeros n).setIfInBounds X0 (.int .i64 level)) 2) = w4 := ⟨_, rfl⟩
  rw [hw4] at HA4 HB4 HTN4 HTP4 HI4 H64 HE4 HO4 HW4 hs4 ⊢
  clear hw4
  have hpl := HOK.out.len
  obtain ⟨fs, hfs⟩ : ∃ fs, vis n (frP n P m) (forest n P m).length ((X0 : Nat) : Int) = fs := ⟨_, rfl⟩
  rw [hfs] at HBACK HALL HOK HE4 HO4 hpl ⊢
  have HFS := Lib.hid hfs
  have hf0 := HOK.out.fst
  have hfl : 0 < fs.length := get_lt hf0
  have HF0 := Lib.hid hf0
  obtain ⟨gw, hgw⟩ : ∃ gw, w3.heap.size = gw := ⟨_, rfl⟩
  rw [hgw] at HW4 ⊢
  have hgw1 := Nat.le_antisymm_iff.1 hgw
  clear hgw hfs hf0
  go_loopw [14] (fun iv wr => ∃ (k : Nat), iv = .int .i64 k ∧ 1 ≤ k ∧ k ≤ fs.length ∧ Own wr (.slice (some ⟨gw, 0, none⟩) n n) n (lvK fs (lvl n P m x (X0 : Nat) level) k) gw ∧ Upd (fun q => q = gw) w4 wr) (fun iv _ => fs.length - (intOf iv).toNat)
  case atStart =>
    refine ⟨1, rfl, Nat.le_refl _, hfl, HW4.out.congr (fun j _ => ?_), Upd.refl _ _⟩
    unfold lvK upd
    rw [show fs.take 1 = [⟨X0, -1, 0⟩] by
      have := take_one (i := 0) HF0.out
      simpa using this]
    by_cases e : j = X0
    · subst e
      rw [if_pos rfl, HRT.out]
      simp [vhas]
    · rw [if_neg e]
      have : vhas [⟨((X0 : Nat) : Int), -1, 0⟩] ((j : Nat) : Int) = false := by simp [vhas]; omega
      rw [this]
      rfl
  case round =>
    obtain ⟨k, rfl, hk1, hk, ho, hu⟩ := hrel
    have HOW := Lib.hid ho
    have HU := Lib.hid hu
    have hsz := hu.size
    clear ho hu HW4
    have k0' : (0 : Int) ≤ (k : Int) := Int.natCast_nonneg _
    generalize hQ : Exit.then _ _ = Q
    have HQ := Lib.hid hQ
    clear hQ
    by_cases hlt : k < fs.length
    · have k1' : (k : Int) < (fs.length : Int) := by omega
      obtain ⟨vv, Z, U, j, b, hvk, hvz, hZn, hUn, hjL, hbm, hbF, hbL, hFb, hen, hoU, heZ, hvU, hUZ, hvZ⟩ := HBACK.out k hk1 hlt
      have j0 : (0 : Int) ≤ (j : Int) := Int.natCast_nonneg _
      have j1 : (j : Int) < ((forest n P m).length : Int) := by omega
      have z0 : (0 : Int) ≤ (Z : Int) := Int.natCast_nonneg _
      have z1 : (Z : Int) < (n : Int) := by omega
      have u0 : (0 : Int) ≤ (U : Int) := Int.natCast_nonneg _
      have u1' : (U : Int) < (n : Int) := by omega
      have b0' : (0 : Int) ≤ (b : Int) := Int.natCast_nonneg _
      have b1' : (b : Int) < (m : Int) := by omega
      have HLAST := Lib.hid (fun j => lvK_step (lv := lvl n P m x (X0 : Nat) level) hvk hvz j)
      have hlu : lvK fs (lvl n P m x (X0 : Nat) level) k U = lvl n P m x (X0 : Nat) level (U : Nat) := by unfold lvK; rw [if_pos hvU]
      have hst := HST.out b hbm hbF (Z : Nat) (by rw [← hFb]; exact heZ)
      rw [← hFb, hoU] at hst
      obtain ⟨d0, d1⟩ := HDR.out b hbm
      obtain ⟨lz0, lz1⟩ := HBD.out Z hZn
      obtain ⟨lu0, lu1⟩ := HBD.out U hUn
      obtain ⟨x0, x1⟩ := HX.out b hbm
      have hwr : w4.heap.size ≤ wr.heap.size := hsz
      have HBW := Lib.hid (HB4.out.trans (HU.out.below (B := w.heap.size) (by omega) (fun q _ hq => by omega)))
      have yo : wr.cell? ⟨go, k, none⟩ = some (.int .i64 (Z : Nat)) := by
        have h1 := (HO4.out.keep (HU.out.block go (by omega) (by omega))).row.cell k hlt
        unfold ordD at h1
        rw [hvk] at h1
        simpa [hvz] using h1
      have ye : wr.cell? ⟨ge, Z, none⟩ = some (.int .i64 (j : Nat)) := by
        have h1 := (HE4.out.keep (HU.out.block ge (by omega) (by omega))).cell Z hZn
        unfold tabC at h1
        rwa [hen] at h1
      have yi : wr.cell? ⟨gf, j, none⟩ = some (.int .i64 (b : Nat)) := by
        have h1 := (HI4.out.keep (HU.out.block gf (by omega) (by omega))).row.cell j hjL
        rwa [hbL] at h1
      obtain ⟨p', c', ee, hxx⟩ := (HS.out.below HBW.out hha).ex
      injection ee with ee1 _ ee3
      subst ee1 ee3
      obtain ⟨ba, oa, rfl, g1, g2, hxx⟩ : ∃ b o, pa = some ⟨b, o, none⟩ ∧ la ≤ b ∧ b < ha ∧ ∀ k, k < m → wr.cell? ⟨b, o + k, none⟩ = some (.int .i64 (x k)) := by
        rcases hxx with e | e
        · omega
        · exact e
      have yx := hxx b hbm
      have A4r := HA4.out.keep (HU.out.block w.heap.size (by omega) (by omega))
      have T4r := H64.out.keep (HU.out.block w1.heap.size (by omega) (by omega))
      have f0 := A4r.b0
      have f1 := A4r.b1
      have t0 := T4r.b0
      have t1 := T4r.b1
      have NTR := Lib.hid (treeAt (HTN4.out.upd HU.out (by omega) (fun q _ hq => by omega)) (HTP4.out.upd HU.out (by
        rcases hgR4 with g | g
        · exact .inr (by omega)
        · exact .inl g)) (show hi ≤ wr.heap.size by omega))
      obtain ⟨tb, tu, rfl, tq1, tq2, r0, _, _, _, _⟩ := NTR.out.pipe hjL
      have HYS := Lib.hid (sum_other (net_pip HTB.out hjL) heZ)
      have HPN := Lib.hid (net_pip HTB.out hjL)
      have HOZ := Lib.hid hoU
      have HSTE := Lib.hid hst
      have HFB := Lib.hid hFb
      have hAny : ∀ X : World, Below wr.heap.size wr X → X.cell? ⟨w.heap.size, 0, none⟩ = some (.slice p0 n c0) ∧ X.cell? ⟨w.heap.size, 1, none⟩ = some (.slice p1 m c1) ∧ X.cell? ⟨gf, j, none⟩ = some (.int .i64 (b : Nat)) ∧ X.cell? ⟨ba, oa + b, none⟩ = some (.int .i64 (x b)) := fun X h => ⟨(h.cell (p := ⟨w.heap.size, 0, none⟩) (by show w.heap.size < _; omega)).trans f0, (h.cell (p := ⟨w.heap.size, 1, none⟩) (by show w.heap.size < _; omega)).trans f1, (h.cell (p := ⟨gf, j, none⟩) (by show gf < _; omega)).trans yi, (h.cell (p := ⟨ba, oa + b, none⟩) (by show ba < _; omega)).trans yx⟩
      clear hvk hvz hbF hbL hFb hen hoU heZ hvU hvZ hst hxx A4r T4r
      go_wp2_with fail
      go_region_held3 (fun w' : World => w'.cell? ⟨w.heap.size, 0, none⟩ = some (.slice p0 n c0) ∧ w'.cell? ⟨w.heap.size, 1, none⟩ = some (.slice p1 m c1) ∧ w'.cell? ⟨gf, j, none⟩ = some (.int .i64 (b : Nat)) ∧ w'.cell? ⟨ba, oa + b, none⟩ = some (.int .i64 (x b)))
        (first | exact hAny _ (below_drw (Below.refl _ _)) | exact hAny _ KX)
        (first
          | (go_at_call 119; refine (l07Drop_any _ _ n N m P lo hi ((HV.out.below HBW.out hhi).drew) (show hi ≤ wr.heap.size by omega) HB.out b hbm _ x0 x1).mono ?_; rintro e wX ⟨rfl, hb5⟩; have KX := below_dr0 hb5))
      have zX := KX.size
      have HOX := Lib.hid (HOW.out.keep (KX.block gw (by omega)))
      have HUX := Lib.hid (HU.out.trans (Upd.of_below KX))
      have q0 := (KX.cell (p := ⟨w1.heap.size, 0, none⟩) (by show w1.heap.size < _; omega)).trans t0
      have q1 := (KX.cell (p := ⟨w1.heap.size, 1, none⟩) (by show w1.heap.size < _; omega)).trans t1
      have q2 := (KX.cell (p := ⟨tb, tu + j * 5, none⟩) (by show tb < _; omega)).trans r0
      clear hAny KX hb5 f0 f1 yi yx yo ye t0 t1 r0
      obtain ⟨wx, hwx⟩ : ∃ w', w' = wX := ⟨_, rfl⟩
      subst hwx
      have hwx4 : w4.heap.size ≤ wx.heap.size := by omega
      have NTX := Lib.hid (treeAt (HTN4.out.upd HUX.out (by omega) (fun q _ hq => by omega)) (HTP4.out.upd HUX.out (by
        rcases hgR4 with g | g
        · exact .inr (by omega)
        · exact .inl g)) (show hi ≤ wx.heap.size by omega))
      have hn5 : n ≤ 2000000 := by omega
      have hL5 : (forest n P m).length ≤ 2000000 := by omega
      have hzr : inR ((Z : Nat) : Int) 0 (n - 1) = true := inR_iff.2 ⟨by omega, by omega⟩
      go_wp2_with fail
      refine (l02Other_any _ _ n N (forest n P m).length (frP n P m) 0 wx.heap.size NTX.out (Nat.le_refl _) HN.out hL5 j hjL (Z : Int) HPN.out hn5 hzr).mono ?_
      rintro e wy ⟨rfl, hb6⟩
      rw [HYS.out, HOZ.out]
      have zY := hb6.size
      have s1 := (hb6.cell (p := ⟨w1.heap.size, 1, none⟩) (by show w1.heap.size < _; omega)).trans q1
      have s2 := (hb6.cell (p := ⟨tb, tu + j * 5, none⟩) (by show tb < _; omega)).trans q2
      have HOY := Lib.hid (HOX.out.keep (hb6.block gw (by omega)))
      have HUY := Lib.hid (HUX.out.trans (Upd.of_below hb6))
      have v1 : wy.cell? ⟨gw, U, none⟩ = some (.int .i64 (lvl n P m x (X0 : Nat) level (U : Nat))) := by
        have := HOY.out.row.cell U hUn
        rwa [hlu] at this
      have v2 := HOY.out.row.cell Z hZn
      have v3 := HOY.out.free Z
      clear hb6 q0 q1 q2
      by_cases hcase : (frP n P m j).f = ((Z : Nat) : Int)
      ·
        have hb1 : ((frP n P m j).f == ((Z : Nat) : Int)) = true := by simp [hcase]
        have hsg : sgn (frP n P m j) ((Z : Nat) : Int) = 1 := by unfold sgn; rw [if_pos hcase]
        have hlz : lvl n P m x (X0 : Nat) level (U : Nat) + drp (P b) (x b) = lvl n P m x (X0 : Nat) level (Z : Nat) := by
          have h1 := HSTE.out
          rw [hsg, HFB.out] at h1
          omega
        have HLZ := Lib.hid hlz
        have o1 := (Only.refl gw wy).setCell Z (.int .i64 (lvl n P m x (X0 : Nat) level (U : Nat) + drp (P b) (x b)))
        have O1 := HOY.out.put1 Z (lvl n P m x (X0 : Nat) level (U : Nat) + drp (P b) (x b)) hZn
        rw [hlz] at o1 O1
        have HO1 := Lib.hid (O1.congr (e := lvK fs (lvl n P m x (X0 : Nat) level) (k + 1)) (fun j _ => HLAST.out j))
        have HU1 := Lib.hid (HUY.out.trans (Upd.of_only o1))
        have hw1 : lvl n P m x (X0 : Nat) level (U : Nat) + drp (P b) (x b) ≤ 9000000000000000000 := by omega
        have hw2 : -9000000000000000000 ≤ lvl n P m x (X0 : Nat) level (U : Nat) + drp (P b) (x b) := by omega
        clear hcase hsg hlz o1 O1
        go_wp2_with fail
        rw [HLZ.out]
        rw [← HQ.out]
        refine ⟨⟨_, _, _, _, _, _, _, _, _, _, _, _, _, _, _, _, _, _, _, _, _, _, _, _, _, _, _, _, _, _, _, _, _, _, _, _, _, _, _, _, _, _, _, _, _, _, _, _, _, _, _, _, _, _, _, _, _, _, _, _, _, _, ?rel, rfl⟩, ?measure⟩
        case rel => exact ⟨k + 1, by go_num, by omega, hlt, HO1.out, HU1.out⟩
        case measure => simp [intOf]; omega
      ·
        have hb1 : ((frP n P m j).f == ((Z : Nat) : Int)) = false := by simp [hcase]
        have hsg : sgn (frP n P m j) ((Z : Nat) : Int) = -1 := by unfold sgn; rw [if_neg hcase]
        have hlz : lvl n P m x (X0 : Nat) level (U : Nat) - drp (P b) (x b) = lvl n P m x (X0 : Nat) level (Z : Nat) := by
          have h1 := HSTE.out
          rw [hsg, HFB.out] at h1
          omega
        have HLZ := Lib.hid hlz
        have o1 := (Only.refl gw wy).setCell Z (.int .i64 (lvl n P m x (X0 : Nat) level (U : Nat) - drp (P b) (x b)))
        have O1 := HOY.out.put1 Z (lvl n P m x (X0 : Nat) level (U : Nat) - drp (P b) (x b)) hZn
        rw [hlz] at o1 O1
        have HO1 := Lib.hid (O1.congr (e := lvK fs (lvl n P m x (X0 : Nat) level) (k + 1)) (fun j _ => HLAST.out j))
        have HU1 := Lib.hid (HUY.out.trans (Upd.of_only o1))
        have hw1 : lvl n P m x (X0 : Nat) level (U : Nat) - drp (P b) (x b) ≤ 9000000000000000000 := by omega
        have hw2 : -9000000000000000000 ≤ lvl n P m x (X0 : Nat) level (U : Nat) - drp (P b) (x b) := by omega
        clear hcase hsg hlz o1 O1
        go_wp2_with fail
        rw [HLZ.out]
        rw [← HQ.out]
        refine ⟨⟨_, _, _, _, _, _, _, _, _, _, _, _, _, _, _, _, _, _, _, _, _, _, _, _, _, _, _, _, _, _, _, _, _, _, _, _, _, _, _, _, _, _, _, _, _, _, _, _, _, _, _, _, _, _, _, _, _, _, _, _, _, _, ?rel, rfl⟩, ?measure⟩
        case rel => exact ⟨k + 1, by go_num, by omega, hlt, HO1.out, HU1.out⟩
        case measure => simp [intOf]; omega
    · have hkn : fs.length = k := by omega
      have k1' : ¬ ((k : Int) < (fs.length : Int)) := by omega
      have HOF := Lib.hid (HOW.out.congr (e := fun j => lvl n P m x (X0 : Nat) level (j : Nat)) (fun j hj => by
        unfold lvK
        rw [← hkn, List.take_length, if_pos (HALL.out j hj)]))
      have HBF := Lib.hid (HB4.out.trans (HU.out.below (show w.heap.size ≤ w4.heap.size by omega) (fun q _ hq => by omega)))
      clear hkn
      go_wp2_with fail
      rw [← HQ.out]
      go_wp2_with fail
      go_ret
      exact ⟨_, gw, rfl, HOF.out, by omega, HBF.out⟩
end Go.Proofs.YtdbgcbkmcbgdiaaGreat.mem

namespace Go.Proofs.YtdbgcbkmcbgdiaaGreat.mem
open Go.RowKit
set_option linter.unusedVariables false

theorem l07Level_any (x : Int) (w : World) : Calls Tryz.prog 64 #[.int .i64 x] w fun e w' => e = .returned (.bool (rlB x)) ∧ w = w' := by
  unfold rlB
  go_enter Tryz.func64, Tryz.ntmps64
  go_wp2_with (go_at_call 117; refine (l01In_any _ _ _ _).mono ?_; rintro e w' ⟨rfl, rfl⟩)
  go_ret
  exact ⟨rfl, rfl⟩
end Go.Proofs.YtdbgcbkmcbgdiaaGreat.mem

namespace Go.Proofs.YtdbgcbkmcbgdiaaGreat.mem
open Go.RowKit
set_option linter.unusedVariables false

end Go.Proofs.YtdbgcbkmcbgdiaaGreat.mem
