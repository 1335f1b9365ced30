/-
  Several texts in one, part 5 of 6.
-/
import Derived.Test.YtdbgcbkmcbgdiaaGreatRows
import Derived.WalkKit
import Derived.ProofKit
import Derived.OpenShut
import Derived.Below
import Derived.ChangeSame
import Derived.ChangeSlices
import Derived.WideKeyArgs
import Derived.Lib.Hide
import Derived.RegionTactic
import Derived.BigRegion
import Derived.Deep.QuietTactic
import Derived.BigQuiet
import Derived.Outline
import Derived.OwnWalk
import Derived.Deep.RegionHeld3
import Derived.WalkSpells
import Derived.Maps.OwnSet
import Derived.Maps.OwnOps
import Derived.Deep.RegionHeldLaw
import Derived.Lib.ItoaNum
import Derived.Laws.IdiomStrings
import Derived.Lib.SmallJoins
import Derived.Deep.Slices
import Derived.Deep.Fields
import Derived.Laws.AppendOwn
import Derived.RangeFuncNested
import Derived.RangeFuncLeaves
import Derived.RangeFuncCalls
import Derived.Laws.CopyOwn
import Derived.Deep.Cut
import Derived.Deep.RegionLaw
import Derived.LoopIn
import Derived.TacticsIn
import Derived.RegionIn
import Derived.Shelf.SlicesE.Reverse
import Derived.Test.YtdbgcbkmcbgdiaaGreatLsr
import Derived.OwnWalkIn
import Derived.Sort.Grow
import Derived.Deep.WholeRow
import Derived.WalkMore
import Derived.Deep.MidRow
import Derived.Great.BuildSlice
import Derived.Deep.CutRange
import Derived.Deep.RegionWith
import Derived.Laws.StructEq
import Derived.StillTailTactics
import Derived.IntWalk
import Derived.Laws.EntriesVeiled
import Derived.Laws.ResultCell
import Derived.WideShapes
import Derived.Lib.MinMax
import Derived.Test.YtdbgcbkmcbgdiaaGreatLPr4

namespace Go.Proofs.YtdbgcbkmcbgdiaaGreat.mem
open Go.RowKit
set_option linter.unusedVariables false

theorem l01Signed_any (x : Int) (w : World) (h0 : -30000 ≤ x) (h1 : x ≤ 30000) : Calls Tryz.prog 157 #[.int .i64 x] w fun e w' => e = .returned (.int .i64 (x * (x.natAbs : Int))) ∧ w = w' := by
  obtain ⟨s0, s1⟩ := sq_bnd h0 h1
  have e : (30000 : Int) * 30000 = 900000000 := by decide
  rw [e] at s0 s1
  have W1 : IntKind.i64.wrap (x * (x.natAbs : Int)) = x * (x.natAbs : Int) := IntWalk.i64_in _ (by omega)
  clear e s0 s1
  go_enter Tryz.func157, Tryz.ntmps157
  go_wp2_with (go_at_call 126; refine (absS_any _ _ (by omega) (by omega)).mono ?_; rintro e w' ⟨rfl, rfl⟩)
  go_ret
  exact ⟨by first | rfl | (rw [W1]; rfl), rfl⟩
set_option maxRecDepth 100000 in
set_option maxHeartbeats 4000000 in
theorem l07Drop_any (w : World) (v : Value) (n : Nat) (N : Nat → Nod) (m : Nat) (P : Nat → Pip) (lo hi : Nat) (h : NetAt w v n N m P lo hi) (hhi : hi ≤ w.heap.size) (hB : netB n N m P = true) (a : Nat) (ha : a < m) (x : Int) (h0 : -30000 ≤ x) (h1 : x ≤ 30000) :
    Calls Tryz.prog 119 #[v, .int .i64 (a : Nat), .int .i64 x] w fun e w' => e = .returned (.int .i64 (drp (P a) x)) ∧ Below w.heap.size w w' := by
  obtain ⟨p0, c0, p1, c1, rfl, hn9, hm9⟩ := h.parts
  have hd := drp_bnd (net_pip hB ha) h0 h1
  have W2 : IntKind.i64.wrap ((P a).k * (x * (x.natAbs : Int))) = drp (P a) x := IntWalk.i64_in _ (by unfold drp at hd; omega)
  have A0 := boxed w (.slice p0 n c0) (.slice p1 m c1) 27
  have B0 := below_new w (.cells #[.slice p0 n c0, .slice p1 m c1] 27)
  obtain ⟨bp, op, rfl, q1, q2, r0, r1, r2, r3, r4⟩ := (h.below B0 hhi).pipe ha
  have e0 := A0.b0
  have e1 := A0.b1
  have a0 : (0 : Int) ≤ (a : Int) := Int.natCast_nonneg _
  have a1 : (a : Int) < (m : Int) := by omega
  have HBB := Lib.hid B0
  clear h hB hd B0 A0
  go_enter Tryz.func119, Tryz.ntmps119
  go_wp2_with fail
  go_quiet ((go_at_call 157; exact Calls.quiet_of_same ((l01Signed_any _ _ (by omega) (by omega)).mono fun e w' h => ⟨h.1, h.2.symm⟩)))
  go_wp2_with fail
  go_ret
  exact ⟨rfl, below_drN1 HBB.out _⟩

end Go.Proofs.YtdbgcbkmcbgdiaaGreat.mem

namespace Go.Proofs.YtdbgcbkmcbgdiaaGreat.mem
open Go.RowKit
set_option linter.unusedVariables false

/-- the levels of the nodes visited so far -/
def lvK (fs : List Vs) (lv : Int → Int) (k : Nat) (j : Nat) : Int := if vhas (fs.take k) ((j : Nat) : Int) = true then lv ((j : Nat) : Int) else 0
theorem lvK_step {fs : List Vs} {lv : Int → Int} {k Z : Nat} {v : Vs} (hv : fs[k]? = some v) (hz : v.nd = ((Z : Nat) : Int)) (j : Nat) : upd (lvK fs lv k) Z (lv (Z : Nat)) j = lvK fs lv (k + 1) j := by
  unfold upd lvK
  rw [take_one hv, vhas_app, hz]
  by_cases e : j = Z
  · subst e; simp
  · rw [if_neg e]
    have e2 : (((Z : Nat) : Int) == ((j : Nat) : Int)) = false := by simp; omega
    rw [e2, Bool.or_false]
/-- a visit behind the first: the pipe that it came by, and the node before it -/
theorem vis_back {n : Nat} {N : Nat → Nod} {P : Nat → Pip} {m : Nat} (hN : netB n N m P = true) {X : Nat} (hX : X < n) {k : Nat} (h0 : 0 < k) (hk : k < (vis n (frP n P m) (forest n P m).length (X : Nat)).length) :
    ∃ (v : Vs) (Z U j b : Nat), (vis n (frP n P m) (forest n P m).length (X : Nat))[k]? = some v ∧ v.nd = ((Z : Nat) : Int) ∧ Z < n ∧ U < n ∧ j < (forest n P m).length ∧ b < m ∧ inF n P m (fl (rts n P m) n) b = true ∧ lD (forest n P m) j = ((b : Nat) : Int) ∧ frP n P m j = P b ∧
      vval (·.en) (vis n (frP n P m) (forest n P m).length (X : Nat)) (Z : Nat) = ((j : Nat) : Int) ∧ othV (frP n P m j) (Z : Nat) = ((U : Nat) : Int) ∧ endB (frP n P m j) (Z : Nat) = true ∧ vhas ((vis n (frP n P m) (forest n P m).length (X : Nat)).take k) (U : Nat) = true ∧ U ≠ Z ∧ vhas ((vis n (frP n P m) (forest n P m).length (X : Nat)).take k) (Z : Nat) = false := by
  have hT := net_forest hN
  have ok := vis_ok (P := frP n P m) (m := (forest n P m).length) (x := ((X : Nat) : Int)) hT (by omega)
  generalize hfs : vis n (frP n P m) (forest n P m).length (X : Nat) = fs at *
  have hv : fs[k]? = some fs[k] := List.getElem?_eq_getElem hk
  obtain ⟨i, u, j, hi, hu, hj, hen, he, hn, _⟩ := ok.par k _ h0 hv
  have rv := ok.rng _ (List.mem_of_getElem? hv)
  have ru := ok.rng _ (List.mem_of_getElem? hu)
  obtain ⟨Z, hZ⟩ := Int.eq_ofNat_of_zero_le rv.1
  obtain ⟨U, hU⟩ := Int.eq_ofNat_of_zero_le ru.1
  obtain ⟨b, hb, hbF, hbL, _, hFb⟩ := forest_at hj
  obtain ⟨o1, o2, o3⟩ := oth_oth (net_pip hT hj) he
  have hnt := ok.has_take hv
  refine ⟨fs[k], Z, U, j, b, hv, hZ, by omega, by omega, hj, hb, hbF, hbL, hFb, ?_, ?_, ?_, ?_, ?_, ?_⟩
  · rw [← hZ, ok.val (·.en) hv]; exact hen
  · rw [← hZ, hn, o1]; exact hU
  · rw [← hZ, hn]; exact o2
  · have : (fs.take k)[i]? = some u := by rw [List.getElem?_take_of_lt hi]; exact hu
    rw [← hU]
    exact get_vhas this
  · intro e
    subst e
    exact o3 (by rw [← hn, hZ, hU])
  · rw [← hZ]; exact hnt
set_option maxRecDepth 100000 in
set_option maxHeartbeats 8000000 in
theorem l07Levels_any (w : World) (v : Value) (n : Nat) (N : Nat → Nod) (m : Nat) (P : Nat → Pip) (lo hi : Nat) (h : NetAt w v n N m P lo hi) (hhi : hi ≤ w.heap.size) (hN : ∀ i, i < n → (N i).s.size ≤ 9223372036854775807) (hB : netB n N m P = true) (hone : cnt n P m = 1) (va : Value) (x : Nat → Int) (la ha : Nat) (hv : Sl w va m x la ha) (hha : ha ≤ w.heap.size) (hx : ∀ a, a < m → -30000 ≤ x a ∧ x a ≤ 30000) (X0 : Nat) (hX : X0 < n) (level : Int) (hl0 : -1000000000000000000 ≤ level) (hl1 : level ≤ 1000000000000000000) :
    Calls Tryz.prog 65 #[v, va, .int .i64 (X0 : Nat), .int .i64 level] w fun e w' => ∃ v2 g, e = .returned v2 ∧ Own w' v2 n (fun j => lvl n P m x (X0 : Nat) level (j : Nat)) g ∧ w.heap.size ≤ g ∧ Below w.heap.size w w' := by
  obtain ⟨p0, c0, p1, c1, rfl, hn9, hm9⟩ := h.parts
  obtain ⟨hn1, hn24, hm40⟩ := net_sz hB
  have hfm := forest_le n P m
  obtain ⟨pa, ca, rfl⟩ := hv.sh
  have HV := Lib.hid h
  have HN := Lib.hid hN
  have HB := Lib.hid hB
  have HS := Lib.hid hv
  have HX := Lib.hid hx
  have HTB := Lib.hid (net_forest hB)
  have HBACK := Lib.hid (fun (k : Nat) (h0 : 0 < k) (hk : k < (vis n (frP n P m) (forest n P m).length (X0 : Nat)).length) => vis_back hB hX h0 hk)
  have HALL := Lib.hid (fun (j : Nat) (hj : j < n) => vis_all (P := frP n P m) (m := (forest n P m).length) (net_forest hB) (by rw [cnt_forest hB]; exact hone) (x := ((X0 : Nat) : Int)) (y := ((j : Nat) : Int)) ⟨Int.natCast_nonneg _, by omega⟩ ⟨Int.natCast_nonneg _, by omega⟩)
  have HST := Lib.hid (fun (a : Nat) (ha : a < m) (hf : inF n P m (fl (rts n P m) n) a = true) (z : Int) (hz : endB (P a) z = true) => lvl_step (x := x) (root := ((X0 : Nat) : Int)) (level := level) hB ha hf hz)
  have HBD := Lib.hid (fun (j : Nat) (hj : j < n) => lvl_bnd (x := x) (root := ((X0 : Nat) : Int)) (level := level) (z := ((j : Nat) : Int)) hB hn24 hx ⟨Int.natCast_nonneg _, by omega⟩ ⟨Int.natCast_nonneg _, by omega⟩)
  have HRT := Lib.hid (lvl_root n P m x ((X0 : Nat) : Int) level)
  have HOK := Lib.hid (vis_ok (P := frP n P m) (m := (forest n P m).length) (x := ((X0 : Nat) : Int)) (net_forest hB) (by omega))
  have HDR := Lib.hid (fun (a : Nat) (ha : a < m) => drp_bnd (net_pip hB ha) (hx a ha).1 (hx a ha).2)
  have A0 := boxed w (.slice p0 n c0) (.slice p1 m c1) 27
  have B0 := below_new w (.cells #[.slice p0 n c0, .slice p1 m c1] 27)
  have hs0 : (w.alloc (.cells #[.slice p0 n c0, .slice p1 m c1] 27)).heap.size = w.heap.size + 1 := by simp
  have e0 := A0.b0
  have e1 := A0.b1
  clear h hN hB hv hx hone
  go_enter Tryz.func65, Tryz.ntmps65
  go_wp2_with fail
  refine (l05Tree_any _ _ n N m P lo hi (HV.out.below B0 hhi) (by omega) HN.out HB.out).mono ?_
  rintro e w1 ⟨u1, u2, u3, u4, vf, gf, rfl, ⟨gR, tn, tp, hgR⟩, oi, hgf, b1⟩
  obtain ⟨ci, rfl⟩ := oi.shape
  have hgf' : w.heap.size + 1 ≤ gf := by omega
  have hgR' : w.heap.size + 1 ≤ gR ∨ (forest n P m).length = 0 := by
    rcases hgR with h | h
    · left; omega
    · exact .inr h
  have A1 := A0.below b1 (by omega)
  have B1 := B0.trans (b1.mono (by omega))
  have hs1 : w.heap.size + 1 ≤ w1.heap.size := by have := b1.size; omega
  have b2 := below_new w1 (.cells #[.slice u1 n u2, .slice u3 (forest n P m).length u4] 27)
  have T2 := boxed w1 (.slice u1 n u2) (.slice u3 (forest n P m).length u4) 27
  have hs2 : (w1.alloc (.cells #[.slice u1 n u2, .slice u3 (forest n P m).length u4] 27)).heap.size = w1.heap.size + 1 := by simp
  have li := oi.lt
  have HA := Lib.hid (A1.below b2 (by omega))
  have HBB := Lib.hid (B1.trans (b2.mono (by omega)))
  have HTN2 := Lib.hid (tn.below b2 (by omega))
  have HTP2 := Lib.hid (tp.below b2 (Nat.le_refl _))
  have HI := Lib.hid (oi.below b2 (Nat.le_refl _))
  have hgR4 : gR < w1.heap.size ∨ (forest n P m).length = 0 := tp.lt.symm
  have H6 := Lib.hid T2
  clear A0 B0 b1 A1 B1 b2 tn tp oi T2 e0 e1 hgR hgf
  have e0 := H6.out.b0
  have e1 := H6.out.b1
  go_wp2_with fail
  obtain ⟨w2, hw2⟩ : ∃ w2, w1.alloc (.cells #[.slice u1 n u2, .slice u3 (forest n P m).length u4] 27) = w2 := ⟨_, rfl⟩
  rw [hw2] at HA HBB HTN2 HTP2 HI H6 hs2 e0 e1 ⊢
  clear hw2 e0 e1
  have hwz : w.heap.size ≤ w2.heap.size := by omega
  have hwn : hi ≤ w2.heap.size := by omega
  refine (l04Search_any w2 _ n N (forest n P m).length (frP n P m) 0 w2.heap.size (treeAt HTN2.out HTP2.out hwn) (Nat.le_refl _) HN.out HTB.out X0 hX).mono ?_
  rintro e w3 ⟨vo, go, rfl, oe, oo, hgo, b3⟩
  obtain ⟨co, rfl⟩ := oo.shape
  have hs3 := b3.size
  obtain ⟨ge, hge⟩ : ∃ ge, w2.heap.size + 1 = ge := ⟨_, rfl⟩
  rw [hge] at oe ⊢
  have hge1 := Nat.le_antisymm_iff.1 hge
  have hs2' := Nat.le_antisymm_iff.1 hs2
  clear hge hs2
  have loe := oe.lt
  have loo := oo.lt
  have HA3 := Lib.hid (HA.out.below b3 (by omega))
  have HB3 := Lib.hid (HBB.out.trans (b3.mono hwz))
  have HTN3 := Lib.hid (HTN2.out.below b3 hwn)
  have HTP3 := Lib.hid (HTP2.out.below b3 (Nat.le_refl _))
  have HI3 := Lib.hid (HI.out.below b3 (Nat.le_refl _))
  have H63 := Lib.hid (H6.out.below b3 (by omega))
  have HE3 := Lib.hid oe
  have HO3 := Lib.hid oo
  have e0 := HA3.out.b0
  have e1 := HA3.out.b1
  have m1 := fun W => make_int64 W n (by omega)
  have zs : (zeros n).size = n := by unfold zeros; simp [madeCells]
  have k0 : (0 : Int) ≤ (X0 : Int) := Int.natCast_nonneg _
  have k1 : (X0 : Int) < (n : Int) := by omega
  have m0 : (0 : Int) ≤ (n : Int) := Int.natCast_nonneg _
  clear HA HBB HTN2 HTP2 HI H6 oe oo
  go_wp2_with fail
  have O4 := Own.made1 w3 n X0 level (by omega) hX
  have b4 := below_new w3 (.cells ((zeros n).setIfInBounds X0 (.int .i64 level)) 2)
  have hs4 : (w3.alloc (.cells ((zeros n).setIfInBounds X0 (.int .i64 level)) 2)).heap.size = w3.heap.size + 1 := by simp
  have HA4 := Lib.hid (HA3.out.below b4 (by omega))
  have HB4 := Lib.hid (HB3.out.trans (b4.mono (by omega)))
  have HTN4 := Lib.hid (HTN3.out.below b4 (by omega))
  have HTP4 := Lib.hid (HTP3.out.below b4 (Nat.le_refl _))
  have HI4 := Lib.hid (HI3.out.below b4 (Nat.le_refl _))
  have H64 := Lib.hid (H63.out.below b4 (by omega))
  have HE4 := Lib.hid (HE3.out.below b4 (by omega))
  have HO4 := Lib.hid (HO3.out.below b4 (Nat.le_refl _))
  have HW4 := Lib.hid O4
  clear HA3 HB3 HTN3 HTP3 HI3 H63 HE3 HO3 O4 b4 b3 e0 e1 m1
  obtain ⟨w4, hw4⟩ : ∃ w4, w3.alloc (.cells ((zeros n).setIfInBounds X0 (.int .i64 level)) 2) = w4 := ⟨_, rfl⟩
  rw [hw4] at HA4 HB4 HTN4 HTP4 HI4 H64 HE4 HO4 HW4 hs4 ⊢
  clear hw4
  have hpl := HOK.out.len
  obtain ⟨fs, hfs⟩ : ∃ fs, vis n (frP n P m) (forest n P m).length ((X0 : Nat) : Int) = fs := ⟨_, rfl⟩
  rw [hfs] at HBACK HALL HOK HE4 HO4 hpl ⊢
  have HFS := Lib.hid hfs
  have hf0 := HOK.out.fst
  have hfl : 0 < fs.length := get_lt hf0
  have HF0 := Lib.hid hf0
  obtain ⟨gw, hgw⟩ : ∃ gw, w3.heap.size = gw := ⟨_, rfl⟩
  rw [hgw] at HW4 ⊢
  have hgw1 := Nat.le_antisymm_iff.1 hgw
  clear hgw hfs hf0
  go_loopw [14] (fun iv wr => ∃ (k : Nat), iv = .int .i64 k ∧ 1 ≤ k ∧ k ≤ fs.length ∧ Own wr (.slice (some ⟨gw, 0, none⟩) n n) n (lvK fs (lvl n P m x (X0 : Nat) level) k) gw ∧ Upd (fun q => q = gw) w4 wr) (fun iv _ => fs.length - (intOf iv).toNat)
  case atStart =>
    refine ⟨1, rfl, Nat.le_refl _, hfl, HW4.out.congr (fun j _ => ?_), Upd.refl _ _⟩
    unfold lvK upd
    rw [show fs.take 1 = [⟨X0, -1, 0⟩] by
      have := take_one (i := 0) HF0.out
      simpa using this]
    by_cases e : j = X0
    · subst e
      rw [if_pos rfl, HRT.out]
      simp [vhas]
    · rw [if_neg e]
      have : vhas [⟨((X0 : Nat) : Int), -1, 0⟩] ((j : Nat) : Int) = false := by simp [vhas]; omega
      rw [this]
      rfl
  case round =>
    obtain ⟨k, rfl, hk1, hk, ho, hu⟩ := hrel
    have HOW := Lib.hid ho
    have HU := Lib.hid hu
    have hsz := hu.size
    clear ho hu HW4
    have k0' : (0 : Int) ≤ (k : Int) := Int.natCast_nonneg _
    generalize hQ : Exit.then _ _ = Q
    have HQ := Lib.hid hQ
    clear hQ
    by_cases hlt : k < fs.length
    · have k1' : (k : Int) < (fs.length : Int) := by omega
      obtain ⟨vv, Z, U, j, b, hvk, hvz, hZn, hUn, hjL, hbm, hbF, hbL, hFb, hen, hoU, heZ, hvU, hUZ, hvZ⟩ := HBACK.out k hk1 hlt
      have j0 : (0 : Int) ≤ (j : Int) := Int.natCast_nonneg _
      have j1 : (j : Int) < ((forest n P m).length : Int) := by omega
      have z0 : (0 : Int) ≤ (Z : Int) := Int.natCast_nonneg _
      have z1 : (Z : Int) < (n : Int) := by omega
      have u0 : (0 : Int) ≤ (U : Int) := Int.natCast_nonneg _
      have u1' : (U : Int) < (n : Int) := by omega
      have b0' : (0 : Int) ≤ (b : Int) := Int.natCast_nonneg _
      have b1' : (b : Int) < (m : Int) := by omega
      have HLAST := Lib.hid (fun j => lvK_step (lv := lvl n P m x (X0 : Nat) level) hvk hvz j)
      have hlu : lvK fs (lvl n P m x (X0 : Nat) level) k U = lvl n P m x (X0 : Nat) level (U : Nat) := by unfold lvK; rw [if_pos hvU]
      have hst := HST.out b hbm hbF (Z : Nat) (by rw [← hFb]; exact heZ)
      rw [← hFb, hoU] at hst
      obtain ⟨d0, d1⟩ := HDR.out b hbm
      obtain ⟨lz0, lz1⟩ := HBD.out Z hZn
      obtain ⟨lu0, lu1⟩ := HBD.out U hUn
      obtain ⟨x0, x1⟩ := HX.out b hbm
      have hwr : w4.heap.size ≤ wr.heap.size := hsz
      have HBW := Lib.hid (HB4.out.trans (HU.out.below (B := w.heap.size) (by omega) (fun q _ hq => by omega)))
      have yo : wr.cell? ⟨go, k, none⟩ = some (.int .i64 (Z : Nat)) := by
        have h1 := (HO4.out.keep (HU.out.block go (by omega) (by omega))).row.cell k hlt
        unfold ordD at h1
        rw [hvk] at h1
        simpa [hvz] using h1
      have ye : wr.cell? ⟨ge, Z, none⟩ = some (.int .i64 (j : Nat)) := by
        have h1 := (HE4.out.keep (HU.out.block ge (by omega) (by omega))).cell Z hZn
        unfold tabC at h1
        rwa [hen] at h1
      have yi : wr.cell? ⟨gf, j, none⟩ = some (.int .i64 (b : Nat)) := by
        have h1 := (HI4.out.keep (HU.out.block gf (by omega) (by omega))).row.cell j hjL
        rwa [hbL] at h1
      obtain ⟨p', c', ee, hxx⟩ := (HS.out.below HBW.out hha).ex
      injection ee with ee1 _ ee3
      subst ee1 ee3
      obtain ⟨ba, oa, rfl, g1, g2, hxx⟩ : ∃ b o, pa = some ⟨b, o, none⟩ ∧ la ≤ b ∧ b < ha ∧ ∀ k, k < m → wr.cell? ⟨b, o + k, none⟩ = some (.int .i64 (x k)) := by
        rcases hxx with e | e
        · omega
        · exact e
      have yx := hxx b hbm
      have A4r := HA4.out.keep (HU.out.block w.heap.size (by omega) (by omega))
      have T4r := H64.out.keep (HU.out.block w1.heap.size (by omega) (by omega))
      have f0 := A4r.b0
      have f1 := A4r.b1
      have t0 := T4r.b0
      have t1 := T4r.b1
      have NTR := Lib.hid (treeAt (HTN4.out.upd HU.out (by omega) (fun q _ hq => by omega)) (HTP4.out.upd HU.out (by
        rcases hgR4 with g | g
        · exact .inr (by omega)
        · exact .inl g)) (show hi ≤ wr.heap.size by omega))
      obtain ⟨tb, tu, rfl, tq1, tq2, r0, _, _, _, _⟩ := NTR.out.pipe hjL
      have HYS := Lib.hid (sum_other (net_pip HTB.out hjL) heZ)
      have HPN := Lib.hid (net_pip HTB.out hjL)
      have HOZ := Lib.hid hoU
      have HSTE := Lib.hid hst
      have HFB := Lib.hid hFb
      have hAny : ∀ X : World, Below wr.heap.size wr X → X.cell? ⟨w.heap.size, 0, none⟩ = some (.slice p0 n c0) ∧ X.cell? ⟨w.heap.size, 1, none⟩ = some (.slice p1 m c1) ∧ X.cell? ⟨gf, j, none⟩ = some (.int .i64 (b : Nat)) ∧ X.cell? ⟨ba, oa + b, none⟩ = some (.int .i64 (x b)) := fun X h => ⟨(h.cell (p := ⟨w.heap.size, 0, none⟩) (by show w.heap.size < _; omega)).trans f0, (h.cell (p := ⟨w.heap.size, 1, none⟩) (by show w.heap.size < _; omega)).trans f1, (h.cell (p := ⟨gf, j, none⟩) (by show gf < _; omega)).trans yi, (h.cell (p := ⟨ba, oa + b, none⟩) (by show ba < _; omega)).trans yx⟩
      clear hvk hvz hbF hbL hFb hen hoU heZ hvU hvZ hst hxx A4r T4r
      go_wp2_with fail
      go_region_held3 (fun w' : World => w'.cell? ⟨w.heap.size, 0, none⟩ = some (.slice p0 n c0) ∧ w'.cell? ⟨w.heap.size, 1, none⟩ = some (.slice p1 m c1) ∧ w'.cell? ⟨gf, j, none⟩ = some (.int .i64 (b : Nat)) ∧ w'.cell? ⟨ba, oa + b, none⟩ = some (.int .i64 (x b)))
        (first | exact hAny _ (below_drw (Below.refl _ _)) | exact hAny _ KX)
        (first
          | (go_at_call 119; refine (l07Drop_any _ _ n N m P lo hi ((HV.out.below HBW.out hhi).drew) (show hi ≤ wr.heap.size by omega) HB.out b hbm _ x0 x1).mono ?_; rintro e wX ⟨rfl, hb5⟩; have KX := below_dr0 hb5))
      have zX := KX.size
      have HOX := Lib.hid (HOW.out.keep (KX.block gw (by omega)))
      have HUX := Lib.hid (HU.out.trans (Upd.of_below KX))
      have q0 := (KX.cell (p := ⟨w1.heap.size, 0, none⟩) (by show w1.heap.size < _; omega)).trans t0
      have q1 := (KX.cell (p := ⟨w1.heap.size, 1, none⟩) (by show w1.heap.size < _; omega)).trans t1
      have q2 := (KX.cell (p := ⟨tb, tu + j * 5, none⟩) (by show tb < _; omega)).trans r0
      clear hAny KX hb5 f0 f1 yi yx yo ye t0 t1 r0
      obtain ⟨wx, hwx⟩ : ∃ w', w' = wX := ⟨_, rfl⟩
      subst hwx
      have hwx4 : w4.heap.size ≤ wx.heap.size := by omega
      have NTX := Lib.hid (treeAt (HTN4.out.upd HUX.out (by omega) (fun q _ hq => by omega)) (HTP4.out.upd HUX.out (by
        rcases hgR4 with g | g
        · exact .inr (by omega)
        · exact .inl g)) (show hi ≤ wx.heap.size by omega))
      have hn5 : n ≤ 2000000 := by omega
      have hL5 : (forest n P m).length ≤ 2000000 := by omega
      have hzr : inR ((Z : Nat) : Int) 0 (n - 1) = true := inR_iff.2 ⟨by omega, by omega⟩
      go_wp2_with fail
      refine (l02Other_any _ _ n N (forest n P m).length (frP n P m) 0 wx.heap.size NTX.out (Nat.le_refl _) HN.out hL5 j hjL (Z : Int) HPN.out hn5 hzr).mono ?_
      rintro e wy ⟨rfl, hb6⟩
      rw [HYS.out, HOZ.out]
      have zY := hb6.size
      have s1 := (hb6.cell (p := ⟨w1.heap.size, 1, none⟩) (by show w1.heap.size < _; omega)).trans q1
      have s2 := (hb6.cell (p := ⟨tb, tu + j * 5, none⟩) (by show tb < _; omega)).trans q2
      have HOY := Lib.hid (HOX.out.keep (hb6.block gw (by omega)))
      have HUY := Lib.hid (HUX.out.trans (Upd.of_below hb6))
      have v1 : wy.cell? ⟨gw, U, none⟩ = some (.int .i64 (lvl n P m x (X0 : Nat) level (U : Nat))) := by
        have := HOY.out.row.cell U hUn
        rwa [hlu] at this
      have v2 := HOY.out.row.cell Z hZn
      have v3 := HOY.out.free Z
      clear hb6 q0 q1 q2
      by_cases hcase : (frP n P m j).f = ((Z : Nat) : Int)
      ·
        have hb1 : ((frP n P m j).f == ((Z : Nat) : Int)) = true := by simp [hcase]
        have hsg : sgn (frP n P m j) ((Z : Nat) : Int) = 1 := by unfold sgn; rw [if_pos hcase]
        have hlz : lvl n P m x (X0 : Nat) level (U : Nat) + drp (P b) (x b) = lvl n P m x (X0 : Nat) level (Z : Nat) := by
          have h1 := HSTE.out
          rw [hsg, HFB.out] at h1
          omega
        have HLZ := Lib.hid hlz
        have o1 := (Only.refl gw wy).setCell Z (.int .i64 (lvl n P m x (X0 : Nat) level (U : Nat) + drp (P b) (x b)))
        have O1 := HOY.out.put1 Z (lvl n P m x (X0 : Nat) level (U : Nat) + drp (P b) (x b)) hZn
        rw [hlz] at o1 O1
        have HO1 := Lib.hid (O1.congr (e := lvK fs (lvl n P m x (X0 : Nat) level) (k + 1)) (fun j _ => HLAST.out j))
        have HU1 := Lib.hid (HUY.out.trans (Upd.of_only o1))
        have hw1 : lvl n P m x (X0 : Nat) level (U : Nat) + drp (P b) (x b) ≤ 9000000000000000000 := by omega
        have hw2 : -9000000000000000000 ≤ lvl n P m x (X0 : Nat) level (U : Nat) + drp (P b) (x b) := by omega
        clear hcase hsg hlz o1 O1
        go_wp2_with fail
        rw [HLZ.out]
        rw [← HQ.out]
        refine ⟨⟨_, _, _, _, _, _, _, _, _, _, _, _, _, _, _, _, _, _, _, _, _, _, _, _, _, _, _, _, _, _, _, _, _, _, _, _, _, _, _, _, _, _, _, _, _, _, _, _, _, _, _, _, _, _, _, _, _, _, _, _, _, _, ?rel, rfl⟩, ?measure⟩
        case rel => exact ⟨k + 1, by go_num, by omega, hlt, HO1.out, HU1.out⟩
        case measure => simp [intOf]; omega
      ·
        have hb1 : ((frP n P m j).f == ((Z : Nat) : Int)) = false := by simp [hcase]
        have hsg : sgn (frP n P m j) ((Z : Nat) : Int) = -1 := by unfold sgn; rw [if_neg hcase]
        have hlz : lvl n P m x (X0 : Nat) level (U : Nat) - drp (P b) (x b) = lvl n P m x (X0 : Nat) level (Z : Nat) := by
          have h1 := HSTE.out
          rw [hsg, HFB.out] at h1
          omega
        have HLZ := Lib.hid hlz
        have o1 := (Only.refl gw wy).setCell Z (.int .i64 (lvl n P m x (X0 : Nat) level (U : Nat) - drp (P b) (x b)))
        have O1 := HOY.out.put1 Z (lvl n P m x (X0 : Nat) level (U : Nat) - drp (P b) (x b)) hZn
        rw [hlz] at o1 O1
        have HO1 := Lib.hid (O1.congr (e := lvK fs (lvl n P m x (X0 : Nat) level) (k + 1)) (fun j _ => HLAST.out j))
        have HU1 := Lib.hid (HUY.out.trans (Upd.of_only o1))
        have hw1 : lvl n P m x (X0 : Nat) level (U : Nat) - drp (P b) (x b) ≤ 9000000000000000000 := by omega
        have hw2 : -9000000000000000000 ≤ lvl n P m x (X0 : Nat) level (U : Nat) - drp (P b) (x b) := by omega
        clear hcase hsg hlz o1 O1
        go_wp2_with fail
        rw [HLZ.out]
        rw [← HQ.out]
        refine ⟨⟨_, _, _, _, _, _, _, _, _, _, _, _, _, _, _, _, _, _, _, _, _, _, _, _, _, _, _, _, _, _, _, _, _, _, _, _, _, _, _, _, _, _, _, _, _, _, _, _, _, _, _, _, _, _, _, _, _, _, _, _, _, _, ?rel, rfl⟩, ?measure⟩
        case rel => exact ⟨k + 1, by go_num, by omega, hlt, HO1.out, HU1.out⟩
        case measure => simp [intOf]; omega
    · have hkn : fs.length = k := by omega
      have k1' : ¬ ((k : Int) < (fs.length : Int)) := by omega
      have HOF := Lib.hid (HOW.out.congr (e := fun j => lvl n P m x (X0 : Nat) level (j : Nat)) (fun j hj => by
        unfold lvK
        rw [← hkn, List.take_length, if_pos (HALL.out j hj)]))
      have HBF := Lib.hid (HB4.out.trans (HU.out.below (show w.heap.size ≤ w4.heap.size by omega) (fun q _ hq => by omega)))
      clear hkn
      go_wp2_with fail
      rw [← HQ.out]
      go_wp2_with fail
      go_ret
      exact ⟨_, gw, rfl, HOF.out, by omega, HBF.out⟩
end Go.Proofs.YtdbgcbkmcbgdiaaGreat.mem

namespace Go.Proofs.YtdbgcbkmcbgdiaaGreat.mem
open Go.RowKit
set_option linter.unusedVariables false

theorem l07Level_any (x : Int) (w : World) : Calls Tryz.prog 64 #[.int .i64 x] w fun e w' => e = .returned (.bool (rlB x)) ∧ w = w' := by
  unfold rlB
  go_enter Tryz.func64, Tryz.ntmps64
  go_wp2_with (go_at_call 117; refine (l01In_any _ _ _ _).mono ?_; rintro e w' ⟨rfl, rfl⟩)
  go_ret
  exact ⟨rfl, rfl⟩
end Go.Proofs.YtdbgcbkmcbgdiaaGreat.mem

namespace Go.Proofs.YtdbgcbkmcbgdiaaGreat.mem
open Go.RowKit
set_option linter.unusedVariables false

end Go.Proofs.YtdbgcbkmcbgdiaaGreat.mem

namespace Go.Proofs.YtdbgcbkmcbgdiaaGreat.mem
open Go.RowKit
set_option linter.unusedVariables false

/-- an own list of K own lists of m numbers, all from block B on, all in blocks of their own -/
structure Bas (w : World) (v : Value) (K m : Nat) (Y : Nat → Nat → Int) (B : Nat) : Prop where
  ex : ∃ (G C : Nat → Nat), RowE B 28 1 w v K (fun i _ => .slice (some ⟨G i, 0, none⟩) m (C i)) ∧ (∀ i, i < K → Own w (.slice (some ⟨G i, 0, none⟩) m (C i)) m (Y i) (G i) ∧ B ≤ G i) ∧ (∀ i j, i < j → j < K → G i < G j)
theorem row_own {B z : Nat} {w : World} {v u : Value} {K n g : Nat} {c : Nat → Nat → Value} {d : Nat → Int} (h : RowE B 28 z w v K c) (o : Own w u n d g) : v.ownBlock ≠ some g := by
  intro hk
  rcases h.own.2 with ⟨rfl, _⟩ | ⟨q, cap, cur, rfl, _, h3, _⟩
  · simp [Value.ownBlock] at hk
  obtain ⟨cap', cur', _, h1, _⟩ := o.ex
  simp [Value.ownBlock] at hk
  subst hk
  rw [h3] at h1
  injection h1 with h1
  injection h1 with _ h1
  exact absurd h1 (by decide)
theorem bas_nil {B m : Nat} {Y : Nat → Nat → Int} (w : World) (hB : B ≤ w.heap.size) : Bas (w.alloc (.cells #[] 28)) (.slice (some ⟨w.heap.size, 0, none⟩) 0 0) 0 m Y B :=
  ⟨fun _ => 0, fun _ => 0, rowE_nil w _ hB, fun i hi => by omega, fun i j _ hj => by omega⟩
theorem Bas.shape {w : World} {v : Value} {K m B : Nat} {Y : Nat → Nat → Int} (h : Bas w v K m Y B) : ∃ p cap, v = .slice p K cap := by
  obtain ⟨G, C, h1, _⟩ := h.ex
  exact h1.shape
theorem Bas.next {w w' : World} {v : Value} {K m B : Nat} {Y : Nat → Nat → Int} (h : Bas w v K m Y B) (b : Below w.heap.size w w') : Bas w' v K m Y B := by
  obtain ⟨G, C, h1, h2, h3⟩ := h.ex
  exact ⟨G, C, h1.next b, fun i hi => ⟨(h2 i hi).1.below b (Nat.le_refl _), (h2 i hi).2⟩, h3⟩
theorem Bas.low {w : World} {v : Value} {K m B B' : Nat} {Y : Nat → Nat → Int} (h : Bas w v K m Y B) (hB : B' ≤ B) : Bas w v K m Y B' := by
  obtain ⟨G, C, h1, h2, h3⟩ := h.ex
  refine ⟨G, C, ⟨h1.own.1, ?_⟩, fun i hi => ⟨(h2 i hi).1, by have := (h2 i hi).2; omega⟩, h3⟩
  rcases h1.own.2 with h | ⟨g, cap, cur, e, hg, h⟩
  · exact .inl h
  · exact .inr ⟨g, cap, cur, e, by omega, h⟩
theorem info_ints : (Tryz.prog.info? 28).map (fun i => (i.zero, i.size, i.bytes)) = some (some (.slice none 0 0), 1, 24) := by kernel_rfl
/-- one more list behind it -/
theorem Bas.app {w W : World} {v : Value} {K m B : Nat} {Y : Nat → Nat → Int} (h : Bas w v K m Y B) (hB : B ≤ w.heap.size) (b : Below w.heap.size w W) {g c : Nat} (o : Own W (.slice (some ⟨g, 0, none⟩) m c) m (Y K) g) (hg : w.heap.size ≤ g) (hK : K ≤ 1000000) :
    ∃ v' w', Sem.run Tryz.prog (Builtin.append_ #[127, 127] 127 #[v, .slice (some ⟨W.heap.size, 0, none⟩) 1 1]) (W.alloc (.cells #[.slice (some ⟨g, 0, none⟩) m c] 28)) = .ok v' w' ∧ Bas w' v' (K + 1) m Y B ∧ Below B W w' ∧ (∀ q, v.ownBlock ≠ some q → q < W.heap.size → w'.heap[q]? = W.heap[q]?) := by
  obtain ⟨G, C, h1, h2, h3⟩ := h.ex
  have hBW : B ≤ W.heap.size := Nat.le_trans hB b.size
  have r1 := h1.next b
  obtain ⟨v', w', hr, hrow, u⟩ := appOne (c' := fun i _ => .slice (some ⟨if i = K then g else G i, 0, none⟩) m (if i = K then c else C i)) Tryz.underlying127 info_ints (by omega) rfl (by omega) B W v K _ r1 hBW [.slice (some ⟨g, 0, none⟩) m c] rfl (by intro q hq; simp at hq; subst hq; rfl)
    (fun i j hi hj => by rw [if_neg (by omega), if_neg (by omega)]) (fun j hj => by obtain rfl : j = 0 := (by omega); (show some _ = _); rw [if_pos rfl, if_pos rfl]) hK
  refine ⟨v', w', hr, ⟨fun i => if i = K then g else G i, fun i => if i = K then c else C i, hrow, fun i hi => ?_, fun i j hij hj => ?_⟩, u.below hBW (fun k _ hk => (r1.own.lt k hk.symm).1), fun q hq hl => u.block q hl (fun e => hq e.symm)⟩
  · dsimp only
    by_cases e : i = K
    · subst e
      rw [if_pos rfl, if_pos rfl]
      exact ⟨o.keep (u.block g o.lt (fun e => row_own r1 o e.symm)), by omega⟩
    · rw [if_neg e, if_neg e]
      obtain ⟨o1, o2⟩ := h2 i (by omega)
      have o3 := o1.below b (Nat.le_refl _)
      exact ⟨o3.keep (u.block _ o3.lt (fun e => row_own r1 o3 e.symm)), o2⟩
  · dsimp only
    have hi : i ≠ K := by omega
    rw [if_neg hi]
    by_cases e : j = K
    · rw [if_pos e]
      have := (h2 i (by omega)).1.lt
      omega
    · rw [if_neg e]
      exact h3 i j hij (by omega)
set_option maxRecDepth 100000 in
set_option maxHeartbeats 8000000 in
theorem l05Basis_any (w : World) (v : Value) (n : Nat) (N : Nat → Nod) (m : Nat) (P : Nat → Pip) (lo hi : Nat) (h : NetAt w v n N m P lo hi) (hhi : hi ≤ w.heap.size) (hN : ∀ i, i < n → (N i).s.size ≤ 9223372036854775807) (hB : netB n N m P = true) :
    Calls Tryz.prog 103 #[v] w fun e w' => ∃ v2, e = .returned v2 ∧ Bas w' v2 (chN n P m) m (fun i => cyc P (fE n P m) (fD n P m) (chS n P m i)) w.heap.size ∧ Below w.heap.size w w' := by
  have hm40 := (net_sz hB).2.2
  have hcn := chN_le n P m
  have HB := Lib.hid hB
  clear hB
  obtain ⟨p0, c0, p1, c1, rfl, hn9, hm9⟩ := h.parts
  have HV := Lib.hid h
  have HN := Lib.hid hN
  have A0 := boxed w (.slice p0 n c0) (.slice p1 m c1) 27
  have B0 := below_new w (.cells #[.slice p0 n c0, .slice p1 m c1] 27)
  have hs0 : (w.alloc (.cells #[.slice p0 n c0, .slice p1 m c1] 27)).heap.size = w.heap.size + 1 := by simp
  clear h hN
  go_enter Tryz.func103, Tryz.ntmps103
  have e0' := A0.b0
  have e1' := A0.b1
  go_wp2_with fail
  refine (l05Chords_any _ _ n N m P lo hi (HV.out.below B0 hhi) (by omega) HN.out HB.out).mono ?_
  rintro e w1 ⟨vc, gc, rfl, oc, hgc, b1⟩
  obtain ⟨cc, rfl⟩ := oc.shape
  have A1 := A0.below b1 (by omega)
  have B1 := B0.trans (b1.mono (by omega))
  have hs1 := b1.size
  have lc := oc.lt
  have b2 := below_new w1 (.cells #[] 28)
  have hs2 : (w1.alloc (.cells #[] 28)).heap.size = w1.heap.size + 1 := by simp
  have HBN := Lib.hid (bas_nil (B := w1.heap.size) (m := m) (Y := fun i => cyc P (fE n P m) (fD n P m) (chS n P m i)) w1 (Nat.le_refl _))
  have HA := Lib.hid (A1.below b2 (by omega))
  have HC := Lib.hid (oc.below b2 (Nat.le_refl _))
  have HBB := Lib.hid (B1.trans (b2.mono (by omega)))
  clear A0 B0 b1 A1 B1 b2 oc e0' e1'
  go_wp2_with fail
  generalize hW : w1.alloc (.cells #[] 28) = w2 at *
  clear hW
  go_loopw [4, 5] (fun ov iv wr => ∃ (k : Nat) (ov' : Value), ov' = ov ∧ iv = .int .i64 k ∧ k ≤ chN n P m ∧ Bas wr ov' k m (fun i => cyc P (fE n P m) (fD n P m) (chS n P m i)) w1.heap.size ∧ Below w1.heap.size w2 wr) (fun _ iv _ => chN n P m - (intOf iv).toNat)
  case atStart => exact ⟨0, _, rfl, rfl, Nat.zero_le _, HBN.out, Below.refl _ _⟩
  case round =>
    obtain ⟨k, ov, rfl, rfl, hk, ho, hb⟩ := hrel
    obtain ⟨po, co, rfl⟩ := ho.shape
    clear HBN
    have HO := Lib.hid ho
    have HL := Lib.hid hb
    have hsz := hb.size
    clear ho hb
    have k0 : (0 : Int) ≤ (k : Int) := Int.natCast_nonneg _
    generalize hQ : Exit.then _ _ = Q
    have HQ := Lib.hid hQ
    clear hQ
    by_cases hlt : k < chN n P m
    · have k1 : (k : Int) < (chN n P m : Int) := by omega
      obtain ⟨hcm, hcp⟩ := chS_at (n := n) (P := P) (m := m) hlt
      have f0 : wr.cell? ⟨w.heap.size, 0, none⟩ = some (.slice p0 n c0) := (HA.out.below HL.out (by omega)).b0
      have f1 : wr.cell? ⟨w.heap.size, 1, none⟩ = some (.slice p1 m c1) := (HA.out.below HL.out (by omega)).b1
      have yc : wr.cell? ⟨gc, k, none⟩ = some (.int .i64 (chS n P m k : Nat)) := (HL.out.cell (p := ⟨gc, k, none⟩) lc).trans (HC.out.row.cell k hlt)
      have hAny : ∀ X : World, Below w1.heap.size wr X → X.cell? ⟨w.heap.size, 0, none⟩ = some (.slice p0 n c0) ∧ X.cell? ⟨w.heap.size, 1, none⟩ = some (.slice p1 m c1) ∧ X.cell? ⟨gc, k, none⟩ = some (.int .i64 (chS n P m k : Nat)) := fun X h => ⟨(h.cell (p := ⟨w.heap.size, 0, none⟩) (by show w.heap.size < _; omega)).trans f0, (h.cell (p := ⟨w.heap.size, 1, none⟩) (by show w.heap.size < _; omega)).trans f1, (h.cell (p := ⟨gc, k, none⟩) lc).trans yc⟩
      have HCP := Lib.hid hcp
      clear hcp
      go_wp2_with fail
      go_region_held3 (fun w' : World => w'.cell? ⟨w.heap.size, 0, none⟩ = some (.slice p0 n c0) ∧ w'.cell? ⟨w.heap.size, 1, none⟩ = some (.slice p1 m c1) ∧ w'.cell? ⟨gc, k, none⟩ = some (.int .i64 (chS n P m k : Nat)))
        (first | exact hAny _ (below_drw (Below.refl _ _)) | exact hAny _ KX | exact hAny _ KY | exact hAny _ KZ)
        (first
          | (go_at_call 130; refine (l05Cycle_any _ _ n N m P lo hi (((HV.out.below HBB.out hhi).below HL.out (by omega)).drew) (show hi ≤ wr.heap.size by omega) HN.out HB.out _ hcm HCP.out).mono ?_; rintro e wX ⟨v5, g5, rfl, o5, hg5, hb5⟩; obtain ⟨c5, rfl⟩ := o5.shape; have hb5' := below_dr0 hb5; have KX : Below w1.heap.size wr wX := hb5'.mono (by omega); obtain ⟨v7, wz, hr7, ba7, bw7, _⟩ := HO.out.app (by omega) hb5' o5 (show wr.heap.size ≤ g5 from hg5) (by omega); have zX := hb5'.size; have KY : Below w1.heap.size wr (wX.alloc (.cells #[.slice (some ⟨g5, 0, none⟩) m c5] 28)) := below_alloc KX (by omega) _; have KZ : Below w1.heap.size wr wz := KX.trans bw7)
          | (refine step_appT hr7 rfl (.tmp 15) (.tmp 22) rfl rfl rfl rfl ?_))
      have HO7 := Lib.hid ba7
      have HL7 := Lib.hid (HL.out.trans KZ)
      clear hAny KX KY KZ ba7 bw7 hr7 hb5 hb5' o5 f0 f1 yc
      go_wp2_with fail
      rw [← HQ.out]
      refine ⟨⟨_, _, _, _, _, _, _, _, _, _, _, _, _, _, _, _, _, ?rel, rfl⟩, ?measure⟩
      case rel => exact ⟨k + 1, v7, rfl, by go_num, hlt, HO7.out, HL7.out⟩
      case measure => simp [intOf]; omega
    · have hkn : chN n P m = k := by omega
      have HOF := Lib.hid (show Bas wr (.slice po k co) (chN n P m) m (fun i => cyc P (fE n P m) (fD n P m) (chS n P m i)) w1.heap.size by rw [hkn]; exact HO.out)
      have k1 : ¬ ((k : Int) < (chN n P m : Int)) := by omega
      clear hkn
      go_wp2_with fail
      rw [← HQ.out]
      go_wp2_with fail
      go_ret
      exact ⟨_, rfl, HOF.out.low (by omega), HBB.out.trans (HL.out.mono (by omega))⟩
end Go.Proofs.YtdbgcbkmcbgdiaaGreat.mem

namespace Go.Proofs.YtdbgcbkmcbgdiaaGreat.mem
open Go.RowKit
set_option linter.unusedVariables false

theorem Bas.at_ {w : World} {v : Value} {K m B : Nat} {Y : Nat → Nat → Int} (h : Bas w v K m Y B) : K = 0 ∨ ∃ (q cap : Nat) (G C : Nat → Nat), v = .slice (some ⟨q, 0, none⟩) K cap ∧ q < w.heap.size ∧ ∀ k, k < K → w.cell? ⟨q, k, none⟩ = some (.slice (some ⟨G k, 0, none⟩) m (C k)) ∧ Own w (.slice (some ⟨G k, 0, none⟩) m (C k)) m (Y k) (G k) := by
  obtain ⟨G, C, h1, h2, _⟩ := h.ex
  obtain ⟨q, o, _⟩ := h1.ownS
  obtain ⟨p, cap, e, _, _, h4⟩ := o.ex
  rcases h4 with h4 | ⟨rfl, r⟩
  · exact .inl h4
  · refine .inr ⟨q, cap, G, C, e, r.lt, fun k hk => ⟨?_, (h2 k hk).1⟩⟩
    have := r.cell k 0 hk (by omega)
    rwa [Nat.mul_one, Nat.add_zero] at this
end Go.Proofs.YtdbgcbkmcbgdiaaGreat.mem

namespace Go.Proofs.YtdbgcbkmcbgdiaaGreat.mem
open Go.RowKit
set_option linter.unusedVariables false

end Go.Proofs.YtdbgcbkmcbgdiaaGreat.mem

namespace Go.Proofs.YtdbgcbkmcbgdiaaGreat.mem
open Go.RowKit
set_option linter.unusedVariables false

theorem Sl.next {w w' : World} {v : Value} {n : Nat} {d : Nat → Int} {lo : Nat} (h : Sl w v n d lo w.heap.size) (g : Below w.heap.size w w') : Sl w' v n d lo w'.heap.size := (h.below g (Nat.le_refl _)).mono (Nat.le_refl _) g.size
theorem Sl.zero {w : World} {v : Value} {n : Nat} {d : Nat → Int} {lo hi : Nat} (h : Sl w v n d lo hi) : Sl w v n d 0 hi := h.mono (Nat.zero_le _) (Nat.le_refl _)
theorem ffC_ok {n : Nat} {N : Nat → Nod} {m : Nat} {P : Nat → Pip} {K : Nat} {d : Nat → Int} (h : ffC n N m P K d = 0) : netB n N m P = true ∧ K = n ∧ flB d K = true ∧ evB n P m d = true ∧ flB (fflN n P m d) m = true := by
  unfold ffC at h
  split at h
  · next hc =>
    obtain ⟨h1, h2, h3⟩ := svC_ok hc
    split at h
    · next he =>
      split at h
      · next hf => exact ⟨h1, h2, h3, he, hf⟩
      · omega
    · omega
  · next hc => exact absurd h hc
theorem flC_is {n : Nat} {N : Nat → Nod} {m : Nat} {P : Nat → Pip} {d : Nat → Int} (hB : netB n N m P = true) (hf : flB d m = true) : flC n N m P m d = 0 := by
  unfold flC
  rw [hB, if_pos rfl, if_pos ⟨rfl, hf⟩]
theorem svC_is {n : Nat} {N : Nat → Nod} {m : Nat} {P : Nat → Pip} {d : Nat → Int} (hB : netB n N m P = true) (hf : flB d n = true) : svC n N m P n d = 0 := by
  unfold svC
  rw [hB, if_pos rfl, if_pos ⟨rfl, hf⟩]
theorem ib_is {n : Nat} {N : Nat → Nod} {m : Nat} {P : Nat → Pip} {d s : Nat → Int} (hB : netB n N m P = true) (hf : flB d m = true) (hs : flB s n = true) (h : ∀ z, z < n → dv P d m ((z : Nat) : Int) = s z) : ibB n N m P m d n s = true := by
  unfold ibB
  rw [flC_is hB hf, svC_is hB hs]
  simp only [decide_true, Bool.true_and]
  rw [List.all_eq_true]
  intro z hz
  simpa using h z (List.mem_range.1 hz)
end Go.Proofs.YtdbgcbkmcbgdiaaGreat.mem

namespace Go.Proofs.YtdbgcbkmcbgdiaaGreat.mem
open Go.RowKit
set_option linter.unusedVariables false

set_option maxRecDepth 100000 in
set_option maxHeartbeats 8000000 in
theorem l10Energy_any (w : World) (v : Value) (n : Nat) (N : Nat → Nod) (m : Nat) (P : Nat → Pip) (lo hi : Nat) (h : NetAt w v n N m P lo hi) (hhi : hi ≤ w.heap.size) (hB : netB n N m P = true) (va : Value) (x : Nat → Int) (la ha : Nat) (hv : Sl w va m x la ha) (hha : ha ≤ w.heap.size) (hx : ∀ k, k < m → -30000 ≤ x k ∧ x k ≤ 30000) :
    Calls Tryz.prog 169 #[v, va] w fun e w' => e = .returned (.int .i64 (egS P x m)) ∧ Below w.heap.size w w' := by
  obtain ⟨p0, c0, p1, c1, rfl, hn9, hm9⟩ := h.parts
  obtain ⟨hn1, hn24, hm40⟩ := net_sz hB
  obtain ⟨pa, ca, rfl⟩ := hv.sh
  have HV := Lib.hid h
  have HSV := Lib.hid hv
  have HBN := Lib.hid hB
  have HE := Lib.hid (show ∀ k, k < m → EgB (P k).k ((x k).natAbs : Int) from fun k hk => egB_of (net_pip hB hk) (hx k hk).1 (hx k hk).2)
  have HX := Lib.hid hx
  have A0 := boxed w (.slice p0 n c0) (.slice p1 m c1) 27
  have B0 := below_new w (.cells #[.slice p0 n c0, .slice p1 m c1] 27)
  have hs0 : (w.alloc (.cells #[.slice p0 n c0, .slice p1 m c1] 27)).heap.size = w.heap.size + 1 := by simp
  clear h hB hv hx
  go_enter Tryz.func169, Tryz.ntmps169
  go_wp2_with fail
  obtain ⟨w1, hw1⟩ : ∃ w1, w.alloc (.cells #[.slice p0 n c0, .slice p1 m c1] 27) = w1 := ⟨_, rfl⟩
  rw [hw1] at A0 B0 hs0 ⊢
  clear hw1
  have HA := Lib.hid A0
  have HBB := Lib.hid B0
  clear A0 B0
  go_loopw [5, 6] (fun sv iv wr => ∃ k : Nat, sv = .int .i64 (egS P x k) ∧ iv = .int .i64 k ∧ k ≤ m ∧ w1.heap.size ≤ wr.heap.size ∧ Below w1.heap.size w1 wr) (fun _ iv _ => m - (intOf iv).toNat)
  case atStart => exact ⟨0, rfl, rfl, Nat.zero_le _, Nat.le_refl _, Below.refl _ _⟩
  case round =>
    obtain ⟨k, rfl, rfl, hk, hsz, hb⟩ := hrel
    have HL := Lib.hid hb
    clear hb
    have k0 : (0 : Int) ≤ (k : Int) := Int.natCast_nonneg _
    have BW := Lib.hid (HBB.out.trans (HL.out.mono (by omega)))
    by_cases hlt : k < m
    · have k1 : (k : Int) < (m : Int) := by omega
      obtain ⟨p', c', ee, hxx⟩ := (HSV.out.below BW.out hha).ex
      injection ee with e1 _ e3
      subst e1 e3
      obtain ⟨ba, oa, rfl, ga1, ga2, hxx⟩ : ∃ b o, pa = some ⟨b, o, none⟩ ∧ la ≤ b ∧ b < ha ∧ ∀ k, k < m → wr.cell? ⟨b, o + k, none⟩ = some (.int .i64 (x k)) := by
        rcases hxx with e | e
        · omega
        · exact e
      have yx := hxx k hlt
      clear hxx
      obtain ⟨bp, op, rfl, q1, q2, r0, r1, r2, r3, r4⟩ := (HV.out.below BW.out hhi).pipe hlt
      have f0 : wr.cell? ⟨w.heap.size, 0, none⟩ = some (.slice p0 n c0) := (HA.out.below HL.out (by omega)).b0
      have f1 : wr.cell? ⟨w.heap.size, 1, none⟩ = some (.slice (some ⟨bp, op, none⟩) m c1) := (HA.out.below HL.out (by omega)).b1
      obtain ⟨z0, z1⟩ := HX.out k hlt
      have he := HE.out k hlt
      have h1 := he.one
      have h2 := he.two
      have h3 := he.thr
      have hs := egS_bnd (P := P) (x := x) (k := k) (fun j hj => HE.out j (by omega))
      have HS := Lib.hid (show egS P x (k + 1) = egS P x k + (P k).k * ((x k).natAbs : Int) * ((x k).natAbs : Int) * ((x k).natAbs : Int) from rfl)
      have hs1 : egS P x k ≤ 1080000000000000000 := by omega
      have hs2 := hs.1
      clear hs
      go_wp2_with (go_at_call 126; refine (absS_any _ _ (by omega) (by omega)).mono ?_; rintro e w' ⟨rfl, rfl⟩)
      go_roundw
      case rel => exact ⟨k + 1, by rw [HS.out], by go_num, hlt, hsz, HL.out⟩
      case measure => simp [intOf]; omega
    · have hkn : k = m := by omega
      subst hkn
      have k1 : ¬ ((k : Int) < (k : Int)) := by omega
      go_wp2_with fail
      go_ret
      exact ⟨rfl, BW.out⟩

set_option maxRecDepth 100000 in
set_option maxHeartbeats 8000000 in
theorem l10Residual_any (w : World) (v : Value) (n : Nat) (N : Nat → Nod) (m : Nat) (P : Nat → Pip) (lo hi : Nat) (h : NetAt w v n N m P lo hi) (hhi : hi ≤ w.heap.size) (hB : netB n N m P = true) (va : Value) (x : Nat → Int) (la ha : Nat) (hv : Sl w va m x la ha) (hha : ha ≤ w.heap.size) (hx : ∀ k, k < m → -30000 ≤ x k ∧ x k ≤ 30000) (vb : Value) (y : Nat → Int) (lb hb : Nat) (hu : Sl w vb m y lb hb) (hhb : hb ≤ w.heap.size) (hy : ∀ k, k < m → -1 ≤ y k ∧ y k ≤ 1) :
    Calls Tryz.prog 127 #[v, va, vb] w fun e w' => e = .returned (.int .i64 (rsS P x y m)) ∧ Below w.heap.size w w' := by
  obtain ⟨p0, c0, p1, c1, rfl, hn9, hm9⟩ := h.parts
  obtain ⟨hn1, hn24, hm40⟩ := net_sz hB
  obtain ⟨pa, ca, rfl⟩ := hv.sh
  have HV := Lib.hid h
  have HSV := Lib.hid hv
  have HBN := Lib.hid hB
  have HE := Lib.hid (show ∀ k, k < m → EgB (P k).k ((x k).natAbs : Int) from fun k hk => egB_of (net_pip hB hk) (hx k hk).1 (hx k hk).2)
  have HX := Lib.hid hx
  obtain ⟨pb, cb, rfl⟩ := hu.sh
  have HSU := Lib.hid hu
  have HY := Lib.hid hy
  clear hu hy
  have HDR := Lib.hid (show ∀ k, k < m → -900000000000 ≤ drp (P k) (x k) ∧ drp (P k) (x k) ≤ 900000000000 from fun k hk => drp_bnd (net_pip hB hk) (hx k hk).1 (hx k hk).2)
  have A0 := boxed w (.slice p0 n c0) (.slice p1 m c1) 27
  have B0 := below_new w (.cells #[.slice p0 n c0, .slice p1 m c1] 27)
  have hs0 : (w.alloc (.cells #[.slice p0 n c0, .slice p1 m c1] 27)).heap.size = w.heap.size + 1 := by simp
  clear h hB hv hx
  go_enter Tryz.func127, Tryz.ntmps127
  go_wp2_with fail
  obtain ⟨w1, hw1⟩ : ∃ w1, w.alloc (.cells #[.slice p0 n c0, .slice p1 m c1] 27) = w1 := ⟨_, rfl⟩
  rw [hw1] at A0 B0 hs0 ⊢
  clear hw1
  have HA := Lib.hid A0
  have HBB := Lib.hid B0
  clear A0 B0
  go_loopw [7, 8] (fun sv iv wr => ∃ k : Nat, sv = .int .i64 (rsS P x y k) ∧ iv = .int .i64 k ∧ k ≤ m ∧ w1.heap.size ≤ wr.heap.size ∧ Below w1.heap.size w1 wr) (fun _ iv _ => m - (intOf iv).toNat)
  case atStart => exact ⟨0, rfl, rfl, Nat.zero_le _, Nat.le_refl _, Below.refl _ _⟩
  case round =>
    obtain ⟨k, rfl, rfl, hk, hsz, hb⟩ := hrel
    have HL := Lib.hid hb
    clear hb
    have k0 : (0 : Int) ≤ (k : Int) := Int.natCast_nonneg _
    have BW := Lib.hid (HBB.out.trans (HL.out.mono (by omega)))
    by_cases hlt : k < m
    · have k1 : (k : Int) < (m : Int) := by omega
      obtain ⟨p', c', ee, hxx⟩ := (HSV.out.below BW.out hha).ex
      injection ee with e1 _ e3
      subst e1 e3
      obtain ⟨ba, oa, rfl, ga1, ga2, hxx⟩ : ∃ b o, pa = some ⟨b, o, none⟩ ∧ la ≤ b ∧ b < ha ∧ ∀ k, k < m → wr.cell? ⟨b, o + k, none⟩ = some (.int .i64 (x k)) := by
        rcases hxx with e | e
        · omega
        · exact e
      have yx := hxx k hlt
      clear hxx
      obtain ⟨p'', c'', ee, hyy⟩ := (HSU.out.below BW.out hhb).ex
      injection ee with e1 _ e3
      subst e1 e3
      obtain ⟨by', oy, rfl, gb1, gb2, hyy⟩ : ∃ b o, pb = some ⟨b, o, none⟩ ∧ lb ≤ b ∧ b < hb ∧ ∀ k, k < m → wr.cell? ⟨b, o + k, none⟩ = some (.int .i64 (y k)) := by
        rcases hyy with e | e
        · omega
        · exact e
      have yc := hyy k hlt
      clear hyy
      obtain ⟨bp, op, rfl, q1, q2, r0, r1, r2, r3, r4⟩ := (HV.out.below BW.out hhi).pipe hlt
      have f0 : wr.cell? ⟨w.heap.size, 0, none⟩ = some (.slice p0 n c0) := (HA.out.below HL.out (by omega)).b0
      have f1 : wr.cell? ⟨w.heap.size, 1, none⟩ = some (.slice (some ⟨bp, op, none⟩) m c1) := (HA.out.below HL.out (by omega)).b1
      obtain ⟨z0, z1⟩ := HX.out k hlt
      have hyk := HY.out k hlt
      have hd := mulc (HDR.out k hlt) hyk
      have hs := rsS_bnd (P := P) (x := x) (y := y) (k := k) (fun j hj => HDR.out j (by omega)) (fun j hj => HY.out j (by omega))
      have HS := Lib.hid (show rsS P x y (k + 1) = rsS P x y k + y k * drp (P k) (x k) by rw [Int.mul_comm]; rfl)
      rw [Int.mul_comm] at hd
      have wa : IntKind.i64.wrap (y k * drp (P k) (x k)) = y k * drp (P k) (x k) := IntWalk.i64_in _ (by omega)
      have wb : IntKind.i64.wrap (rsS P x y k + y k * drp (P k) (x k)) = rsS P x y k + y k * drp (P k) (x k) := IntWalk.i64_in _ (by omega)
      clear hd hs hyk r0 r1 r2 r3 r4
      have hAny : ∀ X : World, Below wr.heap.size wr X → X.cell? ⟨w.heap.size, 0, none⟩ = some (.slice p0 n c0) ∧ X.cell? ⟨w.heap.size, 1, none⟩ = some (.slice (some ⟨bp, op, none⟩) m c1) ∧ X.cell? ⟨ba, oa + k, none⟩ = some (.int .i64 (x k)) ∧ X.cell? ⟨by', oy + k, none⟩ = some (.int .i64 (y k)) := fun X h => ⟨(h.cell (p := ⟨w.heap.size, 0, none⟩) (by show w.heap.size < _; omega)).trans f0, (h.cell (p := ⟨w.heap.size, 1, none⟩) (by show w.heap.size < _; omega)).trans f1, (h.cell (p := ⟨ba, oa + k, none⟩) (by show ba < _; omega)).trans yx, (h.cell (p := ⟨by', oy + k, none⟩) (by show by' < _; omega)).trans yc⟩
      go_wp2_with fail
      go_region_held3 (fun w' : World => w'.cell? ⟨w.heap.size, 0, none⟩ = some (.slice p0 n c0) ∧ w'.cell? ⟨w.heap.size, 1, none⟩ = some (.slice (some ⟨bp, op, none⟩) m c1) ∧ w'.cell? ⟨ba, oa + k, none⟩ = some (.int .i64 (x k)) ∧ w'.cell? ⟨by', oy + k, none⟩ = some (.int .i64 (y k)))
        (first | exact hAny _ (below_drw (Below.refl _ _)) | exact hAny _ KX)
        (first
          | (go_at_call 119; refine (l07Drop_any _ _ n N m P lo hi ((HV.out.below BW.out hhi).drew) (show hi ≤ wr.heap.size by omega) HBN.out k hlt _ z0 z1).mono ?_; rintro e wX ⟨rfl, hb5⟩; have KX := below_dr0 hb5; have zX := KX.size))
      clear hAny f0 f1 yx yc
      go_wp2_with fail
      go_roundw
      case rel => exact ⟨k + 1, by rw [HS.out], by go_num, hlt, by omega, HL.out.trans (KX.mono hsz)⟩
      case measure => simp [intOf]; omega
    · have hkn : k = m := by omega
      subst hkn
      have k1 : ¬ ((k : Int) < (k : Int)) := by omega
      go_wp2_with fail
      go_ret
      exact ⟨rfl, BW.out⟩

set_option maxRecDepth 100000 in
set_option maxHeartbeats 8000000 in
theorem l10Bound_any (w : World) (v : Value) (n : Nat) (N : Nat → Nod) (m : Nat) (P : Nat → Pip) (lo hi : Nat) (h : NetAt w v n N m P lo hi) (hhi : hi ≤ w.heap.size) (hB : netB n N m P = true) (va : Value) (x : Nat → Int) (la ha : Nat) (hv : Sl w va m x la ha) (hha : ha ≤ w.heap.size) (hx : ∀ k, k < m → -30000 ≤ x k ∧ x k ≤ 30000) (vb : Value) (y : Nat → Int) (lb hb : Nat) (hu : Sl w vb m y lb hb) (hhb : hb ≤ w.heap.size) (hy : ∀ k, k < m → -1 ≤ y k ∧ y k ≤ 1) :
    Calls Tryz.prog 128 #[v, va, vb] w fun e w' => e = .returned (.int .i64 (bdS P x y m)) ∧ Below w.heap.size w w' := by
  obtain ⟨p0, c0, p1, c1, rfl, hn9, hm9⟩ := h.parts
  obtain ⟨hn1, hn24, hm40⟩ := net_sz hB
  obtain ⟨pa, ca, rfl⟩ := hv.sh
  have HV := Lib.hid h
  have HSV := Lib.hid hv
  have HBN := Lib.hid hB
  have HE := Lib.hid (show ∀ k, k < m → EgB (P k).k ((x k).natAbs : Int) from fun k hk => egB_of (net_pip hB hk) (hx k hk).1 (hx k hk).2)
  have HX := Lib.hid hx
  obtain ⟨pb, cb, rfl⟩ := hu.sh
  have HSU := Lib.hid hu
  have HY := Lib.hid hy
  clear hu hy
  have A0 := boxed w (.slice p0 n c0) (.slice p1 m c1) 27
  have B0 := below_new w (.cells #[.slice p0 n c0, .slice p1 m c1] 27)
  have hs0 : (w.alloc (.cells #[.slice p0 n c0, .slice p1 m c1] 27)).heap.size = w.heap.size + 1 := by simp
  clear h hB hv hx
  go_enter Tryz.func128, Tryz.ntmps128
  go_wp2_with fail
  obtain ⟨w1, hw1⟩ : ∃ w1, w.alloc (.cells #[.slice p0 n c0, .slice p1 m c1] 27) = w1 := ⟨_, rfl⟩
  rw [hw1] at A0 B0 hs0 ⊢
  clear hw1
  have HA := Lib.hid A0
  have HBB := Lib.hid B0
  clear A0 B0
  go_loopw [7, 8] (fun sv iv wr => ∃ k : Nat, sv = .int .i64 (bdS P x y k) ∧ iv = .int .i64 k ∧ k ≤ m ∧ w1.heap.size ≤ wr.heap.size ∧ Below w1.heap.size w1 wr) (fun _ iv _ => m - (intOf iv).toNat)
  case atStart => exact ⟨0, rfl, rfl, Nat.zero_le _, Nat.le_refl _, Below.refl _ _⟩
  case round =>
    obtain ⟨k, rfl, rfl, hk, hsz, hb⟩ := hrel
    have HL := Lib.hid hb
    clear hb
    have k0 : (0 : Int) ≤ (k : Int) := Int.natCast_nonneg _
    have BW := Lib.hid (HBB.out.trans (HL.out.mono (by omega)))
    by_cases hlt : k < m
    · have k1 : (k : Int) < (m : Int) := by omega
      obtain ⟨p', c', ee, hxx⟩ := (HSV.out.below BW.out hha).ex
      injection ee with e1 _ e3
      subst e1 e3
      obtain ⟨ba, oa, rfl, ga1, ga2, hxx⟩ : ∃ b o, pa = some ⟨b, o, none⟩ ∧ la ≤ b ∧ b < ha ∧ ∀ k, k < m → wr.cell? ⟨b, o + k, none⟩ = some (.int .i64 (x k)) := by
        rcases hxx with e | e
        · omega
        · exact e
      have yx := hxx k hlt
      clear hxx
      obtain ⟨p'', c'', ee, hyy⟩ := (HSU.out.below BW.out hhb).ex
      injection ee with e1 _ e3
      subst e1 e3
      obtain ⟨by', oy, rfl, gb1, gb2, hyy⟩ : ∃ b o, pb = some ⟨b, o, none⟩ ∧ lb ≤ b ∧ b < hb ∧ ∀ k, k < m → wr.cell? ⟨b, o + k, none⟩ = some (.int .i64 (y k)) := by
        rcases hyy with e | e
        · omega
        · exact e
      have yc := hyy k hlt
      clear hyy
      obtain ⟨bp, op, rfl, q1, q2, r0, r1, r2, r3, r4⟩ := (HV.out.below BW.out hhi).pipe hlt
      have f0 : wr.cell? ⟨w.heap.size, 0, none⟩ = some (.slice p0 n c0) := (HA.out.below HL.out (by omega)).b0
      have f1 : wr.cell? ⟨w.heap.size, 1, none⟩ = some (.slice (some ⟨bp, op, none⟩) m c1) := (HA.out.below HL.out (by omega)).b1
      obtain ⟨z0, z1⟩ := HX.out k hlt
      have he := HE.out k hlt
      have hyk := HY.out k hlt
      have hd := bdT_bnd (P := P) (x := x) he
      have hs := bdS_bnd (P := P) (x := x) (y := y) (k := k) (fun j hj => HE.out j (by omega))
      have he1 := he.a1
      have he0 := he.a0
      have hk0 := he.k0
      have hk1 := he.k1
      have HS := Lib.hid (bdS_abs (P := P) (x := x) (y := y) (k := k) hyk)
      have hya : ((y k).natAbs : Int) = 0 ∨ ((y k).natAbs : Int) = 1 := by omega
      have hyr : -9223372036854775807 ≤ y k ∧ y k ≤ 9223372036854775807 := by omega
      have wa : IntKind.i64.wrap (3 * ((x k).natAbs : Int)) = 3 * ((x k).natAbs : Int) := IntWalk.i64_in _ (by omega)
      have wb : IntKind.i64.wrap (3 * ((x k).natAbs : Int) + 1) = 3 * ((x k).natAbs : Int) + 1 := IntWalk.i64_in _ (by omega)
      have wc : IntKind.i64.wrap (((y k).natAbs : Int) * (P k).k) = ((y k).natAbs : Int) * (P k).k := IntWalk.i64_in _ (by rcases hya with e | e <;> rw [e] <;> omega)
      have wd : IntKind.i64.wrap (((y k).natAbs : Int) * (P k).k * (3 * ((x k).natAbs : Int) + 1)) = ((y k).natAbs : Int) * (P k).k * (3 * ((x k).natAbs : Int) + 1) := IntWalk.i64_in _ (by unfold bdT at hd; rcases hya with e | e <;> rw [e] <;> simp only [Int.zero_mul, Int.one_mul] <;> omega)
      have we : IntKind.i64.wrap (bdS P x y k + ((y k).natAbs : Int) * (P k).k * (3 * ((x k).natAbs : Int) + 1)) = bdS P x y k + ((y k).natAbs : Int) * (P k).k * (3 * ((x k).natAbs : Int) + 1) := IntWalk.i64_in _ (by unfold bdT at hd; rcases hya with e | e <;> rw [e] <;> simp only [Int.zero_mul, Int.one_mul] <;> omega)
      clear hd hs he he1 he0 hk0 hk1 hya hyk
      go_wp2_with fail
      go_quiet ((go_at_call 126; exact Calls.quiet_of_same ((absS_any _ _ (by omega) (by omega)).mono fun e w' h => ⟨h.1, h.2.symm⟩)))
      go_wp2_with fail
      go_roundw
      case rel => exact ⟨k + 1, by rw [HS.out], by go_num, hlt, by (first | omega | (simp; omega)), below_drN1 HL.out _⟩
      case measure => simp [intOf]; omega
    · have hkn : k = m := by omega
      subst hkn
      have k1 : ¬ ((k : Int) < (k : Int)) := by omega
      go_wp2_with fail
      go_ret
      exact ⟨rfl, BW.out⟩
end Go.Proofs.YtdbgcbkmcbgdiaaGreat.mem

namespace Go.Proofs.YtdbgcbkmcbgdiaaGreat.mem
open Go.RowKit
set_option linter.unusedVariables false

end Go.Proofs.YtdbgcbkmcbgdiaaGreat.mem

namespace Go.Proofs.YtdbgcbkmcbgdiaaGreat.mem
open Go.RowKit
set_option linter.unusedVariables false

end Go.Proofs.YtdbgcbkmcbgdiaaGreat.mem

namespace Go.Proofs.YtdbgcbkmcbgdiaaGreat.mem
open Go.RowKit
set_option linter.unusedVariables false

set_option maxRecDepth 100000 in
set_option maxHeartbeats 8000000 in
theorem l10Lower_any (w : World) (v : Value) (n : Nat) (N : Nat → Nod) (m : Nat) (P : Nat → Pip) (lo hi : Nat) (h : NetAt w v n N m P lo hi) (hhi : hi ≤ w.heap.size) (hB : netB n N m P = true) (va : Value) (x : Nat → Int) (la ha : Nat) (hv : Sl w va m x la ha) (hha : ha ≤ w.heap.size) (hx : ∀ k, k < m → -30000 ≤ x k ∧ x k ≤ 30000) (vb : Value) (y : Nat → Int) (lb hb : Nat) (hu : Sl w vb m y lb hb) (hhb : hb ≤ w.heap.size) (hy : ∀ k, k < m → -1 ≤ y k ∧ y k ≤ 1) (t : Int) (ht : -1000000 ≤ t ∧ t ≤ 1000000) :
    Calls Tryz.prog 148 #[v, va, vb, .int .i64 t] w fun e w' => e = .returned (.bool (loB m P x y t)) ∧ Below w.heap.size w w' := by
  obtain ⟨p0, c0, p1, c1, rfl, hn9, hm9⟩ := h.parts
  obtain ⟨hn1, hn24, hm40⟩ := net_sz hB
  obtain ⟨pa, ca, rfl⟩ := hv.sh
  obtain ⟨pb, cb, rfl⟩ := hu.sh
  have HV := Lib.hid h
  have HSV := Lib.hid hv
  have HSU := Lib.hid hu
  have HBN := Lib.hid hB
  have HX := Lib.hid hx
  have HTY := Lib.hid (show ∀ k, k < m → (-4611686018427387904 ≤ x k + t * y k ∧ x k + t * y k ≤ 4611686018427387904) ∧ (-4611686018427387904 ≤ t * y k ∧ t * y k ≤ 4611686018427387904) from fun k hk => by
    have h1 := mulc ht (hy k hk)
    have h2 := hx k hk
    omega)
  have A0 := boxed w (.slice p0 n c0) (.slice p1 m c1) 27
  have B0 := below_new w (.cells #[.slice p0 n c0, .slice p1 m c1] 27)
  have hs0 : (w.alloc (.cells #[.slice p0 n c0, .slice p1 m c1] 27)).heap.size = w.heap.size + 1 := by simp
  clear h hB hv hx hu hy
  go_enter Tryz.func148, Tryz.ntmps148
  go_upto_region 1 with (fail)
  obtain ⟨w1, hw1⟩ : ∃ w1, w.alloc (.cells #[.slice p0 n c0, .slice p1 m c1] 27) = w1 := ⟨_, rfl⟩
  rw [hw1] at A0 B0 hs0 ⊢
  clear hw1
  go_upto_region 2 with (go_at_call 51; refine (l05Add_any _ _ _ m x y t la ha lb hb (HSV.out.below B0 hha) (by omega) (HSU.out.below B0 hhb) (by omega) (by omega) (fun k hk => (HTY.out k hk).1) (fun k hk => (HTY.out k hk).2)).mono ?_; rintro e w2 ⟨v2, g, rfl, oz, hg, b2⟩)
  obtain ⟨cz, rfl⟩ := oz.shape
  have lz := oz.lt
  have s2 := b2.size
  have B2 := B0.trans (b2.mono (by omega))
  have A2 := A0.below b2 (by omega)
  have g0 := range2 A2.b0 A2.b1
  have l2 : w.heap.size < w2.heap.size := by omega
  have hi2 : hi ≤ w2.heap.size := by omega
  have ha2 : ha ≤ w2.heap.size := by omega
  have hw2 : w.heap.size ≤ w2.heap.size := by omega
  have HOZ := Lib.hid oz
  have HS2 := Lib.hid (HSV.out.below B2 hha)
  have nN : (Tryz.prog.info? 27).map (·.size) = some 2 := by kernel_rfl
  have UN := Tryz.underlying27
  clear oz A0 A2 B0 b2
  have KS : ∀ W : World, Below w2.heap.size w2 W → (Below w2.heap.size w2 W ∧ W.rangeAt w.heap.size 0 [.slice p0 n c0, .slice p1 m c1]) := fun W hW => ⟨hW, range_blockN g0 (hW.block _ l2)⟩
  have hli : liB m m (fun k => x k + t * y k) = flB (fun k => x k + t * y k) m := by unfold liB; rw [decide_eq_true rfl, Bool.and_true]
  cases hf : flB (fun k => x k + t * y k) m
  · have HL := Lib.hid (show loB m P x y t = false by unfold loB; rw [hf]; rfl)
    refine wp_region_noPanic ?_
    refine wp_region_held_drew (S := fun w' : World => Below w2.heap.size w2 w' ∧ w'.rangeAt w.heap.size 0 [.slice p0 n c0, .slice p1 m c1]) (by kernel_rfl) (KS _ (below_drw (Below.refl _ _))) (fun sH => ?_)
    refine wpAnyH_take (i := 0) (v := .agg #[.slice p0 n c0, .slice p1 m c1]) nthe0 (by kernel_rfl) (by kernel_rfl) (by kernel_rfl) (fun _ _ _ h => h) (yieldsIf_load_mid (by rfl) _ _ rfl w.heap.size 0 rfl [.slice p0 n c0, .slice p1 m c1] _ (fun _ h => h.2) UN rfl (by exact nN)) sH ?_
    try simp only [Act.put, List.setIfInBounds_toArray, List.set_cons_zero, List.set_cons_succ]
    refine wpAnyH_take (i := 1) (v := ?_) nthe1 (by kernel_rfl) (by kernel_rfl) (by kernel_rfl) (fun _ _ _ h => h) (Or.inl ⟨by rfl, ?_⟩) sH ?_
    rotate_left
    · intro wS hSw; (try dsimp only at hSw); go_simp; try with_reducible rfl
    try simp only [Act.put, List.setIfInBounds_toArray, List.set_cons_zero, List.set_cons_succ]
    refine wpAnyH_ready (rs := [2]) (by kernel_rfl) (by simp) (AllReadyH.cons nthe2 (fun KON hKON => ?_) AllReadyH.nil)
    clear sH
    go_simp
    refine (l05List_any _ p0 p1 n m c0 c1 _ m _ g (g + 1) (HOZ.out.below (below_drw (Below.refl w2.heap.size w2)) (Nat.le_refl _)).sl (show g + 1 ≤ w2.heap.size by omega) (by omega) hm9).mono ?_
    rintro e wX ⟨rfl, hbX⟩
    rw [hli, hf]
    have KX : Below w2.heap.size w2 wX := below_dr0 hbX
    refine hKON.out _ _ (KS _ KX) (fun sH => ?_)
    clear hKON KON
    try simp only [Act.put, List.setIfInBounds_toArray, List.set_cons_zero, List.set_cons_succ]
    refine wpAnyH_take (i := 3) (v := ?_) nthe3 (by kernel_rfl) (by kernel_rfl) (by kernel_rfl) (fun _ _ _ h => h) (Or.inl ⟨by rfl, ?_⟩) sH ?_
    rotate_left
    · intro wS hSw; (try dsimp only at hSw); go_simp; try with_reducible rfl
    try simp only [Act.put, List.setIfInBounds_toArray, List.set_cons_zero, List.set_cons_succ]
    refine wpAnyH_take (i := 4) (v := undef) nthe4 (by kernel_rfl) (by kernel_rfl) (by kernel_rfl) (fun _ _ _ h => h) (Or.inr ⟨by rfl, rfl⟩) sH ?_
    try simp only [Act.put, List.setIfInBounds_toArray, List.set_cons_zero, List.set_cons_succ]
    refine wpAnyH_take (i := 5) (v := undef) nthe5 (by kernel_rfl) (by kernel_rfl) (by kernel_rfl) (fun _ _ _ h => h) (Or.inr ⟨by rfl, rfl⟩) sH ?_
    try simp only [Act.put, List.setIfInBounds_toArray, List.set_cons_zero, List.set_cons_succ]
    refine wpAnyH_take (i := 6) (v := undef) nthe6 (by kernel_rfl) (by kernel_rfl) (by kernel_rfl) (fun _ _ _ h => h) (Or.inr ⟨by rfl, rfl⟩) sH ?_
    try simp only [Act.put, List.setIfInBounds_toArray, List.set_cons_zero, List.set_cons_succ]
    refine wpAnyH_take (i := 7) (v := undef) nthe7 (by kernel_rfl) (by kernel_rfl) (by kernel_rfl) (fun _ _ _ h => h) (Or.inr ⟨by rfl, rfl⟩) sH ?_
    try simp only [Act.put, List.setIfInBounds_toArray, List.set_cons_zero, List.set_cons_succ]
    refine wpAnyH_take (i := 8) (v := undef) nthe8 (by kernel_rfl) (by kernel_rfl) (by kernel_rfl) (fun _ _ _ h => h) (Or.inr ⟨by rfl, rfl⟩) sH ?_
    try simp only [Act.put, List.setIfInBounds_toArray, List.set_cons_zero, List.set_cons_succ]
    refine wpAnyH_take (i := 9) (v := undef) nthe9 (by kernel_rfl) (by kernel_rfl) (by kernel_rfl) (fun _ _ _ h => h) (Or.inr ⟨by rfl, rfl⟩) sH ?_
    try simp only [Act.put, List.setIfInBounds_toArray, List.set_cons_zero, List.set_cons_succ]
    refine wpAnyH_take (i := 10) (v := undef) nthe10 (by kernel_rfl) (by kernel_rfl) (by kernel_rfl) (fun _ _ _ h => h) (Or.inr ⟨by rfl, rfl⟩) sH ?_
    try simp only [Act.put, List.setIfInBounds_toArray, List.set_cons_zero, List.set_cons_succ]
    refine wpAnyH_take (i := 11) (v := ?_) nthe11 (by kernel_rfl) (by kernel_rfl) (by kernel_rfl) (fun _ _ _ h => h) (Or.inl ⟨by rfl, ?_⟩) sH ?_
    rotate_left
    · intro wS hSw; (try dsimp only at hSw); go_simp; try with_reducible rfl
    try simp only [Act.put, List.setIfInBounds_toArray, List.set_cons_zero, List.set_cons_succ]
    refine wpAnyH_take (i := 12) (v := ?_) nthe12 (by kernel_rfl) (by kernel_rfl) (by kernel_rfl) (fun _ _ _ h => h) (Or.inl ⟨by rfl, ?_⟩) sH ?_
    rotate_left
    · intro wS hSw; (try dsimp only at hSw); go_simp; try with_reducible rfl
    try simp only [Act.put, List.setIfInBounds_toArray, List.set_cons_zero, List.set_cons_succ]
    refine wpAnyH_done (by kernel_rfl) ?_ _
    refine NoPanic.normal ?_
    go_wp2_with fail
    go_ret
    exact ⟨ret_b HL.out.symm, B2.trans (KX.mono hw2)⟩
  · have HL := Lib.hid (show loB m P x y t = decide (egS P (fun k => x k + t * y k) m < egS P x m) by unfold loB; rw [hf]; rfl)
    have HZR := Lib.hid (show ∀ k, k < m → -30000 ≤ x k + t * y k ∧ x k + t * y k ≤ 30000 from fun k hk => flQ_iff.1 (flB_iff.1 hf k hk))
    refine wp_region_noPanic ?_
    refine wp_region_held_drew (S := fun w' : World => Below w2.heap.size w2 w' ∧ w'.rangeAt w.heap.size 0 [.slice p0 n c0, .slice p1 m c1]) (by kernel_rfl) (KS _ (below_drw (Below.refl _ _))) (fun sH => ?_)
    refine wpAnyH_take (i := 0) (v := .agg #[.slice p0 n c0, .slice p1 m c1]) nthe0 (by kernel_rfl) (by kernel_rfl) (by kernel_rfl) (fun _ _ _ h => h) (yieldsIf_load_mid (by rfl) _ _ rfl w.heap.size 0 rfl [.slice p0 n c0, .slice p1 m c1] _ (fun _ h => h.2) UN rfl (by exact nN)) sH ?_
    try simp only [Act.put, List.setIfInBounds_toArray, List.set_cons_zero, List.set_cons_succ]
    refine wpAnyH_take (i := 1) (v := ?_) nthe1 (by kernel_rfl) (by kernel_rfl) (by kernel_rfl) (fun _ _ _ h => h) (Or.inl ⟨by rfl, ?_⟩) sH ?_
    rotate_left
    · intro wS hSw; (try dsimp only at hSw); go_simp; try with_reducible rfl
    try simp only [Act.put, List.setIfInBounds_toArray, List.set_cons_zero, List.set_cons_succ]
    refine wpAnyH_ready (rs := [2]) (by kernel_rfl) (by simp) (AllReadyH.cons nthe2 (fun KON hKON => ?_) AllReadyH.nil)
    clear sH
    go_simp
    refine (l05List_any _ p0 p1 n m c0 c1 _ m _ g (g + 1) (HOZ.out.below (below_drw (Below.refl w2.heap.size w2)) (Nat.le_refl _)).sl (show g + 1 ≤ w2.heap.size by omega) (by omega) hm9).mono ?_
    rintro e wX ⟨rfl, hbX⟩
    rw [hli, hf]
    have KX : Below w2.heap.size w2 wX := below_dr0 hbX
    refine hKON.out _ _ (KS _ KX) (fun sH => ?_)
    clear hKON KON
    try simp only [Act.put, List.setIfInBounds_toArray, List.set_cons_zero, List.set_cons_succ]
    refine wpAnyH_take (i := 3) (v := ?_) nthe3 (by kernel_rfl) (by kernel_rfl) (by kernel_rfl) (fun _ _ _ h => h) (Or.inl ⟨by rfl, ?_⟩) sH ?_
    rotate_left
    · intro wS hSw; (try dsimp only at hSw); go_simp; try with_reducible rfl
    try simp only [Act.put, List.setIfInBounds_toArray, List.set_cons_zero, List.set_cons_succ]
    refine wpAnyH_take (i := 4) (v := .agg #[.slice p0 n c0, .slice p1 m c1]) nthe4 (by kernel_rfl) (by kernel_rfl) (by kernel_rfl) (fun _ _ _ h => h) (yieldsIf_load_mid (by rfl) _ _ rfl w.heap.size 0 rfl [.slice p0 n c0, .slice p1 m c1] _ (fun _ h => h.2) UN rfl (by exact nN)) sH ?_
    try simp only [Act.put, List.setIfInBounds_toArray, List.set_cons_zero, List.set_cons_succ]
    refine wpAnyH_take (i := 5) (v := ?_) nthe5 (by kernel_rfl) (by kernel_rfl) (by kernel_rfl) (fun _ _ _ h => h) (Or.inl ⟨by rfl, ?_⟩) sH ?_
    rotate_left
    · intro wS hSw; (try dsimp only at hSw); go_simp; try with_reducible rfl
    try simp only [Act.put, List.setIfInBounds_toArray, List.set_cons_zero, List.set_cons_succ]
    refine wpAnyH_take (i := 7) (v := .agg #[.slice p0 n c0, .slice p1 m c1]) nthe7 (by kernel_rfl) (by kernel_rfl) (by kernel_rfl) (fun _ _ _ h => h) (yieldsIf_load_mid (by rfl) _ _ rfl w.heap.size 0 rfl [.slice p0 n c0, .slice p1 m c1] _ (fun _ h => h.2) UN rfl (by exact nN)) sH ?_
    try simp only [Act.put, List.setIfInBounds_toArray, List.set_cons_zero, List.set_cons_succ]
    refine wpAnyH_take (i := 8) (v := ?_) nthe8 (by kernel_rfl) (by kernel_rfl) (by kernel_rfl) (fun _ _ _ h => h) (Or.inl ⟨by rfl, ?_⟩) sH ?_
    rotate_left
    · intro wS hSw; (try dsimp only at hSw); go_simp; try with_reducible rfl
    try simp only [Act.put, List.setIfInBounds_toArray, List.set_cons_zero, List.set_cons_succ]
    refine wpAnyH_ready (rs := [6]) (by kernel_rfl) (by simp) (AllReadyH.cons nthe6 (fun KON hKON => ?_) AllReadyH.nil)
    clear sH
    go_simp
    refine (l10Energy_any _ _ n N m P lo hi (HV.out.below (B2.trans (KX.mono hw2)) hhi) (Nat.le_trans hi2 KX.size) HBN.out _ _ g (g + 1) (HOZ.out.below KX (Nat.le_refl _)).sl (Nat.le_trans lz KX.size) HZR.out).mono ?_
    rintro e wY ⟨rfl, hbY⟩
    have KY : Below w2.heap.size w2 wY := KX.trans (hbY.mono KX.size)
    refine hKON.out _ _ (KS _ KY) (fun sH => ?_)
    clear hKON KON
    try simp only [Act.put, List.setIfInBounds_toArray, List.set_cons_zero, List.set_cons_succ]
    refine wpAnyH_ready (rs := [9]) (by kernel_rfl) (by simp) (AllReadyH.cons nthe9 (fun KON hKON => ?_) AllReadyH.nil)
    clear sH
    go_simp
    refine (l10Energy_any _ _ n N m P lo hi (HV.out.below (B2.trans (KY.mono hw2)) hhi) (Nat.le_trans hi2 KY.size) HBN.out _ x la ha (HS2.out.below KY ha2) (Nat.le_trans ha2 KY.size) HX.out).mono ?_
    rintro e wZ ⟨rfl, hbZ⟩
    have KZ : Below w2.heap.size w2 wZ := KY.trans (hbZ.mono KY.size)
    refine hKON.out _ _ (KS _ KZ) (fun sH => ?_)
    clear hKON KON
    try simp only [Act.put, List.setIfInBounds_toArray, List.set_cons_zero, List.set_cons_succ]
    refine wpAnyH_take (i := 10) (v := ?_) nthe10 (by kernel_rfl) (by kernel_rfl) (by kernel_rfl) (fun _ _ _ h => h) (Or.inl ⟨by rfl, ?_⟩) sH ?_
    rotate_left
    · intro wS hSw; (try dsimp only at hSw); go_simp; try with_reducible rfl
    try simp only [Act.put, List.setIfInBounds_toArray, List.set_cons_zero, List.set_cons_succ]
    refine wpAnyH_take (i := 11) (v := ?_) nthe11 (by kernel_rfl) (by kernel_rfl) (by kernel_rfl) (fun _ _ _ h => h) (Or.inl ⟨by rfl, ?_⟩) sH ?_
    rotate_left
    · intro wS hSw; (try dsimp only at hSw); go_simp; try with_reducible rfl
    try simp only [Act.put, List.setIfInBounds_toArray, List.set_cons_zero, List.set_cons_succ]
    refine wpAnyH_take (i := 12) (v := ?_) nthe12 (by kernel_rfl) (by kernel_rfl) (by kernel_rfl) (fun _ _ _ h => h) (Or.inl ⟨by rfl, ?_⟩) sH ?_
    rotate_left
    · intro wS hSw; (try dsimp only at hSw); go_simp; try with_reducible rfl
    try simp only [Act.put, List.setIfInBounds_toArray, List.set_cons_zero, List.set_cons_succ]
    refine wpAnyH_done (by kernel_rfl) ?_ _
    refine NoPanic.normal ?_
    go_wp2_with fail
    go_ret
    exact ⟨ret_b HL.out.symm, B2.trans (KZ.mono hw2)⟩
end Go.Proofs.YtdbgcbkmcbgdiaaGreat.mem

namespace Go.Proofs.YtdbgcbkmcbgdiaaGreat.mem
open Go.RowKit
set_option linter.unusedVariables false

end Go.Proofs.YtdbgcbkmcbgdiaaGreat.mem

namespace Go.Proofs.YtdbgcbkmcbgdiaaGreat.mem
open Go.RowKit
set_option linter.unusedVariables false

end Go.Proofs.YtdbgcbkmcbgdiaaGreat.mem

namespace Go.Proofs.YtdbgcbkmcbgdiaaGreat.mem
open Go.RowKit
set_option linter.unusedVariables false

end Go.Proofs.YtdbgcbkmcbgdiaaGreat.mem

namespace Go.Proofs.YtdbgcbkmcbgdiaaGreat.mem
open Go.RowKit
set_option linter.unusedVariables false

end Go.Proofs.YtdbgcbkmcbgdiaaGreat.mem

namespace Go.Proofs.YtdbgcbkmcbgdiaaGreat.mem
open Go.RowKit
set_option linter.unusedVariables false

end Go.Proofs.YtdbgcbkmcbgdiaaGreat.mem

namespace Go.Proofs.YtdbgcbkmcbgdiaaGreat.mem
open Go.RowKit
set_option linter.unusedVariables false

theorem apm_nil (W : World) (g n cap c : Nat) (hcap : n ≤ cap) : Sem.run Tryz.prog (Builtin.append_ #[28, 28] 28 #[.slice (some ⟨g, 0, none⟩) n cap, .slice none 0 c]) W = .ok (.slice (some ⟨g, 0, none⟩) n cap) W := by
  obtain ⟨i0, hi, hz0, hz1, hz2⟩ := info_parts info_make_int64
  simp [Builtin.append_, run_underlying Tryz.underlying28, sizeOf, typeInfo, hi, Builtin.lenOf, hcap, Builtin.firstCells, storeCells]
theorem apm_far (W : World) (g n cap c : Nat) (a : Addr) (hcap : n ≤ cap) : Sem.run Tryz.prog (Builtin.append_ #[28, 28] 28 #[.slice (some ⟨g, 0, none⟩) n cap, .slice (some a) 0 c]) W = .ok (.slice (some ⟨g, 0, none⟩) n cap) W := by
  obtain ⟨i0, hi, hz0, hz1, hz2⟩ := info_parts info_make_int64
  simp [Builtin.append_, run_underlying Tryz.underlying28, sizeOf, typeInfo, hi, Builtin.lenOf, hcap, Builtin.firstCells, storeCells, loadCells, loadCellsFrom]
/-- a list behind a list of one's own -/
theorem app_all (W : World) (v va : Value) (d : Nat → Int) (g m : Nat) (e : Nat → Int) (la ha : Nat) (h : Own W v 0 d g) (hv : Sl W va m e la ha) (hm : m ≤ 1000000) :
    ∃ v' w' g', Sem.run Tryz.prog (Builtin.append_ #[28, 28] 28 #[v, va]) W = .ok v' w' ∧ Own w' v' m e g' ∧ ∀ B, B ≤ g → g ≤ W.heap.size → Below B W w' ∧ B ≤ g' := by
  obtain ⟨cap0, rfl⟩ := h.shape
  obtain ⟨p, c, rfl, hc⟩ := hv
  rcases hc with h0 | ⟨b, o, rfl, g1, g2, g3⟩
  · subst h0
    have hown : Own W (.slice (some ⟨g, 0, none⟩) 0 cap0) 0 e g := h.congr (fun k hk => by omega)
    cases p with
    | none => exact ⟨_, W, g, apm_nil W g 0 cap0 c (Nat.zero_le _), hown, fun B hB _ => ⟨Below.refl _ _, hB⟩⟩
    | some a =>
      obtain ⟨b, o, x⟩ := a
      cases x with
      | none =>
        obtain ⟨v', w', g', hr, ap⟩ := apm_run W _ 0 d g b o 0 c e h (fun k hk => by omega) (by omega)
        exact ⟨v', w', g', hr, (ap.own.congr (e := e) (fun k hk => by omega)), fun B hB hg => ap.below hB hg⟩
      | some x => exact ⟨_, W, g, apm_far W g 0 cap0 c _ (Nat.zero_le _), hown, fun B hB _ => ⟨Below.refl _ _, hB⟩⟩
  · obtain ⟨v', w', g', hr, ap⟩ := apm_run W _ 0 d g b o m c e h g3 (by omega)
    refine ⟨v', w', g', hr, ?_, fun B hB hg => ap.below hB hg⟩
    have h1 := ap.own
    rw [Nat.zero_add] at h1
    exact h1.congr (fun k hk => by unfold catD; rw [if_neg (by omega), Nat.sub_zero])
set_option maxRecDepth 100000 in
set_option maxHeartbeats 8000000 in
theorem l11Pass_any (w : World) (v : Value) (n : Nat) (N : Nat → Nod) (m : Nat) (P : Nat → Pip) (lo hi : Nat) (h : NetAt w v n N m P lo hi) (hhi : hi ≤ w.heap.size) (hB : netB n N m P = true) (vb : Value) (B : Nat) (hbas : Bas w vb (chN n P m) m (fun i => cyc P (fE n P m) (fD n P m) (chS n P m i)) B) (vx : Value) (x0 : Nat → Int) (gx0 : Nat) (hox : Own w vx m x0 gx0) (hx : ∀ k, k < m → -30000 ≤ x0 k ∧ x0 k ≤ 30000) (step left : Int) (hst : -100000 ≤ step ∧ step ≤ 100000) (hle : 0 ≤ left ∧ left ≤ 5000) :
    Calls Tryz.prog 104 #[v, vb, vx, .int .i64 step, .int .i64 left] w fun e w' => ∃ v2 g2, e = .returned (.tuple #[v2, .int .i64 (psS m P (fun i => cyc P (fE n P m) (fD n P m) (chS n P m i)) x0 step left (chN n P m)).2]) ∧ Own w' v2 m (psS m P (fun i => cyc P (fE n P m) (fD n P m) (chS n P m i)) x0 step left (chN n P m)).1 g2 ∧ (g2 = gx0 ∨ w.heap.size ≤ g2) ∧ Below w.heap.size w w' := by
  obtain ⟨p0, c0, p1, c1, rfl, hn9, hm9⟩ := h.parts
  obtain ⟨hn1, hn24, hm40⟩ := net_sz hB
  have hcn := chN_le n P m
  obtain ⟨pb, cb, rfl⟩ := hbas.shape
  obtain ⟨cx0, rfl⟩ := hox.shape
  have HV := Lib.hid h
  have HBN := Lib.hid hB
  have HBA := Lib.hid hbas
  have HX0 := Lib.hid hx
  have A0 := boxed w (.slice p0 n c0) (.slice p1 m c1) 27
  have B0 := below_new w (.cells #[.slice p0 n c0, .slice p1 m c1] 27)
  have hs0 : (w.alloc (.cells #[.slice p0 n c0, .slice p1 m c1] 27)).heap.size = w.heap.size + 1 := by simp
  have HO0 := Lib.hid (hox.below B0 (Nat.le_refl _))
  have HB2 := Lib.hid (hbas.next B0)
  have hwn : IntKind.i64.wrap (-step) = -step := IntWalk.i64_in _ (by omega)
  have nN : (Tryz.prog.info? 27).map (·.size) = some 2 := by kernel_rfl
  have UN := Tryz.underlying27
  clear h hB hbas hox hx
  go_enter Tryz.func104, Tryz.ntmps104
  go_wp2_with fail
  obtain ⟨w1, hw1⟩ : ∃ w1, w.alloc (.cells #[.slice p0 n c0, .slice p1 m c1] 27) = w1 := ⟨_, rfl⟩
  rw [hw1] at A0 B0 hs0 HO0 HB2 ⊢
  clear hw1
  replace hs0 := Nat.le_antisymm_iff.1 hs0
  have HA := Lib.hid A0
  have HBB := Lib.hid B0
  clear A0 B0
  generalize hY : (fun i => cyc P (fE n P m) (fD n P m) (chS n P m i)) = Y at *
  have HYE := Lib.hid hY
  clear hY
  go_loopw [2, 12, 13] (fun xv mv iv wr => ∃ (k gx cx : Nat) (x : Nat → Int) (mo : Int), xv = .slice (some ⟨gx, 0, none⟩) m cx ∧ (x, mo) = psS m P Y x0 step left k ∧ Own wr (.slice (some ⟨gx, 0, none⟩) m cx) m x gx ∧ (gx = gx0 ∨ w.heap.size + 1 ≤ gx) ∧ mv = .int .i64 mo ∧ iv = .int .i64 k ∧ k ≤ chN n P m ∧ w1.heap.size ≤ wr.heap.size ∧ Below w1.heap.size w1 wr) (fun _ _ iv _ => chN n P m - (intOf iv).toNat)
  case atStart => exact ⟨0, gx0, cx0, x0, 0, rfl, rfl, HO0.out, .inl rfl, rfl, rfl, Nat.zero_le _, Nat.le_refl _, Below.refl _ _⟩
  case round =>
    obtain ⟨k, gx, cx, x, mo, rfl, hps, hox, hgx, rfl, rfl, hk, hsz, hb⟩ := hrel
    have HPS := Lib.hid hps
    have hmo : 0 ≤ mo ∧ mo ≤ left ∧ mo ≤ k := by
      have := psS_cnt (m := m) (P := P) (Y := Y) (x := x0) (step := step) hle.1 k
      rw [← hps] at this
      exact this
    have HXR := Lib.hid (show ∀ k, k < m → -30000 ≤ x k ∧ x k ≤ 30000 from fun a ha => by
      have := psS_rng (P := P) (Y := Y) (step := step) (left := left) HX0.out k a ha
      rw [← hps] at this
      exact this)
    have HOX := Lib.hid hox
    have HL := Lib.hid hb
    have lgx := hox.lt
    clear hps hox hb HO0
    have k0 : (0 : Int) ≤ (k : Int) := Int.natCast_nonneg _
    have BW := Lib.hid (HBB.out.trans (HL.out.mono (by omega)))
    by_cases hlt : k < chN n P m
    · have k1 : (k : Int) < (chN n P m : Int) := by omega
      by_cases hml : mo < left
      · have hdm : decide (mo < left) = true := decide_eq_true hml
        obtain ⟨q, cap, G, C, ee, hql, hrow⟩ : ∃ (q cap : Nat) (G C : Nat → Nat), Value.slice pb (chN n P m) cb = .slice (some ⟨q, 0, none⟩) (chN n P m) cap ∧ q < w1.heap.size ∧ ∀ k, k < chN n P m → w1.cell? ⟨q, k, none⟩ = some (.slice (some ⟨G k, 0, none⟩) m (C k)) ∧ Own w1 (.slice (some ⟨G k, 0, none⟩) m (C k)) m (Y k) (G k) := by
          rcases HB2.out.at_ with e | e
          · omega
          · exact e
        obtain ⟨rfl, rfl⟩ : pb = some ⟨q, 0, none⟩ ∧ cb = cap := by
          injection ee with h1 _ h3
          exact ⟨h1, h3⟩
        clear ee
        obtain ⟨yr, yo⟩ := hrow k hlt
        clear hrow
        obtain ⟨hcm, hcp⟩ := chS_at (n := n) (P := P) (m := m) hlt
        have HCR := Lib.hid (show ∀ a, a < m → -1 ≤ Y k a ∧ Y k a ≤ 1 from fun a _ => by rw [← HYE.out]; exact cyc_one HBN.out hcm hcp a)
        have HY := Lib.hid (yo.below HL.out (Nat.le_refl _))
        have y2 : wr.cell? ⟨q, k, none⟩ = some (.slice (some ⟨G k, 0, none⟩) m (C k)) := (HL.out.cell (p := ⟨q, k, none⟩) hql).trans yr
        have g0 := range2 (HA.out.below HL.out (by omega)).b0 (HA.out.below HL.out (by omega)).b1
        clear yr yo
        have hir : hi ≤ wr.heap.size := by omega
        have hwr : w.heap.size ≤ wr.heap.size := by omega
        have lwr : w.heap.size < wr.heap.size := by omega
        have lqr : q < wr.heap.size := by omega
        have HNX := Lib.hid (show psS m P Y x0 step left (k + 1) = psT m P (Y k) step left (x, mo) by rw [HPS.out]; rfl)
        have KS : ∀ W : World, Below wr.heap.size wr W → (Below wr.heap.size wr W ∧ W.rangeAt w.heap.size 0 [.slice p0 n c0, .slice p1 m c1] ∧ W.cell? ⟨q, k, none⟩ = some (.slice (some ⟨G k, 0, none⟩) m (C k))) := fun W hW => ⟨hW, range_blockN g0 (hW.block _ lwr), (hW.cell (p := ⟨q, k, none⟩) lqr).trans y2⟩
        have HTY := Lib.hid (show ∀ s, -100000 ≤ s ∧ s ≤ 100000 → ∀ a, a < m → (-4611686018427387904 ≤ x a + s * Y k a ∧ x a + s * Y k a ≤ 4611686018427387904) ∧ (-4611686018427387904 ≤ s * Y k a ∧ s * Y k a ≤ 4611686018427387904) from fun s hs a ha => by
          have h1 := mulc hs (HCR.out a ha)
          have h2 := HXR.out a ha
          omega)
        have hw1' : IntKind.i64.wrap (mo + 1) = mo + 1 := IntWalk.i64_in _ (by omega)
        go_upto_region 5 with (fail)
        cases ht1 : loB m P x (Y k) step
        · refine wp_region_noPanic ?_
          refine wp_region_held_drew (S := fun w' : World => Below wr.heap.size wr w' ∧ w'.rangeAt w.heap.size 0 [.slice p0 n c0, .slice p1 m c1] ∧ w'.cell? ⟨q, k, none⟩ = some (.slice (some ⟨G k, 0, none⟩) m (C k))) (by kernel_rfl) (KS _ (below_drw (Below.refl _ _))) (fun sH => ?_)
          refine wpAnyH_take (i := 0) (v := .agg #[.slice p0 n c0, .slice p1 m c1]) nthe0 (by kernel_rfl) (by kernel_rfl) (by kernel_rfl) (fun _ _ _ h => h) (yieldsIf_load_mid (by rfl) _ _ rfl w.heap.size 0 rfl [.slice p0 n c0, .slice p1 m c1] _ (fun _ h => h.2.1) UN rfl (by exact nN)) sH ?_
          try simp only [Act.put, List.setIfInBounds_toArray, List.set_cons_zero, List.set_cons_succ]
          refine wpAnyH_take (i := 1) (v := ?_) nthe1 (by kernel_rfl) (by kernel_rfl) (by kernel_rfl) (fun _ _ _ h => h) (Or.inl ⟨by rfl, ?_⟩) sH ?_
          rotate_left
          · intro wS hSw; (try dsimp only at hSw); go_simp; try with_reducible rfl
          try simp only [Act.put, List.setIfInBounds_toArray, List.set_cons_zero, List.set_cons_succ]
          refine wpAnyH_take (i := 2) (v := ?_) nthe2 (by kernel_rfl) (by kernel_rfl) (by kernel_rfl) (fun _ _ _ h => h) (Or.inl ⟨by rfl, ?_⟩) sH ?_
          rotate_left
          · intro wS hSw; (try dsimp only at hSw); go_simp; try with_reducible rfl
          try simp only [Act.put, List.setIfInBounds_toArray, List.set_cons_zero, List.set_cons_succ]
          refine wpAnyH_take (i := 3) (v := ?_) nthe3 (by kernel_rfl) (by kernel_rfl) (by kernel_rfl) (fun _ _ _ h => h) (Or.inl ⟨by rfl, ?_⟩) sH ?_
          rotate_left
          · intro wS hSw; (try dsimp only at hSw); go_simp; try with_reducible rfl
          try simp only [Act.put, List.setIfInBounds_toArray, List.set_cons_zero, List.set_cons_succ]
          refine wpAnyH_take (i := 4) (v := ?_) nthe4 (by kernel_rfl) (by kernel_rfl) (by kernel_rfl) (fun _ _ _ h => h) (Or.inl ⟨by rfl, ?_⟩) sH ?_
          rotate_left
          · intro wS hSw; (try dsimp only at hSw); go_simp; try with_reducible rfl
          try simp only [Act.put, List.setIfInBounds_toArray, List.set_cons_zero, List.set_cons_succ]
          refine wpAnyH_take (i := 5) (v := ?_) nthe5 (by kernel_rfl) (by kernel_rfl) (by kernel_rfl) (fun _ _ _ h => h) (Or.inl ⟨by rfl, ?_⟩) sH ?_
          rotate_left
          · intro wS hSw; (try dsimp only at hSw); go_simp; try with_reducible rfl
          try simp only [Act.put, List.setIfInBounds_toArray, List.set_cons_zero, List.set_cons_succ]
          refine wpAnyH_take (i := 6) (v := ?_) nthe6 (by kernel_rfl) (by kernel_rfl) (by kernel_rfl) (fun _ _ _ h => h) (Or.inl ⟨by rfl, ?_⟩) sH ?_
          rotate_left
          · intro wS hSw; (try dsimp only at hSw); go_simp; try with_reducible rfl
          try simp only [Act.put, List.setIfInBounds_toArray, List.set_cons_zero, List.set_cons_succ]
          refine wpAnyH_ready (rs := [7]) (by kernel_rfl) (by simp) (AllReadyH.cons nthe7 (fun KON hKON => ?_) AllReadyH.nil)
          clear sH
          go_simp
          refine (l10Lower_any _ _ n N m P lo hi (HV.out.below (BW.out.trans ((below_drw (Below.refl wr.heap.size wr)).mono hwr)) hhi) hir HBN.out _ x gx (gx + 1) (HOX.out.below (below_drw (Below.refl wr.heap.size wr)) (Nat.le_refl _)).sl (show gx + 1 ≤ wr.heap.size from HOX.out.lt) HXR.out _ _ (G k) (G k + 1) (HY.out.below (below_drw (Below.refl wr.heap.size wr)) (Nat.le_refl _)).sl (show G k + 1 ≤ wr.heap.size from HY.out.lt) HCR.out (step) (by omega)).mono ?_
          rintro e wX ⟨rfl, hbX⟩
          rw [ht1]
          have KX : Below wr.heap.size wr wX := below_dr0 hbX
          refine hKON.out _ _ (KS _ KX) (fun sH => ?_)
          clear hKON KON
          try simp only [Act.put, List.setIfInBounds_toArray, List.set_cons_zero, List.set_cons_succ]
          refine wpAnyH_take (i := 8) (v := ?_) nthe8 (by kernel_rfl) (by kernel_rfl) (by kernel_rfl) (fun _ _ _ h => h) (Or.inl ⟨by rfl, ?_⟩) sH ?_
          rotate_left
          · intro wS hSw; (try dsimp only at hSw); go_simp; try with_reducible rfl
          try simp only [Act.put, List.setIfInBounds_toArray, List.set_cons_zero, List.set_cons_succ]
          refine wpAnyH_done (by kernel_rfl) ?_ _
          refine NoPanic.normal ?_
          have HT1 := Lib.hid ht1
          obtain ⟨wV, hwV⟩ : ∃ w', w' = wX := ⟨_, rfl⟩
          subst hwV
          have KV := KX
          clear KX hbX ht1
          have KS2 : ∀ W : World, Below wV.heap.size wV W → (Below wV.heap.size wV W ∧ W.rangeAt w.heap.size 0 [.slice p0 n c0, .slice p1 m c1] ∧ W.cell? ⟨q, k, none⟩ = some (.slice (some ⟨G k, 0, none⟩) m (C k))) := fun W hW => ⟨hW, (KS _ (KV.trans (hW.mono KV.size))).2⟩
          go_upto_region 8 with (fail)
          cases ht2 : loB m P x (Y k) (-step)
          · refine wp_region_noPanic ?_
            refine wp_region_held_drew (S := fun w' : World => Below wV.heap.size wV w' ∧ w'.rangeAt w.heap.size 0 [.slice p0 n c0, .slice p1 m c1] ∧ w'.cell? ⟨q, k, none⟩ = some (.slice (some ⟨G k, 0, none⟩) m (C k))) (by kernel_rfl) (KS2 _ (below_drw (Below.refl _ _))) (fun sH => ?_)
            refine wpAnyH_take (i := 0) (v := .agg #[.slice p0 n c0, .slice p1 m c1]) nthe0 (by kernel_rfl) (by kernel_rfl) (by kernel_rfl) (fun _ _ _ h => h) (yieldsIf_load_mid (by rfl) _ _ rfl w.heap.size 0 rfl [.slice p0 n c0, .slice p1 m c1] _ (fun _ h => h.2.1) UN rfl (by exact nN)) sH ?_
            try simp only [Act.put, List.setIfInBounds_toArray, List.set_cons_zero, List.set_cons_succ]
            refine wpAnyH_take (i := 1) (v := ?_) nthe1 (by kernel_rfl) (by kernel_rfl) (by kernel_rfl) (fun _ _ _ h => h) (Or.inl ⟨by rfl, ?_⟩) sH ?_
            rotate_left
            · intro wS hSw; (try dsimp only at hSw); go_simp; try with_reducible rfl
            try simp only [Act.put, List.setIfInBounds_toArray, List.set_cons_zero, List.set_cons_succ]
            refine wpAnyH_take (i := 2) (v := ?_) nthe2 (by kernel_rfl) (by kernel_rfl) (by kernel_rfl) (fun _ _ _ h => h) (Or.inl ⟨by rfl, ?_⟩) sH ?_
            rotate_left
            · intro wS hSw; (try dsimp only at hSw); go_simp; try with_reducible rfl
            try simp only [Act.put, List.setIfInBounds_toArray, List.set_cons_zero, List.set_cons_succ]
            refine wpAnyH_take (i := 3) (v := ?_) nthe3 (by kernel_rfl) (by kernel_rfl) (by kernel_rfl) (fun _ _ _ h => h) (Or.inl ⟨by rfl, ?_⟩) sH ?_
            rotate_left
            · intro wS hSw; (try dsimp only at hSw); go_simp; try with_reducible rfl
            try simp only [Act.put, List.setIfInBounds_toArray, List.set_cons_zero, List.set_cons_succ]
            refine wpAnyH_take (i := 4) (v := ?_) nthe4 (by kernel_rfl) (by kernel_rfl) (by kernel_rfl) (fun _ _ _ h => h) (Or.inl ⟨by rfl, ?_⟩) sH ?_
            rotate_left
            · intro wS hSw; (try dsimp only at hSw); go_simp; try with_reducible rfl
            try simp only [Act.put, List.setIfInBounds_toArray, List.set_cons_zero, List.set_cons_succ]
            refine wpAnyH_take (i := 5) (v := ?_) nthe5 (by kernel_rfl) (by kernel_rfl) (by kernel_rfl) (fun _ _ _ h => h) (Or.inl ⟨by rfl, ?_⟩) sH ?_
            rotate_left
            · intro wS hSw; (try dsimp only at hSw); go_simp; try with_reducible rfl
            try simp only [Act.put, List.setIfInBounds_toArray, List.set_cons_zero, List.set_cons_succ]
            refine wpAnyH_take (i := 6) (v := ?_) nthe6 (by kernel_rfl) (by kernel_rfl) (by kernel_rfl) (fun _ _ _ h => h) (Or.inl ⟨by rfl, ?_⟩) sH ?_
            rotate_left
            · intro wS hSw; (try dsimp only at hSw); go_simp; try with_reducible rfl
            try simp only [Act.put, List.setIfInBounds_toArray, List.set_cons_zero, List.set_cons_succ]
            refine wpAnyH_take (i := 7) (v := ?_) nthe7 (by kernel_rfl) (by kernel_rfl) (by kernel_rfl) (fun _ _ _ h => h) (Or.inl ⟨by rfl, ?_⟩) sH ?_
            rotate_left
            · intro wS hSw; (try dsimp only at hSw); go_simp; try with_reducible rfl
            try simp only [Act.put, List.setIfInBounds_toArray, List.set_cons_zero, List.set_cons_succ]
            refine wpAnyH_ready (rs := [8]) (by kernel_rfl) (by simp) (AllReadyH.cons nthe8 (fun KON hKON => ?_) AllReadyH.nil)
            clear sH
            go_simp
            refine (l10Lower_any _ _ n N m P lo hi (HV.out.below (BW.out.trans ((KV.trans ((below_drw (Below.refl wV.heap.size wV)).mono KV.size)).mono hwr)) hhi) (Nat.le_trans hir KV.size) HBN.out _ x gx (gx + 1) (HOX.out.below (KV.trans ((below_drw (Below.refl wV.heap.size wV)).mono KV.size)) (Nat.le_refl _)).sl (Nat.le_trans HOX.out.lt KV.size) HXR.out _ _ (G k) (G k + 1) (HY.out.below (KV.trans ((below_drw (Below.refl wV.heap.size wV)).mono KV.size)) (Nat.le_refl _)).sl (Nat.le_trans HY.out.lt KV.size) HCR.out (-step) (by omega)).mono ?_
            rintro e wX ⟨rfl, hbX⟩
            rw [ht2]
            have KX' : Below wV.heap.size wV wX := below_dr0 hbX
            have KX : Below wr.heap.size wr wX := KV.trans (KX'.mono KV.size)
            refine hKON.out _ _ (KS2 _ KX') (fun sH => ?_)
            clear hKON KON
            try simp only [Act.put, List.setIfInBounds_toArray, List.set_cons_zero, List.set_cons_succ]
            refine wpAnyH_take (i := 9) (v := ?_) nthe9 (by kernel_rfl) (by kernel_rfl) (by kernel_rfl) (fun _ _ _ h => h) (Or.inl ⟨by rfl, ?_⟩) sH ?_
            rotate_left
            · intro wS hSw; (try dsimp only at hSw); go_simp; try with_reducible rfl
            try simp only [Act.put, List.setIfInBounds_toArray, List.set_cons_zero, List.set_cons_succ]
            refine wpAnyH_done (by kernel_rfl) ?_ _
            refine NoPanic.normal ?_
            have HN2 := Lib.hid (show psS m P Y x0 step left (k + 1) = (x, mo) by rw [HNX.out]; unfold psT; rw [if_pos hml, if_neg (by rw [HT1.out]; exact Bool.false_ne_true), if_neg (by rw [ht2]; exact Bool.false_ne_true)])
            clear ht2
            have zX := KX.size
            have HL2 := HL.out.trans (KX.mono hsz)
            go_wp2_with fail
            go_roundw
            case rel => exact ⟨k + 1, gx, cx, x, mo, rfl, HN2.out.symm, HOX.out.below KX (Nat.le_refl _), hgx, rfl, by go_num, hlt, by omega, HL2⟩
            case measure => simp [intOf]; omega
          · refine wp_region_noPanic ?_
            refine wp_region_held_drew (S := fun w' : World => Below wV.heap.size wV w' ∧ w'.rangeAt w.heap.size 0 [.slice p0 n c0, .slice p1 m c1] ∧ w'.cell? ⟨q, k, none⟩ = some (.slice (some ⟨G k, 0, none⟩) m (C k))) (by kernel_rfl) (KS2 _ (below_drw (Below.refl _ _))) (fun sH => ?_)
            refine wpAnyH_take (i := 0) (v := .agg #[.slice p0 n c0, .slice p1 m c1]) nthe0 (by kernel_rfl) (by kernel_rfl) (by kernel_rfl) (fun _ _ _ h => h) (yieldsIf_load_mid (by rfl) _ _ rfl w.heap.size 0 rfl [.slice p0 n c0, .slice p1 m c1] _ (fun _ h => h.2.1) UN rfl (by exact nN)) sH ?_
            try simp only [Act.put, List.setIfInBounds_toArray, List.set_cons_zero, List.set_cons_succ]
            refine wpAnyH_take (i := 1) (v := ?_) nthe1 (by kernel_rfl) (by kernel_rfl) (by kernel_rfl) (fun _ _ _ h => h) (Or.inl ⟨by rfl, ?_⟩) sH ?_
            rotate_left
            · intro wS hSw; (try dsimp only at hSw); go_simp; try with_reducible rfl
            try simp only [Act.put, List.setIfInBounds_toArray, List.set_cons_zero, List.set_cons_succ]
            refine wpAnyH_take (i := 2) (v := ?_) nthe2 (by kernel_rfl) (by kernel_rfl) (by kernel_rfl) (fun _ _ _ h => h) (Or.inl ⟨by rfl, ?_⟩) sH ?_
            rotate_left
            · intro wS hSw; (try dsimp only at hSw); go_simp; try with_reducible rfl
            try simp only [Act.put, List.setIfInBounds_toArray, List.set_cons_zero, List.set_cons_succ]
            refine wpAnyH_take (i := 3) (v := ?_) nthe3 (by kernel_rfl) (by kernel_rfl) (by kernel_rfl) (fun _ _ _ h => h) (Or.inl ⟨by rfl, ?_⟩) sH ?_
            rotate_left
            · intro wS hSw; (try dsimp only at hSw); go_simp; try with_reducible rfl
            try simp only [Act.put, List.setIfInBounds_toArray, List.set_cons_zero, List.set_cons_succ]
            refine wpAnyH_take (i := 4) (v := ?_) nthe4 (by kernel_rfl) (by kernel_rfl) (by kernel_rfl) (fun _ _ _ h => h) (Or.inl ⟨by rfl, ?_⟩) sH ?_
            rotate_left
            · intro wS hSw; (try dsimp only at hSw); go_simp; try with_reducible rfl
            try simp only [Act.put, List.setIfInBounds_toArray, List.set_cons_zero, List.set_cons_succ]
            refine wpAnyH_take (i := 5) (v := ?_) nthe5 (by kernel_rfl) (by kernel_rfl) (by kernel_rfl) (fun _ _ _ h => h) (Or.inl ⟨by rfl, ?_⟩) sH ?_
            rotate_left
            · intro wS hSw; (try dsimp only at hSw); go_simp; try with_reducible rfl
            try simp only [Act.put, List.setIfInBounds_toArray, List.set_cons_zero, List.set_cons_succ]
            refine wpAnyH_take (i := 6) (v := ?_) nthe6 (by kernel_rfl) (by kernel_rfl) (by kernel_rfl) (fun _ _ _ h => h) (Or.inl ⟨by rfl, ?_⟩) sH ?_
            rotate_left
            · intro wS hSw; (try dsimp only at hSw); go_simp; try with_reducible rfl
            try simp only [Act.put, List.setIfInBounds_toArray, List.set_cons_zero, List.set_cons_succ]
            refine wpAnyH_take (i := 7) (v := ?_) nthe7 (by kernel_rfl) (by kernel_rfl) (by kernel_rfl) (fun _ _ _ h => h) (Or.inl ⟨by rfl, ?_⟩) sH ?_
            rotate_left
            · intro wS hSw; (try dsimp only at hSw); go_simp; try with_reducible rfl
            try simp only [Act.put, List.setIfInBounds_toArray, List.set_cons_zero, List.set_cons_succ]
            refine wpAnyH_ready (rs := [8]) (by kernel_rfl) (by simp) (AllReadyH.cons nthe8 (fun KON hKON => ?_) AllReadyH.nil)
            clear sH
            go_simp
            refine (l10Lower_any _ _ n N m P lo hi (HV.out.below (BW.out.trans ((KV.trans ((below_drw (Below.refl wV.heap.size wV)).mono KV.size)).mono hwr)) hhi) (Nat.le_trans hir KV.size) HBN.out _ x gx (gx + 1) (HOX.out.below (KV.trans ((below_drw (Below.refl wV.heap.size wV)).mono KV.size)) (Nat.le_refl _)).sl (Nat.le_trans HOX.out.lt KV.size) HXR.out _ _ (G k) (G k + 1) (HY.out.below (KV.trans ((below_drw (Below.refl wV.heap.size wV)).mono KV.size)) (Nat.le_refl _)).sl (Nat.le_trans HY.out.lt KV.size) HCR.out (-step) (by omega)).mono ?_
            rintro e wX ⟨rfl, hbX⟩
            rw [ht2]
            have KX' : Below wV.heap.size wV wX := below_dr0 hbX
            have KX : Below wr.heap.size wr wX := KV.trans (KX'.mono KV.size)
            refine hKON.out _ _ (KS2 _ KX') (fun sH => ?_)
            clear hKON KON
            try simp only [Act.put, List.setIfInBounds_toArray, List.set_cons_zero, List.set_cons_succ]
            refine wpAnyH_take (i := 9) (v := ?_) nthe9 (by kernel_rfl) (by kernel_rfl) (by kernel_rfl) (fun _ _ _ h => h) (Or.inl ⟨by rfl, ?_⟩) sH ?_
            rotate_left
            · intro wS hSw; (try dsimp only at hSw); go_simp; try with_reducible rfl
            try simp only [Act.put, List.setIfInBounds_toArray, List.set_cons_zero, List.set_cons_succ]
            refine wpAnyH_done (by kernel_rfl) ?_ _
            refine NoPanic.normal ?_
            have y3 : wX.cell? ⟨q, k, none⟩ = some (.slice (some ⟨G k, 0, none⟩) m (C k)) := (KS _ KX).2.2
            have HN2 := Lib.hid (show psS m P Y x0 step left (k + 1) = (fun a => x a + (-step) * Y k a, mo + 1) by rw [HNX.out]; unfold psT; rw [if_pos hml, if_neg (by rw [HT1.out]; exact Bool.false_ne_true), if_pos ht2])
            clear ht2
            go_upto_region 10 with (go_at_call 51; refine (l05Add_any wX _ _ m x (Y k) (-step) gx (gx + 1) (G k) (G k + 1) (HOX.out.below KX (Nat.le_refl _)).sl (Nat.le_trans HOX.out.lt KX.size) (HY.out.below KX (Nat.le_refl _)).sl (Nat.le_trans HY.out.lt KX.size) (by omega) (fun a ha => (HTY.out _ (by omega) a ha).1) (fun a ha => (HTY.out _ (by omega) a ha).2)).mono ?_; rintro e wZ ⟨v2, g2, rfl, o2, hg2, hbZ⟩; obtain ⟨c2, rfl⟩ := o2.shape)
            have zX := KX.size
            have zZ := hbZ.size
            have HL2 := HL.out.trans ((KX.trans (hbZ.mono zX)).mono hsz)
            go_wp2_with fail
            go_roundw
            case rel => exact ⟨k + 1, g2, c2, _, mo + 1, rfl, HN2.out.symm, o2, .inr (by omega), rfl, by go_num, hlt, by omega, HL2⟩
            case measure => simp [intOf]; omega
        · refine wp_region_noPanic ?_
          refine wp_region_held_drew (S := fun w' : World => Below wr.heap.size wr w' ∧ w'.rangeAt w.heap.size 0 [.slice p0 n c0, .slice p1 m c1] ∧ w'.cell? ⟨q, k, none⟩ = some (.slice (some ⟨G k, 0, none⟩) m (C k))) (by kernel_rfl) (KS _ (below_drw (Below.refl _ _))) (fun sH => ?_)
          refine wpAnyH_take (i := 0) (v := .agg #[.slice p0 n c0, .slice p1 m c1]) nthe0 (by kernel_rfl) (by kernel_rfl) (by kernel_rfl) (fun _ _ _ h => h) (yieldsIf_load_mid (by rfl) _ _ rfl w.heap.size 0 rfl [.slice p0 n c0, .slice p1 m c1] _ (fun _ h => h.2.1) UN rfl (by exact nN)) sH ?_
          try simp only [Act.put, List.setIfInBounds_toArray, List.set_cons_zero, List.set_cons_succ]
          refine wpAnyH_take (i := 1) (v := ?_) nthe1 (by kernel_rfl) (by kernel_rfl) (by kernel_rfl) (fun _ _ _ h => h) (Or.inl ⟨by rfl, ?_⟩) sH ?_
          rotate_left
          · intro wS hSw; (try dsimp only at hSw); go_simp; try with_reducible rfl
          try simp only [Act.put, List.setIfInBounds_toArray, List.set_cons_zero, List.set_cons_succ]
          refine wpAnyH_take (i := 2) (v := ?_) nthe2 (by kernel_rfl) (by kernel_rfl) (by kernel_rfl) (fun _ _ _ h => h) (Or.inl ⟨by rfl, ?_⟩) sH ?_
          rotate_left
          · intro wS hSw; (try dsimp only at hSw); go_simp; try with_reducible rfl
          try simp only [Act.put, List.setIfInBounds_toArray, List.set_cons_zero, List.set_cons_succ]
          refine wpAnyH_take (i := 3) (v := ?_) nthe3 (by kernel_rfl) (by kernel_rfl) (by kernel_rfl) (fun _ _ _ h => h) (Or.inl ⟨by rfl, ?_⟩) sH ?_
          rotate_left
          · intro wS hSw; (try dsimp only at hSw); go_simp; try with_reducible rfl
          try simp only [Act.put, List.setIfInBounds_toArray, List.set_cons_zero, List.set_cons_succ]
          refine wpAnyH_take (i := 4) (v := ?_) nthe4 (by kernel_rfl) (by kernel_rfl) (by kernel_rfl) (fun _ _ _ h => h) (Or.inl ⟨by rfl, ?_⟩) sH ?_
          rotate_left
          · intro wS hSw; (try dsimp only at hSw); go_simp; try with_reducible rfl
          try simp only [Act.put, List.setIfInBounds_toArray, List.set_cons_zero, List.set_cons_succ]
          refine wpAnyH_take (i := 5) (v := ?_) nthe5 (by kernel_rfl) (by kernel_rfl) (by kernel_rfl) (fun _ _ _ h => h) (Or.inl ⟨by rfl, ?_⟩) sH ?_
          rotate_left
          · intro wS hSw; (try dsimp only at hSw); go_simp; try with_reducible rfl
          try simp only [Act.put, List.setIfInBounds_toArray, List.set_cons_zero, List.set_cons_succ]
          refine wpAnyH_take (i := 6) (v := ?_) nthe6 (by kernel_rfl) (by kernel_rfl) (by kernel_rfl) (fun _ _ _ h => h) (Or.inl ⟨by rfl, ?_⟩) sH ?_
          rotate_left
          · intro wS hSw; (try dsimp only at hSw); go_simp; try with_reducible rfl
          try simp only [Act.put, List.setIfInBounds_toArray, List.set_cons_zero, List.set_cons_succ]
          refine wpAnyH_ready (rs := [7]) (by kernel_rfl) (by simp) (AllReadyH.cons nthe7 (fun KON hKON => ?_) AllReadyH.nil)
          clear sH
          go_simp
          refine (l10Lower_any _ _ n N m P lo hi (HV.out.below (BW.out.trans ((below_drw (Below.refl wr.heap.size wr)).mono hwr)) hhi) hir HBN.out _ x gx (gx + 1) (HOX.out.below (below_drw (Below.refl wr.heap.size wr)) (Nat.le_refl _)).sl (show gx + 1 ≤ wr.heap.size from HOX.out.lt) HXR.out _ _ (G k) (G k + 1) (HY.out.below (below_drw (Below.refl wr.heap.size wr)) (Nat.le_refl _)).sl (show G k + 1 ≤ wr.heap.size from HY.out.lt) HCR.out (step) (by omega)).mono ?_
          rintro e wX ⟨rfl, hbX⟩
          rw [ht1]
          have KX : Below wr.heap.size wr wX := below_dr0 hbX
          refine hKON.out _ _ (KS _ KX) (fun sH => ?_)
          clear hKON KON
          try simp only [Act.put, List.setIfInBounds_toArray, List.set_cons_zero, List.set_cons_succ]
          refine wpAnyH_take (i := 8) (v := ?_) nthe8 (by kernel_rfl) (by kernel_rfl) (by kernel_rfl) (fun _ _ _ h => h) (Or.inl ⟨by rfl, ?_⟩) sH ?_
          rotate_left
          · intro wS hSw; (try dsimp only at hSw); go_simp; try with_reducible rfl
          try simp only [Act.put, List.setIfInBounds_toArray, List.set_cons_zero, List.set_cons_succ]
          refine wpAnyH_done (by kernel_rfl) ?_ _
          refine NoPanic.normal ?_
          have y3 : wX.cell? ⟨q, k, none⟩ = some (.slice (some ⟨G k, 0, none⟩) m (C k)) := (KS _ KX).2.2
          have HN2 := Lib.hid (show psS m P Y x0 step left (k + 1) = (fun a => x a + step * Y k a, mo + 1) by rw [HNX.out]; unfold psT; rw [if_pos hml, if_pos ht1])
          clear ht1
          go_upto_region 7 with (go_at_call 51; refine (l05Add_any wX _ _ m x (Y k) (step) gx (gx + 1) (G k) (G k + 1) (HOX.out.below KX (Nat.le_refl _)).sl (Nat.le_trans HOX.out.lt KX.size) (HY.out.below KX (Nat.le_refl _)).sl (Nat.le_trans HY.out.lt KX.size) (by omega) (fun a ha => (HTY.out _ (by omega) a ha).1) (fun a ha => (HTY.out _ (by omega) a ha).2)).mono ?_; rintro e wZ ⟨v2, g2, rfl, o2, hg2, hbZ⟩; obtain ⟨c2, rfl⟩ := o2.shape)
          have zX := KX.size
          have zZ := hbZ.size
          have HL2 := HL.out.trans ((KX.trans (hbZ.mono zX)).mono hsz)
          go_wp2_with fail
          go_roundw
          case rel => exact ⟨k + 1, g2, c2, _, mo + 1, rfl, HN2.out.symm, o2, .inr (by omega), rfl, by go_num, hlt, by omega, HL2⟩
          case measure => simp [intOf]; omega
      · have hdm : decide (mo < left) = false := decide_eq_false hml
        have HST := Lib.hid (show psS m P Y x0 step left (chN n P m) = (x, mo) by rw [psS_stop (i := k) (by rw [← HPS.out]; exact hml) hk]; exact HPS.out.symm)
        clear hml
        go_wp2_with fail
        go_ret2
        first | exact ⟨.slice (some ⟨gx, 0, none⟩) m cx, gx, (by (first | rw [HYE.out, HST.out] | rw [HST.out]); rfl), (by (first | rw [HYE.out, HST.out] | rw [HST.out]); exact HOX.out), (by omega), BW.out⟩ | exact ⟨.slice (some ⟨gx, 0, none⟩) m cx, (by (first | rw [HYE.out, HST.out] | rw [HST.out]); rfl), gx, (by (first | rw [HYE.out, HST.out] | rw [HST.out]); exact HOX.out), (by omega), BW.out⟩
    · have hkn : k = chN n P m := by omega
      have HST := Lib.hid (show psS m P Y x0 step left (chN n P m) = (x, mo) by rw [← hkn]; exact HPS.out.symm)
      have k1 : ¬ ((k : Int) < (chN n P m : Int)) := by omega
      clear hkn
      go_wp2_with fail
      go_ret2
      first | exact ⟨.slice (some ⟨gx, 0, none⟩) m cx, gx, (by (first | rw [HYE.out, HST.out] | rw [HST.out]); rfl), (by (first | rw [HYE.out, HST.out] | rw [HST.out]); exact HOX.out), (by omega), BW.out⟩ | exact ⟨.slice (some ⟨gx, 0, none⟩) m cx, (by (first | rw [HYE.out, HST.out] | rw [HST.out]); rfl), gx, (by (first | rw [HYE.out, HST.out] | rw [HST.out]); exact HOX.out), (by omega), BW.out⟩
end Go.Proofs.YtdbgcbkmcbgdiaaGreat.mem

namespace Go.Proofs.YtdbgcbkmcbgdiaaGreat.mem
open Go.RowKit
set_option linter.unusedVariables false

set_option maxRecDepth 100000 in
set_option maxHeartbeats 8000000 in
theorem l11Relax_any (w : World) (v : Value) (n : Nat) (N : Nat → Nod) (m : Nat) (P : Nat → Pip) (lo hi : Nat) (h : NetAt w v n N m P lo hi) (hhi : hi ≤ w.heap.size) (hN : ∀ i, i < n → (N i).s.size ≤ 9223372036854775807) (hB : netB n N m P = true) (va : Value) (x0 : Nat → Int) (la ha : Nat) (hv : Sl w va m x0 la ha) (hha : ha ≤ w.heap.size) (hx : ∀ k, k < m → -30000 ≤ x0 k ∧ x0 k ≤ 30000) (st0 : Int) (hst : 0 ≤ st0 ∧ st0 ≤ 100000) :
    Calls Tryz.prog 53 #[v, va, .int .i64 st0] w fun e w' => ∃ v2 g2, e = .returned (.tuple #[v2, .int .i64 (rlx m P (fun i => cyc P (fE n P m) (fD n P m) (chS n P m i)) (chN n P m) x0 st0).2]) ∧ Own w' v2 m (rlx m P (fun i => cyc P (fE n P m) (fD n P m) (chS n P m i)) (chN n P m) x0 st0).1 g2 ∧ w.heap.size ≤ g2 ∧ Below w.heap.size w w' := by
  obtain ⟨p0, c0, p1, c1, rfl, hn9, hm9⟩ := h.parts
  obtain ⟨hn1, hn24, hm40⟩ := net_sz hB
  obtain ⟨pa, ca, rfl⟩ := hv.sh
  have HV := Lib.hid h
  have HBN := Lib.hid hB
  have HSV := Lib.hid hv
  have HX0 := Lib.hid hx
  have A0 := boxed w (.slice p0 n c0) (.slice p1 m c1) 27
  have B0 := below_new w (.cells #[.slice p0 n c0, .slice p1 m c1] 27)
  have hs0 : (w.alloc (.cells #[.slice p0 n c0, .slice p1 m c1] 27)).heap.size = w.heap.size + 1 := by simp
  have e0 := A0.b0
  have e1 := A0.b1
  clear h hB hv hx
  go_enter Tryz.func53, Tryz.ntmps53
  go_wp2_with fail
  refine (l05Basis_any _ _ n N m P lo hi (HV.out.below B0 hhi) (by omega) hN HBN.out).mono ?_
  rintro e w1 ⟨vb, rfl, hbas, b1⟩
  have A1 := A0.below b1 (by omega)
  have B1 := B0.trans (b1.mono (by omega))
  have hs1 := b1.size
  have b2 := below_new w1 (.cells #[] 2)
  have hs2 : (w1.alloc (.cells #[] 2)).heap.size = w1.heap.size + 1 := by simp
  have O2 := Own.nilled w1 x0
  obtain ⟨v3, w3, g3, hr3, o3, hap⟩ := app_all (w1.alloc (.cells #[] 2)) _ (.slice pa m ca) x0 w1.heap.size m x0 la ha O2 (HSV.out.below (B1.trans (b2.mono (by omega))) hha) (by omega)
  obtain ⟨b3, hg3⟩ := hap w1.heap.size (Nat.le_refl _) (by omega)
  obtain ⟨c3, rfl⟩ := o3.shape
  have b23 := b2.trans b3
  have hs3 := b3.size
  have A3 := A1.below b23 (by omega)
  have B3 := B1.trans (b23.mono (by omega))
  have HB3 := Lib.hid ((hbas.next b23).low (show w.heap.size ≤ _ by omega))
  have HO3 := Lib.hid o3
  obtain ⟨pb, cb, rfl⟩ := hbas.shape
  clear A0 A1 B0 B1 b1 b2 O2 hap o3 b3 hbas
  have hw3 : w.heap.size + 1 ≤ w1.heap.size := by omega
  have hw3' : w1.heap.size + 1 ≤ w3.heap.size := by omega
  clear hs0 hs1 hs2 hs3
  go_upto_region 3 with (at_builtin; refine wpList_app hr3 rfl _ _ rfl rfl rfl rfl ?_)
  clear hr3 b23 e0 e1
  have HA := Lib.hid A3
  have HBB := Lib.hid B3
  clear A3 B3
  generalize hY : (fun i => cyc P (fE n P m) (fD n P m) (chS n P m i)) = Y at *
  have HYE := Lib.hid hY
  clear hY
  go_wp2_with fail
  go_loopw [2, 9, 10] (fun sv xv tv wr => ∃ (f gx cx : Nat) (x : Nat → Int) (tot st : Int), xv = .slice (some ⟨gx, 0, none⟩) m cx ∧ sv = .int .i64 st ∧ tv = .int .i64 tot ∧ Own wr (.slice (some ⟨gx, 0, none⟩) m cx) m x gx ∧ w1.heap.size ≤ gx ∧ 0 ≤ st ∧ st ≤ 100000 ∧ 0 ≤ tot ∧ tot ≤ 5000 ∧ 5000 - tot + st ≤ f ∧ rlS m P Y (chN n P m) f x tot st = rlx m P Y (chN n P m) x0 st0 ∧ (∀ k, k < m → -30000 ≤ x k ∧ x k ≤ 30000) ∧ w3.heap.size ≤ wr.heap.size ∧ Below w1.heap.size w3 wr ∧ Bas wr (.slice pb (chN n P m) cb) (chN n P m) m Y w.heap.size) (fun sv _ tv _ => (5000 - intOf tv + intOf sv).toNat)
  case atStart => exact ⟨5000 + st0.toNat, g3, c3, x0, 0, st0, rfl, rfl, rfl, HO3.out, hg3, hst.1, hst.2, Int.le_refl _, by omega, by omega, rfl, HX0.out, Nat.le_refl _, Below.refl _ _, HB3.out⟩
  case round =>
    obtain ⟨f, gx, cx, x, tot, st, rfl, rfl, rfl, hox, hgx, s0, s1, t0, t1, hf, hrl, hxr, hsz, hb, hbas⟩ := hrel
    have HRL := Lib.hid hrl
    have HXR := Lib.hid hxr
    have HOX := Lib.hid hox
    have HL := Lib.hid hb
    have HBA := Lib.hid hbas
    have lgx := hox.lt
    clear hrl hxr hox hb hbas HO3 HB3
    have BW := Lib.hid (HBB.out.trans (HL.out.mono (by omega)))
    by_cases hs1 : 1 ≤ st
    · have hd1 : decide (1 ≤ st) = true := decide_eq_true hs1
      by_cases ht5 : tot < 5000
      · have hd2 : decide (tot < 5000) = true := decide_eq_true ht5
        obtain ⟨f', rfl⟩ : ∃ f', f = f' + 1 := ⟨f - 1, by omega⟩
        have HRN := Lib.hid (by have := HRL.out; rwa [rlS_next ⟨hs1, ht5⟩] at this)
        have hpc := psS_cnt (m := m) (P := P) (Y := Y) (x := x) (step := st) (left := 5000 - tot) (by omega) (chN n P m)
        have HPR := Lib.hid (fun k hk => psS_rng (P := P) (Y := Y) (step := st) (left := 5000 - tot) HXR.out (chN n P m) k hk)
        have f0 := (HA.out.below HL.out (by omega)).b0
        have f1 := (HA.out.below HL.out (by omega)).b1
        have hw1 : IntKind.i64.wrap (5000 - tot) = 5000 - tot := IntWalk.i64_in _ (by omega)
        clear HRL
        go_upto_region 6 with (go_at_call 104; refine (l11Pass_any wr _ n N m P lo hi (HV.out.below BW.out hhi) (by omega) HBN.out _ w.heap.size (by rw [HYE.out]; exact HBA.out) _ x gx HOX.out HXR.out st (5000 - tot) (by omega) (by omega)).mono ?_; rw [HYE.out]; rintro e w5 ⟨v5, g5, rfl, o5, hg5, b5⟩; obtain ⟨c5, rfl⟩ := o5.shape)
        generalize hps : psS m P Y x st (5000 - tot) (chN n P m) = r at *
        obtain ⟨x', mv⟩ := r
        dsimp only at o5 HPR hpc HRN ⊢
        have hw2 : IntKind.i64.wrap (tot + mv) = tot + mv := IntWalk.i64_in _ (by omega)
        have s5 := b5.size
        have HL5 := HL.out.trans (b5.mono (by omega))
        have HB5 := HBA.out.next b5
        clear hps f0 f1 b5
        by_cases hm0 : mv = 0
        · subst hm0
          have hd3 : ((0 : Int) == 0) = true := rfl
          have hd4 : st.tdiv 2 = st / 2 := Int.tdiv_eq_ediv_of_nonneg s0
          have HR2 := HRN.out
          rw [if_pos rfl, Int.add_zero] at HR2
          have hq0 : 0 ≤ st / 2 ∧ st / 2 < st := by omega
          have HR3 := Lib.hid HR2
          clear HR2
          go_wp2_with fail
          go_roundw
          case rel => exact ⟨f', g5, c5, x', tot, st / 2, rfl, rfl, rfl, o5, by omega, hq0.1, by omega, by omega, by omega, by omega, HR3.out, HPR.out, by omega, HL5, HB5⟩
          case measure => simp [intOf]; omega
        · have hd3 : (mv == 0) = false := by simpa using hm0
          have HR2 := HRN.out
          rw [if_neg hm0] at HR2
          have HR3 := Lib.hid HR2
          clear HR2
          go_wp2_with fail
          go_roundw
          case rel => exact ⟨f', g5, c5, x', tot + mv, st, rfl, rfl, rfl, o5, by omega, s0, s1, by omega, by omega, by omega, HR3.out, HPR.out, by omega, HL5, HB5⟩
          case measure => simp [intOf]; omega
      · have hd2 : decide (tot < 5000) = false := decide_eq_false ht5
        have HR2 := Lib.hid (show rlx m P Y (chN n P m) x0 st0 = (x, tot) by rw [← HRL.out, rlS_stop (by omega)])
        clear ht5
        go_wp2_with fail
        go_ret2
        first | exact ⟨.slice (some ⟨gx, 0, none⟩) m cx, gx, (by (first | rw [HYE.out, HR2.out] | rw [HR2.out]); rfl), (by (first | rw [HYE.out, HR2.out] | rw [HR2.out]); exact HOX.out), (by omega), BW.out⟩ | exact ⟨.slice (some ⟨gx, 0, none⟩) m cx, (by (first | rw [HYE.out, HR2.out] | rw [HR2.out]); rfl), gx, (by (first | rw [HYE.out, HR2.out] | rw [HR2.out]); exact HOX.out), (by omega), BW.out⟩
    · have hd1 : decide (1 ≤ st) = false := decide_eq_false hs1
      have HR2 := Lib.hid (show rlx m P Y (chN n P m) x0 st0 = (x, tot) by rw [← HRL.out, rlS_stop (by omega)])
      clear hs1
      go_wp2_with fail
      go_ret2
      first | exact ⟨.slice (some ⟨gx, 0, none⟩) m cx, gx, (by (first | rw [HYE.out, HR2.out] | rw [HR2.out]); rfl), (by (first | rw [HYE.out, HR2.out] | rw [HR2.out]); exact HOX.out), (by omega), BW.out⟩ | exact ⟨.slice (some ⟨gx, 0, none⟩) m cx, (by (first | rw [HYE.out, HR2.out] | rw [HR2.out]); rfl), gx, (by (first | rw [HYE.out, HR2.out] | rw [HR2.out]); exact HOX.out), (by omega), BW.out⟩
end Go.Proofs.YtdbgcbkmcbgdiaaGreat.mem

namespace Go.Proofs.YtdbgcbkmcbgdiaaGreat.mem
open Go.RowKit
set_option linter.unusedVariables false

def LIIPost (w : World) (cnt : Nat) (d : Nat → Int) (a c : Int) (e : Ending) (w' : World) : Prop :=
  ∃ v g, e = .returned (.tuple #[v, .int .i64 a, .int .i64 c]) ∧ OwnS w' v cnt 1 (fun i _ => .int .i64 (d i)) g ∧ w.heap.size ≤ g ∧ Below w.heap.size w w'
theorem lii_err {w w' : World} {cnt : Nat} {d : Nat → Int} {a c c' : Int} {e : Ending} (h0 : cnt = 0) (ha : a = 0) (hc : c = c') (he : e = .returned (.tuple #[.slice none 0 0, .int .i64 0, .int .i64 c])) (hb : Below w.heap.size w w') : LIIPost w cnt d a c' e w' := by
  subst h0 hc ha
  exact ⟨_, w.heap.size, he, OwnS.none_ _ _ _ _, Nat.le_refl _, hb⟩
theorem lii_ok {w w' : World} {v : Value} {cnt n g : Nat} {d : Nat → Int} {a a' c c' : Int} {e : Ending} (h0 : n = cnt) (ha : a = a') (hc : c = c') (he : e = .returned (.tuple #[v, .int .i64 a, .int .i64 c])) (h : Own w' v n d g) (hg : w.heap.size ≤ g) (hb : Below w.heap.size w w') : LIIPost w cnt d a' c' e w' := by
  subst h0 ha hc
  exact ⟨v, g, he, h.ownS, hg, hb⟩
noncomputable def rfC (n : Nat) (N : Nat → Nod) (m : Nat) (P : Nat → Pip) (K : Nat) (d : Nat → Int) (st : Int) : Int := if flC n N m P K d = 0 then (if stB st = true then 0 else 2) else flC n N m P K d
def rfR (n : Nat) (m : Nat) (P : Nat → Pip) (d : Nat → Int) (st : Int) : (Nat → Int) × Int := rlx m P (fun i => cyc P (fE n P m) (fD n P m) (chS n P m i)) (chN n P m) d st
noncomputable def rfN (n : Nat) (N : Nat → Nod) (m : Nat) (P : Nat → Pip) (K : Nat) (d : Nat → Int) (st : Int) : Nat := if rfC n N m P K d st = 0 then m else 0
noncomputable def rfM (n : Nat) (N : Nat → Nod) (m : Nat) (P : Nat → Pip) (K : Nat) (d : Nat → Int) (st : Int) : Int := if rfC n N m P K d st = 0 then (rfR n m P d st).2 else 0
theorem bits_and_i64_nat (a b : Nat) (ha : a < 4294967296) (hb : b < 4294967296) : bits .and .i64 (a : Int) (b : Int) = ((a &&& b : Nat) : Int) := by
  have hx : a &&& b < 2 ^ 32 := Nat.and_lt_two_pow _ (by omega)
  have h1 : (BitVec.ofInt 64 (a : Int)).toNat = a := by
    rw [BitVec.ofInt_natCast, BitVec.toNat_ofNat]; exact Nat.mod_eq_of_lt (by omega)
  have h2 : (BitVec.ofInt 64 (b : Int)).toNat = b := by
    rw [BitVec.ofInt_natCast, BitVec.toNat_ofNat]; exact Nat.mod_eq_of_lt (by omega)
  show IntKind.i64.wrap ((BitVec.ofInt 64 (a : Int) &&& BitVec.ofInt 64 (b : Int)).toNat : Int) = _
  rw [BitVec.toNat_and, h1, h2]
  exact IntWalk.i64_in _ (by omega)
theorem stB_no {x : Int} (h : inR x 1 32768 = false) : stB x = false := by
  cases hs : stB x
  · rfl
  · have h1 := stB_rng hs
    rw [inR_iff.2 h1] at h
    exact absurd h (by simp)
theorem isStep_any (x : Int) (w : World) : Calls Tryz.prog 93 #[.int .i64 x] w fun e w' => e = .returned (.bool (stB x)) ∧ w = w' := by
  cases hx : inR x 1 32768
  · have HS := Lib.hid (stB_no hx)
    have HX := Lib.hid hx
    clear hx
    go_enter Tryz.func93, Tryz.ntmps93
    go_wp2_with (go_at_call 109; refine (inRange_any _ _ _ _).mono ?_; rintro e w' ⟨rfl, rfl⟩; rw [HX.out])
    go_ret
    exact ⟨ret_b HS.out.symm, rfl⟩
  · obtain ⟨h0, h1⟩ := inR_iff.1 hx
    have HX := Lib.hid hx
    obtain ⟨k, rfl⟩ := Int.eq_ofNat_of_zero_le (show 0 ≤ x by omega)
    have hw : IntKind.i64.wrap ((k : Int) - 1) = (k : Int) - 1 := IntWalk.i64_in _ (by omega)
    have hb : bits .and .i64 (k : Int) ((k : Int) - 1) = ((k &&& (k - 1) : Nat) : Int) := by
      rw [show (k : Int) - 1 = ((k - 1 : Nat) : Int) by omega]
      exact bits_and_i64_nat _ _ (by omega) (by omega)
    have hp := and_p2 16 k (by omega) (by have : (2 : Nat) ^ 16 = 65536 := by decide
                                          omega)
    have hs : stB (k : Int) = p2N 16 k := by
      unfold stB
      rw [Int.toNat_natCast, decide_eq_true (show (0 : Int) < (k : Int) by omega), Bool.and_true]
    clear hx
    cases h2 : p2N 16 k
    · have HS := Lib.hid (hs.trans h2)
      have hq : (((k &&& (k - 1) : Nat) : Int) == 0) = false := by
        have : ¬ (k &&& (k - 1)) = 0 := fun e => by rw [hp.1 e] at h2; exact absurd h2 (by simp)
        simpa using this
      clear hp hs h2
      go_enter Tryz.func93, Tryz.ntmps93
      go_wp2_with (go_at_call 109; refine (inRange_any _ _ _ _).mono ?_; rintro e w' ⟨rfl, rfl⟩; rw [HX.out])
      go_ret
      exact ⟨ret_b HS.out.symm, rfl⟩
    · have HS := Lib.hid (hs.trans h2)
      have hq : (((k &&& (k - 1) : Nat) : Int) == 0) = true := by
        have := hp.2 h2
        rw [this]
        rfl
      clear hp hs h2
      go_enter Tryz.func93, Tryz.ntmps93
      go_wp2_with (go_at_call 109; refine (inRange_any _ _ _ _).mono ?_; rintro e w' ⟨rfl, rfl⟩; rw [HX.out])
      go_ret
      exact ⟨ret_b HS.out.symm, rfl⟩
theorem info_nf : (Tryz.prog.info? 115).map (fun i => (i.zero, i.size, i.bytes)) = some (some (.agg (nfL (.slice none 0 0) (.slice none 0 0) fun _ => 0).toArray), 42, 368) := by kernel_rfl
theorem run_allocN (w : World) : (Instr.alloc 115 true (.tuple #[])).run Tryz.prog w = .ok (.pointer (some ⟨w.heap.size, 0, none⟩)) (w.alloc (.cells (nfL (.slice none 0 0) (.slice none 0 0) fun _ => 0).toArray 115)) := by
  obtain ⟨i0, hi0, hz0, hz1, hz2⟩ := info_parts info_nf
  simp [Instr.alloc, zeroValue, typeInfo, hi0, hz0, newVar, newRow, Value.cells]
/-- flows with their network, all zero -/
theorem wpList_allocN {ops : Array Oper} {rest : List Oper} {o : Oper} {a : Act} {w : World} {Q : Exit → Act → World → Prop} (hg : o.guard = none) (ho : o.op = .alloc 115)
    (h : wpList Tryz.prog ops Q rest (a.put o.dst (.pointer (some ⟨w.heap.size, 0, none⟩))) (w.alloc (.cells (nfL (.slice none 0 0) (.slice none 0 0) fun _ => 0).toArray 115))) : wpList Tryz.prog ops Q (o :: rest) a w := by
  refine wpList_plain hg fun K hK => ?_
  unfold Oper.wp execOp
  simp only [ho, Sem.run_bind, run_allocN, Result.andThen_ok]
  exact hK _ _ h
set_option maxRecDepth 100000 in
set_option maxHeartbeats 8000000 in
theorem relaxFlowsI_any (w : World) (v : Value) (n : Nat) (N : Nat → Nod) (m : Nat) (P : Nat → Pip) (lo hi : Nat) (h : NetAt w v n N m P lo hi) (hhi : hi ≤ w.heap.size) (hN : ∀ i, i < n → (N i).s.size ≤ 9223372036854775807) (va : Value) (K : Nat) (d : Nat → Int) (la ha : Nat) (hv : Sl w va K d la ha) (hha : ha ≤ w.heap.size) (hK9 : K ≤ 9223372036854775807)  (st : Int) :
    Calls Tryz.prog 45 #[v, va, .int .i64 st] w (LIIPost w (rfN n N m P K d st) (rfR n m P d st).1 (rfM n N m P K d st) (rfC n N m P K d st)) := by
  obtain ⟨p0, c0, p1, c1, rfl, hn9, hm9⟩ := h.parts
  have HV := Lib.hid h
  have HN := Lib.hid hN
  have HSV := Lib.hid hv
  obtain ⟨pa, ca, rfl⟩ := hv.sh
  have A0 := (boxed w (.slice p0 n c0) (.slice p1 m c1) 27).keep (Below.heap_alloc _ (.cells #[.slice pa K ca] 28) _ (by rw [szal]; omega))
  have B0 := (below_new w (.cells #[.slice p0 n c0, .slice p1 m c1] 27)).trans ((below_new _ (.cells #[.slice pa K ca] 28)).mono (by rw [szal]; omega))
  have hs0 : ((w.alloc (.cells #[.slice p0 n c0, .slice p1 m c1] 27)).alloc (.cells #[.slice pa K ca] 28)).heap.size = w.heap.size + 1 + 1 := by simp
  have y0' := cell_newV (w.alloc (.cells #[.slice p0 n c0, .slice p1 m c1] 27)) (.slice pa K ca) 28
  simp only [szal] at y0'
  clear h hN hv
  go_enter Tryz.func45, Tryz.ntmps45
  have e0' := A0.b0
  have e1' := A0.b1
  go_wp2_with fail
  refine (checkFlows_any _ _ n N m P lo hi (HV.out.below B0 hhi) (by omega) HN.out _ _ y0' (by omega) K d la ha (HSV.out.below B0 hha) (by omega) hK9).mono ?_
  rintro e w1 ⟨rfl, b1⟩
  have A1 := A0.below b1 (by omega)
  have B1 := B0.trans (b1.mono (by omega))
  have hs1 := b1.size
  have e0 := A1.b0
  have e1 := A1.b1
  have e2 : w.heap.size < w1.heap.size := by omega
  clear A0 B0 b1 e0' e1'
  by_cases hc : flC n N m P K d = 0
  · obtain ⟨hB, rfl, hf⟩ := flC_ok hc
    have hm40 := (net_sz hB).2.2
    have HB := Lib.hid hB
    have HC := Lib.hid hc
    have HF := Lib.hid (show ∀ k, k < K → -30000 ≤ d k ∧ d k ≤ 30000 from fun k hk => flQ_iff.1 (flB_iff.1 hf k hk))
    rw [hc]
    clear hc hB hf
    cases hst : stB st
    · have H4 := Lib.hid (show rfC n N K P K d st = 2 by unfold rfC; rw [if_pos HC.out, hst]; rfl)
      have H3 := Lib.hid (show rfN n N K P K d st = 0 by unfold rfN; rw [H4.out]; rfl)
      have H2 := Lib.hid (show rfM n N K P K d st = 0 by unfold rfM; rw [H4.out]; rfl)
      go_wp2_with (go_at_call 93; refine (isStep_any _ _).mono ?_; rintro e w' ⟨rfl, rfl⟩; rw [hst])
      go_ret3
      exact lii_err H3.out H2.out H4.out.symm rfl B1
    · have H4 := Lib.hid (show rfC n N K P K d st = 0 by unfold rfC; rw [if_pos HC.out, hst]; rfl)
      have H3 := Lib.hid (show rfN n N K P K d st = K by unfold rfN; rw [H4.out]; rfl)
      have H2 := Lib.hid (show rfM n N K P K d st = (rfR n K P d st).2 by unfold rfM; rw [H4.out]; rfl)
      have hsr := stB_rng hst
      have HREL := Lib.hid (fun (W : World) (hW : Below w.heap.size w W) => relaxedFrom_any W p0 p1 c0 c1 n N K P lo hi (HV.out.below hW hhi) (Nat.le_trans hhi hW.size) HB.out d HF.out st hsr)
      have hRR : rlx K P (fun i => cyc P (fE n P K) (fD n P K) (chS n P K i)) (chN n P K) d st = rfR n K P d st := rfl
      rw [hRR] at HREL
      clear hRR
      generalize hr : rfR n K P d st = r at *
      have HRE := Lib.hid hr
      clear hr
      go_upto_region 7 with (first
        | (go_at_call 93; refine (isStep_any _ _).mono ?_; rintro e w' ⟨rfl, rfl⟩; rw [hst])
        | (go_at_call 94; refine (withFlows_any _ p0 p1 c0 c1 n K _ K d la ha (HSV.out.below B1 hha) (by omega) hm40).mono ?_; rintro e wX ⟨rfl, hbX⟩; have zX := hbX.size; have BX := B1.trans (hbX.mono (by omega)))
        | (go_at_call 95; refine (HREL.out wX BX).mono ?_; rintro e wY ⟨rfl, hbY⟩; have zY := hbY.size; have BY := BX.trans (hbY.mono BX.size); have tY := (Ob.newN wY (.slice none 0 0) (.slice none 0 0) (fun _ => 0) 115).there)
        | (refine wpList_allocN rfl rfl ?_)
        | (refine wpList_stN rfl _ _ rfl wY.heap.size (.slice p0 n c0) (.slice p1 K c1) (pad K r.1) rfl rfl rfl rfl tY ?_; obtain ⟨wZ, hwZ⟩ : ∃ wZ, (wY.alloc (.cells (nfL (.slice none 0 0) (.slice none 0 0) fun _ => 0).toArray 115)).setCells wY.heap.size 0 (nfL (.slice p0 n c0) (.slice p1 K c1) (pad K r.1)) = wZ := ⟨_, rfl⟩; rw [hwZ]; have HWZ := Lib.hid hwZ; clear hwZ))
      have C0 := (Ob.newN wY (.slice none 0 0) (.slice none 0 0) (fun _ => 0) 115).nput (.slice p0 n c0) (.slice p1 K c1) (pad K r.1)
      have bZ := (below_new wY (.cells (nfL (.slice none 0 0) (.slice none 0 0) fun _ => 0).toArray 115)).trans (((Only.refl wY.heap.size (wY.alloc (.cells (nfL (.slice none 0 0) (.slice none 0 0) fun _ => 0).toArray 115))).setCs (nfL (.slice p0 n c0) (.slice p1 K c1) (pad K r.1)) 0).below (Nat.le_refl _))
      rw [HWZ.out] at C0 bZ
      clear tY
      have sZ := bZ.size
      have BZ := BY.trans (bZ.mono BY.size)
      have bYZ := (hbX.trans (hbY.mono zX)).trans (bZ.mono (by omega))
      have f0 := (A1.below bYZ (by omega)).b0
      have f1 := (A1.below bYZ (by omega)).b1
      have g2 := C0.nrange
      obtain ⟨Lx, hLx, eLx⟩ : ∃ L : List Value, arr (pad K r.1) = List.toArray L ∧ L = arrL (pad K r.1) := ⟨_, rfl, rfl⟩
      rw [← eLx] at g2
      have nLx : Lx.length = 40 := by rw [eLx, arr_len]
      have HLx := Lib.hid hLx
      obtain ⟨bq, hbq⟩ : ∃ bq, wY.heap.size = bq := ⟨_, rfl⟩
      rw [hbq] at g2 ⊢
      clear hLx eLx e0 e1 bYZ A1 B1 BX BY hbX hbY bZ hbq C0
      go_wp2_with (first
        | (refine wpList_ldF rfl _ rfl bq 2 Lx rfl nLx g2 ?_)
        | (go_at_call 96; rw [← HLx.out]; refine (listOf_any _ p0 p1 n K c0 c1 _ hm40).mono ?_; rintro e wL ⟨v5, g5, rfl, o5, hg5, hb5⟩))
      go_ret3
      exact lii_ok H3.out.symm H2.out.symm H4.out.symm rfl (o5.congr (fun k hk => by rw [HRE.out]; exact pad_at hk)) (by have := BZ.size; omega) (BZ.trans (hb5.mono BZ.size))
  · have hb1 : (flC n N m P K d != 0) = true := by simpa using hc
    have H4 := Lib.hid (show rfC n N m P K d st = flC n N m P K d by unfold rfC; rw [if_neg hc])
    have H3 := Lib.hid (show rfN n N m P K d st = 0 by unfold rfN; rw [H4.out, if_neg hc])
    have H2 := Lib.hid (show rfM n N m P K d st = 0 by unfold rfM; rw [H4.out, if_neg hc])
    clear hc
    go_wp2_with fail
    go_ret3
    exact lii_err H3.out H2.out H4.out.symm rfl B1
end Go.Proofs.YtdbgcbkmcbgdiaaGreat.mem

namespace Go.Proofs.YtdbgcbkmcbgdiaaGreat.mem
open Go.RowKit
set_option linter.unusedVariables false

theorem owns_sl1 {w : World} {v : Value} {n b : Nat} {d : Nat → Int} (h : OwnS w v n 1 (fun i _ => .int .i64 (d i)) b) : Sl w v n d 0 w.heap.size := by
  obtain ⟨p', cap, hv, h1, h2, h3⟩ := h.ex
  refine ⟨p', cap, hv, ?_⟩
  rcases h3 with h3 | ⟨h3, h4⟩
  · exact .inl h3
  · refine .inr ⟨b, 0, h3, Nat.zero_le _, h4.lt, fun k hk => ?_⟩
    have := h4.cell k 0 hk (by omega)
    simpa using this
theorem stB_max : stB 32768 = true := by decide
noncomputable def slN (n : Nat) (N : Nat → Nod) (m : Nat) (P : Nat → Pip) (K : Nat) (d : Nat → Int) : Nat := if ffC n N m P K d = 0 then m else 0
noncomputable def slM (n : Nat) (N : Nat → Nod) (m : Nat) (P : Nat → Pip) (K : Nat) (d : Nat → Int) : Int := if ffC n N m P K d = 0 then (rfR n m P (fflN n P m d) 32768).2 else 0
theorem rf_of {n : Nat} {N : Nat → Nod} {m : Nat} {P : Nat → Pip} {x : Nat → Int} {st : Int} (hB : netB n N m P = true) (hf : flB x m = true) (hs : stB st = true) : rfC n N m P m x st = 0 ∧ rfN n N m P m x st = m ∧ rfM n N m P m x st = (rfR n m P x st).2 := by
  have h0 : rfC n N m P m x st = 0 := by unfold rfC; rw [if_pos (flC_is hB hf), if_pos hs]
  exact ⟨h0, by unfold rfN; rw [if_pos h0], by unfold rfM; rw [if_pos h0]⟩
set_option maxRecDepth 100000 in
set_option maxHeartbeats 8000000 in
theorem solvedLoops_any (w : World) (v : Value) (n : Nat) (N : Nat → Nod) (m : Nat) (P : Nat → Pip) (lo hi : Nat) (h : NetAt w v n N m P lo hi) (hhi : hi ≤ w.heap.size) (hN : ∀ i, i < n → (N i).s.size ≤ 9223372036854775807) (va : Value) (K : Nat) (d : Nat → Int) (la ha : Nat) (hv : Sl w va K d la ha) (hha : ha ≤ w.heap.size) (hK9 : K ≤ 9223372036854775807) :
    Calls Tryz.prog 66 #[v, va] w (LIIPost w (slN n N m P K d) (rfR n m P (fflN n P m d) 32768).1 (slM n N m P K d) (ffC n N m P K d)) := by
  obtain ⟨p0, c0, p1, c1, rfl, hn9, hm9⟩ := h.parts
  have HV := Lib.hid h
  have HN := Lib.hid hN
  obtain ⟨pa, ca, rfl⟩ := hv.sh
  have HSV := Lib.hid hv
  have A0 := boxed w (.slice p0 n c0) (.slice p1 m c1) 27
  have B0 := below_new w (.cells #[.slice p0 n c0, .slice p1 m c1] 27)
  have hs0 : (w.alloc (.cells #[.slice p0 n c0, .slice p1 m c1] 27)).heap.size = w.heap.size + 1 := by simp
  clear h hN hv
  go_enter Tryz.func66, Tryz.ntmps66
  have e0' := A0.b0
  have e1' := A0.b1
  go_wp2_with fail
  refine (forestFlowsI_any _ _ n N m P lo hi (HV.out.below B0 hhi) (by omega) HN.out _ K d la ha (HSV.out.below B0 hha) (by omega) hK9).mono ?_
  rintro e w1 ⟨vr, gr, rfl, or, hgr, b1⟩
  have A1 := A0.below b1 (by omega)
  have B1 := B0.trans (b1.mono (by omega))
  have hs1 := b1.size
  have e0 := A1.b0
  have e1 := A1.b1
  have e2 : w.heap.size < w1.heap.size := by omega
  clear A0 B0 b1 e0' e1'
  by_cases hc : ffC n N m P K d = 0
  rotate_left 1
  · obtain ⟨p9, c9, rfl⟩ := ownS_shE or
    have hb1 : (ffC n N m P K d != 0) = true := by simpa using hc
    have H3 := Lib.hid (show slN n N m P K d = 0 by unfold slN; rw [if_neg hc])
    have H2 := Lib.hid (show slM n N m P K d = 0 by unfold slM; rw [if_neg hc])
    clear hc or
    go_wp2_with fail
    go_ret3
    exact lii_err H3.out H2.out rfl rfl B1
  · obtain ⟨hB, hKn, hfd, hev, hff⟩ := ffC_ok hc
    have h3 : slN n N m P K d = m := by unfold slN; rw [if_pos hc]
    have h2 : slM n N m P K d = (rfR n m P (fflN n P m d) 32768).2 := by unfold slM; rw [if_pos hc]
    have hfn : ffN n N m P K d = m := by unfold ffN; rw [if_pos hc]
    have HN3 := Lib.hid h3
    have HM2 := Lib.hid h2
    have HCC := Lib.hid hc
    rw [hc]
    rw [hfn] at or
    have OS := owns_sl1 or
    obtain ⟨p9, c9, rfl⟩ := ownS_shE or
    obtain ⟨q1, q2, q3⟩ := rf_of hB hff stB_max
    have hpc := relaxFlowsI_any w1 _ n N m P lo hi (HV.out.below B1 hhi) (by omega) HN.out _ m (fflN n P m d) 0 _ OS (Nat.le_refl _) (by omega) 32768
    rw [q1, q2, q3] at hpc
    generalize hr : (rfR n m P (fflN n P m d) 32768) = r at *
    have HRE := Lib.hid hr
    clear hr OS hB hff hev hfd hfn h2 h3 hc or
    go_wp2_with fail
    refine hpc.mono ?_
    rintro e w2 ⟨v2, g2, rfl, o2, hg2, b2⟩
    clear hpc
    go_wp2_with fail
    go_ret3
    rw [HN3.out, HM2.out, HCC.out, HRE.out]
    exact ⟨v2, g2, rfl, o2, by omega, B1.trans (b2.mono B1.size)⟩

set_option maxRecDepth 100000 in
set_option maxHeartbeats 8000000 in
theorem solveLoopsI_any (w : World) (v : Value) (n : Nat) (N : Nat → Nod) (m : Nat) (P : Nat → Pip) (lo hi : Nat) (h : NetAt w v n N m P lo hi) (hhi : hi ≤ w.heap.size) (hN : ∀ i, i < n → (N i).s.size ≤ 9223372036854775807) (va : Value) (K : Nat) (d : Nat → Int) (la ha : Nat) (hv : Sl w va K d la ha) (hha : ha ≤ w.heap.size) (hK9 : K ≤ 9223372036854775807) :
    Calls Tryz.prog 61 #[v, va] w (LIPost w (slN n N m P K d) (rfR n m P (fflN n P m d) 32768).1 (ffC n N m P K d)) := by
  obtain ⟨p0, c0, p1, c1, rfl, hn9, hm9⟩ := h.parts
  have HV := Lib.hid h
  have HN := Lib.hid hN
  obtain ⟨pa, ca, rfl⟩ := hv.sh
  have HSV := Lib.hid hv
  have A0 := boxed w (.slice p0 n c0) (.slice p1 m c1) 27
  have B0 := below_new w (.cells #[.slice p0 n c0, .slice p1 m c1] 27)
  have hs0 : (w.alloc (.cells #[.slice p0 n c0, .slice p1 m c1] 27)).heap.size = w.heap.size + 1 := by simp
  clear h hN hv
  go_enter Tryz.func61, Tryz.ntmps61
  have e0' := A0.b0
  have e1' := A0.b1
  go_wp2_with fail
  refine (solvedLoops_any _ _ n N m P lo hi (HV.out.below B0 hhi) (by omega) HN.out _ K d la ha (HSV.out.below B0 hha) (by omega) hK9).mono ?_
  rintro e w1 ⟨vr, gr, rfl, or, hgr, b1⟩
  have A1 := A0.below b1 (by omega)
  have B1 := B0.trans (b1.mono (by omega))
  have hs1 := b1.size
  have e0 := A1.b0
  have e1 := A1.b1
  have e2 : w.heap.size < w1.heap.size := by omega
  clear A0 B0 b1 e0' e1'
  obtain ⟨p9, c9, rfl⟩ := ownS_shE or
  go_wp2_with fail
  go_ret2
  exact ⟨_, gr, rfl, or, by omega, B1⟩

set_option maxRecDepth 100000 in
set_option maxHeartbeats 8000000 in
theorem movesNeededI_any (w : World) (v : Value) (n : Nat) (N : Nat → Nod) (m : Nat) (P : Nat → Pip) (lo hi : Nat) (h : NetAt w v n N m P lo hi) (hhi : hi ≤ w.heap.size) (hN : ∀ i, i < n → (N i).s.size ≤ 9223372036854775807) (va : Value) (K : Nat) (d : Nat → Int) (la ha : Nat) (hv : Sl w va K d la ha) (hha : ha ≤ w.heap.size) (hK9 : K ≤ 9223372036854775807) :
    Calls Tryz.prog 18 #[v, va] w (IIPost w (slM n N m P K d) (ffC n N m P K d)) := by
  obtain ⟨p0, c0, p1, c1, rfl, hn9, hm9⟩ := h.parts
  have HV := Lib.hid h
  have HN := Lib.hid hN
  obtain ⟨pa, ca, rfl⟩ := hv.sh
  have HSV := Lib.hid hv
  have A0 := boxed w (.slice p0 n c0) (.slice p1 m c1) 27
  have B0 := below_new w (.cells #[.slice p0 n c0, .slice p1 m c1] 27)
  have hs0 : (w.alloc (.cells #[.slice p0 n c0, .slice p1 m c1] 27)).heap.size = w.heap.size + 1 := by simp
  clear h hN hv
  go_enter Tryz.func18, Tryz.ntmps18
  have e0' := A0.b0
  have e1' := A0.b1
  go_wp2_with fail
  refine (solvedLoops_any _ _ n N m P lo hi (HV.out.below B0 hhi) (by omega) HN.out _ K d la ha (HSV.out.below B0 hha) (by omega) hK9).mono ?_
  rintro e w1 ⟨vr, gr, rfl, or, hgr, b1⟩
  have A1 := A0.below b1 (by omega)
  have B1 := B0.trans (b1.mono (by omega))
  have hs1 := b1.size
  have e0 := A1.b0
  have e1 := A1.b1
  have e2 : w.heap.size < w1.heap.size := by omega
  clear A0 B0 b1 e0' e1'
  obtain ⟨p9, c9, rfl⟩ := ownS_shE or
  go_wp2_with fail
  go_ret2
  exact ⟨rfl, B1⟩

set_option maxRecDepth 100000 in
set_option maxHeartbeats 8000000 in
theorem solveLoopsS_any (w : World) (v : Value) (n : Nat) (N : Nat → Nod) (m : Nat) (P : Nat → Pip) (lo hi : Nat) (h : NetAt w v n N m P lo hi) (hhi : hi ≤ w.heap.size) (hN : ∀ i, i < n → (N i).s.size ≤ 9223372036854775807) (va : Value) (K : Nat) (d : Nat → Int) (la ha : Nat) (hv : Sl w va K d la ha) (hha : ha ≤ w.heap.size) (hK9 : K ≤ 9223372036854775807) :
    Calls Tryz.prog 40 #[v, va] w (LIPost w (slN n N m P K d) (rfR n m P (fflN n P m d) 32768).1 (ffC n N m P K d)) := by
  obtain ⟨p0, c0, p1, c1, rfl, hn9, hm9⟩ := h.parts
  have HV := Lib.hid h
  have HN := Lib.hid hN
  obtain ⟨pa, ca, rfl⟩ := hv.sh
  have HSV := Lib.hid hv
  have A0 := boxed w (.slice p0 n c0) (.slice p1 m c1) 27
  have B0 := below_new w (.cells #[.slice p0 n c0, .slice p1 m c1] 27)
  have hs0 : (w.alloc (.cells #[.slice p0 n c0, .slice p1 m c1] 27)).heap.size = w.heap.size + 1 := by simp
  clear h hN hv
  go_enter Tryz.func40, Tryz.ntmps40
  have e0' := A0.b0
  have e1' := A0.b1
  go_wp2_with fail
  refine (forestFlowsS_any _ _ n N m P lo hi (HV.out.below B0 hhi) (by omega) HN.out _ K d la ha (HSV.out.below B0 hha) (by omega) hK9).mono ?_
  rintro e w1 ⟨vr, gr, rfl, or, hgr, b1⟩
  have A1 := A0.below b1 (by omega)
  have B1 := B0.trans (b1.mono (by omega))
  have hs1 := b1.size
  have e0 := A1.b0
  have e1 := A1.b1
  have e2 : w.heap.size < w1.heap.size := by omega
  clear A0 B0 b1 e0' e1'
  by_cases hc : ffC n N m P K d = 0
  rotate_left 1
  · obtain ⟨p9, c9, rfl⟩ := ownS_shE or
    have hb1 : (ffC n N m P K d != 0) = true := by simpa using hc
    have H3 := Lib.hid (show slN n N m P K d = 0 by unfold slN; rw [if_neg hc])
    have H2 := Lib.hid (show slM n N m P K d = 0 by unfold slM; rw [if_neg hc])
    clear hc or
    go_wp2_with fail
    go_ret2
    exact li_err H3.out rfl rfl B1
  · obtain ⟨hB, hKn, hfd, hev, hff⟩ := ffC_ok hc
    have h3 : slN n N m P K d = m := by unfold slN; rw [if_pos hc]
    have h2 : slM n N m P K d = (rfR n m P (fflN n P m d) 32768).2 := by unfold slM; rw [if_pos hc]
    have hfn : ffN n N m P K d = m := by unfold ffN; rw [if_pos hc]
    have HN3 := Lib.hid h3
    have HM2 := Lib.hid h2
    have HCC := Lib.hid hc
    rw [hc]
    rw [hfn] at or
    have OS := owns_sl1 or
    obtain ⟨p9, c9, rfl⟩ := ownS_shE or
    have hpc := l11Relax_any w1 _ n N m P lo hi (HV.out.below B1 hhi) (by omega) HN.out hB _ (fflN n P m d) 0 _ OS (Nat.le_refl _) (fun k hk => flQ_iff.1 (flB_iff.1 hff k hk)) 32768 (by omega)
    rw [show rlx m P (fun i => cyc P (fE n P m) (fD n P m) (chS n P m i)) (chN n P m) (fflN n P m d) 32768 = (rfR n m P (fflN n P m d) 32768) from rfl] at hpc
    generalize hr : (rfR n m P (fflN n P m d) 32768) = r at *
    have HRE := Lib.hid hr
    clear hr OS hB hff hev hfd hfn h2 h3 hc or
    go_wp2_with fail
    refine hpc.mono ?_
    rintro e w2 ⟨v2, g2, rfl, o2, hg2, b2⟩
    clear hpc
    go_wp2_with fail
    go_ret2
    rw [HN3.out, HCC.out, HRE.out]
    exact ⟨v2, g2, rfl, o2.ownS, by omega, B1.trans (b2.mono B1.size)⟩

end Go.Proofs.YtdbgcbkmcbgdiaaGreat.mem

namespace Go.Proofs.YtdbgcbkmcbgdiaaGreat.mem
open Go.RowKit Go.ChangeShapes Go.WideShapes Go.ChangeAt
set_option linter.unusedVariables false
set_option maxRecDepth 100000

theorem Row.next {w w' : World} {b n : Nat} {d : Nat → Int} (h : Row w b n d) (g : Below w.heap.size w w') (hb : b < w.heap.size) : Row w' b n d := h.below g hb
theorem Row.all {w : World} {b n cap : Nat} {d : Nat → Int} (h : Row w b n d) (hb : b < w.heap.size) : Sl w (.slice (some ⟨b, 0, none⟩) n cap) n d 0 w.heap.size := h.sl (Nat.zero_le _) hb
theorem below_drNN {B : Nat} {w w' : World} (h : Below B w w') (n : Nat) : Below B w (w'.drewN n) := ⟨h.os, h.tape, h.output, h.size, h.block⟩
end Go.Proofs.YtdbgcbkmcbgdiaaGreat.mem

namespace Go.Proofs.YtdbgcbkmcbgdiaaGreat.mem
open Go.RowKit
set_option linter.unusedVariables false

theorem below_dw {B : Nat} {w w' : World} (h : Below B w w') : Below B w w'.drew := ⟨h.os, h.tape, h.output, h.size, h.block⟩
theorem OwnS.shape {w : World} {v : Value} {n z b : Nat} {c : Nat → Nat → Value} (h : OwnS w v n z c b) : ∃ p cap, v = .slice p n cap := by
  obtain ⟨p, cap, e, _⟩ := h.ex
  exact ⟨p, cap, e⟩
theorem OwnS.set2 {w : World} {v : Value} {n z b g o0 o1 : Nat} {c : Nat → Nat → Value} {u0 u1 : Value} (h : OwnS w v n z c b) (hne : b ≠ g) : OwnS ((w.setCell ⟨g, o0, none⟩ u0).setCell ⟨g, o1, none⟩ u1) v n z c b :=
  h.upd (Upd.of_only (((Only.refl g w).setCell o0 u0).setCell o1 u1)) (.inr hne)
end Go.Proofs.YtdbgcbkmcbgdiaaGreat.mem

namespace Go.Proofs.YtdbgcbkmcbgdiaaGreat.mem
open Go.Joins Go.RowKit Go.ChangeShapes Go.WideShapes Go.ChangeAt Go.Deep
set_option linter.unusedVariables false

/-- what reads as a proof: K flows d, L levels l, in blocks from lo on and below hi -/
structure PrAt (w : World) (v : Value) (K : Nat) (d : Nat → Int) (L : Nat) (l : Nat → Int) (lo hi : Nat) : Prop where
  ex : ∃ v0 v1, v = .agg #[v0, v1] ∧ Sl w v0 K d lo hi ∧ Sl w v1 L l lo hi
theorem PrAt.below {w w' : World} {v : Value} {K L lo hi B : Nat} {d l : Nat → Int} (h : PrAt w v K d L l lo hi) (g : Below B w w') (hB : hi ≤ B) : PrAt w' v K d L l lo hi := by
  obtain ⟨v0, v1, rfl, h0, h1⟩ := h.ex
  exact ⟨v0, v1, rfl, h0.below g hB, h1.below g hB⟩
theorem PrAt.mono {w : World} {v : Value} {K L lo hi lo' hi' : Nat} {d l : Nat → Int} (h : PrAt w v K d L l lo hi) (h1 : lo' ≤ lo) (h2 : hi ≤ hi') : PrAt w v K d L l lo' hi' := by
  obtain ⟨v0, v1, rfl, g0, g1⟩ := h.ex
  exact ⟨v0, v1, rfl, g0.mono h1 h2, g1.mono h1 h2⟩
theorem PrAt.drew {w : World} {v : Value} {K L lo hi : Nat} {d l : Nat → Int} (h : PrAt w v K d L l lo hi) : PrAt w.drew v K d L l lo hi := h.below (B := hi) ⟨rfl, rfl, rfl, Nat.le_refl _, fun _ _ => rfl⟩ (Nat.le_refl _)
theorem PrAt.next {w w' : World} {v : Value} {K L : Nat} {d l : Nat → Int} (h : PrAt w v K d L l 0 w.heap.size) (g : Below w.heap.size w w') : PrAt w' v K d L l 0 w'.heap.size := (h.below g (Nat.le_refl _)).mono (Nat.le_refl _) g.size
theorem PrAt.shape {w : World} {v : Value} {K L lo hi : Nat} {d l : Nat → Int} (h : PrAt w v K d L l lo hi) : ∃ p0 c0 p1 c1, v = .agg #[.slice p0 K c0, .slice p1 L c1] := by
  obtain ⟨v0, v1, rfl, g0, g1⟩ := h.ex
  obtain ⟨p0, c0, e0, _⟩ := g0.ex
  obtain ⟨p1, c1, e1, _⟩ := g1.ex
  exact ⟨p0, c0, p1, c1, by rw [e0, e1]⟩
theorem PrAt.two {w : World} {p0 p1 : Option Addr} {c0 c1 : Nat} {K L lo hi : Nat} {d l : Nat → Int} (h : PrAt w (.agg #[.slice p0 K c0, .slice p1 L c1]) K d L l lo hi) : Sl w (.slice p0 K c0) K d lo hi ∧ Sl w (.slice p1 L c1) L l lo hi := by
  obtain ⟨v0, v1, e, g0, g1⟩ := h.ex
  simp only [Value.agg.injEq, Array.mk.injEq, List.cons.injEq, and_true] at e
  obtain ⟨rfl, rfl⟩ := e
  exact ⟨g0, g1⟩
/-- a proof of the call's own, its lists in blocks b1 and b2 -/
structure PrOwn (w : World) (v : Value) (K : Nat) (d : Nat → Int) (L : Nat) (l : Nat → Int) (b1 b2 : Nat) : Prop where
  ex : ∃ v0 v1, v = .agg #[v0, v1] ∧ OwnS w v0 K 1 (fun i _ => .int .i64 (d i)) b1 ∧ OwnS w v1 L 1 (fun i _ => .int .i64 (l i)) b2 ∧ (K = 0 ∨ L = 0 ∨ b1 ≠ b2)
theorem PrOwn.upd {X : Nat → Prop} {w w' : World} {v : Value} {K L b1 b2 : Nat} {d l : Nat → Int} (h : PrOwn w v K d L l b1 b2) (g : Upd X w w') (h1 : K = 0 ∨ ¬ X b1) (h2 : L = 0 ∨ ¬ X b2) : PrOwn w' v K d L l b1 b2 := by
  obtain ⟨v0, v1, rfl, g0, g1, g2⟩ := h.ex
  exact ⟨v0, v1, rfl, g0.upd g h1, g1.upd g h2, g2⟩
theorem PrOwn.below {w w' : World} {v : Value} {K L b1 b2 B : Nat} {d l : Nat → Int} (h : PrOwn w v K d L l b1 b2) (g : Below B w w') (hB : w.heap.size ≤ B) : PrOwn w' v K d L l b1 b2 := by
  obtain ⟨v0, v1, rfl, g0, g1, g2⟩ := h.ex
  exact ⟨v0, v1, rfl, g0.below g hB, g1.below g hB, g2⟩
theorem PrOwn.next {w w' : World} {v : Value} {K L b1 b2 : Nat} {d l : Nat → Int} (h : PrOwn w v K d L l b1 b2) (g : Below w.heap.size w w') : PrOwn w' v K d L l b1 b2 := h.below g (Nat.le_refl _)
theorem PrOwn.drew {w : World} {v : Value} {K L b1 b2 : Nat} {d l : Nat → Int} (h : PrOwn w v K d L l b1 b2) : PrOwn w.drew v K d L l b1 b2 := h.below (B := w.heap.size) ⟨rfl, rfl, rfl, Nat.le_refl _, fun _ _ => rfl⟩ (Nat.le_refl _)
theorem owns_all {w : World} {v : Value} {n b : Nat} {d : Nat → Int} (h : OwnS w v n 1 (fun i _ => .int .i64 (d i)) b) : Sl w v n d 0 w.heap.size := by
  obtain ⟨p', cap, hv, h1, h2, h3⟩ := h.ex
  refine ⟨p', cap, hv, ?_⟩
  rcases h3 with h3 | ⟨h3, h4⟩
  · exact .inl h3
  · refine .inr ⟨b, 0, h3, Nat.zero_le _, h4.lt, fun k hk => ?_⟩
    have := h4.cell k 0 hk (by omega)
    simpa using this
theorem PrOwn.pr {w : World} {v : Value} {K L b1 b2 : Nat} {d l : Nat → Int} (h : PrOwn w v K d L l b1 b2) : PrAt w v K d L l 0 w.heap.size := by
  obtain ⟨v0, v1, rfl, g0, g1, g2⟩ := h.ex
  exact ⟨v0, v1, rfl, owns_all g0, owns_all g1⟩
theorem PrOwn.lts {w : World} {v : Value} {K L b1 b2 : Nat} {d l : Nat → Int} (h : PrOwn w v K d L l b1 b2) : (K = 0 ∨ b1 < w.heap.size) ∧ (L = 0 ∨ b2 < w.heap.size) := by
  obtain ⟨v0, v1, rfl, g0, g1, g2⟩ := h.ex
  exact ⟨g0.lt, g1.lt⟩
theorem PrOwn.shape {w : World} {v : Value} {K L b1 b2 : Nat} {d l : Nat → Int} (h : PrOwn w v K d L l b1 b2) : ∃ p0 c0 p1 c1, v = .agg #[.slice p0 K c0, .slice p1 L c1] := h.pr.shape
theorem PrOwn.none_ (w : World) (d l : Nat → Int) (b1 b2 : Nat) : PrOwn w (.agg #[.slice none 0 0, .slice none 0 0]) 0 d 0 l b1 b2 := ⟨_, _, rfl, OwnS.none_ _ _ _ _, OwnS.none_ _ _ _ _, .inl rfl⟩
/-- a proof and a code as an answer -/
def PIPost (w : World) (K : Nat) (d : Nat → Int) (L : Nat) (l : Nat → Int) (c : Int) (e : Ending) (w' : World) : Prop :=
  ∃ v b1 b2, e = .returned (.tuple #[v, .int .i64 c]) ∧ PrOwn w' v K d L l b1 b2 ∧ w.heap.size ≤ b1 ∧ w.heap.size ≤ b2 ∧ Below w.heap.size w w'

section
variable {H : Type} {enc : TypeId × Value → H} {w : World}
end
end Go.Proofs.YtdbgcbkmcbgdiaaGreat.mem

namespace Go.Proofs.YtdbgcbkmcbgdiaaGreat.mem
open Go.RowKit
set_option linter.unusedVariables false

noncomputable def coC (n : Nat) (N : Nat → Nod) (m : Nat) (P : Nat → Pip) (K : Nat) (d : Nat → Int) : Int := if svC n N m P K d = 0 then (if conB n N m P = true then 0 else 5) else svC n N m P K d
theorem coC_ok {n : Nat} {N : Nat → Nod} {m : Nat} {P : Nat → Pip} {K : Nat} {d : Nat → Int} (h : coC n N m P K d = 0) : svC n N m P K d = 0 ∧ conB n N m P = true := by
  unfold coC at h
  split at h
  · next h0 =>
    split at h
    · next h1 => exact ⟨h0, h1⟩
    · omega
  · next h0 => exact absurd h h0
noncomputable def mkC (n : Nat) (N : Nat → Nod) (m : Nat) (P : Nat → Pip) (K : Nat) (d : Nat → Int) (lv : Int) : Int := if coC n N m P K d = 0 then (if rlB lv = true then ffC n N m P K d else 2) else coC n N m P K d
noncomputable def mkN (n : Nat) (N : Nat → Nod) (m : Nat) (P : Nat → Pip) (K : Nat) (d : Nat → Int) (lv : Int) : Nat := if mkC n N m P K d lv = 0 then m else 0
noncomputable def mkL (n : Nat) (N : Nat → Nod) (m : Nat) (P : Nat → Pip) (K : Nat) (d : Nat → Int) (lv : Int) : Nat := if mkC n N m P K d lv = 0 then n else 0
def mkF (n : Nat) (m : Nat) (P : Nat → Pip) (d : Nat → Int) : Nat → Int := (rfR n m P (fflN n P m d) 32768).1
def mkV (n : Nat) (m : Nat) (P : Nat → Pip) (d : Nat → Int) (lv : Int) : Nat → Int := fun j => lvl n P m (mkF n m P d) ((0 : Nat) : Int) lv (j : Nat)
theorem mk_no {n : Nat} {N : Nat → Nod} {m : Nat} {P : Nat → Pip} {K : Nat} {d : Nat → Int} {lv c : Int} (h : mkC n N m P K d lv = c) (hc : c ≠ 0) : mkN n N m P K d lv = 0 ∧ mkL n N m P K d lv = 0 := by
  unfold mkN mkL
  rw [h]
  exact ⟨if_neg hc, if_neg hc⟩
theorem mk_yes {n : Nat} {N : Nat → Nod} {m : Nat} {P : Nat → Pip} {K : Nat} {d : Nat → Int} {lv : Int} (h : mkC n N m P K d lv = 0) : mkN n N m P K d lv = m ∧ mkL n N m P K d lv = n := by
  unfold mkN mkL
  exact ⟨if_pos h, if_pos h⟩
theorem rf_rng {n m : Nat} {P : Nat → Pip} {x : Nat → Int} {st : Int} (hx : ∀ k, k < m → -30000 ≤ x k ∧ x k ≤ 30000) : ∀ k, k < m → -30000 ≤ (rfR n m P x st).1 k ∧ (rfR n m P x st).1 k ≤ 30000 := by
  unfold rfR rlx
  exact rlS_rng _ hx
theorem mkF_rng {n : Nat} {N : Nat → Nod} {m : Nat} {P : Nat → Pip} {K : Nat} {d : Nat → Int} (h : ffC n N m P K d = 0) : ∀ k, k < m → -30000 ≤ mkF n m P d k ∧ mkF n m P d k ≤ 30000 := by
  obtain ⟨_, _, _, _, hff⟩ := ffC_ok h
  exact rf_rng (fun k hk => flQ_iff.1 (flB_iff.1 hff k hk))
theorem pi_err {w w' : World} {K L : Nat} {d l : Nat → Int} {c c' : Int} {e : Ending} (h0 : K = 0 ∧ L = 0) (hc : c = c') (he : e = .returned (.tuple #[.agg #[.slice none 0 0, .slice none 0 0], .int .i64 c])) (hb : Below w.heap.size w w') : PIPost w K d L l c' e w' := by
  obtain ⟨rfl, rfl⟩ := h0
  subst hc
  exact ⟨_, w.heap.size, w.heap.size, he, PrOwn.none_ _ _ _ _ _, Nat.le_refl _, Nat.le_refl _, hb⟩
set_option maxRecDepth 100000 in
set_option maxHeartbeats 8000000 in
theorem checkConnected_any (w : World) (v : Value) (n : Nat) (N : Nat → Nod) (m : Nat) (P : Nat → Pip) (lo hi : Nat) (h : NetAt w v n N m P lo hi) (hhi : hi ≤ w.heap.size) (hN : ∀ i, i < n → (N i).s.size ≤ 9223372036854775807) (va : Value) (K : Nat) (d : Nat → Int) (la ha : Nat) (hv : Sl w va K d la ha) (hha : ha ≤ w.heap.size) (hK9 : K ≤ 9223372036854775807) :
    Calls Tryz.prog 59 #[v, va] w (fun e w' => e = .returned (.int .i64 (coC n N m P K d)) ∧ Below w.heap.size w w') := by
  obtain ⟨p0, c0, p1, c1, rfl, hn9, hm9⟩ := h.parts
  have HV := Lib.hid h
  have HN := Lib.hid hN
  obtain ⟨pa, ca, rfl⟩ := hv.sh
  have HSV := Lib.hid hv
  have A0 := boxed w (.slice p0 n c0) (.slice p1 m c1) 27
  have B0 := below_new w (.cells #[.slice p0 n c0, .slice p1 m c1] 27)
  have hs0 : (w.alloc (.cells #[.slice p0 n c0, .slice p1 m c1] 27)).heap.size = w.heap.size + 1 := by simp
  clear h hN hv
  go_enter Tryz.func59, Tryz.ntmps59
  have e0 := A0.b0
  have e1 := A0.b1
  have f2 : w.heap.size < (w.alloc (.cells #[.slice p0 n c0, .slice p1 m c1] 27)).heap.size := by omega
  go_wp2_with fail
  refine (checkSupplies_any _ _ n N m P lo hi (HV.out.below B0 hhi) (by omega) HN.out _ K d la ha (HSV.out.below B0 hha) (by omega) hK9).mono ?_
  rintro e w1 ⟨rfl, b1⟩
  have A1 := A0.below b1 (by omega)
  have B1 := B0.trans (b1.mono (by omega))
  have hs1 := b1.size
  have g2 : w.heap.size < w1.heap.size := by omega
  have z1 := hs1
  clear A0 B0 b1 e0 e1 f2 hs1 hs0
  have f2 := g2
  clear g2
  have e0 := A1.b0
  have e1 := A1.b1
  by_cases hc : svC n N m P K d = 0
  · obtain ⟨hB, _, _⟩ := svC_ok hc
    have HSC := Lib.hid hc
    rw [hc]
    clear hc
    cases hC : conB n N m P
    ·
      go_wp2_with fail
      refine (isConnectedI_any _ _ n N m P lo hi (HV.out.below B1 hhi) (by omega) HN.out).mono ?_
      rintro e w2 ⟨rfl, b2⟩
      have A2 := A1.below b2 (by omega)
      have B2 := B1.trans (b2.mono (by omega))
      have hs2 := b2.size
      have g2 : w.heap.size < w2.heap.size := by omega
      have z2 := hs2
      clear A1 B1 b2 e0 e1 f2 hs2
      have f2 := g2
      clear g2
      have e0 := A2.b0
      have e1 := A2.b1
      rw [hC]
      have H4 := Lib.hid (show coC n N m P K d = 5 by unfold coC; rw [if_pos HSC.out, hC]; rfl)
      go_wp2_with fail
      go_ret
      exact ⟨ret_i H4.out.symm, B2⟩
    ·
      go_wp2_with fail
      refine (isConnectedI_any _ _ n N m P lo hi (HV.out.below B1 hhi) (by omega) HN.out).mono ?_
      rintro e w2 ⟨rfl, b2⟩
      have A2 := A1.below b2 (by omega)
      have B2 := B1.trans (b2.mono (by omega))
      have hs2 := b2.size
      have g2 : w.heap.size < w2.heap.size := by omega
      have z2 := hs2
      clear A1 B1 b2 e0 e1 f2 hs2
      have f2 := g2
      clear g2
      have e0 := A2.b0
      have e1 := A2.b1
      rw [hC]
      have H4 := Lib.hid (show coC n N m P K d = 0 by unfold coC; rw [if_pos HSC.out, hC]; rfl)
      go_wp2_with fail
      go_ret
      exact ⟨ret_i H4.out.symm, B2⟩
  · have H4 := Lib.hid (show coC n N m P K d = svC n N m P K d by unfold coC; rw [if_neg hc])
    have hb1 : (svC n N m P K d == 0) = false := by simpa using hc
    have hb2 : (svC n N m P K d != 0) = true := by simpa using hc
    clear hc
    go_wp2_with fail
    go_ret
    exact ⟨ret_i H4.out.symm, B1⟩
set_option maxRecDepth 100000 in
set_option maxHeartbeats 8000000 in
theorem l12Code_any (w : World) (v : Value) (n : Nat) (N : Nat → Nod) (m : Nat) (P : Nat → Pip) (lo hi : Nat) (h : NetAt w v n N m P lo hi) (hhi : hi ≤ w.heap.size) (hN : ∀ i, i < n → (N i).s.size ≤ 9223372036854775807) (va : Value) (K : Nat) (d : Nat → Int) (la ha : Nat) (hv : Sl w va K d la ha) (hha : ha ≤ w.heap.size) (hK9 : K ≤ 9223372036854775807) :
    Calls Tryz.prog 63 #[v, va] w (fun e w' => e = .returned (.int .i64 (coC n N m P K d)) ∧ Below w.heap.size w w') := by
  obtain ⟨p0, c0, p1, c1, rfl, hn9, hm9⟩ := h.parts
  have HV := Lib.hid h
  have HN := Lib.hid hN
  obtain ⟨pa, ca, rfl⟩ := hv.sh
  have HSV := Lib.hid hv
  have A0 := boxed w (.slice p0 n c0) (.slice p1 m c1) 27
  have B0 := below_new w (.cells #[.slice p0 n c0, .slice p1 m c1] 27)
  have hs0 : (w.alloc (.cells #[.slice p0 n c0, .slice p1 m c1] 27)).heap.size = w.heap.size + 1 := by simp
  clear h hN hv
  go_enter Tryz.func63, Tryz.ntmps63
  have e0 := A0.b0
  have e1 := A0.b1
  have f2 : w.heap.size < (w.alloc (.cells #[.slice p0 n c0, .slice p1 m c1] 27)).heap.size := by omega
  go_wp2_with fail
  refine (l06Code_any _ _ n N m P lo hi (HV.out.below B0 hhi) (by omega) HN.out _ K d la ha (HSV.out.below B0 hha) (by omega) hK9).mono ?_
  rintro e w1 ⟨rfl, b1⟩
  have A1 := A0.below b1 (by omega)
  have B1 := B0.trans (b1.mono (by omega))
  have hs1 := b1.size
  have g2 : w.heap.size < w1.heap.size := by omega
  have z1 := hs1
  clear A0 B0 b1 e0 e1 f2 hs1 hs0
  have f2 := g2
  clear g2
  have e0 := A1.b0
  have e1 := A1.b1
  by_cases hc : svC n N m P K d = 0
  · obtain ⟨hB, _, _⟩ := svC_ok hc
    have HSC := Lib.hid hc
    rw [hc]
    clear hc
    cases hC : conB n N m P
    ·
      have hcn : ((cnt n P m : Int) != 1) = true := by
        unfold conB at hC
        rw [hB] at hC
        simp only [Bool.true_and, decide_eq_false_iff_not] at hC
        simp only [bne_iff_ne, ne_eq]
        omega
      go_wp2_with fail
      refine (l04Count_any _ _ n N m P lo hi (HV.out.below B1 hhi) (by omega) HN.out hB).mono ?_
      rintro e w2 ⟨rfl, b2⟩
      have A2 := A1.below b2 (by omega)
      have B2 := B1.trans (b2.mono (by omega))
      have hs2 := b2.size
      have g2 : w.heap.size < w2.heap.size := by omega
      have z2 := hs2
      clear A1 B1 b2 e0 e1 f2 hs2
      have f2 := g2
      clear g2
      have e0 := A2.b0
      have e1 := A2.b1
      have H4 := Lib.hid (show coC n N m P K d = 5 by unfold coC; rw [if_pos HSC.out, hC]; rfl)
      go_wp2_with fail
      go_ret
      exact ⟨ret_i H4.out.symm, B2⟩
    ·
      have hcn : ((cnt n P m : Int) != 1) = false := by
        have := (conB_one hC).2
        rw [this]
        rfl
      go_wp2_with fail
      refine (l04Count_any _ _ n N m P lo hi (HV.out.below B1 hhi) (by omega) HN.out hB).mono ?_
      rintro e w2 ⟨rfl, b2⟩
      have A2 := A1.below b2 (by omega)
      have B2 := B1.trans (b2.mono (by omega))
      have hs2 := b2.size
      have g2 : w.heap.size < w2.heap.size := by omega
      have z2 := hs2
      clear A1 B1 b2 e0 e1 f2 hs2
      have f2 := g2
      clear g2
      have e0 := A2.b0
      have e1 := A2.b1
      have H4 := Lib.hid (show coC n N m P K d = 0 by unfold coC; rw [if_pos HSC.out, hC]; rfl)
      go_wp2_with fail
      go_ret
      exact ⟨ret_i H4.out.symm, B2⟩
  · have H4 := Lib.hid (show coC n N m P K d = svC n N m P K d by unfold coC; rw [if_neg hc])
    have hb1 : (svC n N m P K d == 0) = false := by simpa using hc
    have hb2 : (svC n N m P K d != 0) = true := by simpa using hc
    clear hc
    go_wp2_with fail
    go_ret
    exact ⟨ret_i H4.out.symm, B1⟩
set_option maxRecDepth 100000 in
set_option maxHeartbeats 8000000 in
theorem makeProofI_any (w : World) (v : Value) (n : Nat) (N : Nat → Nod) (m : Nat) (P : Nat → Pip) (lo hi : Nat) (h : NetAt w v n N m P lo hi) (hhi : hi ≤ w.heap.size) (hN : ∀ i, i < n → (N i).s.size ≤ 9223372036854775807) (va : Value) (K : Nat) (d : Nat → Int) (la ha : Nat) (hv : Sl w va K d la ha) (hha : ha ≤ w.heap.size) (hK9 : K ≤ 9223372036854775807) (lv : Int) :
    Calls Tryz.prog 16 #[v, va, .int .i64 lv] w (PIPost w (mkN n N m P K d lv) (mkF n m P d) (mkL n N m P K d lv) (mkV n m P d lv) (mkC n N m P K d lv)) := by
  obtain ⟨p0, c0, p1, c1, rfl, hn9, hm9⟩ := h.parts
  have HV := Lib.hid h
  have HN := Lib.hid hN
  obtain ⟨pa, ca, rfl⟩ := hv.sh
  have HSV := Lib.hid hv
  have A0 := (boxed w (.slice p0 n c0) (.slice p1 m c1) 27).keep (Below.heap_alloc _ (.cells #[.slice none 0 0, .slice none 0 0] 38) _ (by rw [szal]; omega))
  have R0 := boxed (w.alloc (.cells #[.slice p0 n c0, .slice p1 m c1] 27)) (.slice none 0 0) (.slice none 0 0) 38
  simp only [szal] at R0
  have B0 := bel2 w (.cells #[.slice p0 n c0, .slice p1 m c1] 27) (.cells #[.slice none 0 0, .slice none 0 0] 38)
  have hs0 : ((w.alloc (.cells #[.slice p0 n c0, .slice p1 m c1] 27)).alloc (.cells #[.slice none 0 0, .slice none 0 0] 38)).heap.size = w.heap.size + 1 + 1 := by simp
  clear h hN hv
  go_enter Tryz.func16, Tryz.ntmps16
  go_upto_region 1 with (fail)
  obtain ⟨w1, hw1⟩ : ∃ w1, (w.alloc (.cells #[.slice p0 n c0, .slice p1 m c1] 27)).alloc (.cells #[.slice none 0 0, .slice none 0 0] 38) = w1 := ⟨_, rfl⟩
  rw [hw1] at A0 R0 B0 hs0 ⊢
  have f2 := Nat.le_antisymm_iff.1 hs0
  clear hw1 hs0
  have e0 := A0.b0
  have e1 := A0.b1
  have r0 := R0.b0
  have r1 := R0.b1
  have r2 := R0.free 0
  have r3 := R0.free 1
  go_wp2_with fail
  refine (checkConnected_any _ _ n N m P lo hi (HV.out.below B0 hhi) (by omega) HN.out _ K d la ha (HSV.out.below B0 hha) (by omega) hK9).mono ?_
  rintro e w2 ⟨rfl, b2⟩
  have A2 := A0.below b2 (by omega)
  have R2 := R0.below b2 (by omega)
  have B2 := B0.trans (b2.mono (by omega))
  have z2 := b2.size
  have u2 : w.heap.size + 1 < w2.heap.size := by omega
  clear A0 R0 B0 b2 e0 e1 r0 r1 r2 r3
  have e0 := A2.b0
  have e1 := A2.b1
  have r0 := R2.b0
  have r1 := R2.b1
  have r2 := R2.free 0
  have r3 := R2.free 1
  by_cases hc : coC n N m P K d = 0
  rotate_left 1
  · have hb1 : (coC n N m P K d != 0) = true := by simpa using hc
    have hb2 : (coC n N m P K d == 0) = false := by simpa using hc
    have HNE := Lib.hid hc
    have H4 := Lib.hid (show mkC n N m P K d lv = coC n N m P K d by unfold mkC; rw [if_neg hc])
    have H3 := Lib.hid (mk_no H4.out HNE.out)
    clear hc
    have CX := Lib.hid (below_set (below_set B2 (b := w.heap.size + 1) (by omega) 0 (.slice none 0 0)) (b := w.heap.size + 1) (by omega) 1 (.slice none 0 0))
    go_wp2_with fail
    refine bodyPost_ret (v := .tuple #[.agg #[.slice none 0 0, .slice none 0 0], .int .i64 (coC n N m P K d)]) (by simp [results, Tryz.results16, go_sem, r0, r1]) rfl (pi_err H3.out H4.out.symm rfl CX.out)
  obtain ⟨hsv, hcon⟩ := coC_ok hc
  obtain ⟨hB, hcn⟩ := conB_one hcon
  obtain ⟨hn1, hn24, hm40⟩ := net_sz hB
  have HSC := Lib.hid hc
  rw [hc]
  clear hc hsv hcon
  cases hy : rlB lv
  ·
    have H4 := Lib.hid (show mkC n N m P K d lv = 2 by unfold mkC; rw [if_pos HSC.out, hy]; rfl)
    have H3 := Lib.hid (mk_no H4.out (by omega))
    have CX := Lib.hid (below_set (below_set B2 (b := w.heap.size + 1) (by omega) 0 (.slice none 0 0)) (b := w.heap.size + 1) (by omega) 1 (.slice none 0 0))
    go_wp2_with (go_at_call 60; refine (isRootLevel_any lv _).mono ?_; rintro e w' ⟨rfl, rfl⟩; rw [hy])
    refine bodyPost_ret (v := .tuple #[.agg #[.slice none 0 0, .slice none 0 0], .int .i64 2]) (by simp [results, Tryz.results16, go_sem, r0, r1]) rfl (pi_err H3.out H4.out.symm rfl CX.out)
  have HMF := Lib.hid (show mkC n N m P K d lv = ffC n N m P K d by unfold mkC; rw [if_pos HSC.out, hy]; rfl)
  obtain ⟨hl0, hl1⟩ := inR_iff.1 hy
  go_wp2_with (go_at_call 60; refine (isRootLevel_any lv _).mono ?_; rintro e w' ⟨rfl, rfl⟩; rw [hy])
  refine (solveLoopsI_any _ _ n N m P lo hi (HV.out.below B2 hhi) (by omega) HN.out _ K d la ha (HSV.out.below B2 hha) (by omega) hK9).mono ?_
  rintro e w3 ⟨vr, gr, rfl, or, hgr, b3⟩
  have A3 := A2.below b3 (by omega)
  have R3 := R2.below b3 (by omega)
  have B3 := B2.trans (b3.mono (by omega))
  have z3 := b3.size
  have u3 : w.heap.size + 1 < w3.heap.size := by omega
  clear A2 R2 B2 b3 e0 e1 r0 r1 r2 r3
  have e0 := A3.b0
  have e1 := A3.b1
  have r0 := R3.b0
  have r1 := R3.b1
  have r2 := R3.free 0
  have r3 := R3.free 1
  by_cases hf : ffC n N m P K d = 0
  rotate_left 1
  · have hb1 : (ffC n N m P K d != 0) = true := by simpa using hf
    have HNE := Lib.hid hf
    have H4 := Lib.hid HMF.out
    have H3 := Lib.hid (mk_no H4.out HNE.out)
    obtain ⟨p9, c9, rfl⟩ := ownS_shE or
    clear hf or
    have CX := Lib.hid (below_set (below_set B3 (b := w.heap.size + 1) (by omega) 0 (.slice none 0 0)) (b := w.heap.size + 1) (by omega) 1 (.slice none 0 0))
    go_wp2_with fail
    refine bodyPost_ret (v := .tuple #[.agg #[.slice none 0 0, .slice none 0 0], .int .i64 (ffC n N m P K d)]) (by simp [results, Tryz.results16, go_sem, r0, r1]) rfl (pi_err H3.out H4.out.symm rfl CX.out)
  have hsn : slN n N m P K d = m := by unfold slN; rw [if_pos hf]
  have H4 := Lib.hid (HMF.out.trans hf)
  have H3 := Lib.hid (mk_yes H4.out)
  have HFR := Lib.hid (mkF_rng hf)
  rw [hf]
  rw [hsn] at or
  have OS := owns_sl1 or
  obtain ⟨p9, c9, rfl⟩ := ownS_shE or
  have HOR := Lib.hid or
  have hor := or.lt
  rw [show (rfR n m P (fflN n P m d) 32768).1 = mkF n m P d from rfl] at OS
  clear hf hsn or
  have hpc := forestLevels_any w3 _ n N m P lo hi (HV.out.below B3 hhi) (by omega) hB hcn _ (mkF n m P d) 0 _ OS (Nat.le_refl _) HFR.out 0 (by omega) lv (by omega) (by omega)
  clear OS hB hcn
  go_wp2_with fail
  refine hpc.mono ?_
  rintro e w9 ⟨g, rfl, og, hg, b9⟩
  clear hpc
  have R9 := R3.below b9 (by omega)
  have B9 := B3.trans (b9.mono (by omega))
  have HR9 := Lib.hid (HOR.out.below b9 (Nat.le_refl _))
  have HO9 := Lib.hid og
  have z9 := b9.size
  have lg := og.lt
  clear b9 og e0 e1 r0 r1 r2 r3 A3 R3 B3
  have r0 := R9.b0
  have r1 := R9.b1
  have r2 := R9.free 0
  have r3 := R9.free 1
  have CX := Lib.hid (below_set (below_set B9 (b := w.heap.size + 1) (by omega) 0 (.slice p9 m c9)) (b := w.heap.size + 1) (by omega) 1 (.slice (some ⟨g, 0, none⟩) n n))
  have UX := Lib.hid (show Upd (fun k => k = w.heap.size + 1) w9 ((w9.setCell ⟨w.heap.size + 1, 0, none⟩ (.slice p9 m c9)).setCell ⟨w.heap.size + 1, 1, none⟩ (.slice (some ⟨g, 0, none⟩) n n)) from ((Upd.of_only ((Only.refl (w.heap.size + 1) w9).setCell 0 (.slice p9 m c9))).trans (Upd.of_only ((Only.refl (w.heap.size + 1) (w9.setCell ⟨w.heap.size + 1, 0, none⟩ (.slice p9 m c9))).setCell 1 (.slice (some ⟨g, 0, none⟩) n n)))))
  go_wp2_with fail
  refine bodyPost_ret (v := .tuple #[.agg #[.slice p9 m c9, .slice (some ⟨g, 0, none⟩) n n], .int .i64 0]) (by simp [results, Tryz.results16, go_sem, r0, r1]) rfl ?_
  rw [H3.out.1, H3.out.2, H4.out]
  exact ⟨_, gr, g, rfl, ⟨_, _, rfl, HR9.out.upd UX.out (.inr (fun e => by (have e' : gr = w.heap.size + 1 := e); omega)), HO9.out.ownS.upd UX.out (.inr (fun e => by (have e' : g = w.heap.size + 1 := e); omega)), by omega⟩, by omega, by omega, CX.out⟩
set_option maxRecDepth 100000 in
set_option maxHeartbeats 8000000 in
theorem makeProofS_any (w : World) (v : Value) (n : Nat) (N : Nat → Nod) (m : Nat) (P : Nat → Pip) (lo hi : Nat) (h : NetAt w v n N m P lo hi) (hhi : hi ≤ w.heap.size) (hN : ∀ i, i < n → (N i).s.size ≤ 9223372036854775807) (va : Value) (K : Nat) (d : Nat → Int) (la ha : Nat) (hv : Sl w va K d la ha) (hha : ha ≤ w.heap.size) (hK9 : K ≤ 9223372036854775807) (lv : Int) :
    Calls Tryz.prog 17 #[v, va, .int .i64 lv] w (PIPost w (mkN n N m P K d lv) (mkF n m P d) (mkL n N m P K d lv) (mkV n m P d lv) (mkC n N m P K d lv)) := by
  obtain ⟨p0, c0, p1, c1, rfl, hn9, hm9⟩ := h.parts
  have HV := Lib.hid h
  have HN := Lib.hid hN
  obtain ⟨pa, ca, rfl⟩ := hv.sh
  have HSV := Lib.hid hv
  have A0 := (boxed w (.slice p0 n c0) (.slice p1 m c1) 27).keep (Below.heap_alloc _ (.cells #[.slice none 0 0, .slice none 0 0] 38) _ (by rw [szal]; omega))
  have R0 := boxed (w.alloc (.cells #[.slice p0 n c0, .slice p1 m c1] 27)) (.slice none 0 0) (.slice none 0 0) 38
  simp only [szal] at R0
  have B0 := bel2 w (.cells #[.slice p0 n c0, .slice p1 m c1] 27) (.cells #[.slice none 0 0, .slice none 0 0] 38)
  have hs0 : ((w.alloc (.cells #[.slice p0 n c0, .slice p1 m c1] 27)).alloc (.cells #[.slice none 0 0, .slice none 0 0] 38)).heap.size = w.heap.size + 1 + 1 := by simp
  clear h hN hv
  go_enter Tryz.func17, Tryz.ntmps17
  go_upto_region 1 with (fail)
  obtain ⟨w1, hw1⟩ : ∃ w1, (w.alloc (.cells #[.slice p0 n c0, .slice p1 m c1] 27)).alloc (.cells #[.slice none 0 0, .slice none 0 0] 38) = w1 := ⟨_, rfl⟩
  rw [hw1] at A0 R0 B0 hs0 ⊢
  have f2 := Nat.le_antisymm_iff.1 hs0
  clear hw1 hs0
  have e0 := A0.b0
  have e1 := A0.b1
  have r0 := R0.b0
  have r1 := R0.b1
  have r2 := R0.free 0
  have r3 := R0.free 1
  go_wp2_with fail
  refine (l12Code_any _ _ n N m P lo hi (HV.out.below B0 hhi) (by omega) HN.out _ K d la ha (HSV.out.below B0 hha) (by omega) hK9).mono ?_
  rintro e w2 ⟨rfl, b2⟩
  have A2 := A0.below b2 (by omega)
  have R2 := R0.below b2 (by omega)
  have B2 := B0.trans (b2.mono (by omega))
  have z2 := b2.size
  have u2 : w.heap.size + 1 < w2.heap.size := by omega
  clear A0 R0 B0 b2 e0 e1 r0 r1 r2 r3
  have e0 := A2.b0
  have e1 := A2.b1
  have r0 := R2.b0
  have r1 := R2.b1
  have r2 := R2.free 0
  have r3 := R2.free 1
  by_cases hc : coC n N m P K d = 0
  rotate_left 1
  · have hb1 : (coC n N m P K d != 0) = true := by simpa using hc
    have hb2 : (coC n N m P K d == 0) = false := by simpa using hc
    have HNE := Lib.hid hc
    have H4 := Lib.hid (show mkC n N m P K d lv = coC n N m P K d by unfold mkC; rw [if_neg hc])
    have H3 := Lib.hid (mk_no H4.out HNE.out)
    clear hc
    have CX := Lib.hid (below_set (below_set B2 (b := w.heap.size + 1) (by omega) 0 (.slice none 0 0)) (b := w.heap.size + 1) (by omega) 1 (.slice none 0 0))
    go_wp2_with fail
    refine bodyPost_ret (v := .tuple #[.agg #[.slice none 0 0, .slice none 0 0], .int .i64 (coC n N m P K d)]) (by simp [results, Tryz.results17, go_sem, r0, r1]) rfl (pi_err H3.out H4.out.symm rfl CX.out)
  obtain ⟨hsv, hcon⟩ := coC_ok hc
  obtain ⟨hB, hcn⟩ := conB_one hcon
  obtain ⟨hn1, hn24, hm40⟩ := net_sz hB
  have HSC := Lib.hid hc
  rw [hc]
  clear hc hsv hcon
  cases hy : rlB lv
  ·
    have H4 := Lib.hid (show mkC n N m P K d lv = 2 by unfold mkC; rw [if_pos HSC.out, hy]; rfl)
    have H3 := Lib.hid (mk_no H4.out (by omega))
    have CX := Lib.hid (below_set (below_set B2 (b := w.heap.size + 1) (by omega) 0 (.slice none 0 0)) (b := w.heap.size + 1) (by omega) 1 (.slice none 0 0))
    go_wp2_with (go_at_call 64; refine (l07Level_any lv _).mono ?_; rintro e w' ⟨rfl, rfl⟩; rw [hy])
    refine bodyPost_ret (v := .tuple #[.agg #[.slice none 0 0, .slice none 0 0], .int .i64 2]) (by simp [results, Tryz.results17, go_sem, r0, r1]) rfl (pi_err H3.out H4.out.symm rfl CX.out)
  have HMF := Lib.hid (show mkC n N m P K d lv = ffC n N m P K d by unfold mkC; rw [if_pos HSC.out, hy]; rfl)
  obtain ⟨hl0, hl1⟩ := inR_iff.1 hy
  go_wp2_with (go_at_call 64; refine (l07Level_any lv _).mono ?_; rintro e w' ⟨rfl, rfl⟩; rw [hy])
  refine (solveLoopsS_any _ _ n N m P lo hi (HV.out.below B2 hhi) (by omega) HN.out _ K d la ha (HSV.out.below B2 hha) (by omega) hK9).mono ?_
  rintro e w3 ⟨vr, gr, rfl, or, hgr, b3⟩
  have A3 := A2.below b3 (by omega)
  have R3 := R2.below b3 (by omega)
  have B3 := B2.trans (b3.mono (by omega))
  have z3 := b3.size
  have u3 : w.heap.size + 1 < w3.heap.size := by omega
  clear A2 R2 B2 b3 e0 e1 r0 r1 r2 r3
  have e0 := A3.b0
  have e1 := A3.b1
  have r0 := R3.b0
  have r1 := R3.b1
  have r2 := R3.free 0
  have r3 := R3.free 1
  by_cases hf : ffC n N m P K d = 0
  rotate_left 1
  · have hb1 : (ffC n N m P K d != 0) = true := by simpa using hf
    have HNE := Lib.hid hf
    have H4 := Lib.hid HMF.out
    have H3 := Lib.hid (mk_no H4.out HNE.out)
    obtain ⟨p9, c9, rfl⟩ := ownS_shE or
    clear hf or
    have CX := Lib.hid (below_set (below_set B3 (b := w.heap.size + 1) (by omega) 0 (.slice none 0 0)) (b := w.heap.size + 1) (by omega) 1 (.slice none 0 0))
    go_wp2_with fail
    refine bodyPost_ret (v := .tuple #[.agg #[.slice none 0 0, .slice none 0 0], .int .i64 (ffC n N m P K d)]) (by simp [results, Tryz.results17, go_sem, r0, r1]) rfl (pi_err H3.out H4.out.symm rfl CX.out)
  have hsn : slN n N m P K d = m := by unfold slN; rw [if_pos hf]
  have H4 := Lib.hid (HMF.out.trans hf)
  have H3 := Lib.hid (mk_yes H4.out)
  have HFR := Lib.hid (mkF_rng hf)
  rw [hf]
  rw [hsn] at or
  have OS := owns_sl1 or
  obtain ⟨p9, c9, rfl⟩ := ownS_shE or
  have HOR := Lib.hid or
  have hor := or.lt
  rw [show (rfR n m P (fflN n P m d) 32768).1 = mkF n m P d from rfl] at OS
  clear hf hsn or
  have hpc := l07Levels_any w3 _ n N m P lo hi (HV.out.below B3 hhi) (by omega) HN.out hB hcn _ (mkF n m P d) 0 _ OS (Nat.le_refl _) HFR.out 0 (by omega) lv (by omega) (by omega)
  clear OS hB hcn
  go_wp2_with fail
  refine hpc.mono ?_
  rintro e w9 ⟨v9, g, rfl, og, hg, b9⟩
  obtain ⟨cg, rfl⟩ := og.shape
  clear hpc
  have R9 := R3.below b9 (by omega)
  have B9 := B3.trans (b9.mono (by omega))
  have HR9 := Lib.hid (HOR.out.below b9 (Nat.le_refl _))
  have HO9 := Lib.hid og
  have z9 := b9.size
  have lg := og.lt
  clear b9 og e0 e1 r0 r1 r2 r3 A3 R3 B3
  have r0 := R9.b0
  have r1 := R9.b1
  have r2 := R9.free 0
  have r3 := R9.free 1
  have CX := Lib.hid (below_set (below_set B9 (b := w.heap.size + 1) (by omega) 0 (.slice p9 m c9)) (b := w.heap.size + 1) (by omega) 1 (.slice (some ⟨g, 0, none⟩) n cg))
  have UX := Lib.hid (show Upd (fun k => k = w.heap.size + 1) w9 ((w9.setCell ⟨w.heap.size + 1, 0, none⟩ (.slice p9 m c9)).setCell ⟨w.heap.size + 1, 1, none⟩ (.slice (some ⟨g, 0, none⟩) n cg)) from ((Upd.of_only ((Only.refl (w.heap.size + 1) w9).setCell 0 (.slice p9 m c9))).trans (Upd.of_only ((Only.refl (w.heap.size + 1) (w9.setCell ⟨w.heap.size + 1, 0, none⟩ (.slice p9 m c9))).setCell 1 (.slice (some ⟨g, 0, none⟩) n cg)))))
  go_wp2_with fail
  refine bodyPost_ret (v := .tuple #[.agg #[.slice p9 m c9, .slice (some ⟨g, 0, none⟩) n cg], .int .i64 0]) (by simp [results, Tryz.results17, go_sem, r0, r1]) rfl ?_
  rw [H3.out.1, H3.out.2, H4.out]
  exact ⟨_, gr, g, rfl, ⟨_, _, rfl, HR9.out.upd UX.out (.inr (fun e => by (have e' : gr = w.heap.size + 1 := e); omega)), HO9.out.ownS.upd UX.out (.inr (fun e => by (have e' : g = w.heap.size + 1 := e); omega)), by omega⟩, by omega, by omega, CX.out⟩
end Go.Proofs.YtdbgcbkmcbgdiaaGreat.mem

namespace Go.Proofs.YtdbgcbkmcbgdiaaGreat.mem
open Go.RowKit
set_option linter.unusedVariables false

end Go.Proofs.YtdbgcbkmcbgdiaaGreat.mem

namespace Go.Proofs.YtdbgcbkmcbgdiaaGreat.mem
open Go.RowKit
set_option linter.unusedVariables false

def alB (n L : Nat) (l : Nat → Int) : Bool := decide (L = n) && irB (-1000000000000000000) 1000000000000000000 l L
theorem alB_iff {n L : Nat} {l : Nat → Int} : alB n L l = true ↔ L = n ∧ ∀ k, k < L → -1000000000000000000 ≤ l k ∧ l k ≤ 1000000000000000000 := by
  unfold alB
  rw [Bool.and_eq_true, decide_eq_true_iff, irB_iff]
  constructor
  · rintro ⟨h1, h2⟩
    exact ⟨h1, fun k hk => inR_iff.1 (h2 k hk)⟩
  · rintro ⟨h1, h2⟩
    exact ⟨h1, fun k hk => inR_iff.2 (h2 k hk)⟩
set_option maxRecDepth 100000 in
set_option maxHeartbeats 8000000 in
theorem areLevels_any (w : World) (p0 p1 : Option Addr) (n m c0 c1 : Nat) (va : Value) (L : Nat) (l : Nat → Int) (la ha : Nat) (hv : Sl w va L l la ha) (hha : ha ≤ w.heap.size) (hL9 : L ≤ 9223372036854775807) (hn9 : n ≤ 9223372036854775807) :
    Calls Tryz.prog 122 #[.agg #[.slice p0 n c0, .slice p1 m c1], va] w fun e w' => e = .returned (.bool (alB n L l)) ∧ Below w.heap.size w w' := by
  obtain ⟨pa, ca, rfl⟩ := hv.sh
  have A0 := boxed w (.slice p0 n c0) (.slice p1 m c1) 27
  have B0 := below_new w (.cells #[.slice p0 n c0, .slice p1 m c1] 27)
  have HS := Lib.hid (hv.below B0 hha)
  have e0 := A0.b0
  by_cases hLn : L = n
  · have hq : ((L : Int) == (n : Int)) = true := by subst hLn; simp
    have HR := Lib.hid (show irB (-1000000000000000000) 1000000000000000000 l L = alB n L l by unfold alB; rw [decide_eq_true hLn, Bool.true_and])
    clear hLn hv
    go_enter Tryz.func122, Tryz.ntmps122
    go_wp2_with (go_at_call 131; refine (areInRange_any _ _ _ _ L l la ha HS.out hL9).mono ?_; rintro e w' ⟨rfl, rfl⟩; rw [HR.out])
    go_ret
    exact ⟨rfl, B0⟩
  · have hq : ((L : Int) == (n : Int)) = false := by simp; omega
    have HR := Lib.hid (show alB n L l = false by unfold alB; rw [decide_eq_false hLn, Bool.false_and])
    clear hLn hv
    go_enter Tryz.func122, Tryz.ntmps122
    go_wp2_with fail
    go_ret
    exact ⟨ret_b HR.out.symm, B0⟩
theorem l01BigC_any (x : Int) (w : World) : Calls Tryz.prog 125 #[.int .i64 x] w fun e w' => e = .returned (.bool (inR x (-1000000000000000000) 1000000000000000000)) ∧ w = w' := by
  go_enter Tryz.func125, Tryz.ntmps125
  go_wp2_with (go_at_call 117; refine (l01In_any _ _ _ _).mono ?_; rintro e w' ⟨rfl, rfl⟩)
  go_ret
  exact ⟨rfl, rfl⟩
set_option maxRecDepth 100000 in
set_option maxHeartbeats 8000000 in
theorem l12Levels_any (w : World) (p0 p1 : Option Addr) (n m c0 c1 : Nat) (va : Value) (L : Nat) (l : Nat → Int) (la ha : Nat) (hv : Sl w va L l la ha) (hha : ha ≤ w.heap.size) (hL9 : L ≤ 9223372036854775807) (hn9 : n ≤ 9223372036854775807) :
    Calls Tryz.prog 69 #[.agg #[.slice p0 n c0, .slice p1 m c1], va] w fun e w' => e = .returned (.bool (alB n L l)) ∧ Below w.heap.size w w' := by
  have A0 := boxed w (.slice p0 n c0) (.slice p1 m c1) 27
  have B0 := Lib.hid (below_new w (.cells #[.slice p0 n c0, .slice p1 m c1] 27))
  obtain ⟨pa, ca, rfl, hc⟩ := hv.below B0.out hha
  have HC := Lib.hid hc
  have e0 := A0.b0
  clear hc A0 hv
  go_enter Tryz.func69, Tryz.ntmps69
  go_wp2_with fail
  generalize hw1 : w.alloc (.cells #[.slice p0 n c0, .slice p1 m c1] 27) = w1 at *
  clear hw1
  go_loopw [5] (fun iv wr => ∃ k : Nat, iv = .int .i64 k ∧ k ≤ L ∧ irB (-1000000000000000000) 1000000000000000000 l k = true ∧ wr = w1) (fun iv _ => L - (intOf iv).toNat)
  case atStart => exact ⟨0, rfl, Nat.zero_le _, rfl, rfl⟩
  case round =>
    obtain ⟨k, rfl, hk, hir, rfl⟩ := hrel
    have HI := Lib.hid hir
    clear hir
    have k0 : (0 : Int) ≤ (k : Int) := Int.natCast_nonneg _
    by_cases hlt : k < L
    · have k1 : (k : Int) < (L : Int) := by omega
      rcases HC.out with e | ⟨b, o, rfl, _, _, hx⟩
      · omega
      have y0 := hx k hlt
      clear hx
      cases hq : inR (l k) (-1000000000000000000) 1000000000000000000
      · have HR := Lib.hid (show alB n L l = false by unfold alB; rw [irB_no hlt hq, Bool.and_false])
        go_wp2_with (go_at_call 125; refine (l01BigC_any _ _).mono ?_; rintro e w' ⟨rfl, rfl⟩; rw [hq])
        go_ret
        exact ⟨ret_b HR.out.symm, B0.out⟩
      · have HR := Lib.hid (show irB (-1000000000000000000) 1000000000000000000 l (k + 1) = true by unfold irB; rw [HI.out, hq]; rfl)
        go_wp2_with (go_at_call 125; refine (l01BigC_any _ _).mono ?_; rintro e w' ⟨rfl, rfl⟩; rw [hq])
        go_roundw
        case rel => exact ⟨k + 1, by go_num, hlt, HR.out, (by first | rfl | trivial)⟩
        case measure => simp [intOf]; omega
    · have hkn : k = L := by omega
      have HI2 := Lib.hid (show irB (-1000000000000000000) 1000000000000000000 l L = true by rw [← hkn]; exact HI.out)
      have k1 : ¬ ((k : Int) < (L : Int)) := by omega
      have HR := Lib.hid (show ((L : Int) == (n : Int)) = alB n L l by
        unfold alB
        rw [HI2.out, Bool.and_true]
        by_cases e : L = n
        · rw [decide_eq_true e]; subst e; simp
        · rw [decide_eq_false e]; simp; omega)
      clear hkn
      go_wp2_with fail
      go_ret
      exact ⟨ret_b HR.out, B0.out⟩
def eqLB (K : Nat) (d : Nat → Int) (L : Nat) (e : Nat → Int) : Bool := decide (K = L) && smB d e K
theorem smB_iff {d e : Nat → Int} {n : Nat} : smB d e n = true ↔ ∀ k, k < n → d k = e k := by
  unfold smB
  rw [List.all_eq_true]
  constructor
  · intro h k hk
    simpa using h k (List.mem_range.2 hk)
  · intro h k hk
    simpa using h k (List.mem_range.1 hk)
theorem smB_comm (d e : Nat → Int) (n : Nat) : smB d e n = smB e d n := by
  rw [Bool.eq_iff_iff, smB_iff, smB_iff]
  exact ⟨fun h k hk => (h k hk).symm, fun h k hk => (h k hk).symm⟩
set_option maxRecDepth 100000 in
set_option maxHeartbeats 8000000 in
theorem equal64_any (w : World) (va vb : Value) (K : Nat) (d : Nat → Int) (la ha : Nat) (hv : Sl w va K d la ha) (L : Nat) (e : Nat → Int) (lb hb : Nat) (hu : Sl w vb L e lb hb) (hK : K ≤ 9223372036854775807) (hL : L ≤ 9223372036854775807) :
    Calls Tryz.prog 74 #[va, vb] w fun e' w' => e' = .returned (.bool (eqLB K d L e)) ∧ Below w.heap.size w w' := by
  by_cases hKL : K = L
  rotate_left 1
  · obtain ⟨pa, ca, rfl, _⟩ := hv
    obtain ⟨pb, cb, rfl, _⟩ := hu
    have hb0 : ((K : Int) != (L : Int)) = true := bne_iff_ne.2 (fun e => hKL (Int.ofNat.inj e))
    have HR := Lib.hid (show eqLB K d L e = false by unfold eqLB; rw [decide_eq_false hKL, Bool.false_and])
    clear hKL
    go_enter Tryz.func74, Tryz.ntmps74
    go_wp2_with fail
    go_ret
    exact ⟨ret_b HR.out.symm, Below.refl _ _⟩
  subst hKL
  have HE := Lib.hid (show eqLB K d K e = smB d e K by unfold eqLB; rw [decide_eq_true rfl, Bool.true_and])
  obtain ⟨pa, ca, rfl, hva⟩ := hv
  obtain ⟨pb, cb, rfl, hvb⟩ := hu
  have HVA := Lib.hid hva
  have HVB := Lib.hid hvb
  have hb0 : ((K : Int) != (K : Int)) = false := by simp
  clear hva hvb
  go_enter Tryz.func74, Tryz.ntmps74
  go_wp2_with fail
  go_loopw [13] (fun iv wr => ∃ k z : Nat, iv = .int .i64 k ∧ k ≤ K ∧ smB d e k = true ∧ wr = w.drewN z) (fun iv _ => K - (intOf iv).toNat)
  case atStart => exact ⟨0, 0, rfl, Nat.zero_le _, rfl, rfl⟩
  case round =>
    obtain ⟨k, z, rfl, hk, hb', hw⟩ := hrel
    have HF := Lib.hid hb'
    have HWR := Lib.hid hw
    clear hb'
    have k0 : (0 : Int) ≤ (k : Int) := Int.natCast_nonneg _
    by_cases hlt : k < K
    · have k1 : (k : Int) < (K : Int) := by omega
      obtain ⟨ba, oa, rfl, _, _, hx⟩ : ∃ b o, pa = some ⟨b, o, none⟩ ∧ la ≤ b ∧ b < ha ∧ ∀ k, k < K → w.cell? ⟨b, o + k, none⟩ = some (.int .i64 (d k)) := by
        rcases HVA.out with e | e
        · omega
        · exact e
      obtain ⟨bb, ob, rfl, _, _, hz⟩ : ∃ b o, pb = some ⟨b, o, none⟩ ∧ lb ≤ b ∧ b < hb ∧ ∀ k, k < K → w.cell? ⟨b, o + k, none⟩ = some (.int .i64 (e k)) := by
        rcases HVB.out with e | e
        · omega
        · exact e
      have y0 : wr.cell? ⟨ba, oa + k, none⟩ = some (.int .i64 (d k)) := by rw [hw]; exact hx k hlt
      have y1 : wr.cell? ⟨bb, ob + k, none⟩ = some (.int .i64 (e k)) := by rw [hw]; exact hz k hlt
      clear hx hz hw
      cases hq : (d k == e k)
      · have HR := Lib.hid (smB_no hlt hq)
        have hq2 : (d k != e k) = true := by unfold bne; rw [hq]; rfl
        clear hq
        go_wp2_with fail
        go_quiet (fail)
        go_wp2_with fail
        go_ret
        exact ⟨ret_b (by rw [HE.out, HR.out]), by rw [HWR.out, World.drewN_drewN]; exact below_drNN (Below.refl _ _) _⟩
      · have HR := Lib.hid (show smB d e (k + 1) = true by rw [smB_succ, HF.out, hq]; rfl)
        have hq2 : (d k != e k) = false := by unfold bne; rw [hq]; rfl
        clear hq
        go_wp2_with fail
        go_quiet (fail)
        go_wp2_with fail
        go_roundw
        case rel => exact ⟨k + 1, z + nq, by go_num, hlt, HR.out, by rw [HWR.out]; exact (World.drewN_drewN _ _ _)⟩
        case measure => simp [intOf]; omega
    · have hkn : K = k := by omega
      have HR := Lib.hid (show smB d e K = true by rw [hkn]; exact HF.out)
      have k1 : ¬ ((k : Int) < (K : Int)) := by omega
      clear hkn hw
      go_wp2_with fail
      go_ret
      exact ⟨ret_b (by rw [HE.out, HR.out]), by rw [HWR.out]; exact below_drNN (Below.refl _ _) _⟩
set_option maxRecDepth 100000 in
set_option maxHeartbeats 8000000 in
theorem sameL_any (w : World) (va vb : Value) (K : Nat) (d : Nat → Int) (la ha : Nat) (hv : Sl w va K d la ha) (L : Nat) (e : Nat → Int) (lb hb : Nat) (hu : Sl w vb L e lb hb) (hK : K ≤ 9223372036854775807) (hL : L ≤ 9223372036854775807) :
    Calls Tryz.prog 68 #[va, vb] w fun e' w' => e' = .returned (.bool (eqLB K d L e)) ∧ Below w.heap.size w w' := by
  by_cases hKL : K = L
  rotate_left 1
  · obtain ⟨pa, ca, rfl, _⟩ := hv
    obtain ⟨pb, cb, rfl, _⟩ := hu
    have hb0 : ((K : Int) != (L : Int)) = true := bne_iff_ne.2 (fun e => hKL (Int.ofNat.inj e))
    have HR := Lib.hid (show eqLB K d L e = false by unfold eqLB; rw [decide_eq_false hKL, Bool.false_and])
    clear hKL
    go_enter Tryz.func68, Tryz.ntmps68
    go_wp2_with fail
    go_ret
    exact ⟨ret_b HR.out.symm, Below.refl _ _⟩
  subst hKL
  have HE := Lib.hid (show eqLB K d K e = smB d e K by unfold eqLB; rw [decide_eq_true rfl, Bool.true_and])
  obtain ⟨pa, ca, rfl, hva⟩ := hv
  obtain ⟨pb, cb, rfl, hvb⟩ := hu
  have HVA := Lib.hid hva
  have HVB := Lib.hid hvb
  have hb0 : ((K : Int) != (K : Int)) = false := by simp
  clear hva hvb
  go_enter Tryz.func68, Tryz.ntmps68
  go_wp2_with fail
  go_loopw [5] (fun iv wr => ∃ k z : Nat, iv = .int .i64 k ∧ k ≤ K ∧ smB d e k = true ∧ wr = w.drewN z) (fun iv _ => K - (intOf iv).toNat)
  case atStart => exact ⟨0, 0, rfl, Nat.zero_le _, rfl, rfl⟩
  case round =>
    obtain ⟨k, z, rfl, hk, hb', hw⟩ := hrel
    have HF := Lib.hid hb'
    have HWR := Lib.hid hw
    clear hb'
    have k0 : (0 : Int) ≤ (k : Int) := Int.natCast_nonneg _
    by_cases hlt : k < K
    · have k1 : (k : Int) < (K : Int) := by omega
      obtain ⟨ba, oa, rfl, _, _, hx⟩ : ∃ b o, pa = some ⟨b, o, none⟩ ∧ la ≤ b ∧ b < ha ∧ ∀ k, k < K → w.cell? ⟨b, o + k, none⟩ = some (.int .i64 (d k)) := by
        rcases HVA.out with e | e
        · omega
        · exact e
      obtain ⟨bb, ob, rfl, _, _, hz⟩ : ∃ b o, pb = some ⟨b, o, none⟩ ∧ lb ≤ b ∧ b < hb ∧ ∀ k, k < K → w.cell? ⟨b, o + k, none⟩ = some (.int .i64 (e k)) := by
        rcases HVB.out with e | e
        · omega
        · exact e
      have y0 : wr.cell? ⟨ba, oa + k, none⟩ = some (.int .i64 (d k)) := by rw [hw]; exact hx k hlt
      have y1 : wr.cell? ⟨bb, ob + k, none⟩ = some (.int .i64 (e k)) := by rw [hw]; exact hz k hlt
      clear hx hz hw
      cases hq : (d k == e k)
      · have HR := Lib.hid (smB_no hlt hq)
        have hq2 : (d k != e k) = true := by unfold bne; rw [hq]; rfl
        clear hq
        go_wp2_with fail
        go_quiet (fail)
        go_wp2_with fail
        go_ret
        exact ⟨ret_b (by rw [HE.out, HR.out]), by rw [HWR.out, World.drewN_drewN]; exact below_drNN (Below.refl _ _) _⟩
      · have HR := Lib.hid (show smB d e (k + 1) = true by rw [smB_succ, HF.out, hq]; rfl)
        have hq2 : (d k != e k) = false := by unfold bne; rw [hq]; rfl
        clear hq
        go_wp2_with fail
        go_quiet (fail)
        go_wp2_with fail
        go_roundw
        case rel => exact ⟨k + 1, z + nq, by go_num, hlt, HR.out, by rw [HWR.out]; exact (World.drewN_drewN _ _ _)⟩
        case measure => simp [intOf]; omega
    · have hkn : K = k := by omega
      have HR := Lib.hid (show smB d e K = true by rw [hkn]; exact HF.out)
      have k1 : ¬ ((k : Int) < (K : Int)) := by omega
      clear hkn hw
      go_wp2_with fail
      go_ret
      exact ⟨ret_b (by rw [HE.out, HR.out]), by rw [HWR.out]; exact below_drNN (Below.refl _ _) _⟩
noncomputable def kbB (n m : Nat) (P : Nat → Pip) (x : Nat → Int) : Nat → Bool
  | 0 => true
  | k + 1 => kbB n m P x k && decide (3 * ((rsS P x (cyc P (fE n P m) (fD n P m) (chS n P m k)) m).natAbs : Int) ≤ bdS P x (cyc P (fE n P m) (fD n P m) (chS n P m k)) m)
theorem kbB_no {n m : Nat} {P : Nat → Pip} {x : Nat → Int} {j : Nat} (h : ¬ 3 * ((rsS P x (cyc P (fE n P m) (fD n P m) (chS n P m j)) m).natAbs : Int) ≤ bdS P x (cyc P (fE n P m) (fD n P m) (chS n P m j)) m) : ∀ {k : Nat}, j < k → kbB n m P x k = false
  | 0, hk => by omega
  | k + 1, hk => by
    unfold kbB
    by_cases e : j = k
    · subst e; rw [decide_eq_false h, Bool.and_false]
    · rw [kbB_no h (by omega : j < k), Bool.false_and]
theorem kbB_all {n m : Nat} {P : Nat → Pip} {x : Nat → Int} : ∀ {k : Nat}, (∀ j, j < k → 3 * ((rsS P x (cyc P (fE n P m) (fD n P m) (chS n P m j)) m).natAbs : Int) ≤ bdS P x (cyc P (fE n P m) (fD n P m) (chS n P m j)) m) → kbB n m P x k = true
  | 0, _ => rfl
  | k + 1, h => by
    unfold kbB
    rw [kbB_all (fun j hj => h j (by omega)), decide_eq_true (h k (by omega))]
    rfl
theorem kbB_pad {n m : Nat} {P : Nat → Pip} {d : Nat → Int} : ∀ k, kbB n m P (pad m d) k = kbB n m P d k
  | 0 => rfl
  | k + 1 => by
    unfold kbB
    rw [kbB_pad k, rsS_congr (fun a ha => pad_at ha) (fun a _ => rfl), bdS_congr (fun a ha => pad_at ha) (fun a _ => rfl)]
set_option maxRecDepth 100000 in
set_option maxHeartbeats 8000000 in
theorem keepBounds_any (w : World) (p0 p1 : Option Addr) (c0 c1 : Nat) (n : Nat) (N : Nat → Nod) (m : Nat) (P : Nat → Pip) (lo hi : Nat) (h : NetAt w (.agg #[.slice p0 n c0, .slice p1 m c1]) n N m P lo hi) (hhi : hi ≤ w.heap.size) (hB : netB n N m P = true) (x : Nat → Int) (hx : ∀ k, k < m → -30000 ≤ x k ∧ x k ≤ 30000) :
    Calls Tryz.prog 124 #[.agg (nfL (.slice p0 n c0) (.slice p1 m c1) x).toArray] w fun e w' => e = .returned (.bool (kbB n m P x (chN n P m))) ∧ Below w.heap.size w w' := by
  obtain ⟨hn1, hn24, hm40⟩ := net_sz hB
  have hcn := chN_le n P m
  have HV := Lib.hid h
  have HX := Lib.hid hx
  have HBN := Lib.hid hB
  have HE := Lib.hid (show ∀ k, k < m → EgB (P k).k ((x k).natAbs : Int) from fun k hk => egB_of (net_pip hB hk) (hx k hk).1 (hx k hk).2)
  have HDR := Lib.hid (show ∀ a, a < m → -900000000000 ≤ drp (P a) (x a) ∧ drp (P a) (x a) ≤ 900000000000 from fun a ha => drp_bnd (net_pip hB ha) (hx a ha).1 (hx a ha).2)
  have A0 := Ob.newN w (.slice p0 n c0) (.slice p1 m c1) x 115
  have B0 := below_new w (.cells (nfL (.slice p0 n c0) (.slice p1 m c1) x).toArray 115)
  have hs0 : (w.alloc (.cells (nfL (.slice p0 n c0) (.slice p1 m c1) x).toArray 115)).heap.size = w.heap.size + 1 := by simp
  clear h hB hx
  go_enter Tryz.func124, Tryz.ntmps124
  go_upto_region 1 with (fail)
  obtain ⟨w1, hw1⟩ : ∃ w1, w.alloc (.cells (nfL (.slice p0 n c0) (.slice p1 m c1) x).toArray 115) = w1 := ⟨_, rfl⟩
  rw [hw1] at A0 B0 hs0 ⊢
  clear hw1
  have e0 := A0.n0
  have e1 := A0.n1
  have HA := Lib.hid A0
  have HB := Lib.hid B0
  clear A0 B0
  go_wp2_with fail
  refine (chords_any w1 _ n N m P lo hi (HV.out.below HB.out hhi) (by omega) HBN.out).mono ?_
  rintro e w3 ⟨vc, gc, rfl, oc, hgc, b3⟩
  obtain ⟨cc, rfl⟩ := oc.shape
  have HC := Lib.hid oc
  have hs3 := b3.size
  have lc3 := oc.lt
  have HB3 := Lib.hid (HB.out.trans (b3.mono (by omega)))
  have HA3 := Lib.hid (HA.out.below b3 (by omega))
  have hl3 : w.heap.size < w3.heap.size := by omega
  clear oc b3 HB HA e0 e1
  go_wp2_with fail
  go_loopw [9] (fun iv wr => ∃ k : Nat, iv = .int .i64 k ∧ k ≤ chN n P m ∧ kbB n m P x k = true ∧ w3.heap.size ≤ wr.heap.size ∧ Below w3.heap.size w3 wr) (fun iv _ => chN n P m - (intOf iv).toNat)
  case atStart => exact ⟨0, rfl, Nat.zero_le _, rfl, Nat.le_refl _, Below.refl _ _⟩
  case round =>
    obtain ⟨k, rfl, hk, hrx, hsz, hb⟩ := hrel
    have HBB := Lib.hid hb
    have HRX := Lib.hid hrx
    clear hb hrx
    have k0 : (0 : Int) ≤ (k : Int) := Int.natCast_nonneg _
    by_cases hlt : k < chN n P m
    · have k1 : (k : Int) < (chN n P m : Int) := by omega
      obtain ⟨hcm, hcp⟩ := chS_at (n := n) (P := P) (m := m) hlt
      have y0 : wr.cell? ⟨gc, k, none⟩ = some (.int .i64 (chS n P m k : Nat)) := (HC.out.below HBB.out (Nat.le_refl _)).row.cell k hlt
      have BW := Lib.hid (HB3.out.trans (HBB.out.mono (by omega)))
      have g0 := (HA3.out.below HBB.out (by omega)).nall
      have lw : w.heap.size < wr.heap.size := by omega
      have hir : hi ≤ wr.heap.size := by omega
      have hwr : w.heap.size ≤ wr.heap.size := by omega
      have rb := rsS_bnd (P := P) (x := x) (y := (cyc P (fE n P m) (fD n P m) (chS n P m k))) (k := m) HDR.out (fun a _ => cyc_one HBN.out hcm hcp a)
      have rr : -36000000000000 ≤ rsS P x (cyc P (fE n P m) (fD n P m) (chS n P m k)) m ∧ rsS P x (cyc P (fE n P m) (fD n P m) (chS n P m k)) m ≤ 36000000000000 := by omega
      have HT1 := Lib.hid (show ¬ 3 * ((rsS P x (cyc P (fE n P m) (fD n P m) (chS n P m k)) m).natAbs : Int) ≤ bdS P x (cyc P (fE n P m) (fD n P m) (chS n P m k)) m → kbB n m P x (chN n P m) = false from fun g => kbB_no g hlt)
      have HT2 := Lib.hid (show 3 * ((rsS P x (cyc P (fE n P m) (fD n P m) (chS n P m k)) m).natAbs : Int) ≤ bdS P x (cyc P (fE n P m) (fD n P m) (chS n P m k)) m → kbB n m P x (k + 1) = true from fun g => by unfold kbB; rw [HRX.out, decide_eq_true g]; rfl)
      clear rb
      have HRC := Lib.hid (fun (W : World) (hW : Below wr.heap.size wr W) => residual_any W p0 p1 c0 c1 n N m P lo hi (HV.out.below (BW.out.trans (hW.mono hwr)) hhi) (Nat.le_trans hir hW.size) HBN.out x HX.out _ hcm hcp)
      have HBC := Lib.hid (fun (W : World) (hW : Below wr.heap.size wr W) => residualBound_any W p0 p1 c0 c1 n N m P lo hi (HV.out.below (BW.out.trans (hW.mono hwr)) hhi) (Nat.le_trans hir hW.size) HBN.out x HX.out _ hcm hcp)
      generalize hI : rsS P x (cyc P (fE n P m) (fD n P m) (chS n P m k)) m = I at *
      generalize hJ : bdS P x (cyc P (fE n P m) (fD n P m) (chS n P m k)) m = J at *
      clear hI hJ
      have KS : ∀ W : World, Below wr.heap.size wr W → (Below wr.heap.size wr W ∧ W.rangeAt w.heap.size 0 (nfL (.slice p0 n c0) (.slice p1 m c1) x)) := fun W hW => ⟨hW, range_blockN g0 (hW.block _ lw)⟩
      have hmul : IntKind.i64.wrap (3 * (I.natAbs : Int)) = 3 * (I.natAbs : Int) := IntWalk.i64_in _ (by omega)
      by_cases hq : 3 * (I.natAbs : Int) ≤ J
      · have hd : decide (J < 3 * (I.natAbs : Int)) = false := decide_eq_false (by omega)
        have HR := Lib.hid (HT2.out (by omega))
        go_wp2_with fail
        refine wp_region_noPanic ?_
        refine wp_region_held_drew (S := fun w' : World => Below wr.heap.size wr w' ∧ w'.rangeAt w.heap.size 0 (nfL (.slice p0 n c0) (.slice p1 m c1) x)) (by kernel_rfl) (KS _ (below_drw (Below.refl _ _))) (fun sH => ?_)
        refine wpAnyH_take (i := 0) (v := .agg (nfL (.slice p0 n c0) (.slice p1 m c1) x).toArray) nthe0 (by kernel_rfl) (by kernel_rfl) (by kernel_rfl) (fun _ _ _ h => h) (yieldsIf_load_mid (by rfl) _ _ rfl w.heap.size 0 rfl (nfL (.slice p0 n c0) (.slice p1 m c1) x) _ (fun _ h => h.2) Tryz.underlying115 rfl (by rw [nfL_len]; exact nf_info)) sH ?_
        try simp only [Act.put, List.setIfInBounds_toArray, List.set_cons_zero, List.set_cons_succ]
        refine wpAnyH_take (i := 1) (v := ?_) nthe1 (by kernel_rfl) (by kernel_rfl) (by kernel_rfl) (fun _ _ _ h => h) (Or.inl ⟨by rfl, ?_⟩) sH ?_
        rotate_left
        · intro wS hSw; (try dsimp only at hSw); go_simp; try with_reducible rfl
        try simp only [Act.put, List.setIfInBounds_toArray, List.set_cons_zero, List.set_cons_succ]
        refine wpAnyH_take (i := 5) (v := .agg (nfL (.slice p0 n c0) (.slice p1 m c1) x).toArray) nthe5 (by kernel_rfl) (by kernel_rfl) (by kernel_rfl) (fun _ _ _ h => h) (yieldsIf_load_mid (by rfl) _ _ rfl w.heap.size 0 rfl (nfL (.slice p0 n c0) (.slice p1 m c1) x) _ (fun _ h => h.2) Tryz.underlying115 rfl (by rw [nfL_len]; exact nf_info)) sH ?_
        try simp only [Act.put, List.setIfInBounds_toArray, List.set_cons_zero, List.set_cons_succ]
        refine wpAnyH_take (i := 6) (v := ?_) nthe6 (by kernel_rfl) (by kernel_rfl) (by kernel_rfl) (fun _ _ _ h => h) (Or.inl ⟨by rfl, ?_⟩) sH ?_
        rotate_left
        · intro wS hSw; (try dsimp only at hSw); go_simp; try with_reducible rfl
        try simp only [Act.put, List.setIfInBounds_toArray, List.set_cons_zero, List.set_cons_succ]
        refine wpAnyH_ready (rs := [2]) (by kernel_rfl) (by simp) (AllReadyH.cons nthe2 (fun KON hKON => ?_) AllReadyH.nil)
        clear sH
        go_simp
        refine (HRC.out _ (below_drw (Below.refl _ _))).mono ?_
        rintro e wX ⟨rfl, hbX⟩
        have KX1 : Below wr.heap.size wr wX := (below_drw (Below.refl _ _)).trans (hbX.mono (Nat.le_refl _))
        refine hKON.out _ _ (KS _ KX1) (fun sH => ?_)
        clear hKON KON
        try simp only [Act.put, List.setIfInBounds_toArray, List.set_cons_zero, List.set_cons_succ]
        refine wpAnyH_ready (rs := [3]) (by kernel_rfl) (by simp) (AllReadyH.cons nthe3 (fun KON hKON => ?_) AllReadyH.nil)
        clear sH
        go_simp
        refine (absN_any _ _ (by omega) (by omega)).mono ?_
        rintro e wX' ⟨rfl, rfl⟩
        refine hKON.out _ _ (KS _ KX1) (fun sH => ?_)
        clear hKON KON
        try simp only [Act.put, List.setIfInBounds_toArray, List.set_cons_zero, List.set_cons_succ]
        refine wpAnyH_take (i := 4) (v := ?_) nthe4 (by kernel_rfl) (by kernel_rfl) (by kernel_rfl) (fun _ _ _ h => h) (Or.inl ⟨by rfl, ?_⟩) sH ?_
        rotate_left
        · intro wS hSw; (try dsimp only at hSw); go_simp; try with_reducible rfl
        try simp only [Act.put, List.setIfInBounds_toArray, List.set_cons_zero, List.set_cons_succ]
        refine wpAnyH_ready (rs := [7]) (by kernel_rfl) (by simp) (AllReadyH.cons nthe7 (fun KON hKON => ?_) AllReadyH.nil)
        clear sH
        go_simp
        refine (HBC.out _ KX1).mono ?_
        rintro e wY ⟨rfl, hbY⟩
        have KX2 := KX1.trans (hbY.mono KX1.size)
        refine hKON.out _ _ (KS _ KX2) (fun sH => ?_)
        clear hKON KON
        try simp only [Act.put, List.setIfInBounds_toArray, List.set_cons_zero, List.set_cons_succ]
        refine wpAnyH_take (i := 8) (v := ?_) nthe8 (by kernel_rfl) (by kernel_rfl) (by kernel_rfl) (fun _ _ _ h => h) (Or.inl ⟨by rfl, ?_⟩) sH ?_
        rotate_left
        · intro wS hSw; (try dsimp only at hSw); go_simp; try with_reducible rfl
        try simp only [Act.put, List.setIfInBounds_toArray, List.set_cons_zero, List.set_cons_succ]
        refine wpAnyH_done (by kernel_rfl) ?_ _
        refine NoPanic.normal ?_
        go_wp2_with fail
        go_roundw
        case rel => exact ⟨k + 1, by go_num, hlt, HR.out, by have := KX2.size; omega, HBB.out.trans (KX2.mono hsz)⟩
        case measure => simp [intOf]; omega
      · have hd : decide (J < 3 * (I.natAbs : Int)) = true := decide_eq_true (by omega)
        have HR := Lib.hid (HT1.out (by omega))
        go_wp2_with fail
        refine wp_region_noPanic ?_
        refine wp_region_held_drew (S := fun w' : World => Below wr.heap.size wr w' ∧ w'.rangeAt w.heap.size 0 (nfL (.slice p0 n c0) (.slice p1 m c1) x)) (by kernel_rfl) (KS _ (below_drw (Below.refl _ _))) (fun sH => ?_)
        refine wpAnyH_take (i := 0) (v := .agg (nfL (.slice p0 n c0) (.slice p1 m c1) x).toArray) nthe0 (by kernel_rfl) (by kernel_rfl) (by kernel_rfl) (fun _ _ _ h => h) (yieldsIf_load_mid (by rfl) _ _ rfl w.heap.size 0 rfl (nfL (.slice p0 n c0) (.slice p1 m c1) x) _ (fun _ h => h.2) Tryz.underlying115 rfl (by rw [nfL_len]; exact nf_info)) sH ?_
        try simp only [Act.put, List.setIfInBounds_toArray, List.set_cons_zero, List.set_cons_succ]
        refine wpAnyH_take (i := 1) (v := ?_) nthe1 (by kernel_rfl) (by kernel_rfl) (by kernel_rfl) (fun _ _ _ h => h) (Or.inl ⟨by rfl, ?_⟩) sH ?_
        rotate_left
        · intro wS hSw; (try dsimp only at hSw); go_simp; try with_reducible rfl
        try simp only [Act.put, List.setIfInBounds_toArray, List.set_cons_zero, List.set_cons_succ]
        refine wpAnyH_take (i := 5) (v := .agg (nfL (.slice p0 n c0) (.slice p1 m c1) x).toArray) nthe5 (by kernel_rfl) (by kernel_rfl) (by kernel_rfl) (fun _ _ _ h => h) (yieldsIf_load_mid (by rfl) _ _ rfl w.heap.size 0 rfl (nfL (.slice p0 n c0) (.slice p1 m c1) x) _ (fun _ h => h.2) Tryz.underlying115 rfl (by rw [nfL_len]; exact nf_info)) sH ?_
        try simp only [Act.put, List.setIfInBounds_toArray, List.set_cons_zero, List.set_cons_succ]
        refine wpAnyH_take (i := 6) (v := ?_) nthe6 (by kernel_rfl) (by kernel_rfl) (by kernel_rfl) (fun _ _ _ h => h) (Or.inl ⟨by rfl, ?_⟩) sH ?_
        rotate_left
        · intro wS hSw; (try dsimp only at hSw); go_simp; try with_reducible rfl
        try simp only [Act.put, List.setIfInBounds_toArray, List.set_cons_zero, List.set_cons_succ]
        refine wpAnyH_ready (rs := [2]) (by kernel_rfl) (by simp) (AllReadyH.cons nthe2 (fun KON hKON => ?_) AllReadyH.nil)
        clear sH
        go_simp
        refine (HRC.out _ (below_drw (Below.refl _ _))).mono ?_
        rintro e wX ⟨rfl, hbX⟩
        have KX1 : Below wr.heap.size wr wX := (below_drw (Below.refl _ _)).trans (hbX.mono (Nat.le_refl _))
        refine hKON.out _ _ (KS _ KX1) (fun sH => ?_)
        clear hKON KON
        try simp only [Act.put, List.setIfInBounds_toArray, List.set_cons_zero, List.set_cons_succ]
        refine wpAnyH_ready (rs := [3]) (by kernel_rfl) (by simp) (AllReadyH.cons nthe3 (fun KON hKON => ?_) AllReadyH.nil)
        clear sH
        go_simp
        refine (absN_any _ _ (by omega) (by omega)).mono ?_
        rintro e wX' ⟨rfl, rfl⟩
        refine hKON.out _ _ (KS _ KX1) (fun sH => ?_)
        clear hKON KON
        try simp only [Act.put, List.setIfInBounds_toArray, List.set_cons_zero, List.set_cons_succ]
        refine wpAnyH_take (i := 4) (v := ?_) nthe4 (by kernel_rfl) (by kernel_rfl) (by kernel_rfl) (fun _ _ _ h => h) (Or.inl ⟨by rfl, ?_⟩) sH ?_
        rotate_left
        · intro wS hSw; (try dsimp only at hSw); go_simp; try with_reducible rfl
        try simp only [Act.put, List.setIfInBounds_toArray, List.set_cons_zero, List.set_cons_succ]
        refine wpAnyH_ready (rs := [7]) (by kernel_rfl) (by simp) (AllReadyH.cons nthe7 (fun KON hKON => ?_) AllReadyH.nil)
        clear sH
        go_simp
        refine (HBC.out _ KX1).mono ?_
        rintro e wY ⟨rfl, hbY⟩
        have KX2 := KX1.trans (hbY.mono KX1.size)
        refine hKON.out _ _ (KS _ KX2) (fun sH => ?_)
        clear hKON KON
        try simp only [Act.put, List.setIfInBounds_toArray, List.set_cons_zero, List.set_cons_succ]
        refine wpAnyH_take (i := 8) (v := ?_) nthe8 (by kernel_rfl) (by kernel_rfl) (by kernel_rfl) (fun _ _ _ h => h) (Or.inl ⟨by rfl, ?_⟩) sH ?_
        rotate_left
        · intro wS hSw; (try dsimp only at hSw); go_simp; try with_reducible rfl
        try simp only [Act.put, List.setIfInBounds_toArray, List.set_cons_zero, List.set_cons_succ]
        refine wpAnyH_done (by kernel_rfl) ?_ _
        refine NoPanic.normal ?_
        go_wp2_with fail
        go_ret
        exact ⟨ret_b HR.out.symm, BW.out.trans (KX2.mono hwr)⟩
    · have hkn : k = chN n P m := by omega
      have k1 : ¬ ((k : Int) < (chN n P m : Int)) := by omega
      have HR := Lib.hid (show kbB n m P x (chN n P m) = true by rw [← hkn]; exact HRX.out)
      clear hkn
      go_wp2_with fail
      go_ret
      exact ⟨ret_b HR.out.symm, HB3.out.trans (HBB.out.mono (by omega))⟩
set_option maxRecDepth 100000 in
set_option maxHeartbeats 8000000 in
theorem l12Small_any (w : World) (v : Value) (n : Nat) (N : Nat → Nod) (m : Nat) (P : Nat → Pip) (lo hi : Nat) (h : NetAt w v n N m P lo hi) (hhi : hi ≤ w.heap.size) (hN : ∀ i, i < n → (N i).s.size ≤ 9223372036854775807) (hB : netB n N m P = true) (va : Value) (x : Nat → Int) (la ha : Nat) (hv : Sl w va m x la ha) (hha : ha ≤ w.heap.size) (hx : ∀ k, k < m → -30000 ≤ x k ∧ x k ≤ 30000) :
    Calls Tryz.prog 70 #[v, va] w fun e w' => e = .returned (.bool (kbB n m P x (chN n P m))) ∧ Below w.heap.size w w' := by
  obtain ⟨p0, c0, p1, c1, rfl, hn9, hm9⟩ := h.parts
  obtain ⟨hn1, hn24, hm40⟩ := net_sz hB
  obtain ⟨pa, ca, rfl⟩ := hv.sh
  have hcn := chN_le n P m
  have HV := Lib.hid h
  have HSV := Lib.hid hv
  have HX := Lib.hid hx
  have HBN := Lib.hid hB
  have HDR := Lib.hid (show ∀ a, a < m → -900000000000 ≤ drp (P a) (x a) ∧ drp (P a) (x a) ≤ 900000000000 from fun a ha => drp_bnd (net_pip hB ha) (hx a ha).1 (hx a ha).2)
  have A0 := boxed w (.slice p0 n c0) (.slice p1 m c1) 27
  have B0 := below_new w (.cells #[.slice p0 n c0, .slice p1 m c1] 27)
  have hs0 : (w.alloc (.cells #[.slice p0 n c0, .slice p1 m c1] 27)).heap.size = w.heap.size + 1 := by simp
  clear h hB hx hv
  go_enter Tryz.func70, Tryz.ntmps70
  have e0' := A0.b0
  have e1' := A0.b1
  go_wp2_with fail
  refine (l05Basis_any _ _ n N m P lo hi (HV.out.below B0 hhi) (by omega) hN HBN.out).mono ?_
  rintro e w2 ⟨vb, rfl, hb2, b2⟩
  obtain ⟨pb, cb, rfl⟩ := hb2.shape
  have A2 := A0.below b2 (by omega)
  have B2 := B0.trans (b2.mono (by omega))
  have hs2 := b2.size
  have HBA := Lib.hid hb2
  have HA := Lib.hid A2
  have HBB := Lib.hid B2
  have l3 : w.heap.size < w2.heap.size := by omega
  clear A0 A2 B0 B2 b2 hb2 e0' e1' hN
  go_wp2_with fail
  go_loopw [6] (fun iv wr => ∃ k : Nat, iv = .int .i64 k ∧ k ≤ chN n P m ∧ kbB n m P x k = true ∧ w2.heap.size ≤ wr.heap.size ∧ Below w2.heap.size w2 wr) (fun iv _ => chN n P m - (intOf iv).toNat)
  case atStart => exact ⟨0, rfl, Nat.zero_le _, rfl, Nat.le_refl _, Below.refl _ _⟩
  case round =>
    obtain ⟨k, rfl, hk, hrx, hsz, hb⟩ := hrel
    have HL := Lib.hid hb
    have HRX := Lib.hid hrx
    clear hb hrx
    have k0 : (0 : Int) ≤ (k : Int) := Int.natCast_nonneg _
    have BW := Lib.hid (HBB.out.trans (HL.out.mono (by omega)))
    by_cases hlt : k < chN n P m
    · have k1 : (k : Int) < (chN n P m : Int) := by omega
      obtain ⟨q, cap, G, C, ee, hql, hrow⟩ : ∃ (q cap : Nat) (G C : Nat → Nat), Value.slice pb (chN n P m) cb = .slice (some ⟨q, 0, none⟩) (chN n P m) cap ∧ q < w2.heap.size ∧ ∀ k, k < chN n P m → w2.cell? ⟨q, k, none⟩ = some (.slice (some ⟨G k, 0, none⟩) m (C k)) ∧ Own w2 (.slice (some ⟨G k, 0, none⟩) m (C k)) m ((fun i => cyc P (fE n P m) (fD n P m) (chS n P m i)) k) (G k) := by
        rcases HBA.out.at_ with e | e
        · omega
        · exact e
      obtain ⟨rfl, rfl⟩ : pb = some ⟨q, 0, none⟩ ∧ cb = cap := by
        injection ee with h1 _ h3
        exact ⟨h1, h3⟩
      clear ee
      obtain ⟨yr, yo⟩ := hrow k hlt
      clear hrow
      dsimp only at yo
      obtain ⟨hcm, hcp⟩ := chS_at (n := n) (P := P) (m := m) hlt
      have y2 : wr.cell? ⟨q, k, none⟩ = some (.slice (some ⟨G k, 0, none⟩) m (C k)) := (HL.out.cell (p := ⟨q, k, none⟩) hql).trans yr
      have HY := Lib.hid (yo.below HL.out (Nat.le_refl _))
      have lG := yo.lt
      have HSL := Lib.hid (HSV.out.below BW.out hha)
      have f0 := (HA.out.below HL.out (by omega)).b0
      have f1 := (HA.out.below HL.out (by omega)).b1
      have hir : hi ≤ wr.heap.size := by omega
      have har : ha ≤ wr.heap.size := by omega
      have hwr : w.heap.size ≤ wr.heap.size := by omega
      have lwr : w.heap.size < wr.heap.size := by omega
      have lqr : q < wr.heap.size := by omega
      have lGr : G k + 1 ≤ wr.heap.size := by omega
      have rb := rsS_bnd (P := P) (x := x) (y := (cyc P (fE n P m) (fD n P m) (chS n P m k))) (k := m) HDR.out (fun a _ => cyc_one HBN.out hcm hcp a)
      have rr : -36000000000000 ≤ rsS P x (cyc P (fE n P m) (fD n P m) (chS n P m k)) m ∧ rsS P x (cyc P (fE n P m) (fD n P m) (chS n P m k)) m ≤ 36000000000000 := by omega
      have HT1 := Lib.hid (show ¬ 3 * ((rsS P x (cyc P (fE n P m) (fD n P m) (chS n P m k)) m).natAbs : Int) ≤ bdS P x (cyc P (fE n P m) (fD n P m) (chS n P m k)) m → kbB n m P x (chN n P m) = false from fun g => kbB_no g hlt)
      have HT2 := Lib.hid (show 3 * ((rsS P x (cyc P (fE n P m) (fD n P m) (chS n P m k)) m).natAbs : Int) ≤ bdS P x (cyc P (fE n P m) (fD n P m) (chS n P m k)) m → kbB n m P x (k + 1) = true from fun g => by unfold kbB; rw [HRX.out, decide_eq_true g]; rfl)
      have HCR := Lib.hid (show ∀ a, a < m → -1 ≤ (cyc P (fE n P m) (fD n P m) (chS n P m k)) a ∧ (cyc P (fE n P m) (fD n P m) (chS n P m k)) a ≤ 1 from fun a _ => cyc_one HBN.out hcm hcp a)
      clear rb yr yo
      have HRC := Lib.hid (fun (W : World) (hW : Below wr.heap.size wr W) => l10Residual_any W _ n N m P lo hi (HV.out.below (BW.out.trans (hW.mono hwr)) hhi) (Nat.le_trans hir hW.size) HBN.out _ x la ha (HSL.out.below hW har) (Nat.le_trans har hW.size) HX.out _ (cyc P (fE n P m) (fD n P m) (chS n P m k)) _ _ (HY.out.sl.below hW lGr) (Nat.le_trans lGr hW.size) HCR.out)
      have HBC := Lib.hid (fun (W : World) (hW : Below wr.heap.size wr W) => l10Bound_any W _ n N m P lo hi (HV.out.below (BW.out.trans (hW.mono hwr)) hhi) (Nat.le_trans hir hW.size) HBN.out _ x la ha (HSL.out.below hW har) (Nat.le_trans har hW.size) HX.out _ (cyc P (fE n P m) (fD n P m) (chS n P m k)) _ _ (HY.out.sl.below hW lGr) (Nat.le_trans lGr hW.size) HCR.out)
      generalize hI : rsS P x (cyc P (fE n P m) (fD n P m) (chS n P m k)) m = I at *
      generalize hJ : bdS P x (cyc P (fE n P m) (fD n P m) (chS n P m k)) m = J at *
      clear hI hJ HCR
      have KS : ∀ W : World, Below wr.heap.size wr W → (W.cell? ⟨w.heap.size, 0, none⟩ = some (.slice p0 n c0) ∧ W.cell? ⟨w.heap.size, 1, none⟩ = some (.slice p1 m c1) ∧ W.cell? ⟨q, k, none⟩ = some (.slice (some ⟨G k, 0, none⟩) m (C k))) := fun W hW => ⟨(hW.cell (p := ⟨w.heap.size, 0, none⟩) lwr).trans f0, (hW.cell (p := ⟨w.heap.size, 1, none⟩) lwr).trans f1, (hW.cell (p := ⟨q, k, none⟩) lqr).trans y2⟩
      have K0 : Below wr.heap.size wr wr.drew := below_drw (Below.refl _ _)
      have hmul : IntKind.i64.wrap (3 * (I.natAbs : Int)) = 3 * (I.natAbs : Int) := IntWalk.i64_in _ (by omega)
      go_wp2_with fail
      by_cases hq : 3 * (I.natAbs : Int) ≤ J
      · have hd : decide (J < 3 * (I.natAbs : Int)) = false := decide_eq_false (by omega)
        have HR := Lib.hid (HT2.out (by omega))
        go_region_held3 (fun w' : World => w'.cell? ⟨w.heap.size, 0, none⟩ = some (.slice p0 n c0) ∧ w'.cell? ⟨w.heap.size, 1, none⟩ = some (.slice p1 m c1) ∧ w'.cell? ⟨q, k, none⟩ = some (.slice (some ⟨G k, 0, none⟩) m (C k))) (first | exact ⟨f0, f1, y2⟩ | exact KS _ KY | exact KS _ KX)
          (first
            | (go_at_call 127; refine (HRC.out _ K0).mono ?_; rintro e wX ⟨rfl, hbX⟩; have KX := K0.trans (hbX.mono K0.size); clear hbX)
            | (go_at_call 126; refine (absS_any _ _ (by omega) (by omega)).mono ?_; rintro e w' ⟨rfl, rfl⟩)
            | (go_at_call 128; refine (HBC.out _ KX).mono ?_; rintro e wY ⟨rfl, hbY⟩; have KY := KX.trans (hbY.mono KX.size); clear hbY))
        go_wp2_with fail
        go_roundw
        case rel => exact ⟨k + 1, by go_num, hlt, HR.out, by have := KY.size; omega, HL.out.trans (KY.mono hsz)⟩
        case measure => simp [intOf]; omega
      · have hd : decide (J < 3 * (I.natAbs : Int)) = true := decide_eq_true (by omega)
        have HR := Lib.hid (HT1.out (by omega))
        go_region_held3 (fun w' : World => w'.cell? ⟨w.heap.size, 0, none⟩ = some (.slice p0 n c0) ∧ w'.cell? ⟨w.heap.size, 1, none⟩ = some (.slice p1 m c1) ∧ w'.cell? ⟨q, k, none⟩ = some (.slice (some ⟨G k, 0, none⟩) m (C k))) (first | exact ⟨f0, f1, y2⟩ | exact KS _ KY | exact KS _ KX)
          (first
            | (go_at_call 127; refine (HRC.out _ K0).mono ?_; rintro e wX ⟨rfl, hbX⟩; have KX := K0.trans (hbX.mono K0.size); clear hbX)
            | (go_at_call 126; refine (absS_any _ _ (by omega) (by omega)).mono ?_; rintro e w' ⟨rfl, rfl⟩)
            | (go_at_call 128; refine (HBC.out _ KX).mono ?_; rintro e wY ⟨rfl, hbY⟩; have KY := KX.trans (hbY.mono KX.size); clear hbY))
        go_wp2_with fail
        go_ret
        exact ⟨ret_b HR.out.symm, BW.out.trans (KY.mono hwr)⟩
    · have hkn : k = chN n P m := by omega
      have k1 : ¬ ((k : Int) < (chN n P m : Int)) := by omega
      have HR := Lib.hid (show kbB n m P x (chN n P m) = true by rw [← hkn]; exact HRX.out)
      clear hkn
      go_wp2_with fail
      go_ret
      exact ⟨ret_b HR.out.symm, BW.out⟩
end Go.Proofs.YtdbgcbkmcbgdiaaGreat.mem
