/-
  The pipes of a shortest path: pure facts, and the specification's path. Conditions: as each states.
-/
import Derived.Test.YtdbgcbkmcbgdiaaGreatRows
import Derived.Test.YtdbgcbkmcbgdiaaGreatGrM
import Derived.Test.YtdbgcbkmcbgdiaaGreatTwo
import Derived.Test.YtdbgcbkmcbgdiaaGreatApm
namespace Go.Proofs.YtdbgcbkmcbgdiaaGreat.mem
open Go.RowKit
set_option linter.unusedVariables false

noncomputable def spC (n : Nat) (N : Nat → Nod) (m : Nat) (P : Nat → Pip) (x y : Int) : Int :=
  if codeB (netB n N m P) (inR x 0 (n - 1) && inR y 0 (n - 1)) = 0 then (if vhas (vis n P m x) y = true then 0 else 4) else codeB (netB n N m P) (inR x 0 (n - 1) && inR y 0 (n - 1))
def spL (n : Nat) (P : Nat → Pip) (m : Nat) (x y : Int) : List Int := pth P (vis n P m x) x n y
def spD (n : Nat) (P : Nat → Pip) (m : Nat) (x y : Int) (k : Nat) : Int := ((spL n P m x y).reverse[k]?).getD 0
noncomputable def spN (n : Nat) (N : Nat → Nod) (m : Nat) (P : Nat → Pip) (x y : Int) : Nat := if spC n N m P x y = 0 then (spL n P m x y).length else 0
/-- at a node on the way back that isn't the first one -/
theorem Vok.step {n : Nat} {N : Nat → Nod} {P : Nat → Pip} {m : Nat} {x : Int} {fs : List Vs} (hN : netB n N m P = true) (h : Vok n P m x fs) {y : Int} (hy : vhas fs y = true) (hne : y ≠ x) :
    ∃ (a Y Z : Nat), y = (Z : Int) ∧ Z < n ∧ a < m ∧ pipB n (P a) = true ∧ vval (·.en) fs (Z : Int) = (a : Int) ∧ othV (P a) (Z : Int) = (Y : Int) ∧ (P a).f + (P a).t - (Z : Int) = (Y : Int) ∧ Y < n ∧ vhas fs (Y : Int) = true ∧ pth P fs x n (Z : Int) = (a : Int) :: pth P fs x n (Y : Int) := by
  obtain ⟨i, v, hv, rfl⟩ := vhas_get hy
  obtain ⟨j, u, a, hj, hu, ha, hen, he, ho, hp⟩ := h.back hN hv hne
  obtain ⟨hz0, hz1⟩ := h.rng v (List.mem_of_getElem? hv)
  obtain ⟨Z, hZ⟩ := Int.eq_ofNat_of_zero_le hz0
  obtain ⟨hy0, hy1⟩ := h.rng u (List.mem_of_getElem? hu)
  obtain ⟨Y, hY⟩ := Int.eq_ofNat_of_zero_le hy0
  have hpa := net_pip hN ha
  refine ⟨a, Y, Z, hZ, by omega, ha, hpa, by rw [← hZ]; exact hen, by rw [← hZ, ← hY]; exact ho, by rw [← hZ, ← hY, sum_other hpa he, ho], by omega, by rw [← hY]; exact get_vhas hu, by rw [← hZ, ← hY]; exact hp⟩
theorem Vok.plen {n : Nat} {N : Nat → Nod} {P : Nat → Pip} {m : Nat} {x : Int} {fs : List Vs} (hN : netB n N m P = true) (h : Vok n P m x fs) {y : Int} (hy : vhas fs y = true) : (pth P fs x n y).length < n := by
  obtain ⟨i, v, hv, rfl⟩ := vhas_get hy
  have h1 := h.pth_len hN i v hv
  have h2 := get_lt hv
  have h3 := h.len
  omega

set_option maxRecDepth 100000 in
set_option maxHeartbeats 4000000 in
theorem l04Path_any (w : World) (v : Value) (n : Nat) (N : Nat → Nod) (m : Nat) (P : Nat → Pip) (lo hi : Nat) (h : NetAt w v n N m P lo hi) (hhi : hi ≤ w.heap.size) (hN : ∀ i, i < n → (N i).s.size ≤ 9223372036854775807) (hB : netB n N m P = true) (X0 : Nat) (hX : X0 < n) (y : Int) (hy : vhas (vis n P m (X0 : Nat)) y = true) :
    Calls Tryz.prog 162 #[v, .int .i64 (X0 : Nat), .int .i64 y] w fun e w' => ∃ v2 g2, e = .returned v2 ∧ Own w' v2 (spL n P m (X0 : Nat) y).length (spD n P m (X0 : Nat) y) g2 ∧ w.heap.size ≤ g2 ∧ Below w.heap.size w w' := by
  obtain ⟨p0, c0, p1, c1, rfl, hn9, hm9⟩ := h.parts
  obtain ⟨hn1, hn24, hm40⟩ := net_sz hB
  have ok := vis_ok (P := P) (m := m) (x := ((X0 : Nat) : Int)) hB ⟨Int.natCast_nonneg _, by omega⟩
  have HV := Lib.hid h
  have HN := Lib.hid hN
  have HB := Lib.hid hB
  have HST := Lib.hid (fun z (h1 : vhas (vis n P m ((X0 : Nat) : Int)) z = true) (h2 : z ≠ ((X0 : Nat) : Int)) => ok.step hB h1 h2)
  have HPL := Lib.hid (ok.plen hB hy)
  have HY := Lib.hid hy
  have A0 := boxed w (.slice p0 n c0) (.slice p1 m c1) 27
  have B0 := below_new w (.cells #[.slice p0 n c0, .slice p1 m c1] 27)
  have hs0 : (w.alloc (.cells #[.slice p0 n c0, .slice p1 m c1] 27)).heap.size = w.heap.size + 1 := by simp
  have HL := Lib.hid (show pth P (vis n P m ((X0 : Nat) : Int)) ((X0 : Nat) : Int) n y = spL n P m ((X0 : Nat) : Int) y from rfl)
  have HD := Lib.hid (show spD n P m ((X0 : Nat) : Int) y = fun k => ((spL n P m ((X0 : Nat) : Int) y).reverse[k]?).getD 0 from rfl)
  generalize spL n P m ((X0 : Nat) : Int) y = L at *
  generalize spD n P m ((X0 : Nat) : Int) y = D at *
  clear h hN hB ok hy
  generalize hq : vis n P m ((X0 : Nat) : Int) = fs at *
  have HQ0 := Lib.hid hq
  clear hq
  go_enter Tryz.func162, Tryz.ntmps162
  go_wp2_with fail
  refine (l04Search_any _ _ n N m P lo hi (HV.out.below B0 hhi) (by omega) HN.out HB.out X0 hX).mono ?_
  rintro e w1 ⟨v2, g2, rfl, oe, oo, hg2, b1⟩
  obtain ⟨ca, rfl⟩ := oo.shape
  rw [HQ0.out] at oe
  rw [hs0] at oe
  have A1 := A0.below b1 (by omega)
  have B1 := B0.trans (b1.mono (by omega))
  have hs1 := b1.size
  have hlte := oe.lt
  have hb2 := below_new w1 (.cells #[] 2)
  have HA := Lib.hid (A1.below hb2 (by omega))
  have HBB := Lib.hid (B1.trans (hb2.mono (by omega)))
  have HE := Lib.hid (oe.below hb2 (by omega))
  have HO := Lib.hid (Own.nilled w1 (fun k => (([] : List Int).reverse[k]?).getD 0))
  clear oe oo A0 B0 A1 B1 hb2 b1
  go_wp2_with fail
  have hs2 : (w1.alloc (.cells #[] 2)).heap.size = w1.heap.size + 1 := by simp
  generalize hW : w1.alloc (.cells #[] 2) = w2 at *
  generalize hgd : w.heap.size + 1 + 1 = ge at *
  have hgew : w.heap.size < ge := by omega
  have hgg : ge < w1.heap.size := hlte
  clear hW hlte
  go_loopw [9, 10] (fun ov at_ wr => ∃ (z : Int) (l : List Int) (g : Nat) (ov' : Value), ov' = ov ∧ at_ = .int .i64 z ∧ vhas fs z = true ∧ L = l ++ pth P fs ((X0 : Nat) : Int) n z ∧ Own wr ov' l.length (fun k => (l.reverse[k]?).getD 0) g ∧ ge < g ∧ Ob wr w.heap.size 2 (bx (.slice p0 n c0) (.slice p1 m c1)) ∧ Ob wr ge n (tabC (vval (·.en) fs)) ∧ Below w.heap.size w wr) (fun _ at_ _ => (pth P fs ((X0 : Nat) : Int) n (intOf at_)).length)
  case atStart => exact ⟨y, [], _, _, rfl, rfl, HY.out, HL.out.symm, HO.out, hgg, HA.out, HE.out, HBB.out⟩
  case round =>
    obtain ⟨z, l, g, ov, rfl, rfl, hz, hl, ho, hg, ha, he, hb⟩ := hrel
    obtain ⟨co, rfl⟩ := ho.shape
    clear HA HE HO HBB
    have HA := Lib.hid ha
    have HE := Lib.hid he
    have HO := Lib.hid ho
    have HBB := Lib.hid hb
    have HZ := Lib.hid hz
    have HLL := Lib.hid hl
    clear ha he ho hb hz hl
    by_cases hne : z = ((X0 : Nat) : Int)
    · obtain rfl := hne
      have hb1 : (((X0 : Nat) : Int) != ((X0 : Nat) : Int)) = false := by simp
      have hlL : L = l := by rw [HLL.out, pth_self, List.append_nil]
      have HLe := Lib.hid hlL
      clear hlL
      generalize hQ : Exit.then _ _ = Q
      have HQ := Lib.hid hQ
      clear hQ
      go_wp2
      rw [← HQ.out]
      go_wp2
      go_ret
      rw [HD.out, HLe.out]
      exact ⟨_, g, rfl, HO.out, by omega, HBB.out⟩
    · have hb1 : (z != ((X0 : Nat) : Int)) = true := by simpa using hne
      obtain ⟨a, Y, Z, rfl, hZn, ham, hpa, hen, hot, hsum, hYn, hYh, hstep⟩ := HST.out z HZ.out hne
      have hla : l.length + 1 < n := by
        have h1 := HPL.out
        rw [HL.out, HLL.out, hstep] at h1
        simp only [List.length_append, List.length_cons] at h1
        omega
      have HSTEP := Lib.hid hstep
      have HOT := Lib.hid hsum
      have HYH := Lib.hid hYh
      have e0 : wr.cell? ⟨w.heap.size, 0, none⟩ = some (.slice p0 n c0) := HA.out.b0
      have e1 : wr.cell? ⟨w.heap.size, 1, none⟩ = some (.slice p1 m c1) := HA.out.b1
      have y1 : wr.cell? ⟨ge, Z, none⟩ = some (.int .i64 (a : Int)) := by
        have := HE.out.cell Z hZn
        unfold tabC at this
        rwa [hen] at this
      have z0 : (0 : Int) ≤ (Z : Int) := Int.natCast_nonneg _
      have z1 : (Z : Int) < (n : Int) := by omega
      have law := HA.out.lt
      have lge := HE.out.lt
      have lg := HO.out.lt
      have hinr : inR (Z : Int) 0 (n - 1) = true := inR_iff.2 ⟨by omega, by omega⟩
      have HL2 := Lib.hid (show L = (l ++ [(a : Int)]) ++ pth P fs ((X0 : Nat) : Int) n (Y : Int) by rw [HLL.out, HSTEP.out]; simp)
      obtain ⟨v7, w7, g7, hr, ap⟩ := apm_run (wr.alloc (.cells #[.int .i64 (a : Int)] 2)) _ 1 _ wr.heap.size g 0 l.length co _ (Own.one wr (a : Int)) (fun k hk => by rw [Nat.zero_add]; exact (HO.out.alloc _).row.cell k hk) (by omega)
      have bl := ap.below (B := wr.heap.size) (Nat.le_refl _) (by rw [szal]; omega)
      have b7 : Below wr.heap.size wr w7 := (below_new wr _).trans bl.1
      have hg7 : ge < g7 := by have := bl.2; omega
      have O7 := ap.own.congr (e := fun k => ((l ++ [(a : Int)]).reverse[k]?).getD 0) (fun k hk => by
        unfold catD
        rw [List.reverse_append, List.reverse_singleton, List.singleton_append]
        rcases Nat.eq_zero_or_pos k with rfl | hk0
        · rfl
        · obtain ⟨k', rfl⟩ : ∃ k', k = k' + 1 := ⟨k - 1, by omega⟩
          rw [if_neg (by omega), List.getElem?_cons_succ, Nat.add_sub_cancel])
      have HO7 := Lib.hid O7
      have HA7 := Lib.hid (HA.out.below b7 law)
      have HE7 := Lib.hid (HE.out.below b7 lge)
      have HB7 := Lib.hid (HBB.out.trans (b7.mono (by omega)))
      have f0 : w7.cell? ⟨w.heap.size, 0, none⟩ = some (.slice p0 n c0) := (b7.cell (p := ⟨w.heap.size, 0, none⟩) law).trans e0
      have f1 : w7.cell? ⟨w.heap.size, 1, none⟩ = some (.slice p1 m c1) := (b7.cell (p := ⟨w.heap.size, 1, none⟩) law).trans e1
      have f2 : w7.cell? ⟨ge, Z, none⟩ = some (.int .i64 (a : Int)) := (b7.cell (p := ⟨ge, Z, none⟩) lge).trans y1
      have law7 := HA7.out.lt
      have lge7 := HE7.out.lt
      have lg7 := HO7.out.lt
      have hv7 : ∃ c7, v7 = .slice (some ⟨g7, 0, none⟩) (1 + l.length) c7 := ap.own.shape
      obtain ⟨c7, rfl⟩ := hv7
      have HLE := Lib.hid (show (l ++ [(a : Int)]).length = 1 + l.length by rw [List.length_append, List.length_singleton, Nat.add_comm])
      have HMS := Lib.hid (show (pth P fs ((X0 : Nat) : Int) n (Y : Int)).length < (pth P fs ((X0 : Nat) : Int) n (Z : Int)).length by rw [HSTEP.out]; simp)
      clear ap bl b7 O7 hstep hsum hYh hen hot HO HA HE HBB
      generalize hQ : Exit.then _ _ = Q
      have HQ := Lib.hid hQ
      clear hQ
      go_wp2_with (at_builtin; refine wpList_app hr rfl _ _ rfl rfl rfl rfl ?_)
      clear e0 e1 y1 hr
      go_region_held3 (fun w' => w'.cell? ⟨w.heap.size, 0, none⟩ = some (.slice p0 n c0) ∧ w'.cell? ⟨w.heap.size, 1, none⟩ = some (.slice p1 m c1) ∧ w'.cell? ⟨ge, Z, none⟩ = some (.int .i64 (a : Int)))
        (first | exact ⟨f0, f1, f2⟩ | exact SW)
        (first | (go_at_call 101; refine (l02Other_any _ _ n N m P lo hi (HV.out.below HB7.out hhi).drew (by simp; omega) HN.out (by omega) a ham (Z : Int) hpa (by omega) hinr).mono ?_; rintro e w4 ⟨rfl, hb1⟩; rw [HOT.out]; have hb2 := below_dr0 hb1; have hs4 := hb2.size; have SW : w4.cell? ⟨w.heap.size, 0, none⟩ = some (.slice p0 n c0) ∧ w4.cell? ⟨w.heap.size, 1, none⟩ = some (.slice p1 m c1) ∧ w4.cell? ⟨ge, Z, none⟩ = some (.int .i64 (a : Int)) := ⟨(hb2.cell (p := ⟨w.heap.size, 0, none⟩) law7).trans f0, (hb2.cell (p := ⟨w.heap.size, 1, none⟩) law7).trans f1, (hb2.cell (p := ⟨ge, Z, none⟩) lge7).trans f2⟩))
      obtain ⟨w5, hw5⟩ : ∃ w', w' = w4 := ⟨_, rfl⟩
      subst hw5
      have HO5 := Lib.hid (HO7.out.keep (hb2.block _ lg7))
      have HA5 := Lib.hid (HA7.out.below hb2 law7)
      have HE5 := Lib.hid (HE7.out.below hb2 lge7)
      have HB5 := Lib.hid (HB7.out.trans (hb2.mono (by omega)))
      clear SW hb1 hb2 f0 f1 f2 HO7 HA7 HE7 HB7
      go_wp2
      rw [← HQ.out]
      refine ⟨⟨_, _, _, _, _, _, _, _, _, _, _, _, _, _, _, _, _, _, _, ?rel, rfl⟩, ?measure⟩
      case rel => exact ⟨(Y : Int), l ++ [(a : Int)], g7, _, rfl, rfl, HYH.out, HL2.out, by rw [HLE.out]; exact HO5.out, hg7, HA5.out, HE5.out, HB5.out⟩
      case measure => simp [intOf]; exact HMS.out
end Go.Proofs.YtdbgcbkmcbgdiaaGreat.mem
