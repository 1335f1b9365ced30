/-
  Several texts in one, part 2 of 6.
-/
import Derived.Test.YtdbgcbkmcbgdiaaGreatRows
import Derived.WalkKit
import Derived.ProofKit
import Derived.OpenShut
import Derived.Below
import Derived.ChangeSame
import Derived.ChangeSlices
import Derived.WideKeyArgs
import Derived.Lib.Hide
import Derived.RegionTactic
import Derived.BigRegion
import Derived.Deep.QuietTactic
import Derived.BigQuiet
import Derived.Outline
import Derived.OwnWalk
import Derived.Deep.RegionHeld3
import Derived.WalkSpells
import Derived.Maps.OwnSet
import Derived.Maps.OwnOps
import Derived.Deep.RegionHeldLaw
import Derived.Lib.ItoaNum
import Derived.Laws.IdiomStrings
import Derived.Lib.SmallJoins
import Derived.Deep.Slices
import Derived.Deep.Fields
import Derived.Laws.AppendOwn
import Derived.RangeFuncNested
import Derived.RangeFuncLeaves
import Derived.RangeFuncCalls
import Derived.Laws.CopyOwn
import Derived.Deep.Cut
import Derived.Deep.RegionLaw
import Derived.LoopIn
import Derived.TacticsIn
import Derived.RegionIn
import Derived.Shelf.SlicesE.Reverse
import Derived.Test.YtdbgcbkmcbgdiaaGreatLsr
import Derived.OwnWalkIn
import Derived.Sort.Grow
import Derived.Deep.WholeRow
import Derived.WalkMore
import Derived.Deep.MidRow
import Derived.Great.BuildSlice
import Derived.Deep.CutRange
import Derived.Deep.RegionWith
import Derived.Laws.StructEq
import Derived.StillTailTactics
import Derived.IntWalk
import Derived.Laws.EntriesVeiled
import Derived.Laws.ResultCell
import Derived.WideShapes
import Derived.Lib.MinMax
import Derived.Test.YtdbgcbkmcbgdiaaGreatLPr1

namespace Go.Proofs.YtdbgcbkmcbgdiaaGreat.mem
open Go.RowKit
set_option linter.unusedVariables false

end Go.Proofs.YtdbgcbkmcbgdiaaGreat.mem

namespace Go.Proofs.YtdbgcbkmcbgdiaaGreat.mem
open Go.RowKit
set_option linter.unusedVariables false

def catD (d : Nat → Int) (n : Nat) (e : Nat → Int) : Nat → Int := fun k => if k < n then d k else e (k - n)
/-- what an append of numbers leaves -/
structure Apm (W w' : World) (v' : Value) (n : Nat) (d : Nat → Int) (m : Nat) (e : Nat → Int) (g g' : Nat) : Prop where
  own : Own w' v' (n + m) (catD d n e) g'
  how : (g' = g ∧ Only g W w') ∨ (g' = W.heap.size ∧ Below W.heap.size W w' ∧ w'.heap.size = W.heap.size + 1)
theorem Apm.below {W w' : World} {v' : Value} {n : Nat} {d : Nat → Int} {m : Nat} {e : Nat → Int} {g g' B : Nat} (h : Apm W w' v' n d m e g g') (hB : B ≤ g) (hg : g ≤ W.heap.size) : Below B W w' ∧ B ≤ g' := by
  rcases h.how with ⟨rfl, h⟩ | ⟨rfl, h, _⟩
  · exact ⟨h.below hB, hB⟩
  · exact ⟨h.mono (by omega), by omega⟩
theorem Apm.other {W w' : World} {v' : Value} {n : Nat} {d : Nat → Int} {m : Nat} {e : Nat → Int} {g g' c : Nat} (h : Apm W w' v' n d m e g g') (hc : c ≠ g) (hl : c < W.heap.size) : w'.heap[c]? = W.heap[c]? ∧ c ≠ g' := by
  rcases h.how with ⟨rfl, h⟩ | ⟨rfl, h, _⟩
  · exact ⟨h.block c hc, hc⟩
  · exact ⟨h.block c hl, by omega⟩
def intL (m : Nat) (e : Nat → Int) : List Value := (List.range m).map fun k => .int .i64 (e k)
theorem intL_len (m : Nat) (e : Nat → Int) : (intL m e).length = m := by simp [intL]
theorem intL_get {m k : Nat} (e : Nat → Int) (h : k < m) : (intL m e)[k]? = some (.int .i64 (e k)) := by simp [intL, h]
theorem apm_run (W : World) (v : Value) (n : Nat) (d : Nat → Int) (g : Nat) (b o m c : Nat) (e : Nat → Int) (h : Own W v n d g) (hx : ∀ k, k < m → W.cell? ⟨b, o + k, none⟩ = some (.int .i64 (e k))) (hn : n + m ≤ 1000000) :
    ∃ v' w' g', Sem.run Tryz.prog (Builtin.append_ #[28, 28] 28 #[v, .slice (some ⟨b, o, none⟩) m c]) W = .ok v' w' ∧ Apm W w' v' n d m e g g' := by
  obtain ⟨cap, cur, rfl, h1, h2, h3, h4, h5⟩ := h.ex
  obtain ⟨i0, hi, hz0, hz1, hz2⟩ := info_parts info_make_int64
  have hnews : ∀ j u, (intL m e)[j]? = some u → W.cell? ((⟨b, o, none⟩ : Addr).add j) = some u := by
    intro j u hu
    have hj : j < m := by
      rcases Nat.lt_or_ge j m with g | g
      · exact g
      · rw [List.getElem?_eq_none (by rw [intL_len]; omega)] at hu; cases hu
    obtain rfl : Value.int .i64 (e j) = u := by
      have h9 := intL_get e hj
      rw [hu] at h9
      exact (Option.some.inj h9).symm
    have hadd : (⟨b, o, none⟩ : Addr).add j = ⟨b, o + j, none⟩ := by unfold Addr.add; split <;> simp_all
    rw [hadd]
    exact hx j hj
  have h1c : ∀ u ∈ intL m e, u.oneCell' = true := by
    intro u hu
    obtain ⟨k, _, rfl⟩ := List.mem_map.1 hu
    rfl
  have hlen := intL_len m e
  by_cases hroom : n + m ≤ cap
  · have hr := run_append_room (P := Tryz.prog) W 28 28 2 i0 Tryz.underlying28 hi g n cap cur h1 ⟨b, o, none⟩ m c (intL m e) (by rw [hz1, hlen]; omega) hnews h1c hroom (by rw [hz1, h4]; omega)
    rw [hz1] at hr
    refine ⟨_, _, g, hr, ⟨⟨cap, _, rfl, setRow_heap W g cur _ _ _ h1, hroom, h3, ?_, fun k hk => ?_⟩, .inl ⟨rfl, ⟨rfl, rfl, rfl, by simp, fun k hk => setRow_other W g k _ hk⟩⟩⟩⟩
    · simp only [List.size_toArray, List.length_append, List.length_take, List.length_drop, Array.length_toList, hlen]
      omega
    · have hl : (cur.toList.take (n * 1)).length = n := by rw [List.length_take, Array.length_toList]; omega
      simp only [List.getElem?_toArray, List.append_assoc]
      unfold catD
      by_cases hk2 : k < n
      · rw [if_pos hk2, List.getElem?_append_left (by omega), List.getElem?_take_of_lt (by omega), Array.getElem?_toList]
        exact h5 k (by omega)
      · rw [if_neg hk2, List.getElem?_append_right (by omega), hl, List.getElem?_append_left (by rw [hlen]; omega), intL_get e (by omega)]
  · have holds : ∀ j u, (cur.toList.take n)[j]? = some u → W.cell? ((⟨g, 0, none⟩ : Addr).add j) = some u := by
      intro j u hu
      have hadd : (⟨g, 0, none⟩ : Addr).add j = ⟨g, j, none⟩ := by unfold Addr.add; split <;> simp_all
      rw [hadd]
      simp only [World.cell?, h1]
      rw [List.getElem?_take] at hu
      split at hu
      · simpa using hu
      · cases hu
    have hlt : (cur.toList.take n).length = n := by rw [List.length_take, Array.length_toList]; omega
    have hr := run_append_grow (P := Tryz.prog) W 28 28 2 i0 (.int .i64 0) Tryz.underlying28 hi hz0 ⟨g, 0, none⟩ n cap (cur.toList.take n) (by rw [hz1, hlt]; omega) holds ⟨b, o, none⟩ m c (intL m e) (by rw [hz1, hlen]; omega) hnews (by omega) (by omega) (growslice_fits (by omega) (by rw [hz2]; omega))
    refine ⟨_, _, W.heap.size, hr, ⟨⟨_, _, rfl, heap_alloc_new W.drew _, ?_, ?_, ?_, fun k hk => ?_⟩, .inr ⟨rfl, ?_, ?_⟩⟩⟩
    · exact grownCap_ge W (n + m) cap _
    · exact grownCap_le_maxLen W (n + m) cap _ (by unfold maxLen; omega)
    · have hge := grownCap_ge W (n + m) cap 2
      simp only [Array.size_append, List.size_toArray, size_zeroCells, Value.cells, hlt, hlen, List.length_cons, List.length_nil]
      omega
    · unfold catD
      by_cases hk2 : k < n
      · rw [if_pos hk2, Array.getElem?_append_left (by simp [hlt, hlen]; omega), Array.getElem?_append_left (by simp [hlt]; omega), List.getElem?_toArray, List.getElem?_take_of_lt (by omega), Array.getElem?_toList]
        exact h5 k (by omega)
      · rw [if_neg hk2, Array.getElem?_append_left (by simp [hlt, hlen]; omega), Array.getElem?_append_right (by simp [hlt]; omega), List.getElem?_toArray]
        simp only [List.size_toArray, hlt]
        exact intL_get e (by omega)
    · exact ((Below.refl _ W).drew).alloc (Nat.le_refl _) _
    · show (W.heap.push _).size = _
      simp
end Go.Proofs.YtdbgcbkmcbgdiaaGreat.mem

namespace Go.Proofs.YtdbgcbkmcbgdiaaGreat.mem
open Go.RowKit
set_option linter.unusedVariables false

def spL (n : Nat) (P : Nat → Pip) (m : Nat) (x y : Int) : List Int := pth P (vis n P m x) x n y
def spD (n : Nat) (P : Nat → Pip) (m : Nat) (x y : Int) (k : Nat) : Int := ((spL n P m x y).reverse[k]?).getD 0
/-- at a node on the way back that isn't the first one -/
theorem Vok.step {n : Nat} {N : Nat → Nod} {P : Nat → Pip} {m : Nat} {x : Int} {fs : List Vs} (hN : netB n N m P = true) (h : Vok n P m x fs) {y : Int} (hy : vhas fs y = true) (hne : y ≠ x) :
    ∃ (a Y Z : Nat), y = (Z : Int) ∧ Z < n ∧ a < m ∧ pipB n (P a) = true ∧ vval (·.en) fs (Z : Int) = (a : Int) ∧ othV (P a) (Z : Int) = (Y : Int) ∧ (P a).f + (P a).t - (Z : Int) = (Y : Int) ∧ Y < n ∧ vhas fs (Y : Int) = true ∧ pth P fs x n (Z : Int) = (a : Int) :: pth P fs x n (Y : Int) := by
  obtain ⟨i, v, hv, rfl⟩ := vhas_get hy
  obtain ⟨j, u, a, hj, hu, ha, hen, he, ho, hp⟩ := h.back hN hv hne
  obtain ⟨hz0, hz1⟩ := h.rng v (List.mem_of_getElem? hv)
  obtain ⟨Z, hZ⟩ := Int.eq_ofNat_of_zero_le hz0
  obtain ⟨hy0, hy1⟩ := h.rng u (List.mem_of_getElem? hu)
  obtain ⟨Y, hY⟩ := Int.eq_ofNat_of_zero_le hy0
  have hpa := net_pip hN ha
  refine ⟨a, Y, Z, hZ, by omega, ha, hpa, by rw [← hZ]; exact hen, by rw [← hZ, ← hY]; exact ho, by rw [← hZ, ← hY, sum_other hpa he, ho], by omega, by rw [← hY]; exact get_vhas hu, by rw [← hZ, ← hY]; exact hp⟩
theorem Vok.plen {n : Nat} {N : Nat → Nod} {P : Nat → Pip} {m : Nat} {x : Int} {fs : List Vs} (hN : netB n N m P = true) (h : Vok n P m x fs) {y : Int} (hy : vhas fs y = true) : (pth P fs x n y).length < n := by
  obtain ⟨i, v, hv, rfl⟩ := vhas_get hy
  have h1 := h.pth_len hN i v hv
  have h2 := get_lt hv
  have h3 := h.len
  omega

set_option maxRecDepth 100000 in
set_option maxHeartbeats 4000000 in
theorem l04Path_any (w : World) (v : Value) (n : Nat) (N : Nat → Nod) (m : Nat) (P : Nat → Pip) (lo hi : Nat) (h : NetAt w v n N m P lo hi) (hhi : hi ≤ w.heap.size) (hN : ∀ i, i < n → (N i).s.size ≤ 9223372036854775807) (hB : netB n N m P = true) (X0 : Nat) (hX : X0 < n) (y : Int) (hy : vhas (vis n P m (X0 : Nat)) y = true) :
    Calls Tryz.prog 162 #[v, .int .i64 (X0 : Nat), .int .i64 y] w fun e w' => ∃ v2 g2, e = .returned v2 ∧ Own w' v2 (spL n P m (X0 : Nat) y).length (spD n P m (X0 : Nat) y) g2 ∧ w.heap.size ≤ g2 ∧ Below w.heap.size w w' := by
  obtain ⟨p0, c0, p1, c1, rfl, hn9, hm9⟩ := h.parts
  obtain ⟨hn1, hn24, hm40⟩ := net_sz hB
  have ok := vis_ok (P := P) (m := m) (x := ((X0 : Nat) : Int)) hB ⟨Int.natCast_nonneg _, by omega⟩
  have HV := Lib.hid h
  have HN := Lib.hid hN
  have HB := Lib.hid hB
  have HST := Lib.hid (fun z (h1 : vhas (vis n P m ((X0 : Nat) : Int)) z = true) (h2 : z ≠ ((X0 : Nat) : Int)) => ok.step hB h1 h2)
  have HPL := Lib.hid (ok.plen hB hy)
  have HY := Lib.hid hy
  have A0 := boxed w (.slice p0 n c0) (.slice p1 m c1) 27
  have B0 := below_new w (.cells #[.slice p0 n c0, .slice p1 m c1] 27)
  have hs0 : (w.alloc (.cells #[.slice p0 n c0, .slice p1 m c1] 27)).heap.size = w.heap.size + 1 := by simp
  have HL := Lib.hid (show pth P (vis n P m ((X0 : Nat) : Int)) ((X0 : Nat) : Int) n y = spL n P m ((X0 : Nat) : Int) y from rfl)
  have HD := Lib.hid (show spD n P m ((X0 : Nat) : Int) y = fun k => ((spL n P m ((X0 : Nat) : Int) y).reverse[k]?).getD 0 from rfl)
  generalize spL n P m ((X0 : Nat) : Int) y = L at *
  generalize spD n P m ((X0 : Nat) : Int) y = D at *
  clear h hN hB ok hy
  generalize hq : vis n P m ((X0 : Nat) : Int) = fs at *
  have HQ0 := Lib.hid hq
  clear hq
  go_enter Tryz.func162, Tryz.ntmps162
  go_wp2_with fail
  refine (l04Search_any _ _ n N m P lo hi (HV.out.below B0 hhi) (by omega) HN.out HB.out X0 hX).mono ?_
  rintro e w1 ⟨v2, g2, rfl, oe, oo, hg2, b1⟩
  obtain ⟨ca, rfl⟩ := oo.shape
  rw [HQ0.out] at oe
  rw [hs0] at oe
  have A1 := A0.below b1 (by omega)
  have B1 := B0.trans (b1.mono (by omega))
  have hs1 := b1.size
  have hlte := oe.lt
  have hb2 := below_new w1 (.cells #[] 2)
  have HA := Lib.hid (A1.below hb2 (by omega))
  have HBB := Lib.hid (B1.trans (hb2.mono (by omega)))
  have HE := Lib.hid (oe.below hb2 (by omega))
  have HO := Lib.hid (Own.nilled w1 (fun k => (([] : List Int).reverse[k]?).getD 0))
  clear oe oo A0 B0 A1 B1 hb2 b1
  go_wp2_with fail
  have hs2 : (w1.alloc (.cells #[] 2)).heap.size = w1.heap.size + 1 := by simp
  generalize hW : w1.alloc (.cells #[] 2) = w2 at *
  generalize hgd : w.heap.size + 1 + 1 = ge at *
  have hgew : w.heap.size < ge := by omega
  have hgg : ge < w1.heap.size := hlte
  clear hW hlte
  go_loopw [9, 10] (fun ov at_ wr => ∃ (z : Int) (l : List Int) (g : Nat) (ov' : Value), ov' = ov ∧ at_ = .int .i64 z ∧ vhas fs z = true ∧ L = l ++ pth P fs ((X0 : Nat) : Int) n z ∧ Own wr ov' l.length (fun k => (l.reverse[k]?).getD 0) g ∧ ge < g ∧ Ob wr w.heap.size 2 (bx (.slice p0 n c0) (.slice p1 m c1)) ∧ Ob wr ge n (tabC (vval (·.en) fs)) ∧ Below w.heap.size w wr) (fun _ at_ _ => (pth P fs ((X0 : Nat) : Int) n (intOf at_)).length)
  case atStart => exact ⟨y, [], _, _, rfl, rfl, HY.out, HL.out.symm, HO.out, hgg, HA.out, HE.out, HBB.out⟩
  case round =>
    obtain ⟨z, l, g, ov, rfl, rfl, hz, hl, ho, hg, ha, he, hb⟩ := hrel
    obtain ⟨co, rfl⟩ := ho.shape
    clear HA HE HO HBB
    have HA := Lib.hid ha
    have HE := Lib.hid he
    have HO := Lib.hid ho
    have HBB := Lib.hid hb
    have HZ := Lib.hid hz
    have HLL := Lib.hid hl
    clear ha he ho hb hz hl
    by_cases hne : z = ((X0 : Nat) : Int)
    · obtain rfl := hne
      have hb1 : (((X0 : Nat) : Int) != ((X0 : Nat) : Int)) = false := by simp
      have hlL : L = l := by rw [HLL.out, pth_self, List.append_nil]
      have HLe := Lib.hid hlL
      clear hlL
      generalize hQ : Exit.then _ _ = Q
      have HQ := Lib.hid hQ
      clear hQ
      go_wp2
      rw [← HQ.out]
      go_wp2
      go_ret
      rw [HD.out, HLe.out]
      exact ⟨_, g, rfl, HO.out, by omega, HBB.out⟩
    · have hb1 : (z != ((X0 : Nat) : Int)) = true := by simpa using hne
      obtain ⟨a, Y, Z, rfl, hZn, ham, hpa, hen, hot, hsum, hYn, hYh, hstep⟩ := HST.out z HZ.out hne
      have hla : l.length + 1 < n := by
        have h1 := HPL.out
        rw [HL.out, HLL.out, hstep] at h1
        simp only [List.length_append, List.length_cons] at h1
        omega
      have HSTEP := Lib.hid hstep
      have HOT := Lib.hid hsum
      have HYH := Lib.hid hYh
      have e0 : wr.cell? ⟨w.heap.size, 0, none⟩ = some (.slice p0 n c0) := HA.out.b0
      have e1 : wr.cell? ⟨w.heap.size, 1, none⟩ = some (.slice p1 m c1) := HA.out.b1
      have y1 : wr.cell? ⟨ge, Z, none⟩ = some (.int .i64 (a : Int)) := by
        have := HE.out.cell Z hZn
        unfold tabC at this
        rwa [hen] at this
      have z0 : (0 : Int) ≤ (Z : Int) := Int.natCast_nonneg _
      have z1 : (Z : Int) < (n : Int) := by omega
      have law := HA.out.lt
      have lge := HE.out.lt
      have lg := HO.out.lt
      have hinr : inR (Z : Int) 0 (n - 1) = true := inR_iff.2 ⟨by omega, by omega⟩
      have HL2 := Lib.hid (show L = (l ++ [(a : Int)]) ++ pth P fs ((X0 : Nat) : Int) n (Y : Int) by rw [HLL.out, HSTEP.out]; simp)
      obtain ⟨v7, w7, g7, hr, ap⟩ := apm_run (wr.alloc (.cells #[.int .i64 (a : Int)] 2)) _ 1 _ wr.heap.size g 0 l.length co _ (Own.one wr (a : Int)) (fun k hk => by rw [Nat.zero_add]; exact (HO.out.alloc _).row.cell k hk) (by omega)
      have bl := ap.below (B := wr.heap.size) (Nat.le_refl _) (by rw [szal]; omega)
      have b7 : Below wr.heap.size wr w7 := (below_new wr _).trans bl.1
      have hg7 : ge < g7 := by have := bl.2; omega
      have O7 := ap.own.congr (e := fun k => ((l ++ [(a : Int)]).reverse[k]?).getD 0) (fun k hk => by
        unfold catD
        rw [List.reverse_append, List.reverse_singleton, List.singleton_append]
        rcases Nat.eq_zero_or_pos k with rfl | hk0
        · rfl
        · obtain ⟨k', rfl⟩ : ∃ k', k = k' + 1 := ⟨k - 1, by omega⟩
          rw [if_neg (by omega), List.getElem?_cons_succ, Nat.add_sub_cancel])
      have HO7 := Lib.hid O7
      have HA7 := Lib.hid (HA.out.below b7 law)
      have HE7 := Lib.hid (HE.out.below b7 lge)
      have HB7 := Lib.hid (HBB.out.trans (b7.mono (by omega)))
      have f0 : w7.cell? ⟨w.heap.size, 0, none⟩ = some (.slice p0 n c0) := (b7.cell (p := ⟨w.heap.size, 0, none⟩) law).trans e0
      have f1 : w7.cell? ⟨w.heap.size, 1, none⟩ = some (.slice p1 m c1) := (b7.cell (p := ⟨w.heap.size, 1, none⟩) law).trans e1
      have f2 : w7.cell? ⟨ge, Z, none⟩ = some (.int .i64 (a : Int)) := (b7.cell (p := ⟨ge, Z, none⟩) lge).trans y1
      have law7 := HA7.out.lt
      have lge7 := HE7.out.lt
      have lg7 := HO7.out.lt
      have hv7 : ∃ c7, v7 = .slice (some ⟨g7, 0, none⟩) (1 + l.length) c7 := ap.own.shape
      obtain ⟨c7, rfl⟩ := hv7
      have HLE := Lib.hid (show (l ++ [(a : Int)]).length = 1 + l.length by rw [List.length_append, List.length_singleton, Nat.add_comm])
      have HMS := Lib.hid (show (pth P fs ((X0 : Nat) : Int) n (Y : Int)).length < (pth P fs ((X0 : Nat) : Int) n (Z : Int)).length by rw [HSTEP.out]; simp)
      clear ap bl b7 O7 hstep hsum hYh hen hot HO HA HE HBB
      generalize hQ : Exit.then _ _ = Q
      have HQ := Lib.hid hQ
      clear hQ
      go_wp2_with (at_builtin; refine wpList_app hr rfl _ _ rfl rfl rfl rfl ?_)
      clear e0 e1 y1 hr
      go_region_held3 (fun w' => w'.cell? ⟨w.heap.size, 0, none⟩ = some (.slice p0 n c0) ∧ w'.cell? ⟨w.heap.size, 1, none⟩ = some (.slice p1 m c1) ∧ w'.cell? ⟨ge, Z, none⟩ = some (.int .i64 (a : Int)))
        (first | exact ⟨f0, f1, f2⟩ | exact SW)
        (first | (go_at_call 101; refine (l02Other_any _ _ n N m P lo hi (HV.out.below HB7.out hhi).drew (by simp; omega) HN.out (by omega) a ham (Z : Int) hpa (by omega) hinr).mono ?_; rintro e w4 ⟨rfl, hb1⟩; rw [HOT.out]; have hb2 := below_dr0 hb1; have hs4 := hb2.size; have SW : w4.cell? ⟨w.heap.size, 0, none⟩ = some (.slice p0 n c0) ∧ w4.cell? ⟨w.heap.size, 1, none⟩ = some (.slice p1 m c1) ∧ w4.cell? ⟨ge, Z, none⟩ = some (.int .i64 (a : Int)) := ⟨(hb2.cell (p := ⟨w.heap.size, 0, none⟩) law7).trans f0, (hb2.cell (p := ⟨w.heap.size, 1, none⟩) law7).trans f1, (hb2.cell (p := ⟨ge, Z, none⟩) lge7).trans f2⟩))
      obtain ⟨w5, hw5⟩ : ∃ w', w' = w4 := ⟨_, rfl⟩
      subst hw5
      have HO5 := Lib.hid (HO7.out.keep (hb2.block _ lg7))
      have HA5 := Lib.hid (HA7.out.below hb2 law7)
      have HE5 := Lib.hid (HE7.out.below hb2 lge7)
      have HB5 := Lib.hid (HB7.out.trans (hb2.mono (by omega)))
      clear SW hb1 hb2 f0 f1 f2 HO7 HA7 HE7 HB7
      go_wp2
      rw [← HQ.out]
      refine ⟨⟨_, _, _, _, _, _, _, _, _, _, _, _, _, _, _, _, _, _, _, ?rel, rfl⟩, ?measure⟩
      case rel => exact ⟨(Y : Int), l ++ [(a : Int)], g7, _, rfl, rfl, HYH.out, HL2.out, by rw [HLE.out]; exact HO5.out, hg7, HA5.out, HE5.out, HB5.out⟩
      case measure => simp [intOf]; exact HMS.out
end Go.Proofs.YtdbgcbkmcbgdiaaGreat.mem

namespace Go.Proofs
open Go.Shelf
end Go.Proofs
namespace Go.Proofs.YtdbgcbkmcbgdiaaGreat.mem
open Go.RowKit
set_option linter.unusedVariables false

/-- the numbers of an own slice, as a list -/
def dl (n : Nat) (d : Nat → Int) : List Int := (List.range n).map d
theorem dl_len (n : Nat) (d : Nat → Int) : (dl n d).length = n := by simp [dl]
theorem dl_get {n k : Nat} (d : Nat → Int) (h : k < n) : (dl n d)[k]? = some (d k) := by simp [dl, h]
/-- an own slice holds its numbers, in the sort's words -/
theorem Own.holds {w : World} {v : Value} {n g : Nat} {d : Nat → Int} (h : Own w v n d g) : Go.Sort.Holds (Value.int .i64) w g 0 (dl n d).toArray := by
  intro j hj
  simp only [List.size_toArray, dl_len] at hj
  refine ⟨?_, ?_⟩
  · rw [Nat.zero_add]
    have e : (dl n d).toArray[j]! = d j := by
      have := dl_get d hj
      rw [← List.getElem?_toArray] at this
      rw [getElem!_pos _ j (by simpa [dl_len] using hj)]
      rw [Array.getElem?_eq_getElem (by simpa [dl_len] using hj)] at this
      injection this
    rw [e]
    exact h.row.cell j hj
  · obtain ⟨cap, cur, _, h1, _⟩ := h.ex
    simp [World.frozen?, h1]
/-- other numbers in the same cells -/
theorem Own.put {w : World} {v : Value} {n g : Nat} {d : Nat → Int} (h : Own w v n d g) (q : Nat) (xs : List Int) (hx : xs.length = n) :
    Own (Go.Sort.putRow (Value.int .i64) (Go.Sort.ahead w q) g 0 xs.toArray) v n (fun k => (xs[k]?).getD 0) g ∧ Only g w (Go.Sort.putRow (Value.int .i64) (Go.Sort.ahead w q) g 0 xs.toArray) := by
  obtain ⟨cap, cur, rfl, h1, h2, h3, h4, h5⟩ := h.ex
  refine ⟨⟨cap, Go.Sort.putCells (Value.int .i64) 0 xs.toArray cur, rfl, ?_, h2, h3, ?_, fun k hk => ?_⟩, ⟨rfl, rfl, rfl, ?_, fun k hk => ?_⟩⟩
  · show ((Go.Sort.ahead w q).heap.modify g (Go.Sort.onCells _))[g]? = _
    rw [Array.getElem?_modify, if_pos rfl]
    show Option.map _ (w.heap[g]?) = _
    rw [h1]
    rfl
  · simp [Go.Sort.putCells, h4]
  · have hk2 : k < xs.length := by omega
    have hkc : k < cur.size := by omega
    simp only [Go.Sort.putCells, Array.getElem?_mapIdx, Array.getElem?_eq_getElem hkc, Option.map_some, List.size_toArray]
    rw [if_pos ⟨Nat.zero_le _, by omega⟩, Nat.sub_zero, getElem!_pos _ k (by simpa using hk2), List.getElem?_eq_getElem hk2]
    rfl
  · show w.heap.size = ((Go.Sort.ahead w q).heap.modify g (Go.Sort.onCells _)).size
    rw [Array.size_modify]
    rfl
  · show ((Go.Sort.ahead w q).heap.modify g (Go.Sort.onCells _))[k]? = _
    rw [Array.getElem?_modify, if_neg (fun e => hk e.symm)]
    rfl
end Go.Proofs.YtdbgcbkmcbgdiaaGreat.mem

namespace Go.Proofs.YtdbgcbkmcbgdiaaGreat.mem
open Go.RowKit
set_option linter.unusedVariables false
attribute [local go_sem] Oper.semAt_some

/-- the marks that searches leave among the deferred calls -/
def marks (bs : List Nat) : List Deferred := bs.map fun b => { target := .collected b, args := #[] }
theorem leaves_marks {F : Fence} {n : Nat} {P : Program} {fn : Func} {tmps : Array Value} {R : Ending → World → Prop} {u : FrameMode} (hu : u ≠ .run) : ∀ (bs : List Nat) (w : World),
    (∀ b, b ∈ bs → w.heap[b]? = some (.deferred (some []))) → bs.Pairwise (· ≠ ·) → (∀ w', Upd (fun b => b ∈ bs) w w' → LeavesInM F n P fn tmps R [] u w') → LeavesInM F n P fn tmps R (marks bs) u w
  | [], w, _, _, h => h w (Upd.refl _ _)
  | b :: bs, w, hb, hd, h => by
    refine ⟨hu, .inl ⟨b, _, rfl, run_takeDeferred (hb b (by simp)), ?_⟩⟩
    rw [List.pairwise_cons] at hd
    refine leaves_marks hu bs _ (fun c hc => ?_) hd.2 (fun w' hw' => h w' ?_)
    · exact (World.putObj_heap_other (fun e => hd.1 c hc e.symm)).trans (hb c (by simp [hc]))
    · exact (Upd.putObj _ w b (.deferred none) (by simp)).trans (hw'.mono fun k _ hk => by simp [hk])

/-- while the visits from k come: the table, the boxes -/
def CmpI (n : Nat) (P : Nat → Pip) (m k g be bn : Nat) (v : Value) (v0 v1 : Value) (bs : List Nat) (w : World) (pre : List Vs) (Y : Nat → Prop) (A : World) : Prop :=
  Y = (fun b => b = g) ∧ Ob A g n (tabC (cmpV n P m k pre)) ∧ Ob A be 1 (fun _ => v) ∧ Ob A bn 1 (fun _ => .int .i64 (k : Nat)) ∧ Ob A w.heap.size 2 (bx v0 v1) ∧ (∀ b, b ∈ bs → A.heap[b]? = some (.deferred (some []))) ∧ Below w.heap.size w A
theorem CmpI.upd {n : Nat} {P : Nat → Pip} {m k g be bn : Nat} {v v0 v1 : Value} {bs : List Nat} {w : World} {pre : List Vs} {Y X : Nat → Prop} {A B : World} (h : CmpI n P m k g be bn v v0 v1 bs w pre Y A) (u : Upd X A B) (hg : ¬ X g) (hb : ¬ X be) (hn : ¬ X bn) (h0 : ¬ X w.heap.size) (hbs : ∀ b, b ∈ bs → ¬ X b) (hX : ∀ k, X k → w.heap.size ≤ k) : CmpI n P m k g be bn v v0 v1 bs w pre Y B := by
  obtain ⟨h1, h2, h3, h4, h5, h6, h7⟩ := h
  refine ⟨h1, h2.keep (u.block _ h2.lt hg), h3.keep (u.block _ h3.lt hb), h4.keep (u.block _ h4.lt hn), h5.keep (u.block _ h5.lt h0), fun b hb2 => ?_, h7.trans (u.below h7.size (fun k _ hk => hX k hk))⟩
  have := h6 b hb2
  exact (u.block b (Array.getElem?_eq_some_iff.1 this).1 (hbs b hb2)).trans this
theorem cmp_step {A : World} {g n : Nat} {P : Nat → Pip} {m k : Nat} {pre : List Vs} {u : Vs} {Z : Nat} (h : Ob A g n (tabC (cmpV n P m k pre))) (hZ : u.nd = ((Z : Nat) : Int)) (hn : Z < n) :
    Ob (A.setCell ⟨g, Z, none⟩ (.int .i64 (k : Nat))) g n (tabC (cmpV n P m k (pre ++ [u]))) := by
  refine (h.set Z _ hn).congr fun j hj => ?_
  unfold updV tabC
  rw [cmpV_app, hZ]
  by_cases e : j = Z
  · subst e; simp
  · rw [if_neg e, if_neg (by omega)]

set_option maxRecDepth 100000 in
set_option maxHeartbeats 4000000 in
theorem components_any (w : World) (v : Value) (n : Nat) (N : Nat → Nod) (m : Nat) (P : Nat → Pip) (lo hi : Nat) (h : NetAt w v n N m P lo hi) (hhi : hi ≤ w.heap.size) (hB : netB n N m P = true) :
    Calls Tryz.prog 165 #[v] w fun e w' => ∃ g, e = .returned (.slice (some ⟨g, 0, none⟩) n n) ∧ w.heap.size ≤ g ∧ Ob w' g n (tabC (cmp n P m n)) ∧ Below w.heap.size w w' := by
  obtain ⟨p0, c0, p1, c1, rfl, hn9, hm9⟩ := h.parts
  obtain ⟨hn1, hn24, hm40⟩ := net_sz hB
  have HV := Lib.hid h
  have HB := Lib.hid hB
  have A0 := boxed w (.slice p0 n c0) (.slice p1 m c1) 27
  have B0 := below_new w (.cells #[.slice p0 n c0, .slice p1 m c1] 27)
  have hs0 : (w.alloc (.cells #[.slice p0 n c0, .slice p1 m c1] 27)).heap.size = w.heap.size + 1 := by simp
  have HOK := Lib.hid (fun (X0 : Nat) (hX : X0 < n) => vis_ok (P := P) (m := m) (x := ((X0 : Nat) : Int)) hB ⟨Int.natCast_nonneg _, by omega⟩)
  clear h hB
  refine (callsIn_wide (n := 9)).1 (callsIn_of_wp_marks Tryz.func165 rfl trivial ?_ rfl)
  simp only [Tryz.ntmps165, List.size_toArray, List.length_cons, List.length_nil, Nat.reduceAdd, Nat.reduceSub, Array.replicate_succ, Array.replicate_zero, List.push_toArray, List.append_toArray, List.nil_append, List.cons_append]
  gi_wp2
  refine ⟨trivial, (callsIn_wide.2 (unreached_any _ _ n N m P lo hi (HV.out.below B0 hhi) hn1 hn24)).mono ?_⟩
  rintro e w2 ⟨g, rfl, hg1, og, b2⟩
  have B2 := B0.trans (b2.mono (by omega))
  have A2 := A0.below b2 (by omega)
  have hs2 := b2.size
  have hg2 := og.lt
  have e0 := A2.b0
  have e2 : w.heap.size < w2.heap.size := by omega
  have A3 := A2.keep (Below.heap_alloc w2 (.cells #[.slice (some ⟨g, 0, none⟩) n n] 28) _ (by omega))
  have O3 := Ob.one w2 (.slice (some ⟨g, 0, none⟩) n n) 28
  have og3 := og.keep (Below.heap_alloc w2 (.cells #[.slice (some ⟨g, 0, none⟩) n n] 28) _ hg2)
  have B3 : Below w.heap.size w (w2.alloc (.cells #[.slice (some ⟨g, 0, none⟩) n n] 28)) := below_alloc B2 (by omega) _
  have HA := Lib.hid A3
  have HO := Lib.hid O3
  have HG := Lib.hid (og3.congr (e := tabC (cmp n P m 0)) fun k hk => rfl)
  have HBB := Lib.hid B3
  clear A3 O3 og3 B3 og B2 A0 B0 b2 A2
  gi_wp2
  have hs3 : (w2.alloc (.cells #[.slice (some ⟨g, 0, none⟩) n n] 28)).heap.size = w2.heap.size + 1 := by simp
  generalize hW : w2.alloc (.cells #[.slice (some ⟨g, 0, none⟩) n n] 28) = w3 at *
  clear hW e0
  refine wpIn_loop (fun a' w' => ∃ (k : Nat) (bs : List Nat) (u4 u12 u13 u14 u15 u16 u17 u18 u19 u20 u21 u28 : Value), a' = { tmps := #[.agg #[.slice p0 n c0, .slice p1 m c1], .pointer (some ⟨w.heap.size, 0, none⟩), .slice none 0 0, .pointer (some ⟨w2.heap.size, 0, none⟩), u4, undef, .agg #[.slice p0 n c0, .slice p1 m c1], .slice (some ⟨g, 0, none⟩) n n, .pointer (some ⟨w.heap.size, 0, none⟩), .slice p0 n c0, .int .i64 (n : Nat), .int .i64 (k : Nat), u12, u13, u14, u15, u16, u17, u18, u19, u20, u21, undef, undef, undef, undef, undef, undef, u28, undef], defers := marks bs } ∧ k ≤ n ∧ Ob w' g n (tabC (cmp n P m k)) ∧ Ob w' w2.heap.size 1 (fun _ => .slice (some ⟨g, 0, none⟩) n n) ∧ Ob w' w.heap.size 2 (bx (.slice p0 n c0) (.slice p1 m c1)) ∧ (∀ b, b ∈ bs → w'.heap[b]? = some (.deferred (some []))) ∧ (∀ b, b ∈ bs → w2.heap.size < b) ∧ bs.Pairwise (· ≠ ·) ∧ Below w.heap.size w w' ∧ w2.heap.size < w'.heap.size) (fun a' _ => n - (intOf (a'.tmps.getD 11 undef)).toNat) ?_ ?_
  · exact ⟨0, [], _, _, _, _, _, _, _, _, _, _, _, _, rfl, Nat.zero_le _, HG.out, HO.out, HA.out, by simp, by simp, by simp, HBB.out, by omega⟩
  · rintro a' wr ⟨k, bs, u4, u12, u13, u14, u15, u16, u17, u18, u19, u20, u21, u28, rfl, hk, og, ob, oa, hbs, hbg, hbd, hb, hsz⟩
    clear HA HO HG HBB
    have HG := Lib.hid og
    have HO := Lib.hid ob
    have HA := Lib.hid oa
    have HBS := Lib.hid hbs
    have HBG := Lib.hid hbg
    have HBD := Lib.hid hbd
    have HBB := Lib.hid hb
    clear og ob oa hbs hbg hbd hb
    dsimp only
    generalize hQ : Exit.then _ _ = Q
    have HQ := Lib.hid hQ
    clear hQ
    have k0 : (0 : Int) ≤ (k : Int) := Int.natCast_nonneg _
    have lg := HG.out.lt
    by_cases hlt : k < n
    · have k1 : (k : Int) < (n : Int) := by omega
      have o1 := HO.out.keep (Below.heap_alloc wr (.cells #[.int .i64 (k : Nat)] 2) _ HO.out.lt)
      have g1 := HG.out.keep (Below.heap_alloc wr (.cells #[.int .i64 (k : Nat)] 2) _ HG.out.lt)
      have a1 := HA.out.keep (Below.heap_alloc wr (.cells #[.int .i64 (k : Nat)] 2) _ HA.out.lt)
      have n1 := Ob.one wr (.int .i64 (k : Nat)) 2
      have s1 : ∀ b, b ∈ bs → (wr.alloc (.cells #[.int .i64 (k : Nat)] 2)).heap[b]? = some (.deferred (some [])) := fun b hb => (Below.heap_alloc wr (.cells #[.int .i64 (k : Nat)] 2) _ ((Array.getElem?_eq_some_iff.1 (HBS.out b hb)).1)).trans (HBS.out b hb)
      have b1 : Below w.heap.size w (wr.alloc (.cells #[.int .i64 (k : Nat)] 2)) := below_alloc HBB.out (by omega) _
      have hz1 : (wr.alloc (.cells #[.int .i64 (k : Nat)] 2)).heap.size = wr.heap.size + 1 := by simp
      obtain ⟨w4, hw4⟩ : ∃ w4, wr.alloc (.cells #[.int .i64 (k : Nat)] 2) = w4 := ⟨_, rfl⟩
      rw [hw4] at o1 g1 a1 n1 s1 b1 hz1
      have y0 : w4.cell? ⟨w2.heap.size, 0, none⟩ = some (.slice (some ⟨g, 0, none⟩) n n) := o1.cell 0 (by omega)
      have y1 : w4.cell? ⟨wr.heap.size, 0, none⟩ = some (.int .i64 (k : Nat)) := n1.cell 0 (by omega)
      have y2 : w4.cell? ⟨g, k, none⟩ = some (.int .i64 (cmp n P m k k)) := g1.cell k hlt
      have y3 : w4.cell? ⟨w.heap.size, 0, none⟩ = some (.slice p0 n c0) := a1.b0
      have y4 : w4.cell? ⟨w.heap.size, 1, none⟩ = some (.slice p1 m c1) := a1.b1
      by_cases hc : cmp n P m k k = -1
      · have hcb : (cmp n P m k k != -1) = false := by simp [hc]
        have HC := Lib.hid hc
        clear hc
        gi_wp2
        have O1 := Lib.hid o1
        have G1 := Lib.hid g1
        have A1 := Lib.hid a1
        have N1 := Lib.hid n1
        have S1 := Lib.hid s1
        have B1 := Lib.hid b1
        clear o1 g1 a1 n1 s1 b1 hw4 y0 y1 y2 y3 y4
        have hwr : w.heap.size + 1 ≤ w2.heap.size := e2
        refine ⟨trivial, (callsIn_wide.2 (visitsFrom_any 8 (by omega) w4 _ n N m P lo hi (HV.out.below B1.out hhi) (by omega) HB.out k hlt)).mono ?_⟩
        rintro e w5 ⟨lb, rfl, hseq, b5, hs5⟩
        have g5 := G1.out.below b5 (by omega)
        have o5 := O1.out.below b5 (by omega)
        have a5 := A1.out.below b5 (by omega)
        have n5 := N1.out.below b5 (by omega)
        have s5 : ∀ b, b ∈ bs → w5.heap[b]? = some (.deferred (some [])) := fun b hb => (b5.block b ((Array.getElem?_eq_some_iff.1 (S1.out b hb)).1)).trans (S1.out b hb)
        have bb5 := B1.out.trans (b5.mono (by omega))
        have sl5 : ∀ b, b ∈ bs → b < w5.heap.size := fun b hb => (Array.getElem?_eq_some_iff.1 (s5 b hb)).1
        have sg5 : ∀ b, b ∈ bs → b ≠ g ∧ w2.heap.size < b ∧ b < w5.heap.size := fun b hb => by
          have h1 := HBG.out b hb
          exact ⟨by omega, h1, sl5 b hb⟩
        gi_wp2
        refine wpIn_range_vis rfl (by omega) rfl trivial (fun _ _ => ?_) hseq (Upd.refl _ _) (fun b hb => by omega) (fun x => rfl) (fun b => b = g) (fun b hb => ⟨by omega, by omega⟩)
          (CmpI n P m k g w2.heap.size wr.heap.size (.slice (some ⟨g, 0, none⟩) n n) (.slice p0 n c0) (.slice p1 m c1) bs w) ?_ ?_ ?_ ?_
        · rfl
        · exact fun pre Y A B hi hu => hi.upd hu (by omega) (by omega) (by omega) (by omega) (fun b hb => by have := sg5 b hb; omega) (fun k hk => by omega)
        · exact ⟨rfl, g5.congr (fun j hj => by unfold tabC; rw [cmpV_nil]), o5, n5, a5, s5, bb5⟩
        · intro l pre x post Y W hx hi hsz hY
          obtain ⟨rfl, ot, ob, on, oa, os, bl⟩ := hi
          obtain ⟨q1, Z, hZ, q2⟩ := (HOK.out k hlt).round hx
          simp only [encV, List.zip_toArray, List.zip_cons_cons, List.zip_nil_right, List.foldl_toArray, List.foldl_cons, List.foldl_nil, List.setIfInBounds_toArray, List.set_cons_succ, List.set_cons_zero]
          gi_wp2
          refine ⟨Upd.alloc _ _ _, fun Wb hWb => ?_⟩
          have hbv := boxedV W x 174
          rw [hZ] at hbv
          have hst := hWb.size
          simp only [World.size_alloc] at hst
          have hbk : ∀ b, b < W.heap.size → ¬ (w5.heap.size ≤ b ∧ b < w5.heap.size + 4) → Wb.heap[b]? = W.heap[b]? := fun b h1 h2 => (hWb.block b (by simp; omega) h2).trans (Below.heap_alloc _ _ _ h1)
          have hbv2 := hbv.keep (hWb.block W.heap.size (by simp) (by omega))
          have ot2 := ot.keep (hbk _ ot.lt (by omega))
          have ob2 := ob.keep (hbk _ ob.lt (by omega))
          have on2 := on.keep (hbk _ on.lt (by omega))
          have oa2 := oa.keep (hbk _ oa.lt (by omega))
          have os2 : ∀ b, b ∈ bs → Wb.heap[b]? = some (.deferred (some [])) := fun b hb => (hbk b ((Array.getElem?_eq_some_iff.1 (os b hb)).1) (by have := sg5 b hb; omega)).trans (os b hb)
          have lt1 := ot.lt
          have lt2 := ob.lt
          have y0 : Wb.cell? ⟨w2.heap.size, 0, none⟩ = some (.slice (some ⟨g, 0, none⟩) n n) := ob2.cell 0 (by omega)
          have y1 : Wb.cell? ⟨W.heap.size, 0, none⟩ = some (.int .i64 (Z : Int)) := by rw [← hZ]; exact hbv2.cell 0 (by omega)
          have y2 : Wb.cell? ⟨wr.heap.size, 0, none⟩ = some (.int .i64 (k : Nat)) := on2.cell 0 (by omega)
          have y3 : Wb.cell? ⟨g, Z, none⟩ = some (tabC (cmpV n P m k pre) Z) := ot2.cell Z (by omega)
          have y4 : Wb.frozen? ⟨g, Z, none⟩ = false := ot2.free Z
          have y5 : (0 : Int) ≤ (Z : Int) := Int.natCast_nonneg _
          have y6 : (Z : Int) < (n : Int) := by omega
          have hbl2 : Below w.heap.size w Wb := (below_alloc bl (by omega) (.cells #[.int .i64 (Z : Int), .int .i64 x.en, .int .i64 x.ds] 174)).trans (hWb.below (by simp; omega) (fun k _ hk => by omega))
          have ts := cmp_step ot2 hZ q2
          have o1 := (Only.refl g Wb).setCell Z (.int .i64 (k : Nat))
          have H2 := Lib.hid os2
          have H5 := Lib.hid sg5
          clear hbv hbv2 hbk hWb os2 os sg5 sl5 s5
          gi_wp2
          exact ⟨_, (Upd.of_only o1).mono (fun b _ hb => .inl hb), ⟨rfl, ts, ob2.only o1 (by omega), on2.only o1 (by omega), oa2.only o1 (by omega), fun b hb => (o1.block b (H5.out b hb).1).trans (H2.out b hb), hbl2.trans (o1.below (by omega))⟩, fun b hb => .inl hb⟩
        · intro Y W hi hd
          obtain ⟨rfl, ot, ob, on, oa, os, bl⟩ := hi
          have H1 := Lib.hid os
          have H5 := Lib.hid sg5
          have H6 := Lib.hid hd
          have hWs := (Array.getElem?_eq_some_iff.1 hd).1
          clear os sg5 sl5 s5 hd
          gi_wp2
          rw [← HQ.out]
          refine ⟨⟨k + 1, w5.heap.size :: bs, _, _, _, _, _, _, _, _, _, _, _, _, rfl, hlt, ?_, ob, oa, ?_, ?_, ?_, bl, by omega⟩, ?_⟩
          · exact ot.congr (fun j hj => by unfold tabC; rw [cmpV_all HC.out])
          · rintro b hb
            rcases List.mem_cons.1 hb with rfl | hb
            · exact H6.out
            · exact H1.out b hb
          · rintro b hb
            rcases List.mem_cons.1 hb with rfl | hb
            · omega
            · exact (H5.out b hb).2.1
          · exact List.pairwise_cons.2 ⟨fun b hb => by have := (H5.out b hb).2.2; omega, HBD.out⟩
          · simp [intOf]
            omega
      · have hcb : (cmp n P m k k != -1) = true := by simp [hc]
        have HSK := Lib.hid (cmp_skip hc)
        clear hc
        gi_wp2
        rw [← HQ.out]
        refine ⟨⟨k + 1, bs, _, _, _, _, _, _, _, _, _, _, _, _, rfl, hlt, by rw [HSK.out]; exact g1, o1, a1, s1, HBG.out, HBD.out, b1, by omega⟩, ?_⟩
        simp [intOf]
        omega
    · have hkn : n = k := by omega
      subst hkn
      have k1 : ¬ ((n : Int) < (n : Int)) := by omega
      have y0 : wr.cell? ⟨w2.heap.size, 0, none⟩ = some (.slice (some ⟨g, 0, none⟩) n n) := HO.out.cell 0 (by omega)
      gi_wp2
      rw [← HQ.out]
      gi_wp2
      refine leaves_marks (by simp) bs wr HBS.out HBD.out (fun w' hw' => ?_)
      refine ⟨_, results_tmp rfl _ _ _, g, rfl, by omega, HG.out.keep (hw'.block g lg (fun hh => by have := HBG.out g hh; omega)), HBB.out.trans (hw'.below HBB.out.size (fun j _ hj => by have := HBG.out j hj; omega))⟩
end Go.Proofs.YtdbgcbkmcbgdiaaGreat.mem

namespace Go.Proofs.YtdbgcbkmcbgdiaaGreat.mem
open Go.RowKit
set_option linter.unusedVariables false

theorem rts_eq (n : Nat) (P : Nat → Pip) (m i : Nat) : (((i : Nat) : Int) == cmp n P m n i) = rts n P m i := by
  unfold rts
  rw [Bool.eq_iff_iff]
  simp only [beq_iff_eq, decide_eq_true_eq]
  exact eq_comm
theorem cnt_le (n : Nat) (P : Nat → Pip) (m : Nat) : cnt n P m ≤ n := fl_le _ _

set_option maxRecDepth 100000 in
set_option maxHeartbeats 4000000 in
theorem leastNodes_any (w : World) (v : Value) (n : Nat) (N : Nat → Nod) (m : Nat) (P : Nat → Pip) (lo hi : Nat) (h : NetAt w v n N m P lo hi) (hhi : hi ≤ w.heap.size) (hB : netB n N m P = true) :
    Calls Tryz.prog 152 #[v] w fun e w' => ∃ v2 g, e = .returned v2 ∧ Own w' v2 (cnt n P m) (fd (rts n P m) n) g ∧ w.heap.size ≤ g ∧ Below w.heap.size w w' := by
  obtain ⟨p0, c0, p1, c1, rfl, hn9, hm9⟩ := h.parts
  obtain ⟨hn1, hn24, hm40⟩ := net_sz hB
  have HV := Lib.hid h
  have HB := Lib.hid hB
  have A0 := boxed w (.slice p0 n c0) (.slice p1 m c1) 27
  have B0 := below_new w (.cells #[.slice p0 n c0, .slice p1 m c1] 27)
  obtain ⟨w1, hw1⟩ : ∃ w1, w.alloc (.cells #[.slice p0 n c0, .slice p1 m c1] 27) = w1 := ⟨_, rfl⟩
  have hs1 : w1.heap.size = w.heap.size + 1 := by rw [← hw1]; simp
  rw [hw1] at A0 B0
  have F0 := Own.nilled w1 (fd (rts n P m) 0)
  have b2 := below_new w1 (.cells #[] 2)
  obtain ⟨w2, hw2⟩ : ∃ w2, w1.alloc (.cells #[] 2) = w2 := ⟨_, rfl⟩
  have hs2 : w2.heap.size = w.heap.size + 2 := by rw [← hw2]; simp [hs1]
  rw [hw2] at F0 b2
  have A2 := A0.below b2 (by omega)
  have B2 := B0.trans (b2.mono (by omega))
  have HF := Lib.hid F0
  have HBB := Lib.hid B2
  have e0 : w2.cell? ⟨w.heap.size, 0, none⟩ = some (.slice p0 n c0) := A2.b0
  have e1 : w2.cell? ⟨w.heap.size, 1, none⟩ = some (.slice p1 m c1) := A2.b1
  have e2 : w.heap.size < w2.heap.size := by omega
  clear h hB A0 B0 F0 b2 A2 B2
  subst hw2 hw1
  go_enter Tryz.func152, Tryz.ntmps152
  go_wp2_with fail
  generalize hW : (w.alloc (Obj.cells #[Value.slice p0 n c0, Value.slice p1 m c1] 27)).alloc (.cells #[] 2) = w2 at *
  clear hW e0 e1
  refine (components_any w2 _ n N m P lo hi (HV.out.below HBB.out hhi) (by omega) HB.out).mono ?_
  rintro e w3 ⟨gt, rfl, hgt, ot, b3⟩
  have HT := Lib.hid ot
  have HF3 := Lib.hid (HF.out.below b3 (Nat.le_refl _))
  have HB3 := Lib.hid (HBB.out.trans (b3.mono (by omega)))
  have hs3 := b3.size
  have hgl := ot.lt
  clear ot b3 HF HBB
  go_wp2_with fail
  go_loopw [3, 10] (fun ov iv wr => ∃ (k g : Nat) (ov' : Value), ov' = ov ∧ iv = .int .i64 k ∧ k ≤ n ∧ Own wr ov' (fl (rts n P m) k).length (fd (rts n P m) k) g ∧ w.heap.size < g ∧ g ≠ gt ∧ Ob wr gt n (tabC (cmp n P m n)) ∧ Below w.heap.size w wr) (fun _ iv _ => n - (intOf iv).toNat)
  case atStart => exact ⟨0, w.heap.size + 1, _, rfl, rfl, Nat.zero_le _, by have := HF3.out; simp only [World.size_alloc] at this; exact this, by omega, by omega, HT.out, HB3.out⟩
  case round =>
    obtain ⟨k, g, ov, rfl, rfl, hk, ho, hg, hne, ht, hb⟩ := hrel
    obtain ⟨co, rfl⟩ := ho.shape
    clear HF3 HT HB3
    have HO := Lib.hid ho
    have HT := Lib.hid ht
    have HBB := Lib.hid hb
    have lg := ho.lt
    have lt := ht.lt
    clear ho ht hb
    have k0 : (0 : Int) ≤ (k : Int) := Int.natCast_nonneg _
    generalize hQ : Exit.then _ _ = Q
    have HQ := Lib.hid hQ
    clear hQ
    by_cases hlt : k < n
    · have k1 : (k : Int) < (n : Int) := by omega
      have y0 : wr.cell? ⟨gt, k, none⟩ = some (.int .i64 (cmp n P m n k)) := HT.out.cell k hlt
      have HRE := Lib.hid (rts_eq n P m k)
      cases hr : rts n P m k
      · have hb1 : (((k : Nat) : Int) == cmp n P m n k) = false := by rw [HRE.out, hr]
        have HR := Lib.hid hr
        clear hr
        go_wp2_with fail
        rw [← HQ.out]
        refine ⟨⟨_, _, _, _, _, _, _, _, _, _, _, _, _, _, _, _, ?rel, rfl⟩, ?measure⟩
        case rel => exact ⟨k + 1, g, _, rfl, by go_num, hlt, fl_keep HR.out HO.out, hg, hne, HT.out, HBB.out⟩
        case measure => simp [intOf]; omega
      · have hb1 : (((k : Nat) : Int) == cmp n P m n k) = true := by rw [HRE.out, hr]
        have hce : cmp n P m n k = (k : Int) := by rw [beq_iff_eq] at hb1; exact hb1.symm
        rw [hce] at y0
        have HR := Lib.hid hr
        clear hr hb1 hce
        obtain ⟨v7, w7, g7, hr, ap⟩ := coll_run wr _ (rts n P m) k g HO.out (by omega)
        have Y := Lib.hid (coll_below ap (B := w.heap.size + 1) (by omega) lg)
        have O7 := Lib.hid (fl_app HR.out ap)
        have hoth := ap.other (c := gt) (by omega) (by rw [szal]; omega)
        have HT7 := Lib.hid ((HT.out.keep (Below.heap_alloc _ (.cells #[.int .i64 (k : Nat)] 2) _ lt)).keep hoth.1)
        have hne7 := hoth.2
        have hg7 := Y.out.2.1
        clear ap hoth
        go_wp2_with (at_builtin; refine wpList_app hr rfl _ _ rfl rfl rfl rfl ?_)
        rw [← HQ.out]
        refine ⟨⟨_, _, _, _, _, _, _, _, _, _, _, _, _, _, _, _, ?rel, rfl⟩, ?measure⟩
        case rel => exact ⟨k + 1, g7, _, rfl, by go_num, hlt, O7.out, by omega, fun e => hne7 e.symm, HT7.out, HBB.out.trans (Y.out.1.mono (by omega))⟩
        case measure => simp [intOf]; omega
    · have hkn : n = k := by omega
      subst hkn
      have k1 : ¬ ((n : Int) < (n : Int)) := by omega
      go_wp2
      rw [← HQ.out]
      go_wp2
      go_ret
      exact ⟨_, g, rfl, HO.out, by omega, HBB.out⟩
end Go.Proofs.YtdbgcbkmcbgdiaaGreat.mem

namespace Go.Proofs.YtdbgcbkmcbgdiaaGreat.mem
open Go.RowKit
set_option linter.unusedVariables false

set_option maxRecDepth 100000 in
set_option maxHeartbeats 4000000 in
theorem l04Components_any (w : World) (v : Value) (n : Nat) (N : Nat → Nod) (m : Nat) (P : Nat → Pip) (lo hi : Nat) (h : NetAt w v n N m P lo hi) (hhi : hi ≤ w.heap.size) (hN : ∀ i, i < n → (N i).s.size ≤ 9223372036854775807) (hB : netB n N m P = true) :
    Calls Tryz.prog 98 #[v] w fun e w' => ∃ g, e = .returned (.slice (some ⟨g, 0, none⟩) n n) ∧ w.heap.size ≤ g ∧ Ob w' g n (tabC (cmp n P m n)) ∧ Below w.heap.size w w' := by
  obtain ⟨p0, c0, p1, c1, rfl, hn9, hm9⟩ := h.parts
  obtain ⟨hn1, hn24, hm40⟩ := net_sz hB
  have HV := Lib.hid h
  have HN := Lib.hid hN
  have HB := Lib.hid hB
  have A0 := boxed w (.slice p0 n c0) (.slice p1 m c1) 27
  have B0 := below_new w (.cells #[.slice p0 n c0, .slice p1 m c1] 27)
  have HOK := Lib.hid (fun (X0 : Nat) (hX : X0 < n) => vis_ok (P := P) (m := m) (x := ((X0 : Nat) : Int)) hB ⟨Int.natCast_nonneg _, by omega⟩)
  obtain ⟨w1, hw1⟩ : ∃ w1, w.alloc (.cells #[.slice p0 n c0, .slice p1 m c1] 27) = w1 := ⟨_, rfl⟩
  have hs1 : w1.heap.size = w.heap.size + 1 := by rw [← hw1]; simp
  rw [hw1] at A0 B0
  have O1 := ob_zeros w1 n 2
  obtain ⟨w2, hw2⟩ : ∃ w2, w1.alloc (.cells (zeros n) 2) = w2 := ⟨_, rfl⟩
  have hs2 : w2.heap.size = w.heap.size + 2 := by rw [← hw2]; simp [hs1]
  have b2 : Below w1.heap.size w1 w2 := by rw [← hw2]; exact below_new _ _
  rw [hw2] at O1
  rw [hs1] at O1
  have HA := Lib.hid (A0.below b2 (by omega))
  have HG := Lib.hid (O1.congr (e := fillC 0) (fun k hk => by unfold fillC; rw [if_neg (by omega)]))
  have HBB := Lib.hid (B0.trans (b2.mono (by omega)))
  have e0 : w1.cell? ⟨w.heap.size, 0, none⟩ = some (.slice p0 n c0) := A0.b0
  have e1 : w.heap.size < w1.heap.size := by omega
  have m1 := fun W => make_int64 W n (by omega)
  clear h hN hB A0 B0 O1 b2 hs1
  subst hw2 hw1
  go_enter Tryz.func98, Tryz.ntmps98
  go_wp2
  generalize hW : (w.alloc (Obj.cells #[Value.slice p0 n c0, Value.slice p1 m c1] 27)).alloc (Obj.cells (zeros n) 2) = w3 at *
  clear hW e0 e1 m1
  obtain ⟨g, hgg⟩ : ∃ g, g = w.heap.size + 1 := ⟨_, rfl⟩
  have hgw : w.heap.size < g := by omega
  rw [← hgg] at HG
  rw [← hgg]
  clear hgg
  go_loopw [4] (fun i wr => ∃ k : Nat, i = .int .i64 k ∧ k ≤ n ∧ Ob wr g n (fillC k) ∧ Ob wr w.heap.size 2 (bx (.slice p0 n c0) (.slice p1 m c1)) ∧ Below w.heap.size w wr) (fun i _ => n - (intOf i).toNat)
  case atStart => exact ⟨0, rfl, Nat.zero_le _, HG.out, HA.out, HBB.out⟩
  case round =>
    obtain ⟨k, rfl, hk, he, hbx, hbl⟩ := hrel
    clear HA HG HBB
    have HG := Lib.hid he
    have HA := Lib.hid hbx
    have HBB := Lib.hid hbl
    clear he hbx hbl
    have i0 : (0 : Int) ≤ (k : Int) := Int.natCast_nonneg _
    generalize hQ : Exit.then _ _ = Q
    have HQ := Lib.hid hQ
    clear hQ
    by_cases hlt : k < n
    · have j0 : (k : Int) < (n : Int) := by omega
      have y0 : wr.cell? ⟨g, k, none⟩ = some (fillC k k) := HG.out.cell k hlt
      have y1 : wr.frozen? ⟨g, k, none⟩ = false := HG.out.free k
      have o1 := (Only.refl g wr).setCell k (.int .i64 (-1))
      go_wp2
      rw [← HQ.out]
      refine ⟨⟨_, _, _, _, _, _, _, _, _, _, ?rel, rfl⟩, ?measure⟩
      case rel => exact ⟨k + 1, by go_num, hlt, fill_set HG.out hlt, HA.out.only o1 (by omega), HBB.out.trans (o1.below (by omega))⟩
      case measure => simp [intOf]; omega
    · have hkn : n = k := by omega
      subst hkn
      have j0 : ¬ ((n : Int) < (n : Int)) := by omega
      go_wp2
      rw [← HQ.out]
      go_wp2
      have HT := Lib.hid (HG.out.congr (e := tabC (cmp n P m 0)) (fun j hj => by unfold fillC tabC; rw [if_pos hj]; rfl))
      clear HG j0 i0
      have hbw := HBB.out.size
      have hgl := HT.out.lt
      go_loopw [5] (fun i wr => ∃ k : Nat, i = .int .i64 k ∧ k ≤ n ∧ Ob wr g n (tabC (cmp n P m k)) ∧ Ob wr w.heap.size 2 (bx (.slice p0 n c0) (.slice p1 m c1)) ∧ Below w.heap.size w wr) (fun i _ => n - (intOf i).toNat)
      case atStart => exact ⟨0, rfl, Nat.zero_le _, HT.out, HA.out, HBB.out⟩
      case round =>
        clear HT HA HBB hbw hgl
        obtain ⟨k, rfl, hk, ht, ha, hb⟩ := hrel
        have HT := Lib.hid ht
        have HA := Lib.hid ha
        have HBB := Lib.hid hb
        have hgl := ht.lt
        have law := ha.lt
        clear ht ha hb
        have k0 : (0 : Int) ≤ (k : Int) := Int.natCast_nonneg _
        generalize hQ2 : Exit.then _ _ = Q2
        have HQ2 := Lib.hid hQ2
        clear hQ2
        by_cases hlt : k < n
        · have k1 : (k : Int) < (n : Int) := by omega
          have y0 : wr.cell? ⟨g, k, none⟩ = some (.int .i64 (cmp n P m k k)) := HT.out.cell k hlt
          have y1 : wr.cell? ⟨w.heap.size, 0, none⟩ = some (.slice p0 n c0) := HA.out.b0
          have y2 : wr.cell? ⟨w.heap.size, 1, none⟩ = some (.slice p1 m c1) := HA.out.b1
          have hrg := cmp_rng n P m k k
          by_cases hc : cmp n P m k k = -1
          · have hcb : ¬ (0 ≤ cmp n P m k k) := by omega
            have HC := Lib.hid hc
            clear hc hrg
            go_wp2_with fail
            refine (l04Search_any _ _ n N m P lo hi (HV.out.below HBB.out hhi) (by omega) HN.out HB.out k hlt).mono ?_
            rintro e w5 ⟨v2, g2, rfl, oe, oo, hg2, b5⟩
            obtain ⟨ca, rfl⟩ := oo.shape
            have ok := HOK.out k hlt
            have HRND := Lib.hid (fun j v (hv : (vis n P m ((k : Nat) : Int))[j]? = some v) => ok.rng v (List.mem_of_getElem? hv))
            have hlen := ok.len
            have HALL := Lib.hid (cmpV_all (P := P) (m := m) HC.out)
            generalize hq : vis n P m ((k : Nat) : Int) = fs at *
            have HT5 := Lib.hid ((HT.out.below b5 hgl).congr (e := tabC (cmpV n P m k (fs.take 0))) (fun j hj => by unfold tabC; rw [List.take_zero, cmpV_nil]))
            have HA5 := Lib.hid (HA.out.below b5 law)
            have HB5 := Lib.hid (HBB.out.trans (b5.mono (by omega)))
            have HO5 := Lib.hid oo
            have hne2 : g2 ≠ g := by omega
            have hgw2 : w.heap.size < g2 := by omega
            clear hq oe oo b5 y0 y1 y2 ok
            go_wp2
            go_loopw [8] (fun i wr => ∃ j : Nat, i = .int .i64 j ∧ j ≤ fs.length ∧ Ob wr g n (tabC (cmpV n P m k (fs.take j))) ∧ Own wr (.slice (some ⟨g2, 0, none⟩) fs.length ca) fs.length (ordD fs) g2 ∧ Ob wr w.heap.size 2 (bx (.slice p0 n c0) (.slice p1 m c1)) ∧ Below w.heap.size w wr) (fun i _ => fs.length - (intOf i).toNat)
            case atStart => exact ⟨0, rfl, Nat.zero_le _, HT5.out, HO5.out, HA5.out, HB5.out⟩
            case round =>
              clear HT5 HO5 HA5 HB5 HT HA HBB hgl law
              obtain ⟨j, rfl, hj, ht, ho, ha, hb⟩ := hrel
              have HT := Lib.hid ht
              have HO := Lib.hid ho
              have HA := Lib.hid ha
              have HBB := Lib.hid hb
              clear ht ho ha hb
              have j0 : (0 : Int) ≤ (j : Int) := Int.natCast_nonneg _
              generalize hQ3 : Exit.then _ _ = Q3
              have HQ3 := Lib.hid hQ3
              clear hQ3
              by_cases hjl : j < fs.length
              · have j1 : (j : Int) < (fs.length : Int) := by omega
                obtain ⟨v, hv⟩ : ∃ v, fs[j]? = some v := ⟨_, List.getElem?_eq_getElem hjl⟩
                obtain ⟨hz0, hz1⟩ := HRND.out j v hv
                obtain ⟨Z, hZ⟩ := Int.eq_ofNat_of_zero_le hz0
                have hZn : Z < n := by omega
                have y0 : wr.cell? ⟨g2, j, none⟩ = some (.int .i64 (Z : Int)) := by
                  have := HO.out.row.cell j hjl
                  rwa [ordD_some hv, hZ] at this
                have y1 : wr.cell? ⟨g, Z, none⟩ = some (tabC (cmpV n P m k (fs.take j)) Z) := HT.out.cell Z hZn
                have y2 : wr.frozen? ⟨g, Z, none⟩ = false := HT.out.free Z
                have z0 : (0 : Int) ≤ (Z : Int) := Int.natCast_nonneg _
                have z1 : (Z : Int) < (n : Int) := by omega
                have ts := cmp_step HT.out hZ hZn
                have HTK := Lib.hid (take_one hv)
                rw [← HTK.out] at ts
                have o1 := (Only.refl g wr).setCell Z (.int .i64 (k : Nat))
                have HT6 := Lib.hid ts
                clear hZ hz0 hz1 hv ts
                go_wp2
                rw [← HQ3.out]
                refine ⟨⟨_, _, _, _, _, _, _, _, _, _, _, _, _, _, ?rel, rfl⟩, ?measure⟩
                case rel => exact ⟨j + 1, by go_num, hjl, HT6.out, HO.out.keep (o1.block _ hne2), HA.out.only o1 (by omega), HBB.out.trans (o1.below (by omega))⟩
                case measure => simp [intOf]; omega
              · have hjn : j = fs.length := by omega
                subst hjn
                have j1 : ¬ ((fs.length : Int) < (fs.length : Int)) := by omega
                have HT6 := HT.out
                rw [List.take_length, HALL.out] at HT6
                have HT7 := Lib.hid HT6
                clear HT6
                go_wp2
                rw [← HQ3.out]
                go_wp2
                rw [← HQ2.out]
                refine ⟨⟨_, _, _, _, _, _, _, _, _, _, _, _, _, _, _, _, _, _, _, _, _, _, _, _, _, _, _, _, _, _, _, _, _, _, ?rel, rfl⟩, ?measure⟩
                case rel => exact ⟨k + 1, by go_num, hlt, HT7.out, HA.out, HBB.out⟩
                case measure => simp [intOf]; omega
          · have hcb : 0 ≤ cmp n P m k k := by omega
            have HSK := Lib.hid (cmp_skip hc)
            clear hc hrg
            go_wp2
            rw [← HQ2.out]
            refine ⟨⟨_, _, _, _, _, _, _, _, _, _, _, _, _, _, _, _, _, _, _, _, _, _, _, _, _, _, _, _, _, _, _, _, _, _, ?rel, rfl⟩, ?measure⟩
            case rel => exact ⟨k + 1, by go_num, hlt, by rw [HSK.out]; exact HT.out, HA.out, HBB.out⟩
            case measure => simp [intOf]; omega
        · have hkn : n = k := by omega
          subst hkn
          have k1 : ¬ ((n : Int) < (n : Int)) := by omega
          go_wp2
          rw [← HQ2.out]
          go_wp2
          go_ret
          exact ⟨g, rfl, by omega, HT.out, HBB.out⟩
end Go.Proofs.YtdbgcbkmcbgdiaaGreat.mem

namespace Go.Proofs.YtdbgcbkmcbgdiaaGreat.mem
open Go.RowKit
set_option linter.unusedVariables false

noncomputable def conB (n : Nat) (N : Nat → Nod) (m : Nat) (P : Nat → Pip) : Bool := netB n N m P && decide (cnt n P m = 1)
set_option maxRecDepth 100000 in
set_option maxHeartbeats 4000000 in
theorem l04Count_any (w : World) (v : Value) (n : Nat) (N : Nat → Nod) (m : Nat) (P : Nat → Pip) (lo hi : Nat) (h : NetAt w v n N m P lo hi) (hhi : hi ≤ w.heap.size) (hN : ∀ i, i < n → (N i).s.size ≤ 9223372036854775807) (hB : netB n N m P = true) :
    Calls Tryz.prog 88 #[v] w fun e w' => e = .returned (.int .i64 (cnt n P m : Nat)) ∧ Below w.heap.size w w' := by
  obtain ⟨p0, c0, p1, c1, rfl, hn9, hm9⟩ := h.parts
  obtain ⟨hn1, hn24, hm40⟩ := net_sz hB
  have HV := Lib.hid h
  have HN := Lib.hid hN
  have HB := Lib.hid hB
  have B0 := below_new w (.cells #[.slice p0 n c0, .slice p1 m c1] 27)
  have hs0 : (w.alloc (.cells #[.slice p0 n c0, .slice p1 m c1] 27)).heap.size = w.heap.size + 1 := by simp
  clear h hN hB
  go_enter Tryz.func88, Tryz.ntmps88
  go_wp2_with fail
  refine (l04Components_any _ _ n N m P lo hi (HV.out.below B0 hhi) (by omega) HN.out HB.out).mono ?_
  rintro e w3 ⟨g, rfl, hg, ot, b3⟩
  have HT := Lib.hid ot
  have HB3 := Lib.hid (B0.trans (b3.mono (by omega)))
  clear ot b3 B0 hs0
  go_wp2_with fail
  go_loopw [4, 5] (fun cv iv wr => ∃ k : Nat, iv = .int .i64 k ∧ k ≤ n ∧ cv = .int .i64 ((fl (rts n P m) k).length : Nat) ∧ Ob wr g n (tabC (cmp n P m n)) ∧ Below w.heap.size w wr) (fun _ iv _ => n - (intOf iv).toNat)
  case atStart => exact ⟨0, rfl, Nat.zero_le _, rfl, HT.out, HB3.out⟩
  case round =>
    obtain ⟨k, rfl, hk, rfl, ht, hb⟩ := hrel
    clear HT HB3
    have HT := Lib.hid ht
    have HBB := Lib.hid hb
    clear ht hb
    have k0 : (0 : Int) ≤ (k : Int) := Int.natCast_nonneg _
    have hfl := fl_le (rts n P m) k
    generalize hQ : Exit.then _ _ = Q
    have HQ := Lib.hid hQ
    clear hQ
    by_cases hlt : k < n
    · have k1 : (k : Int) < (n : Int) := by omega
      have y0 : wr.cell? ⟨g, k, none⟩ = some (.int .i64 (cmp n P m n k)) := HT.out.cell k hlt
      have HRE := Lib.hid (rts_eq n P m k)
      have hcm : (cmp n P m n k == ((k : Nat) : Int)) = (((k : Nat) : Int) == cmp n P m n k) := by rw [Bool.eq_iff_iff, beq_iff_eq, beq_iff_eq]; exact ⟨fun h => h.symm, fun h => h.symm⟩
      cases hr : rts n P m k
      · have hb1 : (cmp n P m n k == ((k : Nat) : Int)) = false := by rw [hcm, HRE.out, hr]
        have HR := Lib.hid (fl_no hr)
        clear hr hcm
        go_wp2_with fail
        rw [← HQ.out]
        refine ⟨⟨_, _, _, _, _, _, _, _, _, _, _, _, _, _, _, _, ?rel, rfl⟩, ?measure⟩
        case rel => exact ⟨k + 1, by go_num, hlt, by rw [HR.out], HT.out, HBB.out⟩
        case measure => simp [intOf]; omega
      · have hb1 : (cmp n P m n k == ((k : Nat) : Int)) = true := by rw [hcm, HRE.out, hr]
        have HR := Lib.hid (fl_yes hr)
        have HC := Lib.hid (show cmp n P m n k = (k : Int) by rw [beq_iff_eq] at hb1; exact hb1)
        rw [HC.out] at y0
        clear hr hcm hb1
        go_wp2_with fail
        rw [← HQ.out]
        refine ⟨⟨_, _, _, _, _, _, _, _, _, _, _, _, _, _, _, _, ?rel, rfl⟩, ?measure⟩
        case rel => exact ⟨k + 1, by go_num, hlt, by rw [HR.out, List.length_append, List.length_singleton]; go_num, HT.out, HBB.out⟩
        case measure => simp [intOf]; omega
    · have hkn : n = k := by omega
      subst hkn
      have k1 : ¬ ((n : Int) < (n : Int)) := by omega
      go_wp2
      rw [← HQ.out]
      go_wp2
      go_ret
      exact ⟨rfl, HBB.out⟩
set_option maxRecDepth 100000 in
set_option maxHeartbeats 4000000 in
theorem isConnectedI_any (w : World) (v : Value) (n : Nat) (N : Nat → Nod) (m : Nat) (P : Nat → Pip) (lo hi : Nat) (h : NetAt w v n N m P lo hi) (hhi : hi ≤ w.heap.size) (hN : ∀ i, i < n → (N i).s.size ≤ 9223372036854775807) :
    Calls Tryz.prog 108 #[v] w (BPost w (conB n N m P)) := by
  obtain ⟨p0, c0, p1, c1, rfl, hn9, hm9⟩ := h.parts
  have HV := Lib.hid h
  have HN := Lib.hid hN
  have A0 := boxed w (.slice p0 n c0) (.slice p1 m c1) 27
  have B0 := below_new w (.cells #[.slice p0 n c0, .slice p1 m c1] 27)
  have hs0 : (w.alloc (.cells #[.slice p0 n c0, .slice p1 m c1] 27)).heap.size = w.heap.size + 1 := by simp
  clear h hN
  go_enter Tryz.func108, Tryz.ntmps108
  go_wp2_with fail
  refine (isNetwork_any _ _ n N m P lo hi (HV.out.below B0 hhi) (by omega) HN.out).mono ?_
  rintro e w2 ⟨rfl, b2⟩
  have A2 := A0.below b2 (by omega)
  have B2 := B0.trans (b2.mono (by omega))
  have hs2 := b2.size
  have e0 := A2.b0
  have e1 := A2.b1
  have e2 : w.heap.size < w2.heap.size := by omega
  clear A0 B0 b2
  cases hB : netB n N m P
  · have H2 := Lib.hid (show conB n N m P = false by unfold conB; rw [hB]; rfl)
    clear hB
    go_wp2_with fail
    go_ret
    exact ⟨ret_b H2.out.symm, B2⟩
  · have H2 := Lib.hid (show conB n N m P = decide (cnt n P m = 1) by unfold conB; rw [hB]; rfl)
    have HB := Lib.hid hB
    have hcl := cnt_le n P m
    have hn24 := (net_sz hB).2.1
    clear hB
    go_wp2_with fail
    refine (leastNodes_any _ _ n N m P lo hi (HV.out.below B2 hhi) (by omega) HB.out).mono ?_
    rintro e w3 ⟨v3, g, rfl, o3, hg, b3⟩
    obtain ⟨c3, rfl⟩ := o3.shape
    have B3 := B2.trans (b3.mono (by omega))
    clear b3 o3
    have hd : ((((cnt n P m : Nat) : Int)) == 1) = conB n N m P := by
      rw [H2.out, Bool.eq_iff_iff]
      simp only [beq_iff_eq, decide_eq_true_eq]
      omega
    have HD := Lib.hid hd
    clear hd
    go_wp2_with fail
    go_ret
    exact ⟨ret_b HD.out, B3⟩
end Go.Proofs.YtdbgcbkmcbgdiaaGreat.mem

namespace Go.Proofs.YtdbgcbkmcbgdiaaGreat.mem
open Go.RowKit
set_option linter.unusedVariables false
theorem grow_below (w : World) (os : Array Obj) : Below w.heap.size w (Go.Sort.grow w os) := by
  refine ⟨rfl, rfl, rfl, ?_, fun k hk => ?_⟩
  · show w.heap.size ≤ (w.heap ++ os).size
    simp
  · show (w.heap ++ os)[k]? = _
    rw [Array.getElem?_append_left hk]
/-- the numbers of an own slice are sorted; what was made beside is new -/
theorem sort_any (w : World) (v : Value) (n : Nat) (d : Nat → Int) (g : Nat) (h : Own w v n d g) (hn : n ≤ 1000000) :
    Calls Tryz.prog 154 #[v] w fun e w' => e = .returned (.tuple #[]) ∧ Own w' v n (fun k => (((dl n d).mergeSort fun x y => decide (x ≤ y))[k]?).getD 0) g ∧ Upd (fun b => b = g) w w' := by
  obtain ⟨cap, rfl⟩ := h.shape
  have hc := AnyM.slices_Sort_int Tryz.srt g 0 cap (dl n d) w h.holds h.lt (by rw [dl_len]; omega)
  rw [dl_len] at hc
  refine hc.mono ?_
  rintro e w' ⟨he, q, os, rfl⟩
  obtain ⟨h1, h2⟩ := h.put q ((dl n d).mergeSort fun x y => decide (x ≤ y)) (by rw [List.length_mergeSort, dl_len])
  have hb := grow_below (Go.Sort.putRow (Value.int .i64) (Go.Sort.ahead w q) g 0 ((dl n d).mergeSort fun x y => decide (x ≤ y)).toArray) os
  exact ⟨he, h1.keep (hb.block g h1.lt), (Upd.of_only h2).trans (Upd.of_below hb)⟩
end Go.Proofs.YtdbgcbkmcbgdiaaGreat.mem

namespace Go.Proofs.YtdbgcbkmcbgdiaaGreat.mem
open Go.RowKit
set_option linter.unusedVariables false
attribute [local go_sem] Oper.semAt_some

/-- a list's elements, as a function -/
def lD (l : List Int) (k : Nat) : Int := (l[k]?).getD 0
theorem lD_app (l : List Int) (x : Int) (k : Nat) : upd (lD l) l.length x k = if k < l.length + 1 then lD (l ++ [x]) k else upd (lD l) l.length x k := by
  split
  · next h =>
    unfold upd lD
    by_cases e : k = l.length
    · subst e; simp
    · rw [if_neg e, List.getElem?_append_left (by omega)]
  · rfl
theorem dl_lD (l : List Int) : dl l.length (lD l) = l := by
  apply List.ext_getElem?
  intro k
  by_cases h : k < l.length
  · rw [dl_get _ h]
    unfold lD
    rw [List.getElem?_eq_getElem h]
    rfl
  · rw [List.getElem?_eq_none (by rw [dl_len]; omega), List.getElem?_eq_none (by omega)]
theorem fcol_snoc (n : Nat) (P : Nat → Pip) (m : Nat) (rs : List Nat) (r : Nat) : fcol n P m (rs ++ [r]) = fcol n P m rs ++ ens (vis n P m ((r : Nat) : Int)) := by
  unfold fcol
  simp

end Go.Proofs.YtdbgcbkmcbgdiaaGreat.mem

namespace Go.Proofs.YtdbgcbkmcbgdiaaGreat.mem
open Go.RowKit
set_option linter.unusedVariables false

theorem vval_mem {f : Vs → Int} {fs : List Vs} {y : Int} (h : vval f fs y ≠ -1) : ∃ v ∈ fs, v.nd = y ∧ vval f fs y = f v := by
  unfold vval at h ⊢
  cases hq : fs.find? (fun v => v.nd == y) with
  | none => rw [hq] at h; exact absurd rfl h
  | some v =>
    refine ⟨v, List.mem_of_find?_eq_some hq, ?_, rfl⟩
    have := List.find?_some hq
    simpa using this
theorem Vok.en_rng {n : Nat} {P : Nat → Pip} {m : Nat} {x : Int} {fs : List Vs} (h : Vok n P m x fs) (y : Int) : vval (·.en) fs y = -1 ∨ ∃ c : Nat, c < m ∧ vval (·.en) fs y = ((c : Nat) : Int) := by
  by_cases e : vval (·.en) fs y = -1
  · exact .inl e
  · right
    obtain ⟨v, hv, hnd, hvv⟩ := vval_mem e
    obtain ⟨i, hi, rfl⟩ := List.mem_iff_getElem.1 hv
    have hg : fs[i]? = some fs[i] := List.getElem?_eq_getElem hi
    rcases Nat.eq_zero_or_pos i with rfl | h0
    · have := h.fst
      rw [hg] at this
      injection this with this
      rw [hvv, this] at e
      exact absurd rfl e
    · obtain ⟨j, u, c, _, _, hc, he, _⟩ := h.par i _ h0 hg
      exact ⟨c, hc, hvv.trans he⟩
/-- pipe c is the entry of one of the first k nodes -/
def inE (fs : List Vs) (k : Nat) (c : Nat) : Bool := (List.range k).any (fun j => vval (·.en) fs ((j : Nat) : Int) == ((c : Nat) : Int))
theorem inE_succ (fs : List Vs) (k c : Nat) : inE fs (k + 1) c = (inE fs k c || (vval (·.en) fs ((k : Nat) : Int) == ((c : Nat) : Int))) := by
  unfold inE
  rw [List.range_succ, List.any_append]
  simp
theorem Vok.inE_all {n : Nat} {P : Nat → Pip} {m : Nat} {x : Int} {fs : List Vs} (h : Vok n P m x fs) (c : Nat) : inE fs n c = (ens fs).contains ((c : Nat) : Int) := by
  rw [Bool.eq_iff_iff]
  unfold inE
  simp only [List.any_eq_true, List.mem_range, beq_iff_eq, List.contains_iff_mem]
  constructor
  · rintro ⟨j, hj, e⟩
    obtain ⟨v, hv, hnd, hvv⟩ := vval_mem (f := (·.en)) (fs := fs) (y := ((j : Nat) : Int)) (by omega)
    exact ens_mem.2 ⟨v, hv, by rw [← hvv, e], by omega⟩
  · intro hm
    obtain ⟨v, hv, e, hne⟩ := ens_mem.1 hm
    obtain ⟨i, hi, rfl⟩ := List.mem_iff_getElem.1 hv
    obtain ⟨h1, h2⟩ := h.rng _ hv
    obtain ⟨Z, hZ⟩ := Int.eq_ofNat_of_zero_le h1
    refine ⟨Z, by omega, ?_⟩
    rw [← hZ, h.val (·.en) (List.getElem?_eq_getElem hi), e]
theorem inF_snoc (n : Nat) (P : Nat → Pip) (m : Nat) (rs : List Nat) (r c : Nat) : inF n P m (rs ++ [r]) c = (inF n P m rs c || (ens (vis n P m ((r : Nat) : Int))).contains ((c : Nat) : Int)) := by
  unfold inF
  rw [fcol_snoc, Bool.eq_iff_iff]
  simp only [List.contains_iff_mem, List.mem_append, Bool.or_eq_true]
def flgC (p : Nat → Bool) : Nat → Value := fun a => .bool (p a)
theorem flgC_set {w : World} {b n : Nat} {p q : Nat → Bool} (h : Ob w b n (flgC p)) (k : Nat) (hk : k < n) (e : ∀ a, q a = (p a || (k == a))) : Ob (w.setCell ⟨b, k, none⟩ (.bool true)) b n (flgC q) := by
  refine (h.set k (.bool true) hk).congr fun j hj => ?_
  unfold updV flgC
  rw [e j]
  by_cases hjk : j = k
  · subst hjk; simp
  · rw [if_neg hjk]
    have : (k == j) = false := by rw [beq_eq_false_iff_ne]; omega
    rw [this, Bool.or_false]
theorem forest_len (n : Nat) (P : Nat → Pip) (m : Nat) : (forest n P m).length = (fl (inF n P m (fl (rts n P m) n)) m).length := by unfold forest; rw [List.length_map]
theorem forest_lD (n : Nat) (P : Nat → Pip) (m k : Nat) (hk : k < (fl (inF n P m (fl (rts n P m) n)) m).length) : fd (inF n P m (fl (rts n P m) n)) m k = lD (forest n P m) k := by
  unfold fd lD forest
  rw [List.getElem?_map, List.getElem?_eq_getElem hk]
  rfl
theorem forest_le (n : Nat) (P : Nat → Pip) (m : Nat) : (forest n P m).length ≤ m := by rw [forest_len]; exact fl_le _ _

set_option maxRecDepth 100000 in
set_option maxHeartbeats 4000000 in
theorem l04Forest_any (w : World) (v : Value) (n : Nat) (N : Nat → Nod) (m : Nat) (P : Nat → Pip) (lo hi : Nat) (h : NetAt w v n N m P lo hi) (hhi : hi ≤ w.heap.size) (hN : ∀ i, i < n → (N i).s.size ≤ 9223372036854775807) (hB : netB n N m P = true) :
    Calls Tryz.prog 156 #[v] w fun e w' => ∃ v2 g, e = .returned v2 ∧ w.heap.size ≤ g ∧ Own w' v2 (forest n P m).length (lD (forest n P m)) g ∧ Below w.heap.size w w' := by
  obtain ⟨p0, c0, p1, c1, rfl, hn9, hm9⟩ := h.parts
  obtain ⟨hn1, hn24, hm40⟩ := net_sz hB
  have HV := Lib.hid h
  have HN := Lib.hid hN
  have HB := Lib.hid hB
  have A0 := boxed w (.slice p0 n c0) (.slice p1 m c1) 27
  have B0 := below_new w (.cells #[.slice p0 n c0, .slice p1 m c1] 27)
  have HOK := Lib.hid (fun (X0 : Nat) (hX : X0 < n) => vis_ok (P := P) (m := m) (x := ((X0 : Nat) : Int)) hB ⟨Int.natCast_nonneg _, by omega⟩)
  obtain ⟨w1, hw1⟩ : ∃ w1, w.alloc (.cells #[.slice p0 n c0, .slice p1 m c1] 27) = w1 := ⟨_, rfl⟩
  have hs1 : w1.heap.size = w.heap.size + 1 := by rw [← hw1]; simp
  rw [hw1] at A0 B0
  have O1 := ob_falses w1 m 4
  obtain ⟨w2, hw2⟩ : ∃ w2, w1.alloc (.cells (falses m) 4) = w2 := ⟨_, rfl⟩
  have hs2 : w2.heap.size = w.heap.size + 2 := by rw [← hw2]; simp [hs1]
  have b2 : Below w1.heap.size w1 w2 := by rw [← hw2]; exact below_new _ _
  rw [hw2] at O1
  rw [hs1] at O1
  have HA := Lib.hid (A0.below b2 (by omega))
  have HG := Lib.hid (O1.congr (e := flgC (inF n P m [])) (fun k hk => rfl))
  have HBB := Lib.hid (B0.trans (b2.mono (by omega)))
  have e0 : w1.cell? ⟨w.heap.size, 1, none⟩ = some (.slice p1 m c1) := A0.b1
  have e1 : w.heap.size < w1.heap.size := by omega
  have m1 := fun W => make_bool W m (by omega)
  have f0 : w2.cell? ⟨w.heap.size, 0, none⟩ = some (.slice p0 n c0) := HA.out.b0
  have f1 : w2.cell? ⟨w.heap.size, 1, none⟩ = some (.slice p1 m c1) := HA.out.b1
  have f2 : w.heap.size < w2.heap.size := by omega
  clear h hN hB A0 B0 O1 b2 hs1
  subst hw2 hw1
  go_enter Tryz.func156, Tryz.ntmps156
  go_wp2_with fail
  generalize hW : (w.alloc (Obj.cells #[Value.slice p0 n c0, Value.slice p1 m c1] 27)).alloc (Obj.cells (falses m) 4) = w3 at *
  clear hW e0 e1 m1 f0 f1
  refine (l04Components_any _ _ n N m P lo hi (HV.out.below HBB.out hhi) (by omega) HN.out HB.out).mono ?_
  rintro e w4 ⟨gc, rfl, hgc, oc, b4⟩
  obtain ⟨gi, hgi⟩ : ∃ gi, w.heap.size + 1 = gi := ⟨_, rfl⟩
  rw [hgi] at HG
  have hgw : w.heap.size < gi := by omega
  have HC := Lib.hid oc
  have HG4 := Lib.hid (HG.out.below b4 (by omega))
  have HA4 := Lib.hid (HA.out.below b4 (by omega))
  have HB4 := Lib.hid (HBB.out.trans (b4.mono (by omega)))
  have hgc2 : gi < gc := by omega
  have hs4 := b4.size
  rw [hgi]
  clear hgi oc b4 HG HA HBB hgc
  go_wp2
  go_loopw [5] (fun i wr => ∃ k : Nat, i = .int .i64 k ∧ k ≤ n ∧ Ob wr gi m (flgC (inF n P m (fl (rts n P m) k))) ∧ Ob wr gc n (tabC (cmp n P m n)) ∧ Ob wr w.heap.size 2 (bx (.slice p0 n c0) (.slice p1 m c1)) ∧ Below w.heap.size w wr) (fun i _ => n - (intOf i).toNat)
  case atStart => exact ⟨0, rfl, Nat.zero_le _, HG4.out, HC.out, HA4.out, HB4.out⟩
  case round =>
    obtain ⟨k, rfl, hk, hg, hc, ha, hb⟩ := hrel
    clear HG4 HC HA4 HB4
    have HG := Lib.hid hg
    have HC := Lib.hid hc
    have HA := Lib.hid ha
    have HBB := Lib.hid hb
    have lg := hg.lt
    have lc := hc.lt
    have la := ha.lt
    clear hg hc ha hb
    have k0 : (0 : Int) ≤ (k : Int) := Int.natCast_nonneg _
    generalize hQ : Exit.then _ _ = Q
    have HQ := Lib.hid hQ
    clear hQ
    by_cases hlt : k < n
    · have k1 : (k : Int) < (n : Int) := by omega
      have y0 : wr.cell? ⟨gc, k, none⟩ = some (.int .i64 (cmp n P m n k)) := HC.out.cell k hlt
      have HRE := Lib.hid (rts_eq n P m k)
      cases hr : rts n P m k
      · have hb1 : (cmp n P m n k != ((k : Nat) : Int)) = true := by
          have := HRE.out
          rw [hr, beq_eq_false_iff_ne] at this
          simpa using fun e => this e.symm
        have HR := Lib.hid (fl_no hr)
        clear hr
        go_wp2
        rw [← HQ.out]
        refine ⟨⟨_, _, _, _, _, _, _, _, _, _, _, _, _, _, _, _, _, _, _, _, _, _, _, _, _, _, _, _, _, _, _, _, _, _, _, _, _, _, _, ?rel, rfl⟩, ?measure⟩
        case rel => exact ⟨k + 1, by go_num, hlt, by rw [HR.out]; exact HG.out, HC.out, HA.out, HBB.out⟩
        case measure => simp [intOf]; omega
      · have hce : cmp n P m n k = ((k : Nat) : Int) := by
          have := HRE.out
          rw [hr, beq_iff_eq] at this
          exact this.symm
        have hb1 : (cmp n P m n k != ((k : Nat) : Int)) = false := by simp [hce]
        have HR := Lib.hid (fl_yes hr)
        have y1 : wr.cell? ⟨w.heap.size, 0, none⟩ = some (.slice p0 n c0) := HA.out.b0
        have y2 : wr.cell? ⟨w.heap.size, 1, none⟩ = some (.slice p1 m c1) := HA.out.b1
        clear hr hce
        go_wp2_with fail
        refine (l04Search_any _ _ n N m P lo hi (HV.out.below HBB.out hhi) (by omega) HN.out HB.out k hlt).mono ?_
        rintro e w5 ⟨v2, g2, rfl, oe, oo, hg2, b5⟩
        have ok := HOK.out k hlt
        have HENR := Lib.hid (fun y => ok.en_rng y)
        have HALL := Lib.hid (fun c => ok.inE_all c)
        have HSN := Lib.hid (fun c => inF_snoc n P m (fl (rts n P m) k) k c)
        generalize hq : vis n P m ((k : Nat) : Int) = fs at *
        obtain ⟨ge, hge⟩ : ∃ ge, wr.heap.size + 1 = ge := ⟨_, rfl⟩
        rw [hge] at oe
        rw [hge]
        have hgne : gi < ge := by omega
        have HG5 := Lib.hid ((HG.out.below b5 lg).congr (e := flgC (fun a => inF n P m (fl (rts n P m) k) a || inE fs 0 a)) (fun j hj => by unfold flgC; simp [inE]))
        have HC5 := Lib.hid (HC.out.below b5 lc)
        have HA5 := Lib.hid (HA.out.below b5 la)
        have HB5 := Lib.hid (HBB.out.trans (b5.mono (by omega)))
        have HE5 := Lib.hid oe
        clear hq oe oo b5 y0 y1 y2 ok hge
        go_wp2
        go_loopw [8] (fun i wr => ∃ j : Nat, i = .int .i64 j ∧ j ≤ n ∧ Ob wr gi m (flgC (fun a => inF n P m (fl (rts n P m) k) a || inE fs j a)) ∧ Ob wr ge n (tabC (vval (·.en) fs)) ∧ Ob wr gc n (tabC (cmp n P m n)) ∧ Ob wr w.heap.size 2 (bx (.slice p0 n c0) (.slice p1 m c1)) ∧ Below w.heap.size w wr) (fun i _ => n - (intOf i).toNat)
        case atStart => exact ⟨0, rfl, Nat.zero_le _, HG5.out, HE5.out, HC5.out, HA5.out, HB5.out⟩
        case round =>
          clear HG5 HE5 HC5 HA5 HB5 HG HC HA HBB lg lc la
          obtain ⟨j, rfl, hj, hg, he, hc, ha, hb⟩ := hrel
          have HG := Lib.hid hg
          have HE := Lib.hid he
          have HC := Lib.hid hc
          have HA := Lib.hid ha
          have HBB := Lib.hid hb
          clear hg he hc ha hb
          have j0 : (0 : Int) ≤ (j : Int) := Int.natCast_nonneg _
          generalize hQ3 : Exit.then _ _ = Q3
          have HQ3 := Lib.hid hQ3
          clear hQ3
          by_cases hjl : j < n
          · have j1 : (j : Int) < (n : Int) := by omega
            have y0 : wr.cell? ⟨ge, j, none⟩ = some (.int .i64 (vval (·.en) fs ((j : Nat) : Int))) := HE.out.cell j hjl
            have HIS := Lib.hid (fun c => inE_succ fs j c)
            rcases HENR.out ((j : Nat) : Int) with hen | ⟨c, hcm, hen⟩
            · rw [hen] at y0
              have HG6 := Lib.hid (HG.out.congr (e := flgC (fun a => inF n P m (fl (rts n P m) k) a || inE fs (j + 1) a)) (fun a ha => by
                show Value.bool (inF n P m (fl (rts n P m) k) a || inE fs j a) = Value.bool (inF n P m (fl (rts n P m) k) a || inE fs (j + 1) a)
                have h3 : ((-1 : Int) == ((a : Nat) : Int)) = false := by rw [beq_eq_false_iff_ne]; omega
                rw [HIS.out a, hen, h3, Bool.or_false]))
              clear hen
              go_wp2
              rw [← HQ3.out]
              refine ⟨⟨_, _, _, _, _, _, _, _, _, _, _, _, _, _, _, _, _, _, ?rel, rfl⟩, ?measure⟩
              case rel => exact ⟨j + 1, by go_num, hjl, HG6.out, HE.out, HC.out, HA.out, HBB.out⟩
              case measure => simp [intOf]; omega
            · rw [hen] at y0
              have y1 : wr.cell? ⟨gi, c, none⟩ = some (flgC (fun a => inF n P m (fl (rts n P m) k) a || inE fs j a) c) := HG.out.cell c hcm
              have y2 : wr.frozen? ⟨gi, c, none⟩ = false := HG.out.free c
              have z0 : (0 : Int) ≤ (c : Int) := Int.natCast_nonneg _
              have z1 : (c : Int) < (m : Int) := by omega
              have o1 := (Only.refl gi wr).setCell c (.bool true)
              have HG6 := Lib.hid (flgC_set (q := fun a => inF n P m (fl (rts n P m) k) a || inE fs (j + 1) a) HG.out c hcm (fun a => by
                have h3 : (((c : Nat) : Int) == ((a : Nat) : Int)) = (c == a) := by rw [Bool.eq_iff_iff]; simp only [beq_iff_eq]; omega
                show (_ || inE fs (j + 1) a) = _
                rw [HIS.out a, hen, h3, Bool.or_assoc]))
              clear hen
              go_wp2
              rw [← HQ3.out]
              refine ⟨⟨_, _, _, _, _, _, _, _, _, _, _, _, _, _, _, _, _, _, ?rel, rfl⟩, ?measure⟩
              case rel => exact ⟨j + 1, by go_num, hjl, HG6.out, HE.out.only o1 (by omega), HC.out.only o1 (by omega), HA.out.only o1 (by omega), HBB.out.trans (o1.below (by omega))⟩
              case measure => simp [intOf]; omega
          · have hjn : j = n := by omega
            subst hjn
            have j1 : ¬ ((j : Int) < (j : Int)) := by omega
            have HG6 := Lib.hid (HG.out.congr (e := flgC (inF j P m (fl (rts j P m) (k + 1)))) (fun a ha => by
              show Value.bool (inF j P m (fl (rts j P m) k) a || inE fs j a) = Value.bool (inF j P m (fl (rts j P m) (k + 1)) a)
              rw [HR.out, HSN.out a, HALL.out a]))
            go_wp2
            rw [← HQ3.out]
            go_wp2
            rw [← HQ.out]
            refine ⟨⟨_, _, _, _, _, _, _, _, _, _, _, _, _, _, _, _, _, _, _, _, _, _, _, _, _, _, _, _, _, _, _, _, _, _, _, _, _, _, _, ?rel, rfl⟩, ?measure⟩
            case rel => exact ⟨k + 1, by go_num, hlt, HG6.out, HC.out, HA.out, HBB.out⟩
            case measure => simp [intOf]; omega
    · have hkn : n = k := by omega
      subst hkn
      have k1 : ¬ ((n : Int) < (n : Int)) := by omega
      have HFL := Lib.hid (forest_len n P m)
      have HFD := Lib.hid (fun k hk => forest_lD n P m k hk)
      generalize hp : inF n P m (fl (rts n P m) n) = p at *
      have HO := Lib.hid (Own.nilled wr (fd p 0))
      have HG6 := Lib.hid (HG.out.keep (Below.heap_alloc wr (.cells #[] 2) _ lg))
      have HB6 : Hid (Below w.heap.size w (wr.alloc (.cells #[] 2))) := Lib.hid (below_alloc HBB.out (by omega) _)
      clear hp HG HC HA HBB
      go_wp2
      rw [← HQ.out]
      go_wp2
      generalize hW6 : wr.alloc (.cells #[] 2) = w6 at *
      clear hW6
      go_loopw [9, 10] (fun ov iv wr => ∃ (k g : Nat) (ov' : Value), ov' = ov ∧ iv = .int .i64 k ∧ k ≤ m ∧ Own wr ov' (fl p k).length (fd p k) g ∧ w.heap.size ≤ g ∧ g ≠ gi ∧ Ob wr gi m (flgC p) ∧ Below w.heap.size w wr) (fun _ iv _ => m - (intOf iv).toNat)
      case atStart => exact ⟨0, _, _, rfl, rfl, Nat.zero_le _, HO.out, by omega, by omega, HG6.out, HB6.out⟩
      case round =>
        obtain ⟨k, g, ov, rfl, rfl, hk, ho, hgg, hne, hg, hb⟩ := hrel
        obtain ⟨co, rfl⟩ := ho.shape
        clear HO HG6 HB6 lg lc la k0 k1
        have HO := Lib.hid ho
        have HG := Lib.hid hg
        have HBB := Lib.hid hb
        have lo := ho.lt
        have lg := hg.lt
        clear ho hg hb
        have k0 : (0 : Int) ≤ (k : Int) := Int.natCast_nonneg _
        generalize hQ3 : Exit.then _ _ = Q3
        have HQ3 := Lib.hid hQ3
        clear hQ3
        by_cases hlt : k < m
        · have k1 : (k : Int) < (m : Int) := by omega
          have y0 : wr.cell? ⟨gi, k, none⟩ = some (.bool (p k)) := HG.out.cell k hlt
          cases hp : p k
          · rw [hp] at y0
            have HP := Lib.hid hp
            clear hp
            go_wp2
            rw [← HQ3.out]
            refine ⟨⟨_, _, _, _, _, _, _, _, _, _, _, _, _, _, _, _, ?rel, rfl⟩, ?measure⟩
            case rel => exact ⟨k + 1, g, _, rfl, by go_num, hlt, fl_keep HP.out HO.out, hgg, hne, HG.out, HBB.out⟩
            case measure => simp [intOf]; omega
          · rw [hp] at y0
            have HP := Lib.hid hp
            clear hp
            obtain ⟨v7, w7, g7, hr, ap⟩ := coll_run wr _ p k g HO.out (by omega)
            have Y := Lib.hid (coll_below ap (B := w.heap.size) hgg lo)
            have O7 := Lib.hid (fl_app HP.out ap)
            have hoth := ap.other (c := gi) (by omega) (by rw [szal]; omega)
            have HG7 := Lib.hid ((HG.out.keep (Below.heap_alloc _ (.cells #[.int .i64 (k : Nat)] 2) _ lg)).keep hoth.1)
            have hne7 := hoth.2
            have hg7 := Y.out.2.1
            clear ap hoth
            go_wp2_with (at_builtin; refine wpList_app hr rfl _ _ rfl rfl rfl rfl ?_)
            rw [← HQ3.out]
            refine ⟨⟨_, _, _, _, _, _, _, _, _, _, _, _, _, _, _, _, ?rel, rfl⟩, ?measure⟩
            case rel => exact ⟨k + 1, g7, _, rfl, by go_num, hlt, O7.out, hg7, fun e => hne7 e.symm, HG7.out, HBB.out.trans Y.out.1⟩
            case measure => simp [intOf]; omega
        · have hkn : m = k := by omega
          subst hkn
          have k1 : ¬ ((m : Int) < (m : Int)) := by omega
          go_wp2
          rw [← HQ3.out]
          go_wp2
          go_ret
          refine ⟨_, g, rfl, hgg, ?_, HBB.out⟩
          rw [HFL.out]
          exact HO.out.congr (fun k hk => HFD.out k hk)
end Go.Proofs.YtdbgcbkmcbgdiaaGreat.mem

namespace Go.Proofs.YtdbgcbkmcbgdiaaGreat.mem
open Go.RowKit
set_option linter.unusedVariables false

/-- a component once given stays given -/
theorem cmp_stay {n : Nat} {P : Nat → Pip} {m k : Nat} {y : Int} (h : cmp n P m k y ≠ -1) : ∀ j, cmp n P m (k + j) y ≠ -1
  | 0 => h
  | j + 1 => by
    have ih := cmp_stay h j
    rw [← Nat.add_assoc, cmp_succ]
    split
    · omega
    · exact ih
theorem vis_sym {n : Nat} {N : Nat → Nod} {P : Nat → Pip} {m : Nat} (hN : netB n N m P = true) {a b : Nat} (ha : a < n) (hb : b < n) (h : vhas (vis n P m (a : Nat)) (b : Nat) = true) : vhas (vis n P m (b : Nat)) (a : Nat) = true := by
  obtain ⟨i, v, hv, hvn⟩ := vhas_get h
  exact vis_meet (x := ((b : Nat) : Int)) (y := ((a : Nat) : Int)) hN (by omega) (by omega) i v hv (by rw [hvn]; exact vis_self n P m _)
/-- a node that no smaller one leads to is a root -/
theorem open_rts {n : Nat} {N : Nat → Nod} {P : Nat → Pip} {m : Nat} (hN : netB n N m P = true) {k : Nat} (hk : k < n) (h : cmp n P m k k = -1) : rts n P m k = true := by
  have key : ∀ j, k + 1 + j ≤ n → cmp n P m (k + 1 + j) k = (k : Nat) := by
    intro j
    induction j with
    | zero => intro _; show cmp n P m (k + 1) k = _; rw [cmp_take h, if_pos (vis_self n P m _)]
    | succ j ih =>
      intro hj
      rw [← Nat.add_assoc, cmp_succ]
      split
      · next hc =>
        exfalso
        have h1 := vis_sym hN (by omega) hk hc.2
        have h2 : cmp n P m (k + 1) ((k + 1 + j : Nat) : Int) ≠ -1 := by rw [cmp_take h, if_pos h1]; omega
        exact cmp_stay h2 j hc.1
      · exact ih (by omega)
  unfold rts
  rw [decide_eq_true_eq]
  have := key (n - (k + 1)) (by omega)
  rw [show k + 1 + (n - (k + 1)) = n by omega] at this
  exact this
/-- every node lies in the search of a root -/
theorem cmp_some {n : Nat} {N : Nat → Nod} {P : Nat → Pip} {m : Nat} (hN : netB n N m P = true) : ∀ (t : Nat), t ≤ n → ∀ y, cmp n P m t y ≠ -1 → ∃ r, r < t ∧ rts n P m r = true ∧ vhas (vis n P m (r : Nat)) y = true
  | 0, _, y, h => absurd rfl h
  | t + 1, ht, y, h => by
    rw [cmp_succ] at h
    split at h
    · next hc => exact ⟨t, by omega, open_rts hN (by omega) hc.1, hc.2⟩
    · obtain ⟨r, h1, h2⟩ := cmp_some hN t (by omega) y h
      exact ⟨r, by omega, h2⟩
theorem root_of {n : Nat} {N : Nat → Nod} {P : Nat → Pip} {m : Nat} (hN : netB n N m P = true) {k : Nat} (hk : k < n) : ∃ r, r < n ∧ rts n P m r = true ∧ vhas (vis n P m (r : Nat)) (k : Nat) = true := by
  refine cmp_some hN n (Nat.le_refl _) _ ?_
  have h1 : cmp n P m (k + 1) ((k : Nat) : Int) ≠ -1 := by
    by_cases e : cmp n P m k k = -1
    · rw [cmp_take e, if_pos (vis_self n P m _)]
      omega
    · rw [cmp_skip e]
      exact e
  have := cmp_stay h1 (n - (k + 1))
  rw [show k + 1 + (n - (k + 1)) = n by omega] at this
  exact this
/-- the pipes of the forest -/
def frP (n : Nat) (P : Nat → Pip) (m : Nat) (i : Nat) : Pip := P (lD (forest n P m) i).toNat
theorem frP_at {n : Nat} {P : Nat → Pip} {m i : Nat} (hi : i < (forest n P m).length) : ∃ a : Nat, a < m ∧ lD (forest n P m) i = (a : Int) ∧ frP n P m i = P a := by
  have h1 := forest_len n P m
  have h2 := forest_lD n P m i (by omega)
  obtain ⟨h3, h4⟩ := fl_getS (p := inF n P m (fl (rts n P m) n)) (m := m) (i := i) (by omega)
  refine ⟨_, h3, h2.symm, ?_⟩
  unfold frP
  rw [← h2]
  unfold fd
  rw [Int.toNat_natCast]
theorem frP_has {n : Nat} {P : Nat → Pip} {m a : Nat} (ha : a < m) (h : ((a : Nat) : Int) ∈ fcol n P m (fl (rts n P m) n)) : ∃ i, i < (forest n P m).length ∧ frP n P m i = P a := by
  have hm : ((a : Nat) : Int) ∈ forest n P m := by
    unfold forest
    exact List.mem_map.2 ⟨a, fl_mem ha (by unfold inF; simpa using h), rfl⟩
  obtain ⟨i, hi, e⟩ := List.mem_iff_getElem.1 hm
  refine ⟨i, hi, ?_⟩
  unfold frP lD
  rw [List.getElem?_eq_getElem hi, e]
  rfl
theorem net_forest {n : Nat} {N : Nat → Nod} {P : Nat → Pip} {m : Nat} (h : netB n N m P = true) : netB n N (forest n P m).length (frP n P m) = true := by
  have h2 := h
  have hl := forest_le n P m
  unfold netB at h ⊢
  simp only [Bool.and_eq_true] at h ⊢
  refine ⟨⟨szB_iff.2 ?_, h.1.2⟩, pipesB_iff.2 fun j hj => ?_⟩
  · have := szB_iff.1 h.1.1
    exact ⟨this.1, this.2.1, by omega⟩
  · obtain ⟨a, ha, _, e⟩ := frP_at hj
    rw [e]
    exact net_pip h2 ha
theorem vis_less {n : Nat} {N : Nat → Nod} {P : Nat → Pip} {m : Nat} (hN : netB n N m P = true) {r : Nat} (hr : r < n) {y : Int} (hy : vhas (vis n (frP n P m) (forest n P m).length (r : Nat)) y = true) : vhas (vis n P m (r : Nat)) y = true := by
  have ok := vis_ok (P := frP n P m) (m := (forest n P m).length) (x := ((r : Nat) : Int)) (net_forest hN) (by omega)
  obtain ⟨i, v, hv, rfl⟩ := vhas_get hy
  clear hy
  induction i using Nat.strongRecOn generalizing v with
  | _ i ih =>
    rcases Nat.eq_zero_or_pos i with rfl | h0
    · have := ok.fst
      rw [hv] at this
      injection this with this
      rw [this]
      exact vis_self n P m _
    · obtain ⟨j, u, k, hj, hu, hk, _, he, hn, _⟩ := ok.par i v h0 hv
      obtain ⟨a, ha, _, e⟩ := frP_at hk
      rw [e] at he hn
      rw [hn]
      exact vis_closed hN (by omega) (ih j hj u hu) ha he
theorem vis_more {n : Nat} {N : Nat → Nod} {P : Nat → Pip} {m : Nat} (hN : netB n N m P = true) {r : Nat} (hr : r < n) (hroot : rts n P m r = true) {y : Int} (hy : vhas (vis n P m (r : Nat)) y = true) : vhas (vis n (frP n P m) (forest n P m).length (r : Nat)) y = true := by
  have ok := vis_ok (P := P) (m := m) (x := ((r : Nat) : Int)) hN (by omega)
  obtain ⟨i, v, hv, rfl⟩ := vhas_get hy
  clear hy
  induction i using Nat.strongRecOn generalizing v with
  | _ i ih =>
    rcases Nat.eq_zero_or_pos i with rfl | h0
    · have := ok.fst
      rw [hv] at this
      injection this with this
      rw [this]
      exact vis_self n _ _ _
    · obtain ⟨j, u, k, hj, hu, hk, hen, he, hn, _⟩ := ok.par i v h0 hv
      have hm : ((k : Nat) : Int) ∈ fcol n P m (fl (rts n P m) n) := by
        unfold fcol
        refine List.mem_flatMap.2 ⟨r, fl_mem hr hroot, ens_mem.2 ⟨v, List.mem_of_getElem? hv, hen, by omega⟩⟩
      obtain ⟨i', hi', e⟩ := frP_has hk hm
      rw [← e] at he hn
      rw [hn]
      exact vis_closed (net_forest hN) (by omega) (ih j hj u hu) hi' he
/-- the forest joins what the network joins -/
theorem cmp_forest {n : Nat} {N : Nat → Nod} {P : Nat → Pip} {m : Nat} (hN : netB n N m P = true) : ∀ (k : Nat), k ≤ n → ∀ y, cmp n (frP n P m) (forest n P m).length k y = cmp n P m k y
  | 0, _, y => rfl
  | k + 1, hk, y => by
    have ih := cmp_forest hN k (by omega)
    rw [cmp_succ, cmp_succ, ih, ih]
    by_cases h : cmp n P m k k = -1
    · have hroot := open_rts hN (by omega) h
      have e : vhas (vis n (frP n P m) (forest n P m).length (k : Nat)) y = vhas (vis n P m (k : Nat)) y := by
        rw [Bool.eq_iff_iff]
        exact ⟨fun g => vis_less hN (by omega) g, fun g => vis_more hN (by omega) hroot g⟩
      rw [e]
    · rw [if_neg (fun g => h g.1), if_neg (fun g => h g.1)]
end Go.Proofs.YtdbgcbkmcbgdiaaGreat.mem

namespace Go.Proofs.YtdbgcbkmcbgdiaaGreat.mem
open Go.RowKit
set_option linter.unusedVariables false

/-- the node that lies j pipes ahead of b on the way to it -/
def anc (P : Nat → Pip) (fs : List Vs) (b : Int) : Nat → Int
  | 0 => b
  | j + 1 => othV (P (vval (·.en) fs (anc P fs b j)).toNat) (anc P fs b j)
theorem Vok.step2 {n : Nat} {N : Nat → Nod} {P : Nat → Pip} {m : Nat} {x : Int} {fs : List Vs} (hN : netB n N m P = true) (h : Vok n P m x fs) {y : Int} (hy : vhas fs y = true) (hne : y ≠ x) :
    ∃ (a : Nat) (u : Int), a < m ∧ vval (·.en) fs y = (a : Int) ∧ endB (P a) y = true ∧ othV (P a) y = u ∧ vhas fs u = true ∧ pth P fs x n y = (a : Int) :: pth P fs x n u := by
  obtain ⟨i, v, hv, rfl⟩ := vhas_get hy
  obtain ⟨j, u, a, hj, hu, ha, hen, he, ho, hp⟩ := h.back hN hv hne
  exact ⟨a, u.nd, ha, hen, he, ho, get_vhas hu, hp⟩
theorem Vok.anc_ok {n : Nat} {N : Nat → Nod} {P : Nat → Pip} {m : Nat} {x : Int} {fs : List Vs} (hN : netB n N m P = true) (h : Vok n P m x fs) {b : Int} (hb : vhas fs b = true) :
    ∀ j, j ≤ (pth P fs x n b).length → vhas fs (anc P fs b j) = true ∧ (pth P fs x n b).drop j = pth P fs x n (anc P fs b j)
  | 0, _ => ⟨hb, rfl⟩
  | j + 1, hj => by
    obtain ⟨h1, h2⟩ := Vok.anc_ok hN h hb j (by omega)
    have hne : anc P fs b j ≠ x := by
      intro e
      rw [e, pth_self] at h2
      have := congrArg List.length h2
      simp only [List.length_drop, List.length_nil] at this
      omega
    obtain ⟨a, u, ha, hen, he, ho, hu, hp⟩ := h.step2 hN h1 hne
    have e : anc P fs b (j + 1) = u := by
      show othV (P (vval (·.en) fs (anc P fs b j)).toNat) (anc P fs b j) = u
      rw [hen, Int.toNat_natCast, ho]
    rw [e]
    refine ⟨hu, ?_⟩
    rw [← List.drop_drop, h2, hp]
    rfl
theorem Vok.anc_end {n : Nat} {N : Nat → Nod} {P : Nat → Pip} {m : Nat} {x : Int} {fs : List Vs} (hN : netB n N m P = true) (h : Vok n P m x fs) {b : Int} (hb : vhas fs b = true) :
    anc P fs b (pth P fs x n b).length = x := by
  obtain ⟨h1, h2⟩ := h.anc_ok hN hb _ (Nat.le_refl _)
  rw [List.drop_length] at h2
  by_cases e : anc P fs b (pth P fs x n b).length = x
  · exact e
  · obtain ⟨a, u, _, _, _, _, _, hp⟩ := h.step2 hN h1 e
    rw [hp] at h2
    cases h2
/-- one step along the path -/
theorem sp_walk {n : Nat} {N : Nat → Nod} {P : Nat → Pip} {m : Nat} {x y : Int} (hN : netB n N m P = true) (hx : 0 ≤ x ∧ x ≤ (n : Int) - 1) (hy : vhas (vis n P m x) y = true) {k : Nat} (hk : k < (spL n P m x y).length) :
    ∃ (a Z : Nat), spD n P m x y k = (a : Int) ∧ a < m ∧ anc P (vis n P m x) y ((spL n P m x y).length - k) = (Z : Int) ∧ Z < n ∧ endB (P a) (Z : Int) = true ∧ othV (P a) (Z : Int) = anc P (vis n P m x) y ((spL n P m x y).length - (k + 1)) := by
  have ok := vis_ok (P := P) (m := m) hN hx
  unfold spL at hk ⊢
  obtain ⟨h1, h2⟩ := ok.anc_ok hN hy ((pth P (vis n P m x) x n y).length - (k + 1)) (by omega)
  obtain ⟨h3, h4⟩ := ok.anc_ok hN hy ((pth P (vis n P m x) x n y).length - k) (by omega)
  have hne : anc P (vis n P m x) y ((pth P (vis n P m x) x n y).length - (k + 1)) ≠ x := by
    intro e
    rw [e, pth_self] at h2
    have := congrArg List.length h2
    simp only [List.length_drop, List.length_nil] at this
    omega
  obtain ⟨a, u, ha, hen, he, ho, hu, hp⟩ := ok.step2 hN h1 hne
  have hsucc : (pth P (vis n P m x) x n y).length - k = ((pth P (vis n P m x) x n y).length - (k + 1)) + 1 := by omega
  have e : anc P (vis n P m x) y ((pth P (vis n P m x) x n y).length - k) = u := by
    rw [hsucc]
    show othV (P (vval (·.en) (vis n P m x) (anc P (vis n P m x) y ((pth P (vis n P m x) x n y).length - (k + 1)))).toNat) _ = u
    rw [hen, Int.toNat_natCast, ho]
  obtain ⟨i, v, hv, hvn⟩ := vhas_get h3
  obtain ⟨r0, r1⟩ := ok.rng v (List.mem_of_getElem? hv)
  rw [hvn] at r0 r1
  obtain ⟨Z, hZ⟩ := Int.eq_ofNat_of_zero_le r0
  have hb := oth_oth (net_pip hN ha) he
  rw [ho, ← e, hZ] at hb
  refine ⟨a, Z, ?_, ha, hZ, by omega, hb.2.1, hb.1⟩
  unfold spD spL
  rw [List.getElem?_reverse hk]
  have h5 : (pth P (vis n P m x) x n y)[(pth P (vis n P m x) x n y).length - 1 - k]? = some (a : Int) := by
    have h6 := congrArg (fun l => l[0]?) (h2.trans hp)
    simp only [List.getElem?_drop, List.getElem?_cons_zero] at h6
    rw [show (pth P (vis n P m x) x n y).length - 1 - k = (pth P (vis n P m x) x n y).length - (k + 1) + 0 by omega]
    exact h6
  rw [h5]
  rfl

/-- the path has as many pipes as the distance says -/
theorem Vok.pth_ds {n : Nat} {N : Nat → Nod} {P : Nat → Pip} {m : Nat} {x : Int} {fs : List Vs} (hN : netB n N m P = true) (h : Vok n P m x fs) : ∀ (i : Nat) (v : Vs), fs[i]? = some v → (((pth P fs x n v.nd).length : Nat) : Int) = v.ds := by
  intro i
  induction i using Nat.strongRecOn with
  | _ i ih =>
    intro v hv
    rcases Nat.eq_zero_or_pos i with rfl | hi
    · rw [h.fst] at hv
      injection hv with hv
      subst hv
      rw [pth_self]
      rfl
    · have hne : v.nd ≠ x := by
        intro e
        have := h.inj hv h.fst e
        omega
      obtain ⟨j, u, k, hj, hu, hk, hen, he, hnd, hds⟩ := h.par i v hi hv
      obtain ⟨a, u', ha, hen', he', ho', hu', hp'⟩ := h.step2 hN (get_vhas hv) hne
      have hak : a = k := by
        have := h.val (·.en) hv
        rw [hen'] at this
        have h2 : ((a : Nat) : Int) = (k : Nat) := by rw [this]; exact hen
        omega
      subst hak
      have hu2 : u' = u.nd := by
        have := (oth_oth (net_pip hN ha) he).1
        rw [← hnd, ho'] at this
        exact this
      rw [hp', hu2, List.length_cons]
      have := ih j hj u hu
      omega
end Go.Proofs.YtdbgcbkmcbgdiaaGreat.mem

namespace Go.Proofs.YtdbgcbkmcbgdiaaGreat.mem
/-- the flow of 1 that leaves this end of the pipe -/
def sgn (q : Pip) (z : Int) : Int := if q.f = z then 1 else -1
end Go.Proofs.YtdbgcbkmcbgdiaaGreat.mem

namespace Go.Proofs.YtdbgcbkmcbgdiaaGreat.mem
open Go.RowKit
set_option linter.unusedVariables false

/-- what flows out of a node through the first k pipes, less what flows into it -/
def dv (P : Nat → Pip) (x : Nat → Int) : Nat → Int → Int
  | 0, _ => 0
  | k + 1, z => dv P x k z + (if (P k).f = z then x k else 0) - (if (P k).t = z then x k else 0)
theorem dv_congr {P : Nat → Pip} {x y : Nat → Int} {z : Int} : ∀ {k : Nat}, (∀ i, i < k → x i = y i) → dv P x k z = dv P y k z
  | 0, _ => rfl
  | k + 1, h => by
    unfold dv
    rw [dv_congr (k := k) (fun i hi => h i (by omega)), h k (by omega)]
theorem dv_add (P : Nat → Pip) (x y : Nat → Int) (z : Int) : ∀ (k : Nat), dv P (fun a => x a + y a) k z = dv P x k z + dv P y k z
  | 0 => rfl
  | k + 1 => by
    unfold dv
    rw [dv_add P x y z k]
    split <;> split <;> omega
theorem dv_sub (P : Nat → Pip) (x y : Nat → Int) (z : Int) : ∀ (k : Nat), dv P (fun a => x a - y a) k z = dv P x k z - dv P y k z
  | 0 => rfl
  | k + 1 => by
    unfold dv
    rw [dv_sub P x y z k]
    split <;> split <;> omega
theorem dv_mul (P : Nat → Pip) (c : Int) (x : Nat → Int) (z : Int) : ∀ (k : Nat), dv P (fun a => c * x a) k z = c * dv P x k z
  | 0 => by unfold dv; rw [Int.mul_zero]
  | k + 1 => by
    unfold dv
    rw [dv_mul P c x z k]
    split <;> split <;> simp only [Int.mul_add, Int.mul_sub, Int.mul_zero]
theorem dv_zero (P : Nat → Pip) (z : Int) : ∀ (k : Nat), dv P (fun _ => 0) k z = 0
  | 0 => rfl
  | k + 1 => by
    unfold dv
    rw [dv_zero P z k]
    split <;> split <;> rfl
/-- only one pipe at the node carries a flow -/
theorem dv_only {P : Nat → Pip} {x : Nat → Int} {a : Nat} {z : Int} : ∀ (k : Nat), (∀ b, b < k → b ≠ a → endB (P b) z = true → x b = 0) →
    dv P x k z = if a < k then (if (P a).f = z then x a else 0) - (if (P a).t = z then x a else 0) else 0
  | 0, _ => by rw [if_neg (by omega)]; rfl
  | k + 1, h => by
    have ih := dv_only (P := P) (x := x) (a := a) (z := z) k (fun b hb => h b (by omega))
    unfold dv
    rw [ih]
    by_cases e : k = a
    · subst e
      rw [if_neg (Nat.lt_irrefl k), if_pos (Nat.lt_succ_self k), Int.zero_add]
    · have hk := h k (by omega) e
      have h0 : ∀ c : Int, (P k).f = c → c = z → x k = 0 := fun c h1 h2 => hk (by unfold endB; simp [h1, h2])
      have h1 : ∀ c : Int, (P k).t = c → c = z → x k = 0 := fun c h1 h2 => hk (by unfold endB; simp [h1, h2])
      have e1 : (if (P k).f = z then x k else 0) = 0 := by split <;> first | rfl | exact h0 _ rfl ‹_›
      have e2 : (if (P k).t = z then x k else 0) = 0 := by split <;> first | rfl | exact h1 _ rfl ‹_›
      rw [e1, e2]
      by_cases hl : a < k
      · rw [if_pos hl, if_pos (show a < k + 1 by omega), Int.add_zero, Int.sub_zero]
      · rw [if_neg hl, if_neg (show ¬ a < k + 1 by omega)]; rfl
/-- the flow of 1 through one pipe -/
def one1 (c : Nat) (a : Nat) : Int := if a = c then 1 else 0
theorem dv_one {P : Nat → Pip} {c : Nat} {z : Int} {k : Nat} (h : c < k) : dv P (one1 c) k z = (if (P c).f = z then 1 else 0) - (if (P c).t = z then 1 else 0) := by
  rw [dv_only (a := c) k (fun b _ hb _ => by unfold one1; rw [if_neg hb]), if_pos h]
  unfold one1
  rw [if_pos rfl]

/-- each node but the first ones has the pipe it was come to by, and lies one further away than that pipe's other end -/
structure Fo (n : Nat) (P : Nat → Pip) (m : Nat) (E D : Int → Int) : Prop where
  pip : ∀ a, a < m → pipB n (P a) = true
  par : ∀ z : Int, 0 ≤ z → z < n → E z = -1 ∨ ∃ a : Nat, a < m ∧ E z = (a : Int) ∧ endB (P a) z = true ∧ D z = D (othV (P a) z) + 1
  bnd : ∀ z : Int, 0 ≤ z → z < n → 0 ≤ D z ∧ D z ≤ n
theorem Fo.oth {n : Nat} {P : Nat → Pip} {m : Nat} {E D : Int → Int} (h : Fo n P m E D) {a : Nat} (ha : a < m) (z : Int) : 0 ≤ othV (P a) z ∧ othV (P a) z < n := by
  have := oth_rng (y := z) (h.pip a ha)
  omega
theorem Fo.uniq {n : Nat} {P : Nat → Pip} {m : Nat} {E D : Int → Int} (h : Fo n P m E D) {y z : Int} {a : Nat} (hy : 0 ≤ y ∧ y < n) (hz : 0 ≤ z ∧ z < n) (ey : E y = (a : Int)) (ez : E z = (a : Int)) : y = z := by
  rcases h.par y hy.1 hy.2 with e | ⟨b, hb, e, by1, dy⟩
  · omega
  rcases h.par z hz.1 hz.2 with e2 | ⟨c, hc, e2, bz, dz⟩
  · omega
  obtain rfl : b = a := by omega
  obtain rfl : c = b := by omega
  rcases end_two (h.pip c hc) by1 bz with e3 | e3
  · exact e3.symm
  · have h1 := (oth_oth (h.pip c hc) by1).1
    rw [← e3] at dy h1
    rw [h1] at dz
    omega
/-- a flow through the forest alone that balances nothing is 0 -/
theorem Fo.zero {n : Nat} {P : Nat → Pip} {m : Nat} {E D : Int → Int} (h : Fo n P m E D) {x : Nat → Int} (hs : ∀ a, a < m → x a ≠ 0 → ∃ z : Int, 0 ≤ z ∧ z < n ∧ E z = (a : Int)) (hd : ∀ z : Int, 0 ≤ z → z < n → dv P x m z = 0) : ∀ a, a < m → x a = 0 := by
  have key : ∀ (j : Nat) (z : Int), 0 ≤ z → z < n → (n : Int) - D z < j → ∀ a : Nat, a < m → E z = (a : Int) → x a = 0 := by
    intro j
    induction j with
    | zero => intro z h0 h1 hj; have := h.bnd z h0 h1; omega
    | succ j ih =>
      intro z h0 h1 hj a ha he
      rcases h.par z h0 h1 with e | ⟨b, hb, e, bz, dz⟩
      · omega
      obtain rfl : b = a := by omega
      have h2 := dv_only (P := P) (x := x) (a := b) (z := z) m (fun c hc hne hcz => by
        by_cases hx : x c = 0
        · exact hx
        · obtain ⟨y, y0, y1, ey⟩ := hs c hc hx
          rcases h.par y y0 y1 with e3 | ⟨d, hd', e3, byd, dy⟩
          · omega
          obtain rfl : d = c := by omega
          rcases end_two (h.pip d hd') hcz byd with e4 | e4
          · subst e4; omega
          · have h5 := (oth_oth (h.pip d hd') hcz).1
            rw [← e4] at h5
            rw [h5] at dy
            exact ih y y0 y1 (by omega) d hd' ey)
      rw [hd z h0 h1, if_pos hb] at h2
      have hp := h.pip b hb
      unfold pipB at hp
      simp only [Bool.and_eq_true, bne_iff_ne] at hp
      unfold endB at bz
      simp only [Bool.or_eq_true, beq_iff_eq] at bz
      rcases bz with e5 | e5
      · rw [if_pos e5, if_neg (by omega)] at h2; omega
      · rw [if_neg (by omega), if_pos e5] at h2; omega
  intro a ha
  by_cases hx : x a = 0
  · exact hx
  · obtain ⟨z, h0, h1, he⟩ := hs a ha hx
    exact key (n + 1) z h0 h1 (by have := h.bnd z h0 h1; omega) a ha he


def ascF (P : Nat → Pip) (E : Int → Int) : Nat → Int → Nat → Int
  | 0, _, _ => 0
  | f + 1, z, a => if E z = -1 then 0 else (if ((a : Nat) : Int) = E z then sgn (P a) z else 0) + ascF P E f (othV (P (E z).toNat) z) a
/-- the flow of 1 from a node up to the first one -/
def asc (P : Nat → Pip) (E D : Int → Int) (z : Int) (a : Nat) : Int := ascF P E (D z).toNat z a
theorem Fo.asc_top {n : Nat} {P : Nat → Pip} {m : Nat} {E D : Int → Int} (h : Fo n P m E D) {z : Int} (e : E z = -1) (a : Nat) : asc P E D z a = 0 := by
  unfold asc
  cases (D z).toNat with
  | zero => rfl
  | succ k => unfold ascF; rw [if_pos e]
theorem Fo.asc_up {n : Nat} {P : Nat → Pip} {m : Nat} {E D : Int → Int} (h : Fo n P m E D) {z : Int} (hz : 0 ≤ z ∧ z < n) {c : Nat} (hc : c < m) (e : E z = (c : Int)) (a : Nat) : asc P E D z a = (if a = c then sgn (P c) z else 0) + asc P E D (othV (P c) z) a := by
  rcases h.par z hz.1 hz.2 with e3 | ⟨d, hd, e3, _, dz⟩
  · omega
  obtain rfl : d = c := by omega
  have ho := h.oth hd z
  have hb := h.bnd _ ho.1 ho.2
  unfold asc
  rw [show (D z).toNat = (D (othV (P d) z)).toNat + 1 by omega]
  rw [ascF, if_neg (by omega), e, Int.toNat_natCast]
  congr 1
  by_cases h1 : a = d
  · subst h1; rw [if_pos rfl, if_pos rfl]
  · rw [if_neg (by omega), if_neg h1]
/-- induction along the way up -/
theorem Fo.ind {n : Nat} {P : Nat → Pip} {m : Nat} {E D : Int → Int} (h : Fo n P m E D) {Q : Int → Prop} (h0 : ∀ z : Int, 0 ≤ z ∧ z < n → E z = -1 → Q z)
    (h1 : ∀ z : Int, 0 ≤ z ∧ z < n → ∀ c : Nat, c < m → E z = (c : Int) → endB (P c) z = true → D z = D (othV (P c) z) + 1 → Q (othV (P c) z) → Q z) (z : Int) (hz : 0 ≤ z ∧ z < n) : Q z := by
  have key : ∀ (j : Nat) (z : Int), 0 ≤ z ∧ z < n → D z < j → Q z := by
    intro j
    induction j with
    | zero => intro z hz hj; have := h.bnd z hz.1 hz.2; omega
    | succ j ih =>
      intro z hz hj
      rcases h.par z hz.1 hz.2 with e | ⟨c, hc, e, b, d⟩
      · exact h0 z hz e
      · exact h1 z hz c hc e b d (ih _ (h.oth hc z) (by omega))
  have := h.bnd z hz.1 hz.2
  exact key ((D z).toNat + 1) z hz (by omega)
/-- the way up goes through entries of nodes that lie no further away -/
theorem Fo.asc_sup {n : Nat} {P : Nat → Pip} {m : Nat} {E D : Int → Int} (h : Fo n P m E D) {z : Int} (hz : 0 ≤ z ∧ z < n) : ∀ a : Nat, asc P E D z a ≠ 0 → ∃ y : Int, 0 ≤ y ∧ y < n ∧ E y = (a : Int) ∧ D y ≤ D z := by
  refine h.ind (Q := fun z => ∀ a : Nat, asc P E D z a ≠ 0 → ∃ y : Int, 0 ≤ y ∧ y < n ∧ E y = (a : Int) ∧ D y ≤ D z) ?_ ?_ z hz
  · intro z _ e a ha
    exact absurd (h.asc_top e a) ha
  · intro z hz c hc e b d ih a ha
    by_cases hac : a = c
    · subst hac
      exact ⟨z, hz.1, hz.2, e, Int.le_refl _⟩
    · rw [h.asc_up hz hc e, if_neg hac, Int.zero_add] at ha
      obtain ⟨y, y0, y1, y2, y3⟩ := ih a ha
      exact ⟨y, y0, y1, y2, by omega⟩
theorem Fo.asc_own {n : Nat} {P : Nat → Pip} {m : Nat} {E D : Int → Int} (h : Fo n P m E D) {z : Int} (hz : 0 ≤ z ∧ z < n) {c : Nat} (hc : c < m) (e : E z = (c : Int)) : asc P E D (othV (P c) z) c = 0 := by
  by_cases hx : asc P E D (othV (P c) z) c = 0
  · exact hx
  · obtain ⟨y, y0, y1, y2, y3⟩ := h.asc_sup (h.oth hc z) c hx
    have := h.uniq ⟨y0, y1⟩ hz y2 e
    subst this
    rcases h.par y hz.1 hz.2 with e3 | ⟨d, hd, e3, _, dz⟩
    · omega
    obtain rfl : d = c := by omega
    omega
theorem sgn_rng (q : Pip) (z : Int) : sgn q z = 1 ∨ sgn q z = -1 := by
  unfold sgn
  split <;> simp
theorem Fo.asc_rng {n : Nat} {P : Nat → Pip} {m : Nat} {E D : Int → Int} (h : Fo n P m E D) {z : Int} (hz : 0 ≤ z ∧ z < n) : ∀ a : Nat, -1 ≤ asc P E D z a ∧ asc P E D z a ≤ 1 := by
  refine h.ind (Q := fun z => ∀ a : Nat, -1 ≤ asc P E D z a ∧ asc P E D z a ≤ 1) ?_ ?_ z hz
  · intro z _ e a
    rw [h.asc_top e a]
    omega
  · intro z hz c hc e b d ih a
    rw [h.asc_up hz hc e]
    by_cases hac : a = c
    · subst hac
      rw [if_pos rfl, h.asc_own hz hc e]
      have := sgn_rng (P a) z
      omega
    · rw [if_neg hac, Int.zero_add]
      exact ih a
/-- it starts at the node and ends at the first one -/
theorem Fo.asc_dv {n : Nat} {P : Nat → Pip} {m : Nat} {E D R : Int → Int} (h : Fo n P m E D) (r0 : ∀ z : Int, 0 ≤ z ∧ z < n → E z = -1 → R z = z) (r1 : ∀ z : Int, 0 ≤ z ∧ z < n → ∀ c : Nat, c < m → E z = (c : Int) → R (othV (P c) z) = R z) {z : Int} (hz : 0 ≤ z ∧ z < n) :
    ∀ y, dv P (asc P E D z) m y = (if z = y then 1 else 0) - (if R z = y then 1 else 0) := by
  refine h.ind (Q := fun z => ∀ y, dv P (asc P E D z) m y = (if z = y then 1 else 0) - (if R z = y then 1 else 0)) ?_ ?_ z hz
  · intro z hz e y
    rw [dv_congr (y := fun _ => 0) (fun a _ => h.asc_top e a), dv_zero, r0 z hz e]
    omega
  · intro z hz c hc e b d ih y
    rw [dv_congr (y := fun a => sgn (P c) z * one1 c a + asc P E D (othV (P c) z) a) (fun a _ => by
      rw [h.asc_up hz hc e]
      unfold one1
      split <;> simp), dv_add, dv_mul, dv_one hc, ih y, r1 z hz c hc e]
    have hp := h.pip c hc
    unfold pipB at hp
    simp only [Bool.and_eq_true, bne_iff_ne] at hp
    unfold endB at b
    simp only [Bool.or_eq_true, beq_iff_eq] at b
    unfold sgn othV
    by_cases hf : (P c).f = z
    · rw [if_pos hf, if_pos hf, hf]
      omega
    · have ht : (P c).t = z := b.resolve_left hf
      rw [if_neg hf, if_neg hf, ht]
      omega

/-- the cycle of a pipe outside of the forest -/
def cyc (P : Nat → Pip) (E D : Int → Int) (c a : Nat) : Int := one1 c a + asc P E D (P c).t a - asc P E D (P c).f a
theorem pip_end {n : Nat} {q : Pip} (h : pipB n q = true) : (0 ≤ q.f ∧ q.f < n) ∧ (0 ≤ q.t ∧ q.t < n) ∧ q.f ≠ q.t := by
  unfold pipB at h
  simp only [Bool.and_eq_true, bne_iff_ne, inR_iff] at h
  omega
theorem Fo.cyc_dv {n : Nat} {P : Nat → Pip} {m : Nat} {E D R : Int → Int} (h : Fo n P m E D) (r0 : ∀ z : Int, 0 ≤ z ∧ z < n → E z = -1 → R z = z) (r1 : ∀ z : Int, 0 ≤ z ∧ z < n → ∀ c : Nat, c < m → E z = (c : Int) → R (othV (P c) z) = R z) {c : Nat} (hc : c < m) (rc : R (P c).f = R (P c).t) (y : Int) : dv P (cyc P E D c) m y = 0 := by
  obtain ⟨h1, h2, _⟩ := pip_end (h.pip c hc)
  have e : cyc P E D c = fun a => (one1 c a + asc P E D (P c).t a) - asc P E D (P c).f a := rfl
  rw [e, dv_sub, dv_add, dv_one hc, h.asc_dv r0 r1 h2, h.asc_dv r0 r1 h1, rc]
  omega
/-- on the pipes outside of the forest it is 1 on its own one alone -/
theorem Fo.cyc_chord {n : Nat} {P : Nat → Pip} {m : Nat} {E D : Int → Int} (h : Fo n P m E D) {c : Nat} (hc : c < m) {a : Nat} (ha : ∀ z : Int, 0 ≤ z → z < n → E z ≠ (a : Int)) : cyc P E D c a = one1 c a := by
  obtain ⟨h1, h2, _⟩ := pip_end (h.pip c hc)
  have e : ∀ z : Int, 0 ≤ z ∧ z < n → asc P E D z a = 0 := fun z hz => by
    by_cases hx : asc P E D z a = 0
    · exact hx
    · obtain ⟨y, y0, y1, y2, _⟩ := h.asc_sup hz a hx
      exact absurd y2 (ha y y0 y1)
  unfold cyc
  rw [e _ h1, e _ h2]
  omega
end Go.Proofs.YtdbgcbkmcbgdiaaGreat.mem

namespace Go.Proofs.YtdbgcbkmcbgdiaaGreat.mem
open Go.RowKit
set_option linter.unusedVariables false

/-- a node of a root's search: its component is the root's -/
theorem cmp_root {n : Nat} {N : Nat → Nod} {P : Nat → Pip} {m : Nat} (hN : netB n N m P = true) {r : Nat} (hr : r < n) (hroot : rts n P m r = true) {y : Int} (hy : vhas (vis n P m (r : Nat)) y = true) : cmp n P m n y = (r : Nat) := by
  have key : ∀ j, r + 1 + j ≤ n → cmp n P m (r + 1 + j) y = (r : Nat) := by
    intro j
    induction j with
    | zero => intro _; show cmp n P m (r + 1) y = _; rw [cmp_take (rts_open hN hr hroot), if_pos hy]
    | succ j ih =>
      intro hj
      rw [← Nat.add_assoc, cmp_succ]
      split
      · next hc =>
        exfalso
        have hk := open_rts hN (by omega) hc.1
        obtain ⟨i, v, hv, hvn⟩ := vhas_get hc.2
        have h1 := vis_meet (x := ((r : Nat) : Int)) (y := ((r + 1 + j : Nat) : Int)) hN (by omega) (by omega) i v hv (by rw [hvn]; exact hy)
        rw [rts_apart hN (by omega) (by omega) hroot hk] at h1
        cases h1
      · exact ih (by omega)
  have := key (n - (r + 1)) (by omega)
  rwa [show r + 1 + (n - (r + 1)) = n by omega] at this
theorem node_root {n : Nat} {N : Nat → Nod} {P : Nat → Pip} {m : Nat} (hN : netB n N m P = true) {z : Int} (hz : 0 ≤ z ∧ z < n) : ∃ r : Nat, r < n ∧ rts n P m r = true ∧ vhas (vis n P m (r : Nat)) z = true ∧ cmp n P m n z = (r : Nat) := by
  obtain ⟨k, rfl⟩ := Int.eq_ofNat_of_zero_le hz.1
  obtain ⟨r, h1, h2, h3⟩ := root_of (P := P) (m := m) hN (k := k) (by omega)
  exact ⟨r, h1, h2, h3, cmp_root hN h1 h2 h3⟩
def fE (n : Nat) (P : Nat → Pip) (m : Nat) (z : Int) : Int := vval (·.en) (vis n P m (cmp n P m n z)) z
def fD (n : Nat) (P : Nat → Pip) (m : Nat) (z : Int) : Int := vval (·.ds) (vis n P m (cmp n P m n z)) z
/-- a visited node: the first one, or one come to from another that lies one less far -/
theorem vis_step {n : Nat} {N : Nat → Nod} {P : Nat → Pip} {m : Nat} {x : Int} (hN : netB n N m P = true) (hx : 0 ≤ x ∧ x < n) {z : Int} (hz : vhas (vis n P m x) z = true) :
    (z = x ∧ vval (·.en) (vis n P m x) z = -1 ∧ vval (·.ds) (vis n P m x) z = 0) ∨
    ∃ a : Nat, a < m ∧ vval (·.en) (vis n P m x) z = (a : Int) ∧ endB (P a) z = true ∧ vhas (vis n P m x) (othV (P a) z) = true ∧ vval (·.ds) (vis n P m x) z = vval (·.ds) (vis n P m x) (othV (P a) z) + 1 := by
  have ok := vis_ok (P := P) (m := m) (x := x) hN (by omega)
  obtain ⟨i, v, hv, rfl⟩ := vhas_get hz
  rcases Nat.eq_zero_or_pos i with rfl | h0
  · have h1 := ok.fst
    rw [hv] at h1
    injection h1 with h1
    subst h1
    exact .inl ⟨rfl, ok.val (·.en) hv, ok.val (·.ds) hv⟩
  · obtain ⟨j, u, k, hj, hu, hk, hen, he, hn, hd⟩ := ok.par i v h0 hv
    obtain ⟨o1, o2, _⟩ := oth_oth (net_pip hN hk) he
    refine .inr ⟨k, hk, by rw [ok.val (·.en) hv]; exact hen, by rw [hn]; exact o2, ?_, ?_⟩
    · rw [hn, o1]; exact get_vhas hu
    · rw [ok.val (·.ds) hv, hn, o1, ok.val (·.ds) hu]; exact hd
theorem vis_bnd {n : Nat} {N : Nat → Nod} {P : Nat → Pip} {m : Nat} {x : Int} (hN : netB n N m P = true) (hx : 0 ≤ x ∧ x < n) {z : Int} (hz : vhas (vis n P m x) z = true) : 0 ≤ vval (·.ds) (vis n P m x) z ∧ vval (·.ds) (vis n P m x) z ≤ n := by
  have ok := vis_ok (P := P) (m := m) (x := x) hN (by omega)
  obtain ⟨i, v, hv, rfl⟩ := vhas_get hz
  rw [ok.val (·.ds) hv]
  have h1 := ok.ds0 i v hv
  have h2 := ok.pth_ds hN i v hv
  have h3 := ok.pth_len hN i v hv
  have h4 := get_lt hv
  have h5 := ok.len
  exact ⟨h1, by omega⟩
theorem fE_at {n : Nat} {P : Nat → Pip} {m r : Nat} {z : Int} (h : cmp n P m n z = (r : Nat)) : fE n P m z = vval (·.en) (vis n P m (r : Nat)) z ∧ fD n P m z = vval (·.ds) (vis n P m (r : Nat)) z := by
  unfold fE fD
  rw [h]
  exact ⟨rfl, rfl⟩
theorem fo_net {n : Nat} {N : Nat → Nod} {P : Nat → Pip} {m : Nat} (hN : netB n N m P = true) : Fo n P m (fE n P m) (fD n P m) where
  pip := fun a ha => net_pip hN ha
  par := fun z h0 h1 => by
    obtain ⟨r, hr, hroot, hv, hc⟩ := node_root (P := P) (m := m) hN ⟨h0, h1⟩
    obtain ⟨e1, e2⟩ := fE_at hc
    rcases vis_step (P := P) (m := m) (x := ((r : Nat) : Int)) hN (by omega) hv with ⟨_, h, _⟩ | ⟨a, ha, h3, h4, h5, h6⟩
    · exact .inl (by rw [e1]; exact h)
    · refine .inr ⟨a, ha, by rw [e1]; exact h3, h4, ?_⟩
      rw [e2, (fE_at (cmp_root hN hr hroot h5)).2]
      exact h6
  bnd := fun z h0 h1 => by
    obtain ⟨r, hr, hroot, hv, hc⟩ := node_root (P := P) (m := m) hN ⟨h0, h1⟩
    rw [(fE_at hc).2]
    exact vis_bnd hN (by omega) hv
theorem fo_r0 {n : Nat} {N : Nat → Nod} {P : Nat → Pip} {m : Nat} (hN : netB n N m P = true) : ∀ z : Int, 0 ≤ z ∧ z < n → fE n P m z = -1 → cmp n P m n z = z := by
  intro z hz e
  obtain ⟨r, hr, hroot, hv, hc⟩ := node_root (P := P) (m := m) hN hz
  rw [(fE_at hc).1] at e
  rcases vis_step (P := P) (m := m) (x := ((r : Nat) : Int)) hN (by omega) hv with ⟨h, _, _⟩ | ⟨a, ha, h3, _⟩
  · rw [hc, h]
  · omega
theorem fo_r1 {n : Nat} {N : Nat → Nod} {P : Nat → Pip} {m : Nat} (hN : netB n N m P = true) : ∀ a : Nat, a < m → cmp n P m n (P a).f = cmp n P m n (P a).t := by
  intro a ha
  obtain ⟨h1, _, h3⟩ := pip_end (net_pip hN ha)
  obtain ⟨r, hr, hroot, hv, hc⟩ := node_root (P := P) (m := m) hN h1
  have h4 := vis_closed (P := P) (m := m) (x := ((r : Nat) : Int)) hN (by omega) hv ha (by unfold endB; simp)
  rw [show othV (P a) (P a).f = (P a).t by unfold othV; rw [if_pos rfl]] at h4
  rw [hc, cmp_root hN hr hroot h4]
theorem fo_r2 {n : Nat} {N : Nat → Nod} {P : Nat → Pip} {m : Nat} (hN : netB n N m P = true) : ∀ z : Int, 0 ≤ z ∧ z < n → ∀ c : Nat, c < m → fE n P m z = (c : Int) → cmp n P m n (othV (P c) z) = cmp n P m n z := by
  intro z hz c hc e
  obtain ⟨r, hr, hroot, hv, hr2⟩ := node_root (P := P) (m := m) hN hz
  rw [(fE_at hr2).1] at e
  rcases vis_step (P := P) (m := m) (x := ((r : Nat) : Int)) hN (by omega) hv with ⟨_, h, _⟩ | ⟨a, ha, h3, _, h5, _⟩
  · omega
  · obtain rfl : a = c := by omega
    rw [hr2, cmp_root hN hr hroot h5]
/-- the pipes of the forest are the entries -/
theorem inF_fE {n : Nat} {N : Nat → Nod} {P : Nat → Pip} {m : Nat} (hN : netB n N m P = true) (a : Nat) : inF n P m (fl (rts n P m) n) a = true ↔ ∃ z : Int, 0 ≤ z ∧ z < n ∧ fE n P m z = (a : Int) := by
  have e : inF n P m (fl (rts n P m) n) a = true ↔ ((a : Nat) : Int) ∈ fcol n P m (fl (rts n P m) n) := by unfold inF; simp
  rw [e]
  unfold fcol
  rw [List.mem_flatMap]
  constructor
  · rintro ⟨r, hr, h⟩
    obtain ⟨v, hv, h1, h2⟩ := ens_mem.1 h
    obtain ⟨hr1, hr2⟩ := fl_lt hr
    have ok := vis_ok (P := P) (m := m) (x := ((r : Nat) : Int)) hN (by omega)
    obtain ⟨i, hi, rfl⟩ := List.mem_iff_getElem.1 hv
    have hg := List.getElem?_eq_getElem hi
    have hrng := ok.rng _ hv
    refine ⟨_, hrng.1, by omega, ?_⟩
    rw [(fE_at (cmp_root hN hr1 hr2 (get_vhas hg))).1, ok.val (·.en) hg]
    exact h1
  · rintro ⟨z, h0, h1, h2⟩
    obtain ⟨r, hr, hroot, hv, hc⟩ := node_root (P := P) (m := m) hN ⟨h0, h1⟩
    refine ⟨r, fl_mem hr hroot, ?_⟩
    rw [(fE_at hc).1] at h2
    have ok := vis_ok (P := P) (m := m) (x := ((r : Nat) : Int)) hN (by omega)
    obtain ⟨i, v, hg, rfl⟩ := vhas_get hv
    rw [ok.val (·.en) hg] at h2
    exact ens_mem.2 ⟨v, List.mem_of_getElem? hg, h2, by omega⟩

/-- the program's table of entries: root by root, the last one first -/
def enT (n : Nat) (P : Nat → Pip) (m : Nat) : List Nat → Int → Int
  | [], _ => -1
  | r :: rs, y => if vhas (vis n P m (r : Nat)) y = true then vval (·.en) (vis n P m (r : Nat)) y else enT n P m rs y
theorem enT_eq {n : Nat} {N : Nat → Nod} {P : Nat → Pip} {m : Nat} (hN : netB n N m P = true) {z : Int} : ∀ (rs : List Nat), (∀ s ∈ rs, s < n ∧ rts n P m s = true) → (∃ r ∈ rs, vhas (vis n P m (r : Nat)) z = true) → enT n P m rs z = fE n P m z
  | [], _, ⟨_, h, _⟩ => by cases h
  | s :: rs, h1, ⟨r, hr, h2⟩ => by
    unfold enT
    split
    · next hs =>
      have := h1 s (by simp)
      exact ((fE_at (cmp_root hN this.1 this.2 hs)).1).symm
    · next hs =>
      refine enT_eq hN rs (fun q hq => h1 q (by simp [hq])) ⟨r, ?_, h2⟩
      rcases List.mem_cons.1 hr with e | e
      · subst e; exact absurd h2 hs
      · exact e
theorem enT_all {n : Nat} {N : Nat → Nod} {P : Nat → Pip} {m : Nat} (hN : netB n N m P = true) {z : Int} (hz : 0 ≤ z ∧ z < n) : enT n P m (fl (rts n P m) n).reverse z = fE n P m z := by
  obtain ⟨r, hr, hroot, hv, _⟩ := node_root (P := P) (m := m) hN hz
  exact enT_eq hN _ (fun s hs => fl_lt (List.mem_reverse.1 hs)) ⟨r, List.mem_reverse.2 (fl_mem hr hroot), hv⟩
/-- while a root's visits come -/
def enV (n : Nat) (P : Nat → Pip) (m : Nat) (rs : List Nat) (pre : List Vs) (y : Int) : Int := if vhas pre y = true then vval (·.en) pre y else enT n P m rs y
theorem enV_nil (n : Nat) (P : Nat → Pip) (m : Nat) (rs : List Nat) : enV n P m rs [] = enT n P m rs := by
  funext y
  unfold enV
  rw [if_neg (by simp [vhas])]
theorem enV_all (n : Nat) (P : Nat → Pip) (m : Nat) (rs : List Nat) (r : Nat) : enV n P m rs (vis n P m (r : Nat)) = enT n P m (r :: rs) := by
  funext y
  unfold enV
  rw [enT]
theorem enV_app (n : Nat) (P : Nat → Pip) (m : Nat) (rs : List Nat) {pre : List Vs} {u : Vs} (h : vhas pre u.nd = false) (y : Int) : enV n P m rs (pre ++ [u]) y = if y = u.nd then u.en else enV n P m rs pre y := by
  unfold enV
  rw [vhas_app, vval_app h]
  by_cases e : y = u.nd
  · subst e
    simp
  · have : (u.nd == y) = false := by simpa using fun e2 => e e2.symm
    rw [this, Bool.or_false, if_neg e, if_neg e]

/-- the entries of the first nodes, without the marks -/
def feL (n : Nat) (P : Nat → Pip) (m : Nat) (k : Nat) : List Int := ((List.range k).map (fun z => fE n P m ((z : Nat) : Int))).filter (fun e => e != -1)
theorem feL_succ (n : Nat) (P : Nat → Pip) (m : Nat) (k : Nat) : feL n P m (k + 1) = if fE n P m ((k : Nat) : Int) = -1 then feL n P m k else feL n P m k ++ [fE n P m ((k : Nat) : Int)] := by
  unfold feL
  rw [List.range_succ, List.map_append, List.filter_append]
  split
  · next h => simp [h]
  · next h => simp [h]
theorem feL_le (n : Nat) (P : Nat → Pip) (m k : Nat) : (feL n P m k).length ≤ k := by
  unfold feL
  refine Nat.le_trans (List.length_filter_le _ _) ?_
  simp
theorem feL_nodup {n : Nat} {N : Nat → Nod} {P : Nat → Pip} {m : Nat} (hN : netB n N m P = true) : ∀ k, k ≤ n → (feL n P m k).Pairwise (· ≠ ·)
  | 0, _ => List.Pairwise.nil
  | k + 1, hk => by
    have ih := feL_nodup hN k (by omega)
    rw [feL_succ]
    split
    · exact ih
    · next hne =>
      rw [List.pairwise_append]
      refine ⟨ih, List.pairwise_singleton _ _, fun a ha b hb => ?_⟩
      obtain rfl := List.mem_singleton.1 hb
      intro e
      subst e
      unfold feL at ha
      obtain ⟨h1, h2⟩ := List.mem_filter.1 ha
      obtain ⟨z, hz, e⟩ := List.mem_map.1 h1
      have hz := List.mem_range.1 hz
      rcases (fo_net (P := P) (m := m) hN).par (k : Nat) (by omega) (by omega) with g | ⟨c, _, g, _⟩
      · exact hne g
      · have := (fo_net (P := P) (m := m) hN).uniq (y := ((z : Nat) : Int)) (z := ((k : Nat) : Int)) (a := c) (by omega) (by omega) (by rw [e]; exact g) g
        omega
theorem forest_eq2 {n : Nat} {N : Nat → Nod} {P : Nat → Pip} {m : Nat} (hN : netB n N m P = true) {l : List Int} (hp : l.Perm (feL n P m n)) (hs : l.Pairwise (· ≤ ·)) : l = forest n P m := by
  refine rising_eq _ _ (rising_of hs ?_) ?_ fun x => ?_
  · exact hp.symm.pairwise (feL_nodup hN n (Nat.le_refl _)) (fun h e => h e.symm)
  · unfold forest
    rw [List.pairwise_map]
    exact (fl_sorted _ _).imp (fun h => by omega)
  · rw [hp.mem_iff]
    unfold forest
    constructor
    · intro hx
      unfold feL at hx
      obtain ⟨h1, h2⟩ := List.mem_filter.1 hx
      obtain ⟨z, hz, e⟩ := List.mem_map.1 h1
      have hz := List.mem_range.1 hz
      rcases (fo_net (P := P) (m := m) hN).par (z : Nat) (by omega) (by omega) with g | ⟨c, hc, g, _⟩
      · rw [← e, g] at h2; simp at h2
      · exact List.mem_map.2 ⟨c, fl_mem hc ((inF_fE hN c).2 ⟨(z : Nat), by omega, by omega, g⟩), by rw [← g]; exact e⟩
    · intro hx
      obtain ⟨k, hk, rfl⟩ := List.mem_map.1 hx
      obtain ⟨z, z0, z1, z2⟩ := (inF_fE hN k).1 (fl_lt hk).2
      obtain ⟨y, rfl⟩ := Int.eq_ofNat_of_zero_le z0
      unfold feL
      exact List.mem_filter.2 ⟨List.mem_map.2 ⟨y, List.mem_range.2 (by omega), z2⟩, by simp⟩

/-- the search from a node of a network -/
def sD (n : Nat) (P : Nat → Pip) (m : Nat) (x : Int) (z : Int) : Int := if vhas (vis n P m x) z = true then vval (·.ds) (vis n P m x) z else 0
def sE (n : Nat) (P : Nat → Pip) (m : Nat) (x : Int) (z : Int) : Int := vval (·.en) (vis n P m x) z
def sR (n : Nat) (P : Nat → Pip) (m : Nat) (x : Int) (z : Int) : Int := if vhas (vis n P m x) z = true then x else z
theorem fo_vis {n : Nat} {N : Nat → Nod} {P : Nat → Pip} {m : Nat} (hN : netB n N m P = true) {x : Int} (hx : 0 ≤ x ∧ x < n) : Fo n P m (sE n P m x) (sD n P m x) where
  pip := fun a ha => net_pip hN ha
  par := fun z h0 h1 => by
    cases hv : vhas (vis n P m x) z
    · exact .inl (vval_no hv)
    · rcases vis_step hN hx hv with ⟨_, h, _⟩ | ⟨a, ha, h3, h4, h5, h6⟩
      · exact .inl h
      · refine .inr ⟨a, ha, h3, h4, ?_⟩
        unfold sD
        rw [if_pos hv, if_pos h5]
        exact h6
  bnd := fun z h0 h1 => by
    unfold sD
    split
    · exact vis_bnd hN hx ‹_›
    · omega
theorem sR0 {n : Nat} {N : Nat → Nod} {P : Nat → Pip} {m : Nat} (hN : netB n N m P = true) {x : Int} (hx : 0 ≤ x ∧ x < n) : ∀ z : Int, 0 ≤ z ∧ z < n → sE n P m x z = -1 → sR n P m x z = z := by
  intro z hz e
  unfold sR
  split
  · next hv =>
    rcases vis_step hN hx hv with ⟨h, _, _⟩ | ⟨a, ha, h3, _⟩
    · exact h.symm
    · unfold sE at e; omega
  · rfl
theorem sR1 {n : Nat} {N : Nat → Nod} {P : Nat → Pip} {m : Nat} (hN : netB n N m P = true) {x : Int} (hx : 0 ≤ x ∧ x < n) : ∀ z : Int, 0 ≤ z ∧ z < n → ∀ c : Nat, c < m → sE n P m x z = (c : Int) → sR n P m x (othV (P c) z) = sR n P m x z := by
  intro z hz c hc e
  cases hv : vhas (vis n P m x) z
  · unfold sE at e
    rw [vval_no hv] at e
    omega
  · rcases vis_step hN hx hv with ⟨_, h, _⟩ | ⟨a, ha, h3, _, h5, _⟩
    · unfold sE at e; omega
    · obtain rfl : a = c := by unfold sE at e; omega
      unfold sR
      rw [if_pos hv, if_pos h5]
end Go.Proofs.YtdbgcbkmcbgdiaaGreat.mem

namespace Go.Proofs.YtdbgcbkmcbgdiaaGreat.mem
open Go.RowKit
set_option linter.unusedVariables false

/-- a flow over some of the pipes, as one over all -/
def lft (p : Nat → Bool) (x : Nat → Int) (a : Nat) : Int := if p a = true then x (fl p a).length else 0
theorem dv_lft {P T : Nat → Pip} {p : Nat → Bool} {m : Nat} {x : Nat → Int} {z : Int} (hT : ∀ a, a < m → p a = true → T (fl p a).length = P a) : ∀ k, k ≤ m → dv T x (fl p k).length z = dv P (lft p x) k z
  | 0, _ => rfl
  | k + 1, hk => by
    have ih := dv_lft (x := x) (z := z) hT k (by omega)
    cases hp : p k
    · rw [fl_no hp, ih]
      have e : lft p x k = 0 := by unfold lft; rw [if_neg (by rw [hp]; simp)]
      rw [dv.eq_def P (lft p x) (k + 1) z]
      dsimp only
      rw [e]
      split <;> split <;> omega
    · have e : lft p x k = x (fl p k).length := by unfold lft; rw [if_pos hp]
      rw [fl_yes hp, List.length_append, List.length_singleton]
      unfold dv
      rw [ih, hT k (by omega) hp, e]
theorem fl_idx {p : Nat → Bool} : ∀ {m a : Nat}, a < m → p a = true → (fl p m)[(fl p a).length]? = some a
  | 0, a, ha, _ => by omega
  | m + 1, a, ha, h => by
    by_cases e : a = m
    · subst e
      rw [fl_yes h, List.getElem?_append_right (Nat.le_refl _)]
      simp
    · have ih := fl_idx (p := p) (m := m) (a := a) (by omega) h
      cases hp : p m
      · rw [fl_no hp]; exact ih
      · rw [fl_yes hp, List.getElem?_append_left (get_lt ih)]; exact ih
/-- the place of a pipe in the forest -/
theorem forest_idx {n : Nat} {P : Nat → Pip} {m a : Nat} (ha : a < m) (h : inF n P m (fl (rts n P m) n) a = true) : (fl (inF n P m (fl (rts n P m) n)) a).length < (forest n P m).length ∧ lD (forest n P m) (fl (inF n P m (fl (rts n P m) n)) a).length = ((a : Nat) : Int) := by
  have h1 := fl_idx ha h
  have h2 := get_lt h1
  refine ⟨by rw [forest_len]; exact h2, ?_⟩
  rw [← forest_lD n P m _ h2]
  unfold fd
  rw [h1]
  rfl
theorem forest_frP {n : Nat} {P : Nat → Pip} {m a : Nat} (ha : a < m) (h : inF n P m (fl (rts n P m) n) a = true) : frP n P m (fl (inF n P m (fl (rts n P m) n)) a).length = P a := by
  unfold frP
  rw [(forest_idx ha h).2, Int.toNat_natCast]
theorem forest_at {n : Nat} {P : Nat → Pip} {m j : Nat} (hj : j < (forest n P m).length) : ∃ a, a < m ∧ inF n P m (fl (rts n P m) n) a = true ∧ lD (forest n P m) j = ((a : Nat) : Int) ∧ (fl (inF n P m (fl (rts n P m) n)) a).length = j ∧ frP n P m j = P a := by
  have h1 := forest_len n P m
  have h2 := forest_lD n P m j (by omega)
  obtain ⟨h3, h4⟩ := fl_getS (p := inF n P m (fl (rts n P m) n)) (m := m) (i := j) (by omega)
  have hs := fl_sorted (inF n P m (fl (rts n P m) n)) m
  obtain ⟨a, ha⟩ : ∃ a, (fl (inF n P m (fl (rts n P m) n)) m)[j]? = some a := ⟨_, List.getElem?_eq_getElem (by omega)⟩
  have hm := fl_lt (List.mem_of_getElem? ha)
  have hi := fl_idx hm.1 hm.2
  have e : (fl (inF n P m (fl (rts n P m) n)) a).length = j := by
    have l1 := get_lt hi
    have l2 := get_lt ha
    rw [List.getElem?_eq_getElem l1] at hi
    rw [List.getElem?_eq_getElem l2] at ha
    injection hi with hi
    injection ha with ha
    rcases Nat.lt_trichotomy (fl (inF n P m (fl (rts n P m) n)) a).length j with g | g | g
    · have := List.pairwise_iff_getElem.1 hs _ _ l1 l2 g
      omega
    · exact g
    · have := List.pairwise_iff_getElem.1 hs _ _ l2 l1 g
      omega
  refine ⟨a, hm.1, hm.2, ?_, e, ?_⟩
  · rw [← e]; exact (forest_idx hm.1 hm.2).2
  · rw [← e]; exact forest_frP hm.1 hm.2
/-- the forest alone joins the ends of each pipe -/
theorem tree_has {n : Nat} {N : Nat → Nod} {P : Nat → Pip} {m : Nat} (hN : netB n N m P = true) {c : Nat} (hc : c < m) : vhas (vis n (frP n P m) (forest n P m).length (P c).t) (P c).f = true := by
  have hT := net_forest hN
  obtain ⟨h1, h2, _⟩ := pip_end (net_pip hN hc)
  obtain ⟨r, hr, hroot, hv, e1⟩ := node_root (P := frP n P m) (m := (forest n P m).length) hT h1
  obtain ⟨s, hs, sroot, sv, e2⟩ := node_root (P := frP n P m) (m := (forest n P m).length) hT h2
  rw [cmp_forest hN n (Nat.le_refl _)] at e1 e2
  have := fo_r1 hN c hc
  obtain rfl : r = s := by omega
  obtain ⟨f, hf⟩ := Int.eq_ofNat_of_zero_le h1.1
  obtain ⟨t, ht⟩ := Int.eq_ofNat_of_zero_le h2.1
  rw [hf] at hv h1 ⊢
  rw [ht] at sv h2 ⊢
  have v1 := vis_sym hT hr (by omega) hv
  have v2 := vis_sym hT hr (by omega) sv
  obtain ⟨i, v, hv2, hvn⟩ := vhas_get v1
  exact vis_meet (x := ((t : Nat) : Int)) (y := ((f : Nat) : Int)) hT (by omega) (by omega) i v hv2 (by rw [hvn]; exact v2)
/-- the cycle as far as the way back has come -/
def scy (n : Nat) (P : Nat → Pip) (m c : Nat) (z : Int) (a : Nat) : Int :=
  one1 c a - lft (inF n P m (fl (rts n P m) n)) (asc (frP n P m) (sE n (frP n P m) (forest n P m).length (P c).t) (sD n (frP n P m) (forest n P m).length (P c).t) z) a
theorem scy_end {n : Nat} {N : Nat → Nod} {P : Nat → Pip} {m : Nat} (hN : netB n N m P = true) {c : Nat} (hc : c < m) (hch : inF n P m (fl (rts n P m) n) c = false) : ∀ a, a < m → scy n P m c (P c).f a = cyc P (fE n P m) (fD n P m) c a := by
  have hT := net_forest hN
  have fo := fo_net (P := P) (m := m) hN
  obtain ⟨h1, h2, _⟩ := pip_end (net_pip hN hc)
  have ft := fo_vis hT h2
  have key : ∀ a, a < m → (fun a => scy n P m c (P c).f a - cyc P (fE n P m) (fD n P m) c a) a = 0 := by
    refine fo.zero (fun a ha hx => ?_) (fun z z0 z1 => ?_)
    · refine (inF_fE hN a).1 ?_
      cases hp : inF n P m (fl (rts n P m) n) a
      · exfalso
        apply hx
        rw [fo.cyc_chord hc (fun z z0 z1 e => by
          have := (inF_fE hN a).2 ⟨z, z0, z1, e⟩
          rw [hp] at this
          cases this)]
        unfold scy lft
        rw [if_neg (by rw [hp]; simp)]
        omega
      · rfl
    · rw [dv_sub, fo.cyc_dv (fo_r0 hN) (fo_r2 hN) hc (fo_r1 hN c hc)]
      unfold scy
      rw [dv_sub, dv_one hc, ← dv_lft (T := frP n P m) (fun a ha hp => forest_frP ha hp) m (Nat.le_refl _), ← forest_len, ft.asc_dv (sR0 hT h2) (sR1 hT h2) h1]
      unfold sR
      rw [if_pos (tree_has hN hc)]
      omega
  intro a ha
  have := key a ha
  dsimp only at this
  omega
theorem scy_start {n : Nat} {N : Nat → Nod} {P : Nat → Pip} {m : Nat} (hN : netB n N m P = true) {c : Nat} (hc : c < m) (a : Nat) : scy n P m c (P c).t a = one1 c a := by
  have hT := net_forest hN
  obtain ⟨h1, h2, _⟩ := pip_end (net_pip hN hc)
  have ft := fo_vis hT h2
  have e : sE n (frP n P m) (forest n P m).length (P c).t (P c).t = -1 := by
    rcases vis_step hT h2 (vis_self n (frP n P m) (forest n P m).length (P c).t) with ⟨_, h, _⟩ | ⟨b, hb, g1, _, _, g2⟩
    · exact h
    · have ok := vis_ok (P := frP n P m) (m := (forest n P m).length) (x := (P c).t) hT (by omega)
      exact ok.val (·.en) ok.fst
  unfold scy lft
  rw [ft.asc_top e]
  split <;> omega
/-- one pipe further on the way back -/
theorem scy_next {n : Nat} {N : Nat → Nod} {P : Nat → Pip} {m : Nat} (hN : netB n N m P = true) {c : Nat} (hc : c < m) (hch : inF n P m (fl (rts n P m) n) c = false) {y z : Int} {j b : Nat} (hy : 0 ≤ y ∧ y < n) (hj : j < (forest n P m).length) (hb : lD (forest n P m) j = ((b : Nat) : Int))
    (he : vval (·.en) (vis n (frP n P m) (forest n P m).length (P c).t) y = ((j : Nat) : Int)) (ho : othV (frP n P m j) y = z) (hbz : endB (frP n P m j) y = true) (a : Nat) : scy n P m c y a = if a = b then sgn (frP n P m j) z else scy n P m c z a := by
  have hT := net_forest hN
  obtain ⟨h1, h2, _⟩ := pip_end (net_pip hN hc)
  have ft := fo_vis hT h2
  obtain ⟨b', hb1, hb2, hb3, hb4, hb5⟩ := forest_at hj
  obtain rfl : b' = b := by omega
  obtain ⟨o1, o2, o3⟩ := oth_oth (net_pip hT hj) hbz
  have hs : sgn (frP n P m j) y = - sgn (frP n P m j) z := by
    unfold endB at hbz
    simp only [Bool.or_eq_true, beq_iff_eq] at hbz
    have hp := (pip_end (net_pip hT hj)).2.2
    unfold othV at ho
    unfold sgn
    by_cases hf : (frP n P m j).f = y
    · rw [if_pos hf] at ho
      rw [if_pos hf, if_neg (by omega)]
      rfl
    · rw [if_neg hf] at ho
      rw [if_neg hf, if_pos ho]
  have hown := ft.asc_own hy hj he
  rw [ho] at hown
  unfold scy lft
  rw [ft.asc_up hy hj he, ho]
  by_cases ea : a = b'
  · subst ea
    rw [if_pos hb2, if_pos rfl, hb4, if_pos rfl, hown, hs]
    unfold one1
    rw [if_neg (fun e => by subst e; rw [hch] at hb2; cases hb2)]
    omega
  · rw [if_neg ea]
    cases hp : inF n P m (fl (rts n P m) n) a
    · simp
    · by_cases ham : a < m
      · have hne : (fl (inF n P m (fl (rts n P m) n)) a).length ≠ j := by
          intro e
          have := (forest_idx ham hp).2
          rw [e, hb3] at this
          omega
        rw [if_neg hne, Int.zero_add]
      · have hne : (fl (inF n P m (fl (rts n P m) n)) a).length ≠ j := by
          intro e
          have h3 := fl_idx (p := inF n P m (fl (rts n P m) n)) (m := a + 1) (a := a) (by omega) hp
          have h4 := fl_idx (p := inF n P m (fl (rts n P m) n)) (m := a + 1) (a := b') (by omega) hb2
          rw [e] at h3
          rw [hb4, h3] at h4
          injection h4 with h4
          omega
        rw [if_neg hne, Int.zero_add]
/-- one step along the path, with the entry -/
theorem sp_walk2 {n : Nat} {N : Nat → Nod} {P : Nat → Pip} {m : Nat} {x y : Int} (hN : netB n N m P = true) (hx : 0 ≤ x ∧ x ≤ (n : Int) - 1) (hy : vhas (vis n P m x) y = true) {k : Nat} (hk : k < (spL n P m x y).length) :
    ∃ (a Z Y : Nat), spD n P m x y k = (a : Int) ∧ a < m ∧ anc P (vis n P m x) y ((spL n P m x y).length - k) = (Z : Int) ∧ Z < n ∧ anc P (vis n P m x) y ((spL n P m x y).length - (k + 1)) = (Y : Int) ∧ Y < n ∧ endB (P a) (Z : Int) = true ∧ othV (P a) (Z : Int) = (Y : Int) ∧
      vval (·.en) (vis n P m x) (Y : Int) = (a : Int) ∧ endB (P a) (Y : Int) = true ∧ othV (P a) (Y : Int) = (Z : Int) := by
  obtain ⟨a, Z, h1, h2, h3, h4, h5, h6⟩ := sp_walk hN hx hy hk
  have ok := vis_ok (P := P) (m := m) hN hx
  obtain ⟨g1, g2⟩ := ok.anc_ok hN hy ((pth P (vis n P m x) x n y).length - (k + 1)) (by omega)
  have hb := oth_oth (net_pip hN h2) h5
  have hr := oth_rng (y := ((Z : Nat) : Int)) (net_pip hN h2)
  obtain ⟨Y, hY⟩ := Int.eq_ofNat_of_zero_le hr.1
  have hY2 : anc P (vis n P m x) y ((spL n P m x y).length - (k + 1)) = (Y : Int) := by rw [← h6, hY]
  unfold spL at hk hY2
  rw [hY2] at g1 g2
  have hne : ((Y : Nat) : Int) ≠ x := by
    intro e
    rw [e, pth_self] at g2
    have := congrArg List.length g2
    simp only [List.length_drop, List.length_nil] at this
    omega
  obtain ⟨a', u, ha', hen, he', ho', hu, hp⟩ := ok.step2 hN g1 hne
  have hsp : spD n P m x y k = (a' : Int) := by
    unfold spD spL
    rw [List.getElem?_reverse hk]
    have h7 := congrArg (fun l => l[0]?) (g2.trans hp)
    simp only [List.getElem?_drop, List.getElem?_cons_zero] at h7
    rw [show (pth P (vis n P m x) x n y).length - 1 - k = (pth P (vis n P m x) x n y).length - (k + 1) + 0 by omega, h7]
    rfl
  obtain rfl : a' = a := by omega
  rw [hY] at hb
  exact ⟨a', Z, Y, h1, h2, h3, h4, hY2, by omega, h5, hY, hen, he', hb.1⟩

/-- what the cycles of the first pipes outside of the forest add up to -/
def tot (P : Nat → Pip) (E D : Int → Int) (cs : Nat → Nat) (am : Nat → Int) : Nat → Nat → Int
  | 0, _ => 0
  | k + 1, a => tot P E D cs am k a + am k * cyc P E D (cs k) a
/-- the pipes outside of the forest -/
def chP (n : Nat) (P : Nat → Pip) (m : Nat) (a : Nat) : Bool := !(inF n P m (fl (rts n P m) n) a)
def chN (n : Nat) (P : Nat → Pip) (m : Nat) : Nat := (fl (chP n P m) m).length
def chS (n : Nat) (P : Nat → Pip) (m j : Nat) : Nat := ((fl (chP n P m) m)[j]?).getD 0
theorem chN_le (n : Nat) (P : Nat → Pip) (m : Nat) : chN n P m ≤ m := fl_le _ _
theorem chS_at {n : Nat} {P : Nat → Pip} {m j : Nat} (hj : j < chN n P m) : chS n P m j < m ∧ chP n P m (chS n P m j) = true := by
  unfold chN at hj
  unfold chS
  rw [List.getElem?_eq_getElem hj]
  exact fl_lt (List.getElem_mem hj)
theorem chP_no {n : Nat} {N : Nat → Nod} {P : Nat → Pip} {m : Nat} (hN : netB n N m P = true) {a : Nat} (h : chP n P m a = true) : ∀ z : Int, 0 ≤ z → z < n → fE n P m z ≠ ((a : Nat) : Int) := by
  intro z z0 z1 e
  have := (inF_fE hN a).2 ⟨z, z0, z1, e⟩
  unfold chP at h
  rw [this] at h
  cases h
end Go.Proofs.YtdbgcbkmcbgdiaaGreat.mem

namespace Go.Proofs.YtdbgcbkmcbgdiaaGreat.mem
open Go.RowKit
set_option linter.unusedVariables false
attribute [local go_sem] Oper.semAt_some

/-- while the visits from a root come -/
def EnI (n : Nat) (P : Nat → Pip) (m : Nat) (rs : List Nat) (g be gr : Nat) (v vr : Value) (nr : Nat) (dr : Nat → Int) (v0 v1 : Value) (bs : List Nat) (w : World) (pre : List Vs) (Y : Nat → Prop) (A : World) : Prop :=
  Y = (fun b => b = g) ∧ Ob A g n (tabC (enV n P m rs pre)) ∧ Ob A be 1 (fun _ => v) ∧ Own A vr nr dr gr ∧ Ob A w.heap.size 2 (bx v0 v1) ∧ (∀ b, b ∈ bs → A.heap[b]? = some (.deferred (some []))) ∧ Below w.heap.size w A
theorem EnI.upd {n : Nat} {P : Nat → Pip} {m : Nat} {rs : List Nat} {g be gr : Nat} {v vr : Value} {nr : Nat} {dr : Nat → Int} {v0 v1 : Value} {bs : List Nat} {w : World} {pre : List Vs} {Y X : Nat → Prop} {A B : World} (h : EnI n P m rs g be gr v vr nr dr v0 v1 bs w pre Y A) (u : Upd X A B)
    (hg : ¬ X g) (hb : ¬ X be) (hr : ¬ X gr) (h0 : ¬ X w.heap.size) (hbs : ∀ b, b ∈ bs → ¬ X b) (hX : ∀ k, X k → w.heap.size ≤ k) : EnI n P m rs g be gr v vr nr dr v0 v1 bs w pre Y B := by
  obtain ⟨h1, h2, h3, h4, h5, h6, h7⟩ := h
  refine ⟨h1, h2.keep (u.block _ h2.lt hg), h3.keep (u.block _ h3.lt hb), h4.keep (u.block _ h4.lt hr), h5.keep (u.block _ h5.lt h0), fun b hb2 => ?_, h7.trans (u.below h7.size (fun k _ hk => hX k hk))⟩
  have := h6 b hb2
  exact (u.block b (Array.getElem?_eq_some_iff.1 this).1 (hbs b hb2)).trans this
theorem en_step {A : World} {g n : Nat} {P : Nat → Pip} {m : Nat} {rs : List Nat} {pre : List Vs} {u : Vs} {Z : Nat} (h : Ob A g n (tabC (enV n P m rs pre))) (h1 : vhas pre u.nd = false) (hZ : u.nd = ((Z : Nat) : Int)) (hn : Z < n) :
    Ob (A.setCell ⟨g, Z, none⟩ (.int .i64 u.en)) g n (tabC (enV n P m rs (pre ++ [u]))) := by
  refine (h.set Z _ hn).congr fun j hj => ?_
  unfold updV tabC
  rw [enV_app n P m rs h1, hZ]
  by_cases e : j = Z
  · subst e; simp
  · rw [if_neg e, if_neg (by omega)]

set_option maxRecDepth 100000 in
set_option maxHeartbeats 4000000 in
theorem forestEntries_any (w : World) (v : Value) (n : Nat) (N : Nat → Nod) (m : Nat) (P : Nat → Pip) (lo hi : Nat) (h : NetAt w v n N m P lo hi) (hhi : hi ≤ w.heap.size) (hB : netB n N m P = true) :
    Calls Tryz.prog 153 #[v] w fun e w' => ∃ g, e = .returned (.slice (some ⟨g, 0, none⟩) n n) ∧ w.heap.size ≤ g ∧ Ob w' g n (tabC (fE n P m)) ∧ Below w.heap.size w w' := by
  obtain ⟨p0, c0, p1, c1, rfl, hn9, hm9⟩ := h.parts
  obtain ⟨hn1, hn24, hm40⟩ := net_sz hB
  have HV := Lib.hid h
  have HB := Lib.hid hB
  have A0 := boxed w (.slice p0 n c0) (.slice p1 m c1) 27
  have B0 := below_new w (.cells #[.slice p0 n c0, .slice p1 m c1] 27)
  have hs0 : (w.alloc (.cells #[.slice p0 n c0, .slice p1 m c1] 27)).heap.size = w.heap.size + 1 := by simp
  have HOK := Lib.hid (fun (X0 : Nat) (hX : X0 < n) => vis_ok (P := P) (m := m) (x := ((X0 : Nat) : Int)) hB ⟨Int.natCast_nonneg _, by omega⟩)
  have HEND := Lib.hid (fun (z : Int) (hz : 0 ≤ z ∧ z < n) => enT_all (P := P) (m := m) hB hz)
  clear h hB
  refine (callsIn_wide (n := 9)).1 (callsIn_of_wp_marks Tryz.func153 rfl trivial ?_ rfl)
  simp only [Tryz.ntmps153, List.size_toArray, List.length_cons, List.length_nil, Nat.reduceAdd, Nat.reduceSub, Array.replicate_succ, Array.replicate_zero, List.push_toArray, List.append_toArray, List.nil_append, List.cons_append]
  have e0' := A0.b0
  have e1' := A0.b1
  gi_wp2
  refine ⟨trivial, (callsIn_wide.2 (unreached_any _ _ n N m P lo hi (HV.out.below B0 hhi) hn1 hn24)).mono ?_⟩
  rintro e w2 ⟨g, rfl, hg1, og, b2⟩
  have B2 := B0.trans (b2.mono (by omega))
  have A2 := A0.below b2 (by omega)
  have hs2 := b2.size
  have hg2 := og.lt
  have e2 : w.heap.size < w2.heap.size := by omega
  have A3 := A2.keep (Below.heap_alloc w2 (.cells #[.slice (some ⟨g, 0, none⟩) n n] 28) _ (by omega))
  have O3 := Ob.one w2 (.slice (some ⟨g, 0, none⟩) n n) 28
  have og3 := og.keep (Below.heap_alloc w2 (.cells #[.slice (some ⟨g, 0, none⟩) n n] 28) _ hg2)
  have B3 : Below w.heap.size w (w2.alloc (.cells #[.slice (some ⟨g, 0, none⟩) n n] 28)) := below_alloc B2 (by omega) _
  have HA := Lib.hid A3
  have HO := Lib.hid O3
  have HG := Lib.hid (og3.congr (e := tabC (enT n P m [])) fun k hk => rfl)
  have HBB := Lib.hid B3
  have e0 := A3.b0
  have e1 := A3.b1
  clear A3 O3 og3 B3 og B2 A0 B0 b2 A2 e0' e1'
  gi_wp2
  have hs3 : (w2.alloc (.cells #[.slice (some ⟨g, 0, none⟩) n n] 28)).heap.size = w2.heap.size + 1 := by simp
  generalize hW : w2.alloc (.cells #[.slice (some ⟨g, 0, none⟩) n n] 28) = w3 at *
  clear hW e0 e1
  refine ⟨trivial, (callsIn_wide.2 (leastNodes_any w3 _ n N m P lo hi (HV.out.below HBB.out hhi) (by omega) HB.out)).mono ?_⟩
  rintro e w4 ⟨vr, gr, rfl, orr, hgr, b4⟩
  obtain ⟨cr, rfl⟩ := orr.shape
  have HR := Lib.hid orr
  have HA4 := Lib.hid (HA.out.below b4 (by omega))
  have HO4 := Lib.hid (HO.out.below b4 HO.out.lt)
  have HG4 := Lib.hid (HG.out.below b4 HG.out.lt)
  have HB4 := Lib.hid (HBB.out.trans (b4.mono (by omega)))
  have hs4 := b4.size
  have hcn := cnt_le n P m
  have hbw : w2.heap.size < w4.heap.size := by omega
  have hgb : g < w2.heap.size := hg2
  have hgr2 : w2.heap.size < gr := by omega
  clear HA HO HG HBB orr b4 hgr hs4 hs3 hs2 hg2
  generalize w2.heap.size = be at *
  gi_wp2
  refine wpIn_loop (fun a' w' => ∃ (k : Nat) (bs : List Nat) (u5 u13 u14 u15 u16 u17 u18 u26 : Value), a' = { tmps := #[.agg #[.slice p0 n c0, .slice p1 m c1], .pointer (some ⟨w.heap.size, 0, none⟩), .slice none 0 0, .pointer (some ⟨be, 0, none⟩), undef, u5, undef, .agg #[.slice p0 n c0, .slice p1 m c1], .slice (some ⟨g, 0, none⟩) n n, .agg #[.slice p0 n c0, .slice p1 m c1], .slice (some ⟨gr, 0, none⟩) (cnt n P m) cr, .int .i64 (cnt n P m : Nat), .int .i64 (k : Nat), u13, u14, u15, u16, u17, u18, undef, undef, undef, undef, undef, undef, undef, u26, undef], defers := marks bs } ∧ k ≤ cnt n P m ∧ Ob w' g n (tabC (enT n P m ((fl (rts n P m) n).take k).reverse)) ∧ Ob w' be 1 (fun _ => .slice (some ⟨g, 0, none⟩) n n) ∧ Own w' (.slice (some ⟨gr, 0, none⟩) (cnt n P m) cr) (cnt n P m) (fd (rts n P m) n) gr ∧ Ob w' w.heap.size 2 (bx (.slice p0 n c0) (.slice p1 m c1)) ∧ (∀ b, b ∈ bs → w'.heap[b]? = some (.deferred (some []))) ∧ (∀ b, b ∈ bs → be < b ∧ b ≠ gr) ∧ bs.Pairwise (· ≠ ·) ∧ Below w.heap.size w w' ∧ be < w'.heap.size) (fun a' _ => cnt n P m - (intOf (a'.tmps.getD 12 undef)).toNat) ?_ ?_
  · exact ⟨0, [], _, _, _, _, _, _, _, _, rfl, Nat.zero_le _, HG4.out, HO4.out, HR.out, HA4.out, by simp, by simp, by simp, HB4.out, by omega⟩
  · rintro a' wr ⟨k, bs, u5, u13, u14, u15, u16, u17, u18, u26, rfl, hk, og, ob, orr, oa, hbs, hbg, hbd, hb, hsz⟩
    clear HA4 HO4 HG4 HB4 HR
    have HG := Lib.hid og
    have HO := Lib.hid ob
    have HA := Lib.hid oa
    have HR := Lib.hid orr
    have HBS := Lib.hid hbs
    have HBG := Lib.hid hbg
    have HBD := Lib.hid hbd
    have HBB := Lib.hid hb
    clear og ob oa orr hbs hbg hbd hb
    dsimp only
    generalize hQ : Exit.then _ _ = Q
    have HQ := Lib.hid hQ
    clear hQ
    have k0 : (0 : Int) ≤ (k : Int) := Int.natCast_nonneg _
    have lg := HG.out.lt
    have lr := HR.out.lt
    by_cases hlt : k < cnt n P m
    · have k1 : (k : Int) < (cnt n P m : Int) := by omega
      obtain ⟨r, hr⟩ : ∃ r, (fl (rts n P m) n)[k]? = some r := ⟨_, List.getElem?_eq_getElem hlt⟩
      have hrn := (fl_lt (List.mem_of_getElem? hr)).1
      have y0 : wr.cell? ⟨gr, k, none⟩ = some (.int .i64 (r : Int)) := by
        have := HR.out.row.cell k hlt
        unfold fd at this
        rwa [hr] at this
      have y3 : wr.cell? ⟨w.heap.size, 0, none⟩ = some (.slice p0 n c0) := HA.out.b0
      have y4 : wr.cell? ⟨w.heap.size, 1, none⟩ = some (.slice p1 m c1) := HA.out.b1
      have HTK := Lib.hid (show ((fl (rts n P m) n).take (k + 1)).reverse = r :: ((fl (rts n P m) n).take k).reverse by rw [take_one hr, List.reverse_append]; rfl)
      clear hr
      generalize ((fl (rts n P m) n).take k).reverse = rs at *
      gi_wp2
      clear y0 y3 y4
      refine ⟨trivial, (callsIn_wide.2 (visitsFrom_any 8 (by omega) wr _ n N m P lo hi (HV.out.below HBB.out hhi) (by omega) HB.out r hrn)).mono ?_⟩
      rintro e w5 ⟨lb, rfl, hseq, b5, hs5⟩
      have g5 := HG.out.below b5 lg
      have o5 := HO.out.below b5 (by omega)
      have a5 := HA.out.below b5 (by omega)
      have r5 := HR.out.below b5 (Nat.le_refl _)
      have s5 : ∀ b, b ∈ bs → w5.heap[b]? = some (.deferred (some [])) := fun b hb => (b5.block b ((Array.getElem?_eq_some_iff.1 (HBS.out b hb)).1)).trans (HBS.out b hb)
      have bb5 := HBB.out.trans (b5.mono (by omega))
      have sl5 : ∀ b, b ∈ bs → b < w5.heap.size := fun b hb => (Array.getElem?_eq_some_iff.1 (s5 b hb)).1
      have sg5 : ∀ b, b ∈ bs → b ≠ g ∧ be < b ∧ b < w5.heap.size := fun b hb => by
        have h1 := (HBG.out b hb).1
        exact ⟨by omega, h1, sl5 b hb⟩
      gi_wp2
      refine wpIn_range_vis rfl (by omega) rfl trivial (fun _ _ => ?_) hseq (Upd.refl _ _) (fun b hb => by omega) (fun x => rfl) (fun b => b = g) (fun b hb => ⟨by omega, by omega⟩)
        (EnI n P m rs g be gr (.slice (some ⟨g, 0, none⟩) n n) (.slice (some ⟨gr, 0, none⟩) (cnt n P m) cr) (cnt n P m) (fd (rts n P m) n) (.slice p0 n c0) (.slice p1 m c1) bs w) ?_ ?_ ?_ ?_
      · rfl
      · exact fun pre Y A B hi hu => hi.upd hu (by omega) (by omega) (by omega) (by omega) (fun b hb => by have := sg5 b hb; omega) (fun k hk => by omega)
      · exact ⟨rfl, g5.congr (fun j hj => by unfold tabC; rw [enV_nil]), o5, r5, a5, s5, bb5⟩
      · intro l pre x post Y W hx hi hsz hY
        obtain ⟨rfl, ot, ob, orr, oa, os, bl⟩ := hi
        obtain ⟨q1, Z, hZ, q2⟩ := (HOK.out r hrn).round hx
        simp only [encV, List.zip_toArray, List.zip_cons_cons, List.zip_nil_right, List.foldl_toArray, List.foldl_cons, List.foldl_nil, List.setIfInBounds_toArray, List.set_cons_succ, List.set_cons_zero]
        gi_wp2
        refine ⟨Upd.alloc _ _ _, fun Wb hWb => ?_⟩
        have hbv := boxedV W x 174
        rw [hZ] at hbv
        have hst := hWb.size
        simp only [World.size_alloc] at hst
        have hbk : ∀ b, b < W.heap.size → ¬ (w5.heap.size ≤ b ∧ b < w5.heap.size + 4) → Wb.heap[b]? = W.heap[b]? := fun b h1 h2 => (hWb.block b (by simp; omega) h2).trans (Below.heap_alloc _ _ _ h1)
        have hbv2 := hbv.keep (hWb.block W.heap.size (by simp) (by omega))
        have ot2 := ot.keep (hbk _ ot.lt (by omega))
        have ob2 := ob.keep (hbk _ ob.lt (by omega))
        have or2 := orr.keep (hbk _ orr.lt (by omega))
        have oa2 := oa.keep (hbk _ oa.lt (by omega))
        have os2 : ∀ b, b ∈ bs → Wb.heap[b]? = some (.deferred (some [])) := fun b hb => (hbk b ((Array.getElem?_eq_some_iff.1 (os b hb)).1) (by have := sg5 b hb; omega)).trans (os b hb)
        have lt1 := ot.lt
        have lt2 := ob.lt
        have y0 : Wb.cell? ⟨be, 0, none⟩ = some (.slice (some ⟨g, 0, none⟩) n n) := ob2.cell 0 (by omega)
        have y1 : Wb.cell? ⟨W.heap.size, 0, none⟩ = some (.int .i64 (Z : Int)) := by rw [← hZ]; exact hbv2.cell 0 (by omega)
        have y2 : Wb.cell? ⟨W.heap.size, 1, none⟩ = some (.int .i64 x.en) := hbv2.cell 1 (by omega)
        have y3 : Wb.cell? ⟨g, Z, none⟩ = some (tabC (enV n P m rs pre) Z) := ot2.cell Z (by omega)
        have y4 : Wb.frozen? ⟨g, Z, none⟩ = false := ot2.free Z
        have y5 : (0 : Int) ≤ (Z : Int) := Int.natCast_nonneg _
        have y6 : (Z : Int) < (n : Int) := by omega
        have hbl2 : Below w.heap.size w Wb := (below_alloc bl (by omega) (.cells #[.int .i64 (Z : Int), .int .i64 x.en, .int .i64 x.ds] 174)).trans (hWb.below (by simp; omega) (fun k _ hk => by omega))
        have ts := en_step ot2 q1 hZ q2
        have o1 := (Only.refl g Wb).setCell Z (.int .i64 x.en)
        have H2 := Lib.hid os2
        have H5 := Lib.hid sg5
        clear hbv hbv2 hbk hWb os2 os sg5 sl5 s5
        gi_wp2
        exact ⟨_, (Upd.of_only o1).mono (fun b _ hb => .inl hb), ⟨rfl, ts, ob2.only o1 (by omega), or2.keep (o1.block _ (by omega)), oa2.only o1 (by omega), fun b hb => (o1.block b (H5.out b hb).1).trans (H2.out b hb), hbl2.trans (o1.below (by omega))⟩, fun b hb => .inl hb⟩
      · intro Y W hi hd
        obtain ⟨rfl, ot, ob, orr, oa, os, bl⟩ := hi
        have H1 := Lib.hid os
        have H5 := Lib.hid sg5
        have H6 := Lib.hid hd
        have hWs := (Array.getElem?_eq_some_iff.1 hd).1
        clear os sg5 sl5 s5 hd
        gi_wp2
        rw [← HQ.out]
        refine ⟨⟨k + 1, w5.heap.size :: bs, _, _, _, _, _, _, _, _, rfl, hlt, ?_, ob, orr, oa, ?_, ?_, ?_, bl, by omega⟩, ?_⟩
        · rw [HTK.out]
          exact ot.congr (fun j hj => by unfold tabC; rw [enV_all])
        · rintro b hb
          rcases List.mem_cons.1 hb with rfl | hb
          · exact H6.out
          · exact H1.out b hb
        · rintro b hb
          rcases List.mem_cons.1 hb with rfl | hb
          · omega
          · exact ⟨(H5.out b hb).2.1, (HBG.out b hb).2⟩
        · exact List.pairwise_cons.2 ⟨fun b hb => by have := (H5.out b hb).2.2; omega, HBD.out⟩
        · simp [intOf]
          omega
    · have hkn : cnt n P m = k := by omega
      subst hkn
      have k1 : ¬ ((cnt n P m : Int) < (cnt n P m : Int)) := by omega
      have y0 : wr.cell? ⟨be, 0, none⟩ = some (.slice (some ⟨g, 0, none⟩) n n) := HO.out.cell 0 (by omega)
      have HT := Lib.hid (show (fl (rts n P m) n).take (cnt n P m) = fl (rts n P m) n by unfold cnt; rw [List.take_length])
      gi_wp2
      rw [← HQ.out]
      gi_wp2
      refine leaves_marks (by simp) bs wr HBS.out HBD.out (fun w' hw' => ?_)
      refine ⟨_, results_tmp rfl _ _ _, g, rfl, by omega, ?_, HBB.out.trans (hw'.below HBB.out.size (fun j _ hj => by have := HBG.out j hj; omega))⟩
      have hg := HG.out
      rw [HT.out] at hg
      refine (hg.congr fun j hj => ?_).keep (hw'.block g lg (fun hh => by have := HBG.out g hh; omega))
      unfold tabC
      rw [HEND.out _ ⟨Int.natCast_nonneg _, by omega⟩]
end Go.Proofs.YtdbgcbkmcbgdiaaGreat.mem

namespace Go.Proofs.YtdbgcbkmcbgdiaaGreat.mem
open Go.RowKit
set_option linter.unusedVariables false

/-- one number behind a list -/
theorem appL (wr : World) (v : Value) (l : List Int) (g : Nat) (e : Int) (h : Own wr v l.length (lD l) g) (hn : l.length ≤ 1000000) :
    ∃ w7 g7 c7, Sem.run Tryz.prog (Builtin.append_ #[28, 28] 28 #[v, .slice (some ⟨wr.heap.size, 0, none⟩) 1 1]) (wr.alloc (.cells #[.int .i64 e] 2)) = .ok (.slice (some ⟨g7, 0, none⟩) (l.length + 1) c7) w7 ∧
      Own w7 (.slice (some ⟨g7, 0, none⟩) (l ++ [e]).length c7) (l ++ [e]).length (lD (l ++ [e])) g7 ∧ (∀ B, B ≤ g → B ≤ wr.heap.size → Below B wr w7 ∧ B ≤ g7) ∧ (∀ c, c ≠ g → c < wr.heap.size → w7.heap[c]? = wr.heap[c]? ∧ c ≠ g7) := by
  obtain ⟨v7, w7, g7, hr, ap⟩ := app_run (wr.alloc (.cells #[.int .i64 e] 2)) v l.length _ g e wr.heap.size (h.alloc _) (cell_new1 wr _) hn
  obtain ⟨c7, rfl⟩ := ap.own.shape
  have O7 := ap.own.congr (e := lD (l ++ [e])) (fun k hk => by rw [lD_app, if_pos hk])
  have hl : (l ++ [e]).length = l.length + 1 := by simp
  refine ⟨w7, g7, c7, hr, by rw [hl]; exact O7, fun B h1 h2 => ?_, fun c h1 h2 => ?_⟩
  · have := ap.below (B := B) h1 (by rw [szal]; have := h.lt; omega)
    exact ⟨((below_new wr _).mono h2).trans this.1, this.2⟩
  · have := ap.other h1 (by rw [szal]; omega)
    exact ⟨this.1.trans (Below.heap_alloc _ _ _ h2), this.2⟩

set_option maxRecDepth 100000 in
set_option maxHeartbeats 4000000 in
theorem forest_any (w : World) (v : Value) (n : Nat) (N : Nat → Nod) (m : Nat) (P : Nat → Pip) (lo hi : Nat) (h : NetAt w v n N m P lo hi) (hhi : hi ≤ w.heap.size) (hB : netB n N m P = true) :
    Calls Tryz.prog 110 #[v] w fun e w' => ∃ v' g, e = .returned v' ∧ Own w' v' (forest n P m).length (lD (forest n P m)) g ∧ w.heap.size < g ∧ Below w.heap.size w w' := by
  obtain ⟨p0, c0, p1, c1, rfl, hn9, hm9⟩ := h.parts
  obtain ⟨hn1, hn24, hm40⟩ := net_sz hB
  have HV := Lib.hid h
  have A0 := (boxed w (.slice p0 n c0) (.slice p1 m c1) 27).keep (Below.heap_alloc _ (.cells #[] 2) _ (by simp only [World.size_alloc]; omega))
  have B0 := (below_new w (.cells #[.slice p0 n c0, .slice p1 m c1] 27)).trans ((below_new _ (.cells #[] 2)).mono (by simp only [World.size_alloc]; omega))
  have F0 := Own.nilled (w.alloc (.cells #[.slice p0 n c0, .slice p1 m c1] 27)) (lD [])
  have hs0 : ((w.alloc (.cells #[.slice p0 n c0, .slice p1 m c1] 27)).alloc (.cells #[] 2)).heap.size = w.heap.size + 1 + 1 := by simp
  simp only [World.size_alloc] at F0
  have HFE := Lib.hid (fun l => forest_eq2 (P := P) (m := m) hB (l := l))
  have HB := Lib.hid hB
  have e0 := A0.b0
  have e1 := A0.b1
  have HF := Lib.hid F0
  have HBB := Lib.hid B0
  clear F0 B0 A0 h hB
  go_enter Tryz.func110, Tryz.ntmps110
  go_wp2_with fail
  obtain ⟨w2, hw2⟩ : ∃ w2, ((w.alloc (.cells #[.slice p0 n c0, .slice p1 m c1] 27)).alloc (.cells #[] 2)) = w2 := ⟨_, rfl⟩
  rw [hw2] at hs0 HF HBB e0 e1 ⊢
  clear hw2 e0 e1
  refine (forestEntries_any w2 _ n N m P lo hi (HV.out.below HBB.out hhi) (by omega) HB.out).mono ?_
  rintro e w3 ⟨gt, rfl, hgt, ot, b3⟩
  have HT := Lib.hid ot
  have HF3 := Lib.hid (HF.out.below b3 (Nat.le_refl _))
  have HB3 := Lib.hid (HBB.out.trans (b3.mono (by omega)))
  have hs3 := b3.size
  clear ot b3 HF HBB
  obtain ⟨g0, hg0⟩ : ∃ g0, w.heap.size + 1 = g0 := ⟨_, rfl⟩
  have e2 : w.heap.size < g0 := by omega
  rw [hg0] at HF3
  have e3 : g0 < gt := by omega
  rw [hg0]
  clear hg0 hs0 hgt hs3
  go_wp2_with fail
  go_loopw [3, 10] (fun ov iv wr => ∃ (k g : Nat) (l : List Int) (ov' : Value), ov' = ov ∧ iv = .int .i64 k ∧ k ≤ n ∧ Own wr ov' l.length (lD l) g ∧ l = feL n P m k ∧ w.heap.size < g ∧ g ≠ gt ∧ Ob wr gt n (tabC (fE n P m)) ∧ Below w.heap.size w wr) (fun _ iv _ => n - (intOf iv).toNat)
  case atStart => exact ⟨0, g0, [], _, rfl, rfl, Nat.zero_le _, HF3.out, rfl, e2, by omega, HT.out, HB3.out⟩
  case round =>
    obtain ⟨k, g, l, ov, rfl, rfl, hk, ho, hl, hg, hne, ht, hb⟩ := hrel
    obtain ⟨co, rfl⟩ := ho.shape
    clear HF3 HT HB3 e3 e2
    have HO := Lib.hid ho
    have HT := Lib.hid ht
    have HBB := Lib.hid hb
    have lg := ho.lt
    have lt := ht.lt
    have hll : l.length ≤ n := by rw [hl]; exact Nat.le_trans (feL_le n P m k) hk
    have HL := Lib.hid hl
    clear ho ht hb hl
    have k0 : (0 : Int) ≤ (k : Int) := Int.natCast_nonneg _
    generalize hQ : Exit.then _ _ = Q
    have HQ := Lib.hid hQ
    clear hQ
    by_cases hlt : k < n
    · have k1 : (k : Int) < (n : Int) := by omega
      have y0 : wr.cell? ⟨gt, k, none⟩ = some (.int .i64 (fE n P m (k : Nat))) := HT.out.cell k hlt
      by_cases hen : fE n P m (k : Nat) = -1
      · have hb1 : (fE n P m (k : Nat) != -1) = false := by simp [hen]
        have HR := Lib.hid (show feL n P m (k + 1) = feL n P m k by rw [feL_succ, if_pos hen])
        clear hen
        go_wp2_with fail
        rw [← HQ.out]
        refine ⟨⟨_, _, _, _, _, _, _, _, _, _, _, _, _, ?rel, rfl⟩, ?measure⟩
        case rel => exact ⟨k + 1, g, l, _, rfl, by go_num, hlt, HO.out, by rw [HR.out]; exact HL.out, hg, hne, HT.out, HBB.out⟩
        case measure => simp [intOf]; omega
      · have hb1 : (fE n P m (k : Nat) != -1) = true := by simpa using hen
        have HR := Lib.hid (show feL n P m (k + 1) = feL n P m k ++ [fE n P m (k : Nat)] by rw [feL_succ, if_neg hen])
        clear hen
        obtain ⟨w7, g7, c7, hr, O7, hbe, hot⟩ := appL wr _ l g (fE n P m (k : Nat)) HO.out (by omega)
        have b7 := hbe (w.heap.size + 1) (by omega) (by have := HBB.out.size; omega)
        have t7 := hot gt (fun e => hne e.symm) lt
        have HT7 := Lib.hid (HT.out.keep t7.1)
        have HO7 := Lib.hid O7
        have HB7 := Lib.hid (HBB.out.trans (b7.1.mono (by omega)))
        have hg7 := b7.2
        have hne7 := t7.2
        have HLL := Lib.hid (show l.length + 1 = (l ++ [fE n P m (k : Nat)]).length by simp)
        clear O7 hbe hot b7 t7
        go_wp2_with (at_builtin; refine wpList_app hr rfl _ _ rfl rfl rfl rfl ?_)
        rw [← HQ.out]
        refine ⟨⟨_, _, _, _, _, _, _, _, _, _, _, _, _, ?rel, rfl⟩, ?measure⟩
        case rel => exact ⟨k + 1, g7, l ++ [fE n P m (k : Nat)], _, by rw [HLL.out], by go_num, hlt, HO7.out, by rw [HR.out, HL.out], by omega, fun e => hne7 e.symm, HT7.out, HB7.out⟩
        case measure => simp [intOf]; omega
    · have hkn : n = k := by omega
      subst hkn
      have k1 : ¬ ((n : Int) < (n : Int)) := by omega
      have hfo := HFE.out ((dl l.length (lD l)).mergeSort fun x y => decide (x ≤ y)) (by rw [dl_lD, ← HL.out]; exact List.mergeSort_perm _ _) (by
        have := List.pairwise_mergeSort (le := fun (x y : Int) => decide (x ≤ y)) (fun a b c => by simp only [decide_eq_true_eq]; omega) (fun a b => by simp only [Bool.or_eq_true, decide_eq_true_eq]; omega) (dl l.length (lD l))
        exact this.imp (fun h => by simpa using h))
      have HFO := Lib.hid hfo
      have HLE := Lib.hid (show l.length = (forest n P m).length by rw [← HFO.out, List.length_mergeSort, dl_len])
      clear hfo
      go_wp2_with fail
      rw [← HQ.out]
      go_wp2_with fail
      refine (sort_any wr _ l.length _ g HO.out (by omega)).mono ?_
      rintro e w6 ⟨rfl, o6, u6⟩
      have HB6 := Lib.hid (HBB.out.trans (u6.below (B := w.heap.size) (by omega) (fun k _ hk => by omega)))
      have HO6 := Lib.hid o6
      clear o6 u6
      have HO7 := Lib.hid ((HO6.out.congr (e := lD (forest n P m)) (fun k hk => by rw [HFO.out]; rfl)))
      go_wp2
      go_ret
      exact ⟨_, g, rfl, by rw [← HLE.out]; exact HO7.out, by omega, HB6.out⟩
end Go.Proofs.YtdbgcbkmcbgdiaaGreat.mem

namespace Go.Proofs.YtdbgcbkmcbgdiaaGreat.mem
open Go.RowKit
set_option linter.unusedVariables false

/-- v is a slice of n integers d 0, d 1, ..; its block, if it has elements, is one from lo on and below hi -/
structure Sl (w : World) (v : Value) (n : Nat) (d : Nat → Int) (lo hi : Nat) : Prop where
  ex : ∃ p cap, v = .slice p n cap ∧ (n = 0 ∨ ∃ b o, p = some ⟨b, o, none⟩ ∧ lo ≤ b ∧ b < hi ∧ ∀ k, k < n → w.cell? ⟨b, o + k, none⟩ = some (.int .i64 (d k)))
theorem Sl.below {w w' : World} {v : Value} {n : Nat} {d : Nat → Int} {lo hi B : Nat} (h : Sl w v n d lo hi) (g : Below B w w') (hB : hi ≤ B) : Sl w' v n d lo hi := by
  obtain ⟨p, cap, rfl, h | ⟨b, o, rfl, h1, h2, h3⟩⟩ := h
  · exact ⟨p, cap, rfl, .inl h⟩
  · exact ⟨_, cap, rfl, .inr ⟨b, o, rfl, h1, h2, fun k hk => (g.cell (p := ⟨b, o + k, none⟩) (by show b < B; omega)).trans (h3 k hk)⟩⟩
theorem Sl.only {w w' : World} {v : Value} {n c : Nat} {d : Nat → Int} {lo hi : Nat} (h : Sl w v n d lo hi) (g : Only c w w') (hc : c < lo ∨ hi ≤ c) : Sl w' v n d lo hi := by
  obtain ⟨p, cap, rfl, h | ⟨b, o, rfl, h1, h2, h3⟩⟩ := h
  · exact ⟨p, cap, rfl, .inl h⟩
  · exact ⟨_, cap, rfl, .inr ⟨b, o, rfl, h1, h2, fun k hk => (g.cell (a := ⟨b, o + k, none⟩) (by show b ≠ c; omega)).trans (h3 k hk)⟩⟩
theorem Sl.drewN {w : World} {v : Value} {n : Nat} {d : Nat → Int} {lo hi : Nat} (h : Sl w v n d lo hi) (m : Nat) : Sl (w.drewN m) v n d lo hi := by
  obtain ⟨p, cap, rfl, h | ⟨b, o, rfl, h1, h2, h3⟩⟩ := h
  · exact ⟨p, cap, rfl, .inl h⟩
  · exact ⟨_, cap, rfl, .inr ⟨b, o, rfl, h1, h2, h3⟩⟩
theorem Sl.mono {w : World} {v : Value} {n : Nat} {d : Nat → Int} {lo hi lo' hi' : Nat} (h : Sl w v n d lo hi) (h1 : lo' ≤ lo) (h2 : hi ≤ hi') : Sl w v n d lo' hi' := by
  obtain ⟨p, cap, rfl, h | ⟨b, o, rfl, g1, g2, g3⟩⟩ := h
  · exact ⟨p, cap, rfl, .inl h⟩
  · exact ⟨_, cap, rfl, .inr ⟨b, o, rfl, by omega, by omega, g3⟩⟩
theorem Sl.congr {w : World} {v : Value} {n : Nat} {d d' : Nat → Int} {lo hi : Nat} (h : Sl w v n d lo hi) (e : ∀ k, k < n → d k = d' k) : Sl w v n d' lo hi := by
  obtain ⟨p, cap, rfl, h | ⟨b, o, rfl, g1, g2, g3⟩⟩ := h
  · exact ⟨p, cap, rfl, .inl h⟩
  · exact ⟨_, cap, rfl, .inr ⟨b, o, rfl, g1, g2, fun k hk => by rw [← e k hk]; exact g3 k hk⟩⟩
theorem Row.sl {w : World} {b n cap : Nat} {d : Nat → Int} (h : Row w b n d) {lo hi : Nat} (h1 : lo ≤ b) (h2 : b < hi) : Sl w (.slice (some ⟨b, 0, none⟩) n cap) n d lo hi :=
  ⟨_, cap, rfl, .inr ⟨b, 0, rfl, h1, h2, fun k hk => by rw [Nat.zero_add]; exact h.cell k hk⟩⟩


end Go.Proofs.YtdbgcbkmcbgdiaaGreat.mem

namespace Go.Proofs.YtdbgcbkmcbgdiaaGreat.mem
open Go.RowKit
set_option linter.unusedVariables false

/-- a number is among the first n -/
def hasB (n : Nat) (d : Nat → Int) (x : Int) : Bool := (List.range n).any fun i => d i == x
theorem hasB_yes {n k : Nat} {d : Nat → Int} {x : Int} (hk : k < n) (h : d k = x) : hasB n d x = true := by
  unfold hasB
  rw [List.any_eq_true]
  exact ⟨k, by simpa using hk, by rw [h]; simp⟩
theorem hasB_no {n : Nat} {d : Nat → Int} {x : Int} (h : ∀ k, k < n → d k ≠ x) : hasB n d x = false := by
  unfold hasB
  rw [List.any_eq_false]
  intro k hk
  simp only [beq_iff_eq]
  exact h k (by simpa using hk)
set_option maxHeartbeats 1000000 in
theorem l02Has_any (w : World) (v : Value) (n : Nat) (d : Nat → Int) (lo hi : Nat) (h : Cs w v n 1 (fun i _ => .int .i64 (d i)) lo hi) (x : Int) :
    Calls Tryz.prog 161 #[v, .int .i64 x] w fun e w' => e = .returned (.bool (hasB n d x)) ∧ w = w' := by
  obtain ⟨p, cap, rfl, q1, q2, hc⟩ := h
  have HC := Lib.hid hc
  clear hc
  go_enter Tryz.func161, Tryz.ntmps161
  go_wp2_with fail
  go_loop [5] (fun i => ∃ k : Nat, i = .int .i64 k ∧ k ≤ n ∧ ∀ y, y < k → d y ≠ x) (fun i => n - (intOf i).toNat)
  case atStart => exact ⟨0, rfl, Nat.zero_le _, fun y hy => by omega⟩
  case round =>
    obtain ⟨k, rfl, hk, hall⟩ := hrel
    have HA := Lib.hid hall
    clear hall
    by_cases hlt : k < n
    · rcases HC.out with h0 | ⟨b, o, rfl, g1, g2, g3⟩
      · omega
      have c1 : w.cell? ⟨b, o + k, none⟩ = some (.int .i64 (d k)) := by have := g3.cell k 0 hlt (by omega); simpa using this
      clear g3
      by_cases he : d k = x
      · have h1 : (d k == x) = true := by rw [beq_iff_eq]; exact he
        have HB := Lib.hid (hasB_yes hlt he)
        clear he
        go_wp2_with fail
        go_ret
        exact ⟨ret_b HB.out.symm, rfl⟩
      · have h1 : (d k == x) = false := by rw [beq_eq_false_iff_ne]; exact he
        have HE := Lib.hid he
        clear he
        go_wp2_with fail
        go_round
        case rel =>
          refine ⟨k + 1, by go_num, hlt, fun y hy => ?_⟩
          by_cases e : y = k
          · subst e; exact HE.out
          · exact HA.out y (by omega)
        case measure => simp [intOf]; omega
    · obtain rfl : k = n := by omega
      have HB := Lib.hid (hasB_no HA.out)
      go_wp2_with fail
      go_ret
      exact ⟨ret_b HB.out.symm, rfl⟩

end Go.Proofs.YtdbgcbkmcbgdiaaGreat.mem

namespace Go.Proofs.YtdbgcbkmcbgdiaaGreat.mem
open Go.RowKit
set_option linter.unusedVariables false

/-- the cells of an array of numbers -/
def ia (x : Nat → Int) (k : Nat) : Value := .int .i64 (x k)
def arrL (x : Nat → Int) : List Value := (List.range 40).map (ia x)
def arr (x : Nat → Int) : Array Value := List.toArray (arrL x)
theorem arr_size (x : Nat → Int) : (arr x).size = 40 := by unfold arr arrL; simp
theorem arr_get (x : Nat → Int) (k : Nat) (hk : k < 40) : (arr x)[k]? = some (ia x k) := by unfold arr arrL; simp [hk]
theorem arr_eq {cur : Array Value} {x : Nat → Int} (h1 : cur.size = 40) (h2 : ∀ k, k < 40 → cur[k]? = some (ia x k)) : cur = arr x := by
  apply Array.ext_getElem?
  intro k
  by_cases h : k < 40
  · rw [h2 k h, arr_get x k h]
  · rw [Array.getElem?_eq_none (by omega), Array.getElem?_eq_none (by rw [arr_size]; omega)]
theorem arr_congr {x y : Nat → Int} (h : ∀ k, k < 40 → x k = y k) : arr x = arr y := by
  refine arr_eq (arr_size x) fun k hk => ?_
  rw [arr_get x k hk]
  unfold ia
  rw [h k hk]
theorem arr_one (x : Nat → Int) : (arr x).all (·.oneCell') = true := by
  rw [Array.all_eq_true_iff_forall_mem]
  intro v hv
  unfold arr arrL at hv
  simp only [List.mem_toArray, List.mem_map] at hv
  obtain ⟨i, _, rfl⟩ := hv
  rfl
theorem zeros40 (k : Nat) (hk : k < 40) : (#[Value.int IntKind.i64 0, Value.int IntKind.i64 0, Value.int IntKind.i64 0, Value.int IntKind.i64 0, Value.int IntKind.i64 0, Value.int IntKind.i64 0, Value.int IntKind.i64 0, Value.int IntKind.i64 0, Value.int IntKind.i64 0, Value.int IntKind.i64 0, Value.int IntKind.i64 0, Value.int IntKind.i64 0, Value.int IntKind.i64 0, Value.int IntKind.i64 0, Value.int IntKind.i64 0, Value.int IntKind.i64 0, Value.int IntKind.i64 0, Value.int IntKind.i64 0, Value.int IntKind.i64 0, Value.int IntKind.i64 0, Value.int IntKind.i64 0, Value.int IntKind.i64 0, Value.int IntKind.i64 0, Value.int IntKind.i64 0, Value.int IntKind.i64 0, Value.int IntKind.i64 0, Value.int IntKind.i64 0, Value.int IntKind.i64 0, Value.int IntKind.i64 0, Value.int IntKind.i64 0, Value.int IntKind.i64 0, Value.int IntKind.i64 0, Value.int IntKind.i64 0, Value.int IntKind.i64 0, Value.int IntKind.i64 0, Value.int IntKind.i64 0, Value.int IntKind.i64 0, Value.int IntKind.i64 0, Value.int IntKind.i64 0, Value.int IntKind.i64 0] : Array Value)[k]? = some (ia (fun _ => 0) k) := by
  rcases (by omega : k = 0 ∨ k = 1 ∨ k = 2 ∨ k = 3 ∨ k = 4 ∨ k = 5 ∨ k = 6 ∨ k = 7 ∨ k = 8 ∨ k = 9 ∨ k = 10 ∨ k = 11 ∨ k = 12 ∨ k = 13 ∨ k = 14 ∨ k = 15 ∨ k = 16 ∨ k = 17 ∨ k = 18 ∨ k = 19 ∨ k = 20 ∨ k = 21 ∨ k = 22 ∨ k = 23 ∨ k = 24 ∨ k = 25 ∨ k = 26 ∨ k = 27 ∨ k = 28 ∨ k = 29 ∨ k = 30 ∨ k = 31 ∨ k = 32 ∨ k = 33 ∨ k = 34 ∨ k = 35 ∨ k = 36 ∨ k = 37 ∨ k = 38 ∨ k = 39) with rfl | rfl | rfl | rfl | rfl | rfl | rfl | rfl | rfl | rfl | rfl | rfl | rfl | rfl | rfl | rfl | rfl | rfl | rfl | rfl | rfl | rfl | rfl | rfl | rfl | rfl | rfl | rfl | rfl | rfl | rfl | rfl | rfl | rfl | rfl | rfl | rfl | rfl | rfl | rfl <;> rfl
/-- the whole array out of an own block -/
theorem Ob.row {w : World} {b : Nat} {x : Nat → Int} (h : Ob w b 40 (ia x)) : ∃ t, w.heap[b]? = some (.cells (arr x) t (0, 0)) := by
  obtain ⟨cur, t, h1, h2, h3⟩ := h.ex
  rw [arr_eq h2 h3] at h1
  exact ⟨t, h1⟩
theorem flow_info : (Tryz.prog.info? 111).map (·.size) = some 40 := by kernel_rfl
theorem Ob.load {w : World} {b : Nat} {x : Nat → Int} (h : Ob w b 40 (ia x)) : (loadVar 111 ⟨b, 0, none⟩).run Tryz.prog w = .ok (.agg (arr x)) w := by
  obtain ⟨t, h1⟩ := h.row
  exact run_loadVar_row w b t _ (arr x) (0, 0) _ h1 Tryz.underlying111 rfl (by rw [arr_size]; exact flow_info)
theorem Ob.newA (w : World) (x : Nat → Int) (t : TypeId) : Ob (w.alloc (.cells (arr x) t)) w.heap.size 40 (ia x) := Ob.new w _ t 40 _ (arr_size x) (fun k hk => arr_get x k hk)
theorem Ob.new0 (w : World) (t : TypeId) : Ob (w.alloc (.cells #[Value.int IntKind.i64 0, Value.int IntKind.i64 0, Value.int IntKind.i64 0, Value.int IntKind.i64 0, Value.int IntKind.i64 0, Value.int IntKind.i64 0, Value.int IntKind.i64 0, Value.int IntKind.i64 0, Value.int IntKind.i64 0, Value.int IntKind.i64 0, Value.int IntKind.i64 0, Value.int IntKind.i64 0, Value.int IntKind.i64 0, Value.int IntKind.i64 0, Value.int IntKind.i64 0, Value.int IntKind.i64 0, Value.int IntKind.i64 0, Value.int IntKind.i64 0, Value.int IntKind.i64 0, Value.int IntKind.i64 0, Value.int IntKind.i64 0, Value.int IntKind.i64 0, Value.int IntKind.i64 0, Value.int IntKind.i64 0, Value.int IntKind.i64 0, Value.int IntKind.i64 0, Value.int IntKind.i64 0, Value.int IntKind.i64 0, Value.int IntKind.i64 0, Value.int IntKind.i64 0, Value.int IntKind.i64 0, Value.int IntKind.i64 0, Value.int IntKind.i64 0, Value.int IntKind.i64 0, Value.int IntKind.i64 0, Value.int IntKind.i64 0, Value.int IntKind.i64 0, Value.int IntKind.i64 0, Value.int IntKind.i64 0, Value.int IntKind.i64 0] t)) w.heap.size 40 (ia (fun _ => 0)) := Ob.new w _ t 40 _ rfl (fun k hk => zeros40 k hk)
theorem Ob.setI {w : World} {b : Nat} {x : Nat → Int} (h : Ob w b 40 (ia x)) (i : Nat) (v : Int) (hi : i < 40) : Ob (w.setCell ⟨b, i, none⟩ (.int .i64 v)) b 40 (ia (upd x i v)) := by
  refine (h.set i (.int .i64 v) hi).congr fun k _ => ?_
  unfold updV ia upd
  split <;> rfl
theorem Ob.setRow {w : World} {b : Nat} {d : Nat → Value} (h : Ob w b 40 d) (x : Nat → Int) : Ob (w.setRow b (arr x)) b 40 (ia x) := by
  obtain ⟨cur, t, h1, h2, h3⟩ := h.ex
  refine ⟨arr x, t, ?_, arr_size x, fun k hk => arr_get x k hk⟩
  simp [World.setRow, Array.getElem?_modify, h1]
theorem Only.setRow {g : Nat} {w w' : World} (h : Only g w w') (c : Array Value) : Only g w (w'.setRow g c) := h.trans ⟨rfl, rfl, rfl, by simp [World.setRow], fun k hk => by simp [World.setRow, Array.getElem?_modify, Ne.symm hk]⟩

theorem results_arr {fn : Func} {p : Tmp} {tmps : Array Value} {w : World} {b : Nat} {x : Nat → Int} (h : fn.results = #[.cell p 111]) (hp : tmps.getD p undef = .pointer (some ⟨b, 0, none⟩)) (ho : Ob w b 40 (ia x)) : (results fn tmps).run Tryz.prog w = .ok (.agg (arr x)) w := by
  obtain ⟨t, h1⟩ := ho.row
  exact results_cell_row h tmps w b t (arr x) (0, 0) _ hp h1 Tryz.underlying111 rfl (by rw [arr_size]; exact flow_info)
theorem below_drw {B : Nat} {w w' : World} (h : Below B w w') : Below B w w'.drew := ⟨h.os, h.tape, h.output, h.size, h.block⟩
set_option maxHeartbeats 4000000 in
theorem plus_any (w : World) (x y : Nat → Int) (t : Int) (hb : ∀ k, k < 40 → -4611686018427387904 ≤ x k + y k * t ∧ x k + y k * t ≤ 4611686018427387904) (hm : ∀ k, k < 40 → -4611686018427387904 ≤ y k * t ∧ y k * t ≤ 4611686018427387904) :
    Calls Tryz.prog 92 #[.agg (arr x), .agg (arr y), .int .i64 t] w fun e w' => e = .returned (.agg (arr (fun k => x k + y k * t))) ∧ Below w.heap.size w w' := by
  go_enter Tryz.func92, Tryz.ntmps92
  go_wp2_with fail
  have a0 := Ob.newA w x 111
  have a1 := Ob.newA (w.alloc (.cells (arr x) 111)) y 111
  have a2 := Ob.new0 ((w.alloc (.cells (arr x) 111)).alloc (.cells (arr y) 111)) 111
  have b0 := ((below_new w (.cells (arr x) 111)).trans ((below_new _ (.cells (arr y) 111)).mono (by simp))).trans ((below_new _ (.cells #[Value.int IntKind.i64 0, Value.int IntKind.i64 0, Value.int IntKind.i64 0, Value.int IntKind.i64 0, Value.int IntKind.i64 0, Value.int IntKind.i64 0, Value.int IntKind.i64 0, Value.int IntKind.i64 0, Value.int IntKind.i64 0, Value.int IntKind.i64 0, Value.int IntKind.i64 0, Value.int IntKind.i64 0, Value.int IntKind.i64 0, Value.int IntKind.i64 0, Value.int IntKind.i64 0, Value.int IntKind.i64 0, Value.int IntKind.i64 0, Value.int IntKind.i64 0, Value.int IntKind.i64 0, Value.int IntKind.i64 0, Value.int IntKind.i64 0, Value.int IntKind.i64 0, Value.int IntKind.i64 0, Value.int IntKind.i64 0, Value.int IntKind.i64 0, Value.int IntKind.i64 0, Value.int IntKind.i64 0, Value.int IntKind.i64 0, Value.int IntKind.i64 0, Value.int IntKind.i64 0, Value.int IntKind.i64 0, Value.int IntKind.i64 0, Value.int IntKind.i64 0, Value.int IntKind.i64 0, Value.int IntKind.i64 0, Value.int IntKind.i64 0, Value.int IntKind.i64 0, Value.int IntKind.i64 0, Value.int IntKind.i64 0, Value.int IntKind.i64 0] 111)).mono (by simp; omega))
  have c0 := (a0.keep (Below.heap_alloc _ (.cells (arr y) 111) _ a0.lt)).keep (Below.heap_alloc _ (.cells #[Value.int IntKind.i64 0, Value.int IntKind.i64 0, Value.int IntKind.i64 0, Value.int IntKind.i64 0, Value.int IntKind.i64 0, Value.int IntKind.i64 0, Value.int IntKind.i64 0, Value.int IntKind.i64 0, Value.int IntKind.i64 0, Value.int IntKind.i64 0, Value.int IntKind.i64 0, Value.int IntKind.i64 0, Value.int IntKind.i64 0, Value.int IntKind.i64 0, Value.int IntKind.i64 0, Value.int IntKind.i64 0, Value.int IntKind.i64 0, Value.int IntKind.i64 0, Value.int IntKind.i64 0, Value.int IntKind.i64 0, Value.int IntKind.i64 0, Value.int IntKind.i64 0, Value.int IntKind.i64 0, Value.int IntKind.i64 0, Value.int IntKind.i64 0, Value.int IntKind.i64 0, Value.int IntKind.i64 0, Value.int IntKind.i64 0, Value.int IntKind.i64 0, Value.int IntKind.i64 0, Value.int IntKind.i64 0, Value.int IntKind.i64 0, Value.int IntKind.i64 0, Value.int IntKind.i64 0, Value.int IntKind.i64 0, Value.int IntKind.i64 0, Value.int IntKind.i64 0, Value.int IntKind.i64 0, Value.int IntKind.i64 0, Value.int IntKind.i64 0] 111) _ (by simp; omega))
  have c1 := a1.keep (Below.heap_alloc _ (.cells #[Value.int IntKind.i64 0, Value.int IntKind.i64 0, Value.int IntKind.i64 0, Value.int IntKind.i64 0, Value.int IntKind.i64 0, Value.int IntKind.i64 0, Value.int IntKind.i64 0, Value.int IntKind.i64 0, Value.int IntKind.i64 0, Value.int IntKind.i64 0, Value.int IntKind.i64 0, Value.int IntKind.i64 0, Value.int IntKind.i64 0, Value.int IntKind.i64 0, Value.int IntKind.i64 0, Value.int IntKind.i64 0, Value.int IntKind.i64 0, Value.int IntKind.i64 0, Value.int IntKind.i64 0, Value.int IntKind.i64 0, Value.int IntKind.i64 0, Value.int IntKind.i64 0, Value.int IntKind.i64 0, Value.int IntKind.i64 0, Value.int IntKind.i64 0, Value.int IntKind.i64 0, Value.int IntKind.i64 0, Value.int IntKind.i64 0, Value.int IntKind.i64 0, Value.int IntKind.i64 0, Value.int IntKind.i64 0, Value.int IntKind.i64 0, Value.int IntKind.i64 0, Value.int IntKind.i64 0, Value.int IntKind.i64 0, Value.int IntKind.i64 0, Value.int IntKind.i64 0, Value.int IntKind.i64 0, Value.int IntKind.i64 0, Value.int IntKind.i64 0] 111) _ a1.lt)
  simp only [World.size_alloc] at a2 c1
  have hs : ((((w.alloc (.cells (arr x) 111)).alloc (.cells (arr y) 111)).alloc (.cells #[Value.int IntKind.i64 0, Value.int IntKind.i64 0, Value.int IntKind.i64 0, Value.int IntKind.i64 0, Value.int IntKind.i64 0, Value.int IntKind.i64 0, Value.int IntKind.i64 0, Value.int IntKind.i64 0, Value.int IntKind.i64 0, Value.int IntKind.i64 0, Value.int IntKind.i64 0, Value.int IntKind.i64 0, Value.int IntKind.i64 0, Value.int IntKind.i64 0, Value.int IntKind.i64 0, Value.int IntKind.i64 0, Value.int IntKind.i64 0, Value.int IntKind.i64 0, Value.int IntKind.i64 0, Value.int IntKind.i64 0, Value.int IntKind.i64 0, Value.int IntKind.i64 0, Value.int IntKind.i64 0, Value.int IntKind.i64 0, Value.int IntKind.i64 0, Value.int IntKind.i64 0, Value.int IntKind.i64 0, Value.int IntKind.i64 0, Value.int IntKind.i64 0, Value.int IntKind.i64 0, Value.int IntKind.i64 0, Value.int IntKind.i64 0, Value.int IntKind.i64 0, Value.int IntKind.i64 0, Value.int IntKind.i64 0, Value.int IntKind.i64 0, Value.int IntKind.i64 0, Value.int IntKind.i64 0, Value.int IntKind.i64 0, Value.int IntKind.i64 0] 111))).heap.size = w.heap.size + 3 := by simp
  obtain ⟨w1, hw1⟩ : ∃ w1, ((w.alloc (.cells (arr x) 111)).alloc (.cells (arr y) 111)).alloc (.cells #[Value.int IntKind.i64 0, Value.int IntKind.i64 0, Value.int IntKind.i64 0, Value.int IntKind.i64 0, Value.int IntKind.i64 0, Value.int IntKind.i64 0, Value.int IntKind.i64 0, Value.int IntKind.i64 0, Value.int IntKind.i64 0, Value.int IntKind.i64 0, Value.int IntKind.i64 0, Value.int IntKind.i64 0, Value.int IntKind.i64 0, Value.int IntKind.i64 0, Value.int IntKind.i64 0, Value.int IntKind.i64 0, Value.int IntKind.i64 0, Value.int IntKind.i64 0, Value.int IntKind.i64 0, Value.int IntKind.i64 0, Value.int IntKind.i64 0, Value.int IntKind.i64 0, Value.int IntKind.i64 0, Value.int IntKind.i64 0, Value.int IntKind.i64 0, Value.int IntKind.i64 0, Value.int IntKind.i64 0, Value.int IntKind.i64 0, Value.int IntKind.i64 0, Value.int IntKind.i64 0, Value.int IntKind.i64 0, Value.int IntKind.i64 0, Value.int IntKind.i64 0, Value.int IntKind.i64 0, Value.int IntKind.i64 0, Value.int IntKind.i64 0, Value.int IntKind.i64 0, Value.int IntKind.i64 0, Value.int IntKind.i64 0, Value.int IntKind.i64 0] 111) = w1 := ⟨_, rfl⟩
  rw [hw1] at a2 b0 c0 c1 hs ⊢
  clear hw1 a0 a1
  have H0 := Lib.hid c0
  have H1 := Lib.hid c1
  have H2 := Lib.hid a2
  have HB := Lib.hid b0
  have HX := Lib.hid hb
  have HM := Lib.hid hm
  clear c0 c1 a2 b0 hb hm
  go_loopw [8] (fun iv wr => ∃ k : Nat, iv = .int .i64 k ∧ k ≤ 40 ∧ Ob wr w.heap.size 40 (ia (fun j => if j < k then x j + y j * t else x j)) ∧ Ob wr (w.heap.size + 1) 40 (ia y) ∧ Ob wr (w.heap.size + 1 + 1) 40 (ia (fun _ => 0)) ∧ Below w.heap.size w wr) (fun iv _ => 40 - (intOf iv).toNat)
  case atStart => exact ⟨0, rfl, Nat.zero_le _, H0.out.congr (fun j _ => by simp), H1.out, H2.out, HB.out⟩
  case round =>
    obtain ⟨k, rfl, hk, o0, o1, o2, hbl⟩ := hrel
    clear H0 H1 H2 HB
    have H0 := Lib.hid o0
    have H1 := Lib.hid o1
    have H2 := Lib.hid o2
    have HB := Lib.hid hbl
    clear o0 o1 o2 hbl
    generalize hQ : Exit.then _ _ = Q
    have HQ := Lib.hid hQ
    clear hQ
    have k0 : (0 : Int) ≤ (k : Int) := Int.natCast_nonneg _
    by_cases hlt : k < 40
    · have k1 : (k : Int) < 40 := by omega
      have l0 := H0.out.lt
      have y0 : wr.cell? ⟨w.heap.size, k, none⟩ = some (.int .i64 (x k)) := by
        have := H0.out.cell k hlt
        unfold ia at this
        dsimp only at this
        rwa [if_neg (Nat.lt_irrefl k)] at this
      have y1 : wr.cell? ⟨w.heap.size + 1, k, none⟩ = some (.int .i64 (y k)) := H1.out.cell k hlt
      have y2 := H0.out.free k
      have b1 := HX.out k hlt
      have b2 := HM.out k hlt
      go_wp2_with fail
      go_region
      have o1 := (Only.refl w.heap.size wr).setCell k (.int .i64 (x k + y k * t))
      have h0 := (H0.out.setI k (x k + y k * t) hlt).congr (e := ia (fun j => if j < k + 1 then x j + y j * t else x j)) (fun j _ => by
        simp only [ia, upd]
        by_cases e : j = k
        · subst e
          rw [if_pos rfl, if_pos (by omega)]
        · rw [if_neg e]
          by_cases g : j < k
          · rw [if_pos g, if_pos (by omega)]
          · rw [if_neg g, if_neg (by omega)])
      have h1 := H1.out.only o1 (by omega)
      have h2 := H2.out.only o1 (by omega)
      have hbb := HB.out.trans (o1.below (Nat.le_refl _))
      clear y0 y1 y2
      go_wp2_with fail
      rw [← HQ.out]
      refine ⟨⟨_, _, _, _, _, _, _, _, _, _, _, _, _, _, _, ?rel, rfl⟩, ?measure⟩
      case rel => exact ⟨k + 1, rfl, hlt, h0.keep rfl, h1.keep rfl, h2.keep rfl, below_drw hbb⟩
      case measure => simp [intOf]; omega
    · have hkn : k = 40 := by omega
      subst hkn
      have hr : Ob wr w.heap.size 40 (ia (fun j => x j + y j * t)) := H0.out.congr (fun j hj => by simp only [ia]; rw [if_pos hj])
      obtain ⟨t0, g0⟩ := hr.row
      obtain ⟨t2, g2⟩ := H2.out.row
      have o2 := (Only.refl (w.heap.size + 1 + 1) wr).setRow (arr (fun j => x j + y j * t))
      have r2 := H2.out.setRow (fun j => x j + y j * t)
      have hbb := HB.out.trans (o2.below (B := w.heap.size) (by omega))
      go_wp2_with fail
      rw [← HQ.out]
      go_wp2_with (first | refine wpList_load_row rfl 111 _ rfl w.heap.size rfl t0 _ (0, 0) _ g0 Tryz.underlying111 rfl (by rw [arr_size]; exact flow_info) ?_ | refine wpList_store_row rfl 111 _ _ rfl (w.heap.size + 1 + 1) _ rfl rfl t2 _ g2 (by rw [arr_size]; exact flow_info) (by rw [arr_size, arr_size]) (arr_one _) ?_)
      refine bodyPost_ret (v := .agg (arr (fun j => x j + y j * t))) ?_ rfl ⟨rfl, hbb⟩
      exact results_arr rfl rfl r2
end Go.Proofs.YtdbgcbkmcbgdiaaGreat.mem

namespace Go.Proofs.YtdbgcbkmcbgdiaaGreat.mem
open Go.RowKit
set_option linter.unusedVariables false


theorem signFrom_any (q : Pip) (x : Int) (w : World) : Calls Tryz.prog 114 #[.agg #[.int .i64 q.f, .int .i64 q.t, .int .i64 q.k, .int .i64 q.v, .int .i64 q.l], .int .i64 x] w fun e w' => e = .returned (.int .i64 (sgn q x)) ∧ Below w.heap.size w w' := by
  by_cases h : q.f = x
  · have h1 : (q.f == x) = true := by rw [beq_iff_eq]; exact h
    have HV := Lib.hid (show sgn q x = 1 from if_pos h)
    clear h
    go_enter Tryz.func114, Tryz.ntmps114
    go_wp2_with fail
    go_ret
    exact ⟨ret_i2 HV.out.symm, below_new _ _⟩
  · have h1 : (q.f == x) = false := by rw [beq_eq_false_iff_ne]; exact h
    have HV := Lib.hid (show sgn q x = -1 from if_neg h)
    clear h
    go_enter Tryz.func114, Tryz.ntmps114
    go_wp2_with fail
    go_ret
    exact ⟨ret_i2 HV.out.symm, below_new _ _⟩

/-- may all these numbers be flows? -/
def flQ (x : Int) : Bool := inR x (-30000) 30000
def flB (d : Nat → Int) : Nat → Bool
  | 0 => true
  | k + 1 => flB d k && flQ (d k)
theorem flB_iff {d : Nat → Int} : ∀ {n : Nat}, flB d n = true ↔ ∀ k, k < n → flQ (d k) = true
  | 0 => by simp [flB]
  | n + 1 => by
    unfold flB
    rw [Bool.and_eq_true, flB_iff]
    constructor
    · rintro ⟨h1, h2⟩ k hk
      by_cases e : k = n
      · subst e; exact h2
      · exact h1 k (by omega)
    · intro h
      exact ⟨fun k hk => h k (by omega), h n (by omega)⟩
theorem flB_no {d : Nat → Int} {n k : Nat} (hk : k < n) (h : flQ (d k) = false) : flB d n = false := by
  rw [Bool.eq_false_iff]
  intro g
  rw [flB_iff.1 g k hk] at h
  cases h
theorem flB_congr {d e : Nat → Int} {n : Nat} (h : ∀ k, k < n → d k = e k) : flB d n = flB e n := by
  rw [Bool.eq_iff_iff, flB_iff, flB_iff]
  exact ⟨fun g k hk => by rw [← h k hk]; exact g k hk, fun g k hk => by rw [h k hk]; exact g k hk⟩

/-- do all these numbers lie between two bounds? -/
def irB (x y : Int) (d : Nat → Int) : Nat → Bool
  | 0 => true
  | k + 1 => irB x y d k && inR (d k) x y
theorem irB_iff {x y : Int} {d : Nat → Int} : ∀ {n : Nat}, irB x y d n = true ↔ ∀ k, k < n → inR (d k) x y = true
  | 0 => by simp [irB]
  | n + 1 => by
    unfold irB
    rw [Bool.and_eq_true, irB_iff]
    constructor
    · rintro ⟨h1, h2⟩ k hk
      by_cases e : k = n
      · subst e; exact h2
      · exact h1 k (by omega)
    · intro h
      exact ⟨fun k hk => h k (by omega), h n (by omega)⟩
theorem irB_no {x y : Int} {d : Nat → Int} {n k : Nat} (hk : k < n) (h : inR (d k) x y = false) : irB x y d n = false := by
  rw [Bool.eq_false_iff]
  intro g
  rw [irB_iff.1 g k hk] at h
  cases h
set_option maxHeartbeats 4000000 in
theorem areInRange_any (x y : Int) (w : World) (v : Value) (n : Nat) (d : Nat → Int) (lo hi : Nat) (h : Sl w v n d lo hi) (hn : n ≤ 9223372036854775807) :
    Calls Tryz.prog 131 #[.int .i64 x, .int .i64 y, v] w fun e w' => e = .returned (.bool (irB x y d n)) ∧ w = w' := by
  obtain ⟨p, cap, rfl, hc⟩ := h
  have HC := Lib.hid hc
  clear hc
  go_enter Tryz.func131, Tryz.ntmps131
  go_wp2_with fail
  go_loopw [11] (fun iv wr => ∃ k : Nat, iv = .int .i64 k ∧ k ≤ n ∧ irB x y d k = true ∧ w = wr) (fun iv _ => n - (intOf iv).toNat)
  case atStart => exact ⟨0, rfl, Nat.zero_le _, rfl, rfl⟩
  case round =>
    obtain ⟨k, rfl, hk, hb, rfl⟩ := hrel
    generalize hQ : Exit.then _ _ = Q
    have HQ := Lib.hid hQ
    clear hQ
    have HF := Lib.hid hb
    clear hb
    have k0 : (0 : Int) ≤ (k : Int) := Int.natCast_nonneg _
    by_cases hlt : k < n
    · have k1 : (k : Int) < (n : Int) := by omega
      obtain ⟨b, o, rfl, _, _, hx⟩ : ∃ b o, p = some ⟨b, o, none⟩ ∧ lo ≤ b ∧ b < hi ∧ ∀ k, k < n → w.cell? ⟨b, o + k, none⟩ = some (.int .i64 (d k)) := by
        rcases HC.out with e | e
        · omega
        · exact e
      have y0 := hx k hlt
      have HX := Lib.hid hx
      clear hx
      cases hq : inR (d k) x y
      · have HR := Lib.hid (irB_no hlt hq)
        go_wp2_with (go_at_call 109; refine (inRange_any _ _ _ _).mono ?_; rintro e w' ⟨rfl, rfl⟩)
        rw [← HQ.out]
        go_wp2_with fail
        go_ret
        exact ⟨ret_b HR.out.symm, rfl⟩
      · have HR := Lib.hid (show irB x y d (k + 1) = true by unfold irB; rw [HF.out, hq]; rfl)
        go_wp2_with (go_at_call 109; refine (inRange_any _ _ _ _).mono ?_; rintro e w' ⟨rfl, rfl⟩)
        rw [← HQ.out]
        refine ⟨⟨_, _, _, _, _, _, _, _, _, _, _, _, ?rel, rfl⟩, ?measure⟩
        case rel => exact ⟨k + 1, by go_num, hlt, HR.out, rfl⟩
        case measure => simp [intOf]; omega
    · have hkn : n = k := by omega
      subst hkn
      have k1 : ¬ ((n : Int) < (n : Int)) := by omega
      go_wp2_with fail
      rw [← HQ.out]
      go_wp2_with fail
      go_ret
      exact ⟨ret_b HF.out.symm, rfl⟩

theorem irB_flB (d : Nat → Int) : ∀ n, irB (-30000) 30000 d n = flB d n
  | 0 => rfl
  | n + 1 => by unfold irB flB flQ; rw [irB_flB d n]
theorem areFlows_any (w : World) (v : Value) (n : Nat) (d : Nat → Int) (lo hi : Nat) (h : Sl w v n d lo hi) (hn : n ≤ 9223372036854775807) :
    Calls Tryz.prog 106 #[v] w fun e w' => e = .returned (.bool (flB d n)) ∧ w = w' := by
  have H := Lib.hid h
  obtain ⟨p, cap, rfl, hc⟩ := h
  clear hc
  go_enter Tryz.func106, Tryz.ntmps106
  go_wp2_with (go_at_call 131; refine (areInRange_any _ _ _ _ n d _ _ H.out hn).mono ?_; rintro e w' ⟨rfl, rfl⟩; rw [irB_flB])
  go_ret
  exact ⟨rfl, rfl⟩
theorem areSupplies_any (w : World) (v : Value) (n : Nat) (d : Nat → Int) (lo hi : Nat) (h : Sl w v n d lo hi) (hn : n ≤ 9223372036854775807) :
    Calls Tryz.prog 72 #[v] w fun e w' => e = .returned (.bool (flB d n)) ∧ w = w' := by
  have H := Lib.hid h
  obtain ⟨p, cap, rfl, hc⟩ := h
  clear hc
  go_enter Tryz.func72, Tryz.ntmps72
  go_wp2_with (go_at_call 131; refine (areInRange_any _ _ _ _ n d _ _ H.out hn).mono ?_; rintro e w' ⟨rfl, rfl⟩; rw [irB_flB])
  go_ret
  exact ⟨rfl, rfl⟩

/-- a list as an array -/
def pad (n : Nat) (d : Nat → Int) (k : Nat) : Int := if k < n then d k else 0
theorem pad_splice {n : Nat} {d : Nat → Int} (hn : n ≤ 40) : (splice (arr (fun _ => 0)).toList 0 (intL n d)).toArray = arr (pad n d) := by
  have hs : (arr (fun _ => 0)).toList.length = 40 := by rw [Array.length_toList, arr_size]
  refine arr_eq ?_ fun k hk => ?_
  · rw [List.size_toArray, length_splice _ _ _ (by rw [hs, intL_len]; omega), hs]
  · rw [List.getElem?_toArray]
    unfold splice
    rw [List.take_zero, List.nil_append, Nat.zero_add]
    by_cases h : k < n
    · rw [List.getElem?_append_left (by rw [intL_len]; exact h), intL_get d h]
      unfold ia pad
      rw [if_pos h]
    · rw [List.getElem?_append_right (by rw [intL_len]; omega), intL_len, List.getElem?_drop, show n + (k - n) = k by omega, Array.getElem?_toList, arr_get _ _ hk]
      unfold ia pad
      rw [if_neg h]
theorem intL_one (n : Nat) (d : Nat → Int) : ∀ u ∈ intL n d, u.oneCell' = true := by
  intro u hu
  obtain ⟨k, _, rfl⟩ := List.mem_map.1 hu
  rfl
theorem int64_size : (Tryz.prog.info? 2).map (·.size) = some 1 := by kernel_rfl
set_option maxRecDepth 100000 in
set_option maxHeartbeats 4000000 in
theorem arrayOf_any (w : World) (v : Value) (n : Nat) (d : Nat → Int) (lo hi : Nat) (h : Sl w v n d lo hi) (hhi : hi ≤ w.heap.size) (hn : n ≤ 40) :
    Calls Tryz.prog 91 #[v] w fun e w' => e = .returned (.agg (arr (pad n d))) ∧ Below w.heap.size w w' := by
  have a0 := (Ob.new0 w 111).keep (Below.heap_alloc _ (.cells #[Value.int IntKind.i64 0, Value.int IntKind.i64 0, Value.int IntKind.i64 0, Value.int IntKind.i64 0, Value.int IntKind.i64 0, Value.int IntKind.i64 0, Value.int IntKind.i64 0, Value.int IntKind.i64 0, Value.int IntKind.i64 0, Value.int IntKind.i64 0, Value.int IntKind.i64 0, Value.int IntKind.i64 0, Value.int IntKind.i64 0, Value.int IntKind.i64 0, Value.int IntKind.i64 0, Value.int IntKind.i64 0, Value.int IntKind.i64 0, Value.int IntKind.i64 0, Value.int IntKind.i64 0, Value.int IntKind.i64 0, Value.int IntKind.i64 0, Value.int IntKind.i64 0, Value.int IntKind.i64 0, Value.int IntKind.i64 0, Value.int IntKind.i64 0, Value.int IntKind.i64 0, Value.int IntKind.i64 0, Value.int IntKind.i64 0, Value.int IntKind.i64 0, Value.int IntKind.i64 0, Value.int IntKind.i64 0, Value.int IntKind.i64 0, Value.int IntKind.i64 0, Value.int IntKind.i64 0, Value.int IntKind.i64 0, Value.int IntKind.i64 0, Value.int IntKind.i64 0, Value.int IntKind.i64 0, Value.int IntKind.i64 0, Value.int IntKind.i64 0] 111) _ (by rw [szal]; omega))
  have a1 := Ob.new0 (w.alloc (.cells #[Value.int IntKind.i64 0, Value.int IntKind.i64 0, Value.int IntKind.i64 0, Value.int IntKind.i64 0, Value.int IntKind.i64 0, Value.int IntKind.i64 0, Value.int IntKind.i64 0, Value.int IntKind.i64 0, Value.int IntKind.i64 0, Value.int IntKind.i64 0, Value.int IntKind.i64 0, Value.int IntKind.i64 0, Value.int IntKind.i64 0, Value.int IntKind.i64 0, Value.int IntKind.i64 0, Value.int IntKind.i64 0, Value.int IntKind.i64 0, Value.int IntKind.i64 0, Value.int IntKind.i64 0, Value.int IntKind.i64 0, Value.int IntKind.i64 0, Value.int IntKind.i64 0, Value.int IntKind.i64 0, Value.int IntKind.i64 0, Value.int IntKind.i64 0, Value.int IntKind.i64 0, Value.int IntKind.i64 0, Value.int IntKind.i64 0, Value.int IntKind.i64 0, Value.int IntKind.i64 0, Value.int IntKind.i64 0, Value.int IntKind.i64 0, Value.int IntKind.i64 0, Value.int IntKind.i64 0, Value.int IntKind.i64 0, Value.int IntKind.i64 0, Value.int IntKind.i64 0, Value.int IntKind.i64 0, Value.int IntKind.i64 0, Value.int IntKind.i64 0] 111)) 111
  simp only [World.size_alloc] at a1
  have b0 := below_new w (.cells #[Value.int IntKind.i64 0, Value.int IntKind.i64 0, Value.int IntKind.i64 0, Value.int IntKind.i64 0, Value.int IntKind.i64 0, Value.int IntKind.i64 0, Value.int IntKind.i64 0, Value.int IntKind.i64 0, Value.int IntKind.i64 0, Value.int IntKind.i64 0, Value.int IntKind.i64 0, Value.int IntKind.i64 0, Value.int IntKind.i64 0, Value.int IntKind.i64 0, Value.int IntKind.i64 0, Value.int IntKind.i64 0, Value.int IntKind.i64 0, Value.int IntKind.i64 0, Value.int IntKind.i64 0, Value.int IntKind.i64 0, Value.int IntKind.i64 0, Value.int IntKind.i64 0, Value.int IntKind.i64 0, Value.int IntKind.i64 0, Value.int IntKind.i64 0, Value.int IntKind.i64 0, Value.int IntKind.i64 0, Value.int IntKind.i64 0, Value.int IntKind.i64 0, Value.int IntKind.i64 0, Value.int IntKind.i64 0, Value.int IntKind.i64 0, Value.int IntKind.i64 0, Value.int IntKind.i64 0, Value.int IntKind.i64 0, Value.int IntKind.i64 0, Value.int IntKind.i64 0, Value.int IntKind.i64 0, Value.int IntKind.i64 0, Value.int IntKind.i64 0] 111)
  have b1 := b0.trans ((below_new _ (.cells #[Value.int IntKind.i64 0, Value.int IntKind.i64 0, Value.int IntKind.i64 0, Value.int IntKind.i64 0, Value.int IntKind.i64 0, Value.int IntKind.i64 0, Value.int IntKind.i64 0, Value.int IntKind.i64 0, Value.int IntKind.i64 0, Value.int IntKind.i64 0, Value.int IntKind.i64 0, Value.int IntKind.i64 0, Value.int IntKind.i64 0, Value.int IntKind.i64 0, Value.int IntKind.i64 0, Value.int IntKind.i64 0, Value.int IntKind.i64 0, Value.int IntKind.i64 0, Value.int IntKind.i64 0, Value.int IntKind.i64 0, Value.int IntKind.i64 0, Value.int IntKind.i64 0, Value.int IntKind.i64 0, Value.int IntKind.i64 0, Value.int IntKind.i64 0, Value.int IntKind.i64 0, Value.int IntKind.i64 0, Value.int IntKind.i64 0, Value.int IntKind.i64 0, Value.int IntKind.i64 0, Value.int IntKind.i64 0, Value.int IntKind.i64 0, Value.int IntKind.i64 0, Value.int IntKind.i64 0, Value.int IntKind.i64 0, Value.int IntKind.i64 0, Value.int IntKind.i64 0, Value.int IntKind.i64 0, Value.int IntKind.i64 0, Value.int IntKind.i64 0] 111)).mono (by rw [szal]; omega))
  have hs0 : ((w.alloc (.cells #[Value.int IntKind.i64 0, Value.int IntKind.i64 0, Value.int IntKind.i64 0, Value.int IntKind.i64 0, Value.int IntKind.i64 0, Value.int IntKind.i64 0, Value.int IntKind.i64 0, Value.int IntKind.i64 0, Value.int IntKind.i64 0, Value.int IntKind.i64 0, Value.int IntKind.i64 0, Value.int IntKind.i64 0, Value.int IntKind.i64 0, Value.int IntKind.i64 0, Value.int IntKind.i64 0, Value.int IntKind.i64 0, Value.int IntKind.i64 0, Value.int IntKind.i64 0, Value.int IntKind.i64 0, Value.int IntKind.i64 0, Value.int IntKind.i64 0, Value.int IntKind.i64 0, Value.int IntKind.i64 0, Value.int IntKind.i64 0, Value.int IntKind.i64 0, Value.int IntKind.i64 0, Value.int IntKind.i64 0, Value.int IntKind.i64 0, Value.int IntKind.i64 0, Value.int IntKind.i64 0, Value.int IntKind.i64 0, Value.int IntKind.i64 0, Value.int IntKind.i64 0, Value.int IntKind.i64 0, Value.int IntKind.i64 0, Value.int IntKind.i64 0, Value.int IntKind.i64 0, Value.int IntKind.i64 0, Value.int IntKind.i64 0, Value.int IntKind.i64 0] 111)).alloc (.cells #[Value.int IntKind.i64 0, Value.int IntKind.i64 0, Value.int IntKind.i64 0, Value.int IntKind.i64 0, Value.int IntKind.i64 0, Value.int IntKind.i64 0, Value.int IntKind.i64 0, Value.int IntKind.i64 0, Value.int IntKind.i64 0, Value.int IntKind.i64 0, Value.int IntKind.i64 0, Value.int IntKind.i64 0, Value.int IntKind.i64 0, Value.int IntKind.i64 0, Value.int IntKind.i64 0, Value.int IntKind.i64 0, Value.int IntKind.i64 0, Value.int IntKind.i64 0, Value.int IntKind.i64 0, Value.int IntKind.i64 0, Value.int IntKind.i64 0, Value.int IntKind.i64 0, Value.int IntKind.i64 0, Value.int IntKind.i64 0, Value.int IntKind.i64 0, Value.int IntKind.i64 0, Value.int IntKind.i64 0, Value.int IntKind.i64 0, Value.int IntKind.i64 0, Value.int IntKind.i64 0, Value.int IntKind.i64 0, Value.int IntKind.i64 0, Value.int IntKind.i64 0, Value.int IntKind.i64 0, Value.int IntKind.i64 0, Value.int IntKind.i64 0, Value.int IntKind.i64 0, Value.int IntKind.i64 0, Value.int IntKind.i64 0, Value.int IntKind.i64 0] 111)).heap.size = w.heap.size + 1 + 1 := by simp
  have h1 := h.below b1 hhi
  obtain ⟨p, cap, rfl, hc⟩ := h1
  have hpos : 0 < (intL n d).length → some (⟨w.heap.size + 1, 0, none⟩ : Addr) = some ⟨w.heap.size + 1, 0, none⟩ ∧ ∃ ad, p = some ad ∧ ∀ j u, (intL n d)[j]? = some u → ((w.alloc (.cells #[Value.int IntKind.i64 0, Value.int IntKind.i64 0, Value.int IntKind.i64 0, Value.int IntKind.i64 0, Value.int IntKind.i64 0, Value.int IntKind.i64 0, Value.int IntKind.i64 0, Value.int IntKind.i64 0, Value.int IntKind.i64 0, Value.int IntKind.i64 0, Value.int IntKind.i64 0, Value.int IntKind.i64 0, Value.int IntKind.i64 0, Value.int IntKind.i64 0, Value.int IntKind.i64 0, Value.int IntKind.i64 0, Value.int IntKind.i64 0, Value.int IntKind.i64 0, Value.int IntKind.i64 0, Value.int IntKind.i64 0, Value.int IntKind.i64 0, Value.int IntKind.i64 0, Value.int IntKind.i64 0, Value.int IntKind.i64 0, Value.int IntKind.i64 0, Value.int IntKind.i64 0, Value.int IntKind.i64 0, Value.int IntKind.i64 0, Value.int IntKind.i64 0, Value.int IntKind.i64 0, Value.int IntKind.i64 0, Value.int IntKind.i64 0, Value.int IntKind.i64 0, Value.int IntKind.i64 0, Value.int IntKind.i64 0, Value.int IntKind.i64 0, Value.int IntKind.i64 0, Value.int IntKind.i64 0, Value.int IntKind.i64 0, Value.int IntKind.i64 0] 111)).alloc (.cells #[Value.int IntKind.i64 0, Value.int IntKind.i64 0, Value.int IntKind.i64 0, Value.int IntKind.i64 0, Value.int IntKind.i64 0, Value.int IntKind.i64 0, Value.int IntKind.i64 0, Value.int IntKind.i64 0, Value.int IntKind.i64 0, Value.int IntKind.i64 0, Value.int IntKind.i64 0, Value.int IntKind.i64 0, Value.int IntKind.i64 0, Value.int IntKind.i64 0, Value.int IntKind.i64 0, Value.int IntKind.i64 0, Value.int IntKind.i64 0, Value.int IntKind.i64 0, Value.int IntKind.i64 0, Value.int IntKind.i64 0, Value.int IntKind.i64 0, Value.int IntKind.i64 0, Value.int IntKind.i64 0, Value.int IntKind.i64 0, Value.int IntKind.i64 0, Value.int IntKind.i64 0, Value.int IntKind.i64 0, Value.int IntKind.i64 0, Value.int IntKind.i64 0, Value.int IntKind.i64 0, Value.int IntKind.i64 0, Value.int IntKind.i64 0, Value.int IntKind.i64 0, Value.int IntKind.i64 0, Value.int IntKind.i64 0, Value.int IntKind.i64 0, Value.int IntKind.i64 0, Value.int IntKind.i64 0, Value.int IntKind.i64 0, Value.int IntKind.i64 0] 111)).cell? (ad.add j) = some u := by
    intro h0
    rw [intL_len] at h0
    refine ⟨rfl, ?_⟩
    rcases hc with e | ⟨b, o, rfl, _, _, hx⟩
    · omega
    · refine ⟨_, rfl, fun j u hu => ?_⟩
      have hj : j < n := by
        rcases Nat.lt_or_ge j n with g | g
        · exact g
        · rw [List.getElem?_eq_none (by rw [intL_len]; omega)] at hu; cases hu
      rw [intL_get d hj] at hu
      injection hu with hu
      subst hu
      have hadd : (⟨b, o, none⟩ : Addr).add j = ⟨b, o + j, none⟩ := by unfold Addr.add; split <;> simp_all
      rw [hadd]
      exact hx j hj
  have hmin : (intL n d).length = Nat.min n 40 := by rw [intL_len]; exact (Nat.min_eq_left hn).symm
  have hfit : 0 + (intL n d).length ≤ (arr (fun _ => 0)).toList.length := by rw [intL_len, Array.length_toList, arr_size]; omega
  obtain ⟨t0, g0⟩ := a0.row
  obtain ⟨t1, g1⟩ := a1.row
  have g1' : ((w.alloc (.cells #[Value.int IntKind.i64 0, Value.int IntKind.i64 0, Value.int IntKind.i64 0, Value.int IntKind.i64 0, Value.int IntKind.i64 0, Value.int IntKind.i64 0, Value.int IntKind.i64 0, Value.int IntKind.i64 0, Value.int IntKind.i64 0, Value.int IntKind.i64 0, Value.int IntKind.i64 0, Value.int IntKind.i64 0, Value.int IntKind.i64 0, Value.int IntKind.i64 0, Value.int IntKind.i64 0, Value.int IntKind.i64 0, Value.int IntKind.i64 0, Value.int IntKind.i64 0, Value.int IntKind.i64 0, Value.int IntKind.i64 0, Value.int IntKind.i64 0, Value.int IntKind.i64 0, Value.int IntKind.i64 0, Value.int IntKind.i64 0, Value.int IntKind.i64 0, Value.int IntKind.i64 0, Value.int IntKind.i64 0, Value.int IntKind.i64 0, Value.int IntKind.i64 0, Value.int IntKind.i64 0, Value.int IntKind.i64 0, Value.int IntKind.i64 0, Value.int IntKind.i64 0, Value.int IntKind.i64 0, Value.int IntKind.i64 0, Value.int IntKind.i64 0, Value.int IntKind.i64 0, Value.int IntKind.i64 0, Value.int IntKind.i64 0, Value.int IntKind.i64 0] 111)).alloc (.cells #[Value.int IntKind.i64 0, Value.int IntKind.i64 0, Value.int IntKind.i64 0, Value.int IntKind.i64 0, Value.int IntKind.i64 0, Value.int IntKind.i64 0, Value.int IntKind.i64 0, Value.int IntKind.i64 0, Value.int IntKind.i64 0, Value.int IntKind.i64 0, Value.int IntKind.i64 0, Value.int IntKind.i64 0, Value.int IntKind.i64 0, Value.int IntKind.i64 0, Value.int IntKind.i64 0, Value.int IntKind.i64 0, Value.int IntKind.i64 0, Value.int IntKind.i64 0, Value.int IntKind.i64 0, Value.int IntKind.i64 0, Value.int IntKind.i64 0, Value.int IntKind.i64 0, Value.int IntKind.i64 0, Value.int IntKind.i64 0, Value.int IntKind.i64 0, Value.int IntKind.i64 0, Value.int IntKind.i64 0, Value.int IntKind.i64 0, Value.int IntKind.i64 0, Value.int IntKind.i64 0, Value.int IntKind.i64 0, Value.int IntKind.i64 0, Value.int IntKind.i64 0, Value.int IntKind.i64 0, Value.int IntKind.i64 0, Value.int IntKind.i64 0, Value.int IntKind.i64 0, Value.int IntKind.i64 0, Value.int IntKind.i64 0, Value.int IntKind.i64 0] 111)).heap[w.heap.size + 1]? = some (.cells (arr (fun _ => 0)).toList.toArray t1 (0, 0)) := by rw [Array.toArray_toList]; exact g1
  have HP := Lib.hid hpos
  have H0 := Lib.hid g0
  have HA0 := Lib.hid a0
  have H1 := Lib.hid g1'
  have HM := Lib.hid hmin
  have HF := Lib.hid hfit
  have HB := Lib.hid b1
  have HPS := Lib.hid (pad_splice (d := d) hn)
  have HS := Lib.hid hs0
  clear hpos g0 g1 g1' hmin hfit b0 b1 a0 a1 hc h hs0
  go_enter Tryz.func91, Tryz.ntmps91
  go_wp2_with (first
    | (refine wpList_copy_splice rfl (.tmp 4) (.tmp 5) 28 28 rfl 2 Tryz.underlying28 int64_size (some ⟨w.heap.size + 1, 0, none⟩) p 40 40 n cap rfl rfl (w.heap.size + 1) 0 (arr (fun _ => 0)).toList t1 H1.out (intL n d) HM.out HP.out HF.out (intL_one n d) (w.heap.size + 1) _ (Below.refl _ _) (Nat.le_refl _) ?_; intro w4 hg4 hb4)
    | (refine wpList_load_row rfl 111 _ rfl (w.heap.size + 1) rfl t1 _ (0, 0) _ (by have := hg4.out; rw [HPS.out] at this; exact this) Tryz.underlying111 rfl (by rw [arr_size]; exact flow_info) ?_)
    | (refine wpList_store_row rfl 111 _ _ rfl w.heap.size _ rfl rfl t0 _ ((hb4.block w.heap.size (by omega)).trans H0.out) (by rw [arr_size]; exact flow_info) (by rw [arr_size, arr_size]) (arr_one _) ?_))
  have a4 := HA0.out.below hb4 (by omega)
  refine bodyPost_ret (v := .agg (arr (pad n d))) ?_ rfl ⟨rfl, (HB.out.trans (hb4.mono (by omega))).trans (((Only.refl w.heap.size w4).setRow (arr (pad n d))).below (Nat.le_refl _))⟩
  exact results_arr rfl rfl (a4.setRow (pad n d))
end Go.Proofs.YtdbgcbkmcbgdiaaGreat.mem

namespace Go.Proofs.YtdbgcbkmcbgdiaaGreat.mem
open Go.RowKit
set_option linter.unusedVariables false

theorem Ob.sl {w : World} {b N : Nat} {x : Nat → Int} (h : Ob w b N (ia x)) (m c : Nat) (hm : m ≤ N) : Sl w (.slice (some ⟨b, 0, none⟩) m c) m x b (b + 1) :=
  ⟨_, c, rfl, .inr ⟨b, 0, rfl, Nat.le_refl _, by omega, fun k hk => by rw [Nat.zero_add]; exact h.cell k (by omega)⟩⟩
theorem Own.sl {w : World} {v : Value} {n g : Nat} {d : Nat → Int} (h : Own w v n d g) : Sl w v n d g (g + 1) := by
  obtain ⟨c, rfl⟩ := h.shape
  exact h.row.sl (Nat.le_refl _) (by omega)

set_option maxHeartbeats 1000000 in
theorem clone64_any (w : World) (b n cap : Nat) (d : Nat → Int) (hx : ∀ k, k < n → w.cell? ⟨b, 0 + k, none⟩ = some (.int .i64 (d k))) (hb : b < w.heap.size) (hn : n ≤ 1000000) :
    Calls Tryz.prog 73 #[.slice (some ⟨b, 0, none⟩) n cap] w fun e w' => ∃ v' g, e = .returned v' ∧ Own w' v' n d g ∧ w.heap.size ≤ g ∧ Below w.heap.size w w' := by
  have hq := Lib.run_eql_slice_nil (P := Tryz.prog) w 28 2 (some ⟨b, 0, none⟩) n cap 0 0 Tryz.underlying28
  have hB := below_new w (Obj.cells #[] 2)
  obtain ⟨v', w', g, hr, ap⟩ := apm_run (w.alloc (.cells #[] 2)) _ 0 d w.heap.size b 0 n cap d (Own.nilled w d) (fun k hk => (hB.cell (p := ⟨b, 0 + k, none⟩) hb).trans (hx k hk)) (by omega)
  have hbl := ap.below (B := w.heap.size) (Nat.le_refl _) (by simp)
  have HO := Lib.hid (ap.own.congr (e := d) (fun k hk => by unfold catD; rw [if_neg (by omega), Nat.sub_zero]))
  have HB := Lib.hid (hB.trans hbl.1)
  have hg := hbl.2
  clear ap hbl hB hx
  go_enter Tryz.func73, Tryz.ntmps73
  go_wp2_with (at_builtin; refine wpList_app hr rfl _ _ rfl rfl rfl rfl ?_)
  go_ret
  refine ⟨_, g, rfl, ?_, hg, HB.out⟩
  have := HO.out
  rwa [Nat.zero_add] at this

set_option maxRecDepth 100000 in
set_option maxHeartbeats 4000000 in
theorem listOf_any (w : World) (p0 p1 : Option Addr) (n m c0 c1 : Nat) (x : Nat → Int) (hm : m ≤ 40) :
    Calls Tryz.prog 96 #[.agg #[.slice p0 n c0, .slice p1 m c1], .agg (arr x)] w fun e w' => ∃ v2 g, e = .returned v2 ∧ Own w' v2 m x g ∧ w.heap.size ≤ g ∧ Below w.heap.size w w' := by
  have a0 := (boxed w (.slice p0 n c0) (.slice p1 m c1) 27).keep (Below.heap_alloc _ (.cells (arr x) 111) _ (by rw [szal]; omega))
  have a1 := Ob.newA (w.alloc (.cells #[.slice p0 n c0, .slice p1 m c1] 27)) x 111
  simp only [World.size_alloc] at a1
  have b0 := below_new w (.cells #[.slice p0 n c0, .slice p1 m c1] 27)
  have b1 := b0.trans ((below_new _ (.cells (arr x) 111)).mono (by rw [szal]; omega))
  have hs0 : ((w.alloc (.cells #[.slice p0 n c0, .slice p1 m c1] 27)).alloc (.cells (arr x) 111)).heap.size = w.heap.size + 1 + 1 := by simp
  have HS := Lib.hid hs0
  have HA := Lib.hid a1
  have HB := Lib.hid b1
  have y0 := a0.b1
  have m0 : (0 : Int) ≤ (m : Int) := Int.natCast_nonneg _
  have m1 : (m : Int) ≤ 40 := by omega
  clear a0 a1 b0 b1 hs0
  go_enter Tryz.func96, Tryz.ntmps96
  go_wp2_with (go_at_call 73; refine (clone64_any _ (w.heap.size + 1) m 40 x (fun k hk => by rw [Nat.zero_add]; exact HA.out.cell k (by omega)) HA.out.lt (by omega)).mono ?_; rintro e w' ⟨v2, g, rfl, ho, hg, hb⟩)
  go_ret
  exact ⟨v2, g, rfl, ho, by have := HS.out; omega, HB.out.trans (hb.mono (by have := HS.out; omega))⟩
end Go.Proofs.YtdbgcbkmcbgdiaaGreat.mem

namespace Go.Proofs.YtdbgcbkmcbgdiaaGreat.mem
open Go.RowKit
set_option linter.unusedVariables false

theorem chP_yes {n : Nat} {N : Nat → Nod} {P : Nat → Pip} {m : Nat} (hN : netB n N m P = true) {k : Nat} (h : ∀ j, j < n → fE n P m (j : Nat) ≠ ((k : Nat) : Int)) : chP n P m k = true := by
  unfold chP
  cases hp : inF n P m (fl (rts n P m) n) k
  · rfl
  · obtain ⟨z, z0, z1, e⟩ := (inF_fE hN k).1 hp
    obtain ⟨j, rfl⟩ := Int.eq_ofNat_of_zero_le z0
    exact absurd e (h j (by omega))
theorem chP_hit {n : Nat} {N : Nat → Nod} {P : Nat → Pip} {m : Nat} (hN : netB n N m P = true) {j k : Nat} (hj : j < n) (h : fE n P m (j : Nat) = ((k : Nat) : Int)) : chP n P m k = false := by
  unfold chP
  rw [(inF_fE hN k).2 ⟨(j : Nat), by omega, by omega, h⟩]
  rfl

set_option maxRecDepth 100000 in
set_option maxHeartbeats 4000000 in
theorem chords_any (w : World) (v : Value) (n : Nat) (N : Nat → Nod) (m : Nat) (P : Nat → Pip) (lo hi : Nat) (h : NetAt w v n N m P lo hi) (hhi : hi ≤ w.heap.size) (hB : netB n N m P = true) :
    Calls Tryz.prog 158 #[v] w fun e w' => ∃ v2 g, e = .returned v2 ∧ Own w' v2 (chN n P m) (fd (chP n P m) m) g ∧ w.heap.size ≤ g ∧ Below w.heap.size w w' := by
  obtain ⟨p0, c0, p1, c1, rfl, hn9, hm9⟩ := h.parts
  obtain ⟨hn1, hn24, hm40⟩ := net_sz hB
  have HV := Lib.hid h
  have HB := Lib.hid hB
  have A0 := boxed w (.slice p0 n c0) (.slice p1 m c1) 27
  have B0 := below_new w (.cells #[.slice p0 n c0, .slice p1 m c1] 27)
  obtain ⟨w1, hw1⟩ : ∃ w1, w.alloc (.cells #[.slice p0 n c0, .slice p1 m c1] 27) = w1 := ⟨_, rfl⟩
  have hs1 : w1.heap.size = w.heap.size + 1 := by rw [← hw1]; simp
  rw [hw1] at A0 B0
  have F0 := Own.nilled w1 (fd (chP n P m) 0)
  have b2 := below_new w1 (.cells #[] 2)
  obtain ⟨w2, hw2⟩ : ∃ w2, w1.alloc (.cells #[] 2) = w2 := ⟨_, rfl⟩
  have hs2 : w2.heap.size = w.heap.size + 2 := by rw [← hw2]; simp [hs1]
  rw [hw2] at F0 b2
  have A2 := A0.below b2 (by omega)
  have B2 := B0.trans (b2.mono (by omega))
  have HF := Lib.hid F0
  have HBB := Lib.hid B2
  have HA := Lib.hid A2
  have e0 : w2.cell? ⟨w.heap.size, 0, none⟩ = some (.slice p0 n c0) := A2.b0
  have e1 : w2.cell? ⟨w.heap.size, 1, none⟩ = some (.slice p1 m c1) := A2.b1
  have e2 : w.heap.size < w2.heap.size := by omega
  clear h hB A0 B0 F0 b2 A2 B2
  subst hw2 hw1
  go_enter Tryz.func158, Tryz.ntmps158
  go_wp2_with fail
  go_step3
  go_wp2_with fail
  generalize hW : (w.alloc (Obj.cells #[Value.slice p0 n c0, Value.slice p1 m c1] 27)).alloc (.cells #[] 2) = w2 at *
  clear hW e0 e1
  refine (forestEntries_any w2 _ n N m P lo hi (HV.out.below HBB.out hhi) (by omega) HB.out).mono ?_
  rintro e w3 ⟨gt, rfl, hgt, ot, b3⟩
  have HT := Lib.hid ot
  have HF3 := Lib.hid (HF.out.below b3 (Nat.le_refl _))
  have HB3 := Lib.hid (HBB.out.trans (b3.mono (by omega)))
  have hs3 := b3.size
  have A3 := HA.out.below b3 e2
  have y1 := A3.b1
  have hgl := ot.lt
  clear ot b3 HF HBB HA A3
  go_wp2_with fail
  go_step3
  go_wp2_with fail
  clear y1
  go_loopw [3, 14] (fun ov iv wr => ∃ (k g : Nat) (ov' : Value), ov' = ov ∧ iv = .int .i64 k ∧ k ≤ m ∧ Own wr ov' (fl (chP n P m) k).length (fd (chP n P m) k) g ∧ w.heap.size < g ∧ g ≠ gt ∧ Ob wr gt n (tabC (fE n P m)) ∧ Below w.heap.size w wr) (fun _ iv _ => m - (intOf iv).toNat)
  case atStart => exact ⟨0, w.heap.size + 1, _, rfl, rfl, Nat.zero_le _, by have := HF3.out; simp only [World.size_alloc] at this; exact this, by omega, by omega, HT.out, HB3.out⟩
  case round =>
    obtain ⟨k, g, ov, rfl, rfl, hk, ho, hg, hne, ht, hb⟩ := hrel
    obtain ⟨co, rfl⟩ := ho.shape
    clear HF3 HT HB3
    have HO := Lib.hid ho
    have HT := Lib.hid ht
    have HBB := Lib.hid hb
    have lg := ho.lt
    have lt := ht.lt
    clear ho ht hb
    have k0 : (0 : Int) ≤ (k : Int) := Int.natCast_nonneg _
    generalize hQ : Exit.then _ _ = Q
    have HQ := Lib.hid hQ
    clear hQ
    by_cases hlt : k < m
    · have k1 : (k : Int) < (m : Int) := by omega
      obtain ⟨v7, w7, g7, hr, ap⟩ := coll_run wr _ (chP n P m) k g HO.out (by omega)
      have Y := Lib.hid (coll_below ap (B := w.heap.size + 1) (by omega) lg)
      have O7 := Lib.hid (fun hp => fl_app (p := chP n P m) (k := k) hp ap)
      have hoth := ap.other (c := gt) (by omega) (by rw [szal]; omega)
      have HT7 := Lib.hid ((HT.out.keep (Below.heap_alloc _ (.cells #[.int .i64 (k : Nat)] 2) _ lt)).keep hoth.1)
      have hne7 := hoth.2
      have HR := Lib.hid hr
      have HB7 := Lib.hid (HBB.out.trans (Y.out.1.mono (by omega)))
      have hg7 := Y.out.2.1
      clear ap hoth hr Y
      go_wp2_with fail
      go_loopw [19] (fun jv wr' => ∃ j : Nat, jv = .int .i64 j ∧ j ≤ n ∧ (∀ i, i < j → fE n P m (i : Nat) ≠ ((k : Nat) : Int)) ∧ wr' = wr) (fun jv _ => n - (intOf jv).toNat)
      case atStart => exact ⟨0, rfl, Nat.zero_le _, fun i hi => by omega, rfl⟩
      case round =>
        obtain ⟨j, rfl, hj, hno, rfl⟩ := hrel
        have j0 : (0 : Int) ≤ (j : Int) := Int.natCast_nonneg _
        have HNO := Lib.hid hno
        clear hno
        generalize hQ2 : Exit.then _ _ = Q2
        have HQ2 := Lib.hid hQ2
        clear hQ2
        by_cases hjn : j < n
        · have j1 : (j : Int) < (n : Int) := by omega
          have y0 : wr.cell? ⟨gt, j, none⟩ = some (.int .i64 (fE n P m (j : Nat))) := HT.out.cell j hjn
          by_cases hen : fE n P m (j : Nat) = ((k : Nat) : Int)
          · have hb1 : (fE n P m (j : Nat) == ((k : Nat) : Int)) = true := by simpa using hen
            have HP := Lib.hid (chP_hit HB.out hjn hen)
            clear hen
            go_wp2_with fail
            rw [← HQ2.out]
            go_wp2_with fail
            rw [← HQ.out]
            refine ⟨⟨_, _, _, _, _, _, _, _, _, _, _, _, _, _, _, _, _, _, _, _, _, ?rel, rfl⟩, ?measure⟩
            case rel => exact ⟨k + 1, g, _, rfl, by go_num, hlt, fl_keep HP.out HO.out, hg, hne, HT.out, HBB.out⟩
            case measure => simp [intOf]; omega
          · have hb1 : (fE n P m (j : Nat) == ((k : Nat) : Int)) = false := by simpa using hen
            have HNN := Lib.hid (show ∀ i, i < j + 1 → fE n P m (i : Nat) ≠ ((k : Nat) : Int) from fun i hi => by
              by_cases e : i = j
              · subst e; exact hen
              · exact HNO.out i (by omega))
            clear hen
            go_wp2_with fail
            rw [← HQ2.out]
            refine ⟨⟨_, _, _, _, _, _, _, _, _, ?rel, rfl⟩, ?measure⟩
            case rel => exact ⟨j + 1, by go_num, hjn, HNN.out, rfl⟩
            case measure => simp [intOf]; omega
        · have hjn2 : n = j := by omega
          have HP := Lib.hid (chP_yes HB.out (fun i hi => HNO.out i (by omega)))
          subst hjn2
          have j1 : ¬ ((n : Int) < (n : Int)) := by omega
          have hr := HR.out
          go_wp2_with fail
          rw [← HQ2.out]
          go_wp2_with (at_builtin; refine wpList_app hr rfl _ _ rfl rfl rfl rfl ?_)
          rw [← HQ.out]
          refine ⟨⟨_, _, _, _, _, _, _, _, _, _, _, _, _, _, _, _, _, _, _, _, _, ?rel, rfl⟩, ?measure⟩
          case rel => exact ⟨k + 1, g7, _, rfl, by go_num, hlt, O7.out HP.out, by omega, fun e => hne7 e.symm, HT7.out, HB7.out⟩
          case measure => simp [intOf]; omega
    · have hkn : m = k := by omega
      subst hkn
      have k1 : ¬ ((m : Int) < (m : Int)) := by omega
      go_wp2
      rw [← HQ.out]
      go_wp2
      rw [Exit.noGoto_ret]
      go_ret
      exact ⟨_, g, rfl, HO.out, by omega, HBB.out⟩
end Go.Proofs.YtdbgcbkmcbgdiaaGreat.mem

namespace Go.Proofs.YtdbgcbkmcbgdiaaGreat.mem
open Go.RowKit
set_option linter.unusedVariables false

/-- a pipe's cells -/
theorem NetAt.pipe {w : World} {n m : Nat} {N : Nat → Nod} {P : Nat → Pip} {lo hi c0 c1 : Nat} {p0 p1 : Option Addr} (h : NetAt w (.agg #[.slice p0 n c0, .slice p1 m c1]) n N m P lo hi) {a : Nat} (ha : a < m) :
    ∃ b o, p1 = some ⟨b, o, none⟩ ∧ lo ≤ b ∧ b < hi ∧ w.cell? ⟨b, o + a * 5, none⟩ = some (.int .i64 (P a).f) ∧ w.cell? ⟨b, o + a * 5 + 1, none⟩ = some (.int .i64 (P a).t) ∧ w.cell? ⟨b, o + a * 5 + 2, none⟩ = some (.int .i64 (P a).k) ∧
      w.cell? ⟨b, o + a * 5 + 3, none⟩ = some (.int .i64 (P a).v) ∧ w.cell? ⟨b, o + a * 5 + 4, none⟩ = some (.int .i64 (P a).l) := by
  obtain ⟨v0, v1, hv, g0, g1⟩ := h.ex
  simp only [Value.agg.injEq, Array.mk.injEq, List.cons.injEq, and_true] at hv
  obtain ⟨rfl, rfl⟩ := hv
  obtain ⟨q, cap, hv, h1, h2, h3⟩ := g1.ex
  injection hv with e1 _ e2
  rcases h3 with h3 | ⟨b, o, h3, hl, hh, hc⟩
  · omega
  · exact ⟨b, o, by rw [e1, h3], hl, hh, hc.cell a 0 ha (by omega), hc.cell a 1 ha (by omega), hc.cell a 2 ha (by omega), hc.cell a 3 ha (by omega), hc.cell a 4 ha (by omega)⟩

set_option maxRecDepth 100000 in
set_option maxHeartbeats 4000000 in
theorem ascentFrom_any (w : World) (v : Value) (n : Nat) (N : Nat → Nod) (m : Nat) (P : Nat → Pip) (lo hi : Nat) (h : NetAt w v n N m P lo hi) (hhi : hi ≤ w.heap.size) (hB : netB n N m P = true) (z0 : Int) (hz0 : 0 ≤ z0 ∧ z0 < n) :
    Calls Tryz.prog 166 #[v, .int .i64 z0] w fun e w' => e = .returned (.agg (arr (asc P (fE n P m) (fD n P m) z0))) ∧ Below w.heap.size w w' := by
  obtain ⟨p0, c0, p1, c1, rfl, hn9, hm9⟩ := h.parts
  obtain ⟨hn1, hn24, hm40⟩ := net_sz hB
  have HV := Lib.hid h
  have HB := Lib.hid hB
  have HFO := Lib.hid (fo_net (P := P) (m := m) hB)
  have A0 := ((boxed w (.slice p0 n c0) (.slice p1 m c1) 27).keep (Below.heap_alloc _ (.cells #[Value.int IntKind.i64 0, Value.int IntKind.i64 0, Value.int IntKind.i64 0, Value.int IntKind.i64 0, Value.int IntKind.i64 0, Value.int IntKind.i64 0, Value.int IntKind.i64 0, Value.int IntKind.i64 0, Value.int IntKind.i64 0, Value.int IntKind.i64 0, Value.int IntKind.i64 0, Value.int IntKind.i64 0, Value.int IntKind.i64 0, Value.int IntKind.i64 0, Value.int IntKind.i64 0, Value.int IntKind.i64 0, Value.int IntKind.i64 0, Value.int IntKind.i64 0, Value.int IntKind.i64 0, Value.int IntKind.i64 0, Value.int IntKind.i64 0, Value.int IntKind.i64 0, Value.int IntKind.i64 0, Value.int IntKind.i64 0, Value.int IntKind.i64 0, Value.int IntKind.i64 0, Value.int IntKind.i64 0, Value.int IntKind.i64 0, Value.int IntKind.i64 0, Value.int IntKind.i64 0, Value.int IntKind.i64 0, Value.int IntKind.i64 0, Value.int IntKind.i64 0, Value.int IntKind.i64 0, Value.int IntKind.i64 0, Value.int IntKind.i64 0, Value.int IntKind.i64 0, Value.int IntKind.i64 0, Value.int IntKind.i64 0, Value.int IntKind.i64 0] 111) _ (by simp only [World.size_alloc]; omega))).keep (Below.heap_alloc _ (.cells #[Value.int IntKind.i64 0, Value.int IntKind.i64 0, Value.int IntKind.i64 0, Value.int IntKind.i64 0, Value.int IntKind.i64 0, Value.int IntKind.i64 0, Value.int IntKind.i64 0, Value.int IntKind.i64 0, Value.int IntKind.i64 0, Value.int IntKind.i64 0, Value.int IntKind.i64 0, Value.int IntKind.i64 0, Value.int IntKind.i64 0, Value.int IntKind.i64 0, Value.int IntKind.i64 0, Value.int IntKind.i64 0, Value.int IntKind.i64 0, Value.int IntKind.i64 0, Value.int IntKind.i64 0, Value.int IntKind.i64 0, Value.int IntKind.i64 0, Value.int IntKind.i64 0, Value.int IntKind.i64 0, Value.int IntKind.i64 0, Value.int IntKind.i64 0, Value.int IntKind.i64 0, Value.int IntKind.i64 0, Value.int IntKind.i64 0, Value.int IntKind.i64 0, Value.int IntKind.i64 0, Value.int IntKind.i64 0, Value.int IntKind.i64 0, Value.int IntKind.i64 0, Value.int IntKind.i64 0, Value.int IntKind.i64 0, Value.int IntKind.i64 0, Value.int IntKind.i64 0, Value.int IntKind.i64 0, Value.int IntKind.i64 0, Value.int IntKind.i64 0] 111) _ (by simp only [World.size_alloc]; omega))
  have R0 := (Ob.new0 (w.alloc (.cells #[.slice p0 n c0, .slice p1 m c1] 27)) 111).keep (Below.heap_alloc _ (.cells #[Value.int IntKind.i64 0, Value.int IntKind.i64 0, Value.int IntKind.i64 0, Value.int IntKind.i64 0, Value.int IntKind.i64 0, Value.int IntKind.i64 0, Value.int IntKind.i64 0, Value.int IntKind.i64 0, Value.int IntKind.i64 0, Value.int IntKind.i64 0, Value.int IntKind.i64 0, Value.int IntKind.i64 0, Value.int IntKind.i64 0, Value.int IntKind.i64 0, Value.int IntKind.i64 0, Value.int IntKind.i64 0, Value.int IntKind.i64 0, Value.int IntKind.i64 0, Value.int IntKind.i64 0, Value.int IntKind.i64 0, Value.int IntKind.i64 0, Value.int IntKind.i64 0, Value.int IntKind.i64 0, Value.int IntKind.i64 0, Value.int IntKind.i64 0, Value.int IntKind.i64 0, Value.int IntKind.i64 0, Value.int IntKind.i64 0, Value.int IntKind.i64 0, Value.int IntKind.i64 0, Value.int IntKind.i64 0, Value.int IntKind.i64 0, Value.int IntKind.i64 0, Value.int IntKind.i64 0, Value.int IntKind.i64 0, Value.int IntKind.i64 0, Value.int IntKind.i64 0, Value.int IntKind.i64 0, Value.int IntKind.i64 0, Value.int IntKind.i64 0] 111) _ (by simp only [World.size_alloc]; omega))
  have R1 := Ob.new0 ((w.alloc (.cells #[.slice p0 n c0, .slice p1 m c1] 27)).alloc (.cells #[Value.int IntKind.i64 0, Value.int IntKind.i64 0, Value.int IntKind.i64 0, Value.int IntKind.i64 0, Value.int IntKind.i64 0, Value.int IntKind.i64 0, Value.int IntKind.i64 0, Value.int IntKind.i64 0, Value.int IntKind.i64 0, Value.int IntKind.i64 0, Value.int IntKind.i64 0, Value.int IntKind.i64 0, Value.int IntKind.i64 0, Value.int IntKind.i64 0, Value.int IntKind.i64 0, Value.int IntKind.i64 0, Value.int IntKind.i64 0, Value.int IntKind.i64 0, Value.int IntKind.i64 0, Value.int IntKind.i64 0, Value.int IntKind.i64 0, Value.int IntKind.i64 0, Value.int IntKind.i64 0, Value.int IntKind.i64 0, Value.int IntKind.i64 0, Value.int IntKind.i64 0, Value.int IntKind.i64 0, Value.int IntKind.i64 0, Value.int IntKind.i64 0, Value.int IntKind.i64 0, Value.int IntKind.i64 0, Value.int IntKind.i64 0, Value.int IntKind.i64 0, Value.int IntKind.i64 0, Value.int IntKind.i64 0, Value.int IntKind.i64 0, Value.int IntKind.i64 0, Value.int IntKind.i64 0, Value.int IntKind.i64 0, Value.int IntKind.i64 0] 111)) 111
  simp only [World.size_alloc] at R0 R1
  have B0 := ((below_new w (.cells #[.slice p0 n c0, .slice p1 m c1] 27)).trans ((below_new _ (.cells #[Value.int IntKind.i64 0, Value.int IntKind.i64 0, Value.int IntKind.i64 0, Value.int IntKind.i64 0, Value.int IntKind.i64 0, Value.int IntKind.i64 0, Value.int IntKind.i64 0, Value.int IntKind.i64 0, Value.int IntKind.i64 0, Value.int IntKind.i64 0, Value.int IntKind.i64 0, Value.int IntKind.i64 0, Value.int IntKind.i64 0, Value.int IntKind.i64 0, Value.int IntKind.i64 0, Value.int IntKind.i64 0, Value.int IntKind.i64 0, Value.int IntKind.i64 0, Value.int IntKind.i64 0, Value.int IntKind.i64 0, Value.int IntKind.i64 0, Value.int IntKind.i64 0, Value.int IntKind.i64 0, Value.int IntKind.i64 0, Value.int IntKind.i64 0, Value.int IntKind.i64 0, Value.int IntKind.i64 0, Value.int IntKind.i64 0, Value.int IntKind.i64 0, Value.int IntKind.i64 0, Value.int IntKind.i64 0, Value.int IntKind.i64 0, Value.int IntKind.i64 0, Value.int IntKind.i64 0, Value.int IntKind.i64 0, Value.int IntKind.i64 0, Value.int IntKind.i64 0, Value.int IntKind.i64 0, Value.int IntKind.i64 0, Value.int IntKind.i64 0] 111)).mono (by simp only [World.size_alloc]; omega))).trans ((below_new _ (.cells #[Value.int IntKind.i64 0, Value.int IntKind.i64 0, Value.int IntKind.i64 0, Value.int IntKind.i64 0, Value.int IntKind.i64 0, Value.int IntKind.i64 0, Value.int IntKind.i64 0, Value.int IntKind.i64 0, Value.int IntKind.i64 0, Value.int IntKind.i64 0, Value.int IntKind.i64 0, Value.int IntKind.i64 0, Value.int IntKind.i64 0, Value.int IntKind.i64 0, Value.int IntKind.i64 0, Value.int IntKind.i64 0, Value.int IntKind.i64 0, Value.int IntKind.i64 0, Value.int IntKind.i64 0, Value.int IntKind.i64 0, Value.int IntKind.i64 0, Value.int IntKind.i64 0, Value.int IntKind.i64 0, Value.int IntKind.i64 0, Value.int IntKind.i64 0, Value.int IntKind.i64 0, Value.int IntKind.i64 0, Value.int IntKind.i64 0, Value.int IntKind.i64 0, Value.int IntKind.i64 0, Value.int IntKind.i64 0, Value.int IntKind.i64 0, Value.int IntKind.i64 0, Value.int IntKind.i64 0, Value.int IntKind.i64 0, Value.int IntKind.i64 0, Value.int IntKind.i64 0, Value.int IntKind.i64 0, Value.int IntKind.i64 0, Value.int IntKind.i64 0] 111)).mono (by simp only [World.size_alloc]; omega))
  have hs0 : (((w.alloc (.cells #[.slice p0 n c0, .slice p1 m c1] 27)).alloc (.cells #[Value.int IntKind.i64 0, Value.int IntKind.i64 0, Value.int IntKind.i64 0, Value.int IntKind.i64 0, Value.int IntKind.i64 0, Value.int IntKind.i64 0, Value.int IntKind.i64 0, Value.int IntKind.i64 0, Value.int IntKind.i64 0, Value.int IntKind.i64 0, Value.int IntKind.i64 0, Value.int IntKind.i64 0, Value.int IntKind.i64 0, Value.int IntKind.i64 0, Value.int IntKind.i64 0, Value.int IntKind.i64 0, Value.int IntKind.i64 0, Value.int IntKind.i64 0, Value.int IntKind.i64 0, Value.int IntKind.i64 0, Value.int IntKind.i64 0, Value.int IntKind.i64 0, Value.int IntKind.i64 0, Value.int IntKind.i64 0, Value.int IntKind.i64 0, Value.int IntKind.i64 0, Value.int IntKind.i64 0, Value.int IntKind.i64 0, Value.int IntKind.i64 0, Value.int IntKind.i64 0, Value.int IntKind.i64 0, Value.int IntKind.i64 0, Value.int IntKind.i64 0, Value.int IntKind.i64 0, Value.int IntKind.i64 0, Value.int IntKind.i64 0, Value.int IntKind.i64 0, Value.int IntKind.i64 0, Value.int IntKind.i64 0, Value.int IntKind.i64 0] 111)).alloc (.cells #[Value.int IntKind.i64 0, Value.int IntKind.i64 0, Value.int IntKind.i64 0, Value.int IntKind.i64 0, Value.int IntKind.i64 0, Value.int IntKind.i64 0, Value.int IntKind.i64 0, Value.int IntKind.i64 0, Value.int IntKind.i64 0, Value.int IntKind.i64 0, Value.int IntKind.i64 0, Value.int IntKind.i64 0, Value.int IntKind.i64 0, Value.int IntKind.i64 0, Value.int IntKind.i64 0, Value.int IntKind.i64 0, Value.int IntKind.i64 0, Value.int IntKind.i64 0, Value.int IntKind.i64 0, Value.int IntKind.i64 0, Value.int IntKind.i64 0, Value.int IntKind.i64 0, Value.int IntKind.i64 0, Value.int IntKind.i64 0, Value.int IntKind.i64 0, Value.int IntKind.i64 0, Value.int IntKind.i64 0, Value.int IntKind.i64 0, Value.int IntKind.i64 0, Value.int IntKind.i64 0, Value.int IntKind.i64 0, Value.int IntKind.i64 0, Value.int IntKind.i64 0, Value.int IntKind.i64 0, Value.int IntKind.i64 0, Value.int IntKind.i64 0, Value.int IntKind.i64 0, Value.int IntKind.i64 0, Value.int IntKind.i64 0, Value.int IntKind.i64 0] 111)).heap.size = w.heap.size + 1 + 1 + 1 := by simp
  have e0 := A0.b0
  have e1 := A0.b1
  have HA := Lib.hid A0
  have HR0 := Lib.hid R0
  have HR1 := Lib.hid R1
  have HBB := Lib.hid B0
  clear h hB A0 R0 R1 B0
  go_enter Tryz.func166, Tryz.ntmps166
  go_wp2_with fail
  obtain ⟨w1, hw1⟩ : ∃ w1, ((w.alloc (.cells #[.slice p0 n c0, .slice p1 m c1] 27)).alloc (.cells #[Value.int IntKind.i64 0, Value.int IntKind.i64 0, Value.int IntKind.i64 0, Value.int IntKind.i64 0, Value.int IntKind.i64 0, Value.int IntKind.i64 0, Value.int IntKind.i64 0, Value.int IntKind.i64 0, Value.int IntKind.i64 0, Value.int IntKind.i64 0, Value.int IntKind.i64 0, Value.int IntKind.i64 0, Value.int IntKind.i64 0, Value.int IntKind.i64 0, Value.int IntKind.i64 0, Value.int IntKind.i64 0, Value.int IntKind.i64 0, Value.int IntKind.i64 0, Value.int IntKind.i64 0, Value.int IntKind.i64 0, Value.int IntKind.i64 0, Value.int IntKind.i64 0, Value.int IntKind.i64 0, Value.int IntKind.i64 0, Value.int IntKind.i64 0, Value.int IntKind.i64 0, Value.int IntKind.i64 0, Value.int IntKind.i64 0, Value.int IntKind.i64 0, Value.int IntKind.i64 0, Value.int IntKind.i64 0, Value.int IntKind.i64 0, Value.int IntKind.i64 0, Value.int IntKind.i64 0, Value.int IntKind.i64 0, Value.int IntKind.i64 0, Value.int IntKind.i64 0, Value.int IntKind.i64 0, Value.int IntKind.i64 0, Value.int IntKind.i64 0] 111)).alloc (.cells #[Value.int IntKind.i64 0, Value.int IntKind.i64 0, Value.int IntKind.i64 0, Value.int IntKind.i64 0, Value.int IntKind.i64 0, Value.int IntKind.i64 0, Value.int IntKind.i64 0, Value.int IntKind.i64 0, Value.int IntKind.i64 0, Value.int IntKind.i64 0, Value.int IntKind.i64 0, Value.int IntKind.i64 0, Value.int IntKind.i64 0, Value.int IntKind.i64 0, Value.int IntKind.i64 0, Value.int IntKind.i64 0, Value.int IntKind.i64 0, Value.int IntKind.i64 0, Value.int IntKind.i64 0, Value.int IntKind.i64 0, Value.int IntKind.i64 0, Value.int IntKind.i64 0, Value.int IntKind.i64 0, Value.int IntKind.i64 0, Value.int IntKind.i64 0, Value.int IntKind.i64 0, Value.int IntKind.i64 0, Value.int IntKind.i64 0, Value.int IntKind.i64 0, Value.int IntKind.i64 0, Value.int IntKind.i64 0, Value.int IntKind.i64 0, Value.int IntKind.i64 0, Value.int IntKind.i64 0, Value.int IntKind.i64 0, Value.int IntKind.i64 0, Value.int IntKind.i64 0, Value.int IntKind.i64 0, Value.int IntKind.i64 0, Value.int IntKind.i64 0] 111) = w1 := ⟨_, rfl⟩
  rw [hw1] at hs0 HA HR0 HR1 HBB e0 e1 ⊢
  clear hw1 e0 e1
  refine (forestEntries_any w1 _ n N m P lo hi (HV.out.below HBB.out hhi) (by omega) HB.out).mono ?_
  rintro e w3 ⟨gt, rfl, hgt, ot, b3⟩
  have HT := Lib.hid ot
  have HB3 := Lib.hid (HBB.out.trans (b3.mono (by omega)))
  have A3 := HA.out.below b3 (by omega)
  have S0 := HR0.out.below b3 (by omega)
  have S1 := HR1.out.below b3 (by omega)
  have hs3 := b3.size
  have e2 : w.heap.size + 1 + 1 < gt := by omega
  clear ot b3 HBB HA HR0 HR1
  have HA := Lib.hid A3
  have HR0 := Lib.hid S0
  have HR1 := Lib.hid S1
  clear A3 S0 S1 hgt hs3 hs0
  go_wp2_with fail
  go_loopw [1] (fun iv wr => ∃ (z : Int) (x : Nat → Int), iv = .int .i64 z ∧ (0 ≤ z ∧ z < n) ∧ Ob wr (w.heap.size + 1 + 1) 40 (ia x) ∧ (∀ a, x a + asc P (fE n P m) (fD n P m) z a = asc P (fE n P m) (fD n P m) z0 a) ∧ (∀ y : Int, 0 ≤ y ∧ y < n → fD n P m y ≤ fD n P m z → ∀ a : Nat, fE n P m y = (a : Int) → x a = 0) ∧
      Ob wr w.heap.size 2 (bx (.slice p0 n c0) (.slice p1 m c1)) ∧ Ob wr (w.heap.size + 1) 40 (ia (fun _ => 0)) ∧ Ob wr gt n (tabC (fE n P m)) ∧ Below w.heap.size w wr) (fun iv _ => (fD n P m (intOf iv)).toNat)
  case atStart => exact ⟨z0, fun _ => 0, rfl, hz0, HR1.out, fun a => Int.zero_add _, fun _ _ _ _ _ => rfl, HA.out, HR0.out, HT.out, HB3.out⟩
  case round =>
    obtain ⟨z, x, rfl, hz, o5, hx, hx2, oa, o4, ot, hb⟩ := hrel
    clear HA HR0 HR1 HT HB3
    have H5 := Lib.hid o5
    have HX := Lib.hid hx
    have HX2 := Lib.hid hx2
    have HA := Lib.hid oa
    have H4 := Lib.hid o4
    have HT := Lib.hid ot
    have HBB := Lib.hid hb
    clear o5 hx hx2 oa o4 ot hb
    generalize hQ : Exit.then _ _ = Q
    have HQ := Lib.hid hQ
    clear hQ
    obtain ⟨Z, rfl⟩ := Int.eq_ofNat_of_zero_le hz.1
    have z1 : (0 : Int) ≤ (Z : Int) := Int.natCast_nonneg _
    have z2 : (Z : Int) < (n : Int) := hz.2
    have l5 := H5.out.lt
    have l4 := H4.out.lt
    have lt := HT.out.lt
    have la := HA.out.lt
    have y0 : wr.cell? ⟨gt, Z, none⟩ = some (.int .i64 (fE n P m (Z : Nat))) := HT.out.cell Z (by omega)
    rcases HFO.out.par (Z : Int) hz.1 hz.2 with hen | ⟨c, hc, hen, hcz, hd⟩
    · have hb1 : (fE n P m (Z : Nat) != -1) = false := by simp [hen]
      have hr : Ob wr (w.heap.size + 1 + 1) 40 (ia (asc P (fE n P m) (fD n P m) z0)) := H5.out.congr (fun j hj => by
        have := HX.out j
        rw [HFO.out.asc_top hen] at this
        unfold ia
        rw [← this, Int.add_zero])
      obtain ⟨t5, g5⟩ := hr.row
      obtain ⟨t4, g4⟩ := H4.out.row
      have o2 := (Only.refl (w.heap.size + 1) wr).setRow (arr (asc P (fE n P m) (fD n P m) z0))
      have r2 := H4.out.setRow (asc P (fE n P m) (fD n P m) z0)
      have hbb := HBB.out.trans (o2.below (B := w.heap.size) (by omega))
      clear hen
      go_wp2_with fail
      rw [← HQ.out]
      go_wp2_with (first | refine wpList_load_row rfl 111 _ rfl (w.heap.size + 1 + 1) rfl t5 _ (0, 0) _ g5 Tryz.underlying111 rfl (by rw [arr_size]; exact flow_info) ?_ | refine wpList_store_row rfl 111 _ _ rfl (w.heap.size + 1) _ rfl rfl t4 _ g4 (by rw [arr_size]; exact flow_info) (by rw [arr_size, arr_size]) (arr_one _) ?_)
      exact bodyPost_ret (results_arr rfl rfl r2) rfl ⟨rfl, hbb⟩
    · have hb1 : (fE n P m (Z : Nat) != -1) = true := by rw [hen]; simp
      rw [hen] at hb1 y0
      have c0' : (0 : Int) ≤ (c : Int) := Int.natCast_nonneg _
      have c1' : (c : Int) < (m : Int) := by omega
      have c2' : (c : Int) < 40 := by omega
      have hc40 : c < 40 := by omega
      have y5 := H5.out.cell c hc40
      have y6 := H5.out.free c
      obtain ⟨bp, op, rfl, q1, q2, r0, r1, r2, r3, r4⟩ := (HV.out.below HBB.out hhi).pipe hc
      have e0 : wr.cell? ⟨w.heap.size, 0, none⟩ = some (.slice p0 n c0) := HA.out.b0
      have e1 : wr.cell? ⟨w.heap.size, 1, none⟩ = some (.slice (some ⟨bp, op, none⟩) m c1) := HA.out.b1
      have HE := Lib.hid hen
      have HD := Lib.hid hd
      have HO := Lib.hid (HFO.out.oth hc (Z : Int))
      clear hen hd
      go_wp2_with (first
        | (go_at_call 114; refine (signFrom_any (P c) (Z : Int) _).mono ?_; rintro e w4 ⟨rfl, hb4⟩; have x5 := H5.out.below hb4 l5; have u5 := x5.cell c hc40; have u6 := x5.free c; have o1 := (Only.refl (w.heap.size + 1 + 1) w4).setCell c (.int .i64 (sgn (P c) (Z : Int))); have hs4 := hb4.size; have v1 := (o1.cell (a := ⟨w.heap.size, 1, none⟩) (by show w.heap.size ≠ w.heap.size + 1 + 1; omega)).trans ((hb4.cell (p := ⟨w.heap.size, 1, none⟩) la).trans e1); have bne : bp ≠ w.heap.size + 1 + 1 := (by omega); have bl : bp < wr.heap.size := (by omega); have s0 := (o1.cell (a := ⟨bp, op + c * 5, none⟩) bne).trans ((hb4.cell (p := ⟨bp, op + c * 5, none⟩) bl).trans r0); have s1 := (o1.cell (a := ⟨bp, op + c * 5 + 1, none⟩) bne).trans ((hb4.cell (p := ⟨bp, op + c * 5 + 1, none⟩) bl).trans r1); have s2 := (o1.cell (a := ⟨bp, op + c * 5 + 2, none⟩) bne).trans ((hb4.cell (p := ⟨bp, op + c * 5 + 2, none⟩) bl).trans r2); have s3 := (o1.cell (a := ⟨bp, op + c * 5 + 3, none⟩) bne).trans ((hb4.cell (p := ⟨bp, op + c * 5 + 3, none⟩) bl).trans r3); have s4 := (o1.cell (a := ⟨bp, op + c * 5 + 4, none⟩) bne).trans ((hb4.cell (p := ⟨bp, op + c * 5 + 4, none⟩) bl).trans r4); clear e0 e1 r0 r1 r2 r3 r4 y0 y5 y6)
        | (go_at_call 113; refine (otherEnd_any (P c) (Z : Int) _).mono ?_; rintro e w6 ⟨rfl, hb6⟩))
      rw [← HQ.out]
      have hs5 : (w4.setCell ⟨w.heap.size + 1 + 1, c, none⟩ (.int .i64 (sgn (P c) (Z : Int)))).heap.size = w4.heap.size := sz_set _ _ _
      have hb5 := o1.below (B := w.heap.size) (by omega)
      refine ⟨⟨_, _, _, _, _, _, _, _, _, _, _, _, _, _, _, _, _, _, _, _, _, _, _, _, _, _, _, ?rel, rfl⟩, ?measure⟩
      case rel =>
        refine ⟨othV (P c) (Z : Int), upd x c (sgn (P c) (Z : Int)), rfl, HO.out, (x5.setI c _ hc40).below hb6 (by omega), fun a => ?_, fun y hy hyd a hya => ?_, ((HA.out.below hb4 la).only o1 (by omega)).below hb6 (by omega), ((H4.out.below hb4 l4).only o1 (by omega)).below hb6 (by omega), ((HT.out.below hb4 lt).only o1 (by omega)).below hb6 (by omega), (HBB.out.trans (hb4.mono (by omega))).trans (hb5.trans (hb6.mono (by omega)))⟩
        · have h1 := HX.out a
          rw [HFO.out.asc_up hz hc HE.out] at h1
          unfold upd
          by_cases e : a = c
          · subst e
            have h2 := HX2.out _ hz (Int.le_refl _) a HE.out
            rw [if_pos rfl] at h1 ⊢
            omega
          · rw [if_neg e] at h1 ⊢
            omega
        · have hd := HD.out
          unfold upd
          by_cases e : a = c
          · exfalso
            subst e
            have := HFO.out.uniq hy hz hya HE.out
            subst this
            omega
          · rw [if_neg e]
            exact HX2.out y hy (by omega) a hya
      case measure =>
        have hd := HD.out
        have hb1 := HFO.out.bnd _ HO.out.1 HO.out.2
        simp only [intOf, Array.getD_eq_getD_getElem?, List.getElem?_toArray, List.getElem?_cons_succ, List.getElem?_cons_zero, Option.getD_some]
        omega
end Go.Proofs.YtdbgcbkmcbgdiaaGreat.mem

namespace Go.Proofs.YtdbgcbkmcbgdiaaGreat.mem
open Go.RowKit
set_option linter.unusedVariables false

theorem At.flat {w : World} {b o n z k : Nat} {c : Nat → Nat → Value} (h : At w b o n z c) (hk : k < n * z) : w.cell? ⟨b, o + k, none⟩ = some (c (k / z) (k % z)) := by
  have hz : 0 < z := by
    rcases Nat.eq_zero_or_pos z with e | e
    · subst e; omega
    · exact e
  have h1 : k / z < n := (Nat.div_lt_iff_lt_mul hz).2 hk
  have h2 := h.cell (k / z) (k % z) h1 (Nat.mod_lt _ hz)
  have h3 : o + k / z * z + k % z = o + k := by
    have := Nat.div_add_mod k z
    rw [Nat.mul_comm] at this
    omega
  rw [h3] at h2
  exact h2
theorem flat_ij {i j z : Nat} (hj : j < z) : (i * z + j) / z = i ∧ (i * z + j) % z = j := by
  have hz : 0 < z := by omega
  constructor
  · rw [Nat.mul_comm, Nat.mul_add_div hz, Nat.div_eq_of_lt hj, Nat.add_zero]
  · rw [Nat.mul_comm, Nat.mul_add_mod, Nat.mod_eq_of_lt hj]
/-- the cells of n elements in a row -/
def flatL (c : Nat → Nat → Value) (n z : Nat) : List Value := (List.range (n * z)).map fun k => c (k / z) (k % z)
theorem flatL_len (c : Nat → Nat → Value) (n z : Nat) : (flatL c n z).length = n * z := by simp [flatL]
theorem flatL_get {c : Nat → Nat → Value} {n z i j : Nat} (hi : i < n) (hj : j < z) : (flatL c n z)[i * z + j]? = some (c i j) := by
  have h := ij_lt hi hj
  obtain ⟨h1, h2⟩ := flat_ij (i := i) hj
  unfold flatL
  rw [List.getElem?_map, List.getElem?_range h]
  simp [h1, h2]
theorem flatL_cell {w : World} {b o n z : Nat} {c : Nat → Nat → Value} (h : At w b o n z c) (k : Nat) (u : Value) (hu : (flatL c n z)[k]? = some u) : w.cell? ((⟨b, o, none⟩ : Addr).add k) = some u := by
  have hk : k < n * z := by
    have := (List.getElem?_eq_some_iff.1 hu).1
    rwa [flatL_len] at this
  have hadd : (⟨b, o, none⟩ : Addr).add k = ⟨b, o + k, none⟩ := by
    unfold Addr.add
    split <;> simp_all
  rw [hadd, h.flat hk]
  unfold flatL at hu
  rw [List.getElem?_map, List.getElem?_range hk] at hu
  exact hu

/-- at such an append, for the walk and in a region, when its run is known -/
theorem wpList_appT {t : TypeId} {ops : Array Oper} {rest : List Oper} {o : Oper} {a : Act} {Q : Exit → Act → World → Prop} {w w' : World} {v v' xv : Value} (hr : Sem.run Tryz.prog (Builtin.append_ #[t, t] t #[v, xv]) w = .ok v' w')
    (hgd : o.guard = none) (s x : Operand) (ho : o.op = .call { callee := .builtin .append, args := #[s, x], argTypes := #[t, t] }) (hty : o.type = t) (hs : a.eval s = v) (hx : a.eval x = xv)
    (h : wpList Tryz.prog ops Q rest (a.put o.dst v') w') : wpList Tryz.prog ops Q (o :: rest) a w := by
  refine wpList_plain hgd fun K hK => ?_
  unfold Oper.wp execOp
  simp only [ho, hty, resolve, invoke, builtin, Sem.run_bind, Sem.run_pure, Result.andThen_ok, List.map_toArray, List.map_cons, List.map_nil, hs, hx, hr]
  exact hK _ _ h
theorem step_appT {t : TypeId} {ops : Array Oper} {o : Oper} {a : Act} {w : World} {K : Act → World → Prop} {Q : Exit → Act → World → Prop} {E : Prop} {v' : Value} {w' : World} {v xv : Value}
    (hr : Sem.run Tryz.prog (Builtin.append_ #[t, t] t #[v, xv]) w = .ok v' w') (hg : o.guard = none) (s x : Operand)
    (hop : o.op = Op.call { callee := Callee.builtin Builtin.append, args := #[s, x], argTypes := #[t, t] }) (hty : o.type = t) (hs : a.eval s = v) (hx : a.eval x = xv)
    (hK : K (a.put o.dst v') w') : if Region.wanted o (yielded ops a.tmps) = true then Oper.wp Tryz.prog o a w K Q else E := by
  have hw : Region.wanted o (yielded ops a.tmps) = true := by simp [Region.wanted, hg]
  rw [if_pos hw]
  unfold Oper.wp
  simp [execOp, hop, hty, resolve, invoke, builtin, hs, hx, hr, Result.andThen]
  exact hK
end Go.Proofs.YtdbgcbkmcbgdiaaGreat.mem

namespace Go.Proofs.YtdbgcbkmcbgdiaaGreat.mem
open Go.RowKit
set_option linter.unusedVariables false

/-- an own row from block B on, of n elements of z cells of type e -/
structure RowE (B : Nat) (e : TypeId) (z : Nat) (w : World) (v : Value) (n : Nat) (c : Nat → Nat → Value) : Prop where
  own : w.ownsRow B e z v n (flatL c n z)
theorem RowE.shape {B : Nat} {e : TypeId} {z : Nat} {w : World} {v : Value} {n : Nat} {c : Nat → Nat → Value} (h : RowE B e z w v n c) : ∃ p cap, v = .slice p n cap := by
  rcases h.own.2 with ⟨h1, h2⟩ | ⟨g, cap, cur, h1, _⟩
  · exact ⟨none, 0, by rw [h1, h2]⟩
  · exact ⟨_, cap, h1⟩
theorem RowE.keep {B : Nat} {e : TypeId} {z : Nat} {w w' : World} {v : Value} {n : Nat} {c : Nat → Nat → Value} {X : Nat → Prop} (h : RowE B e z w v n c) (u : Upd X w w') (hx : ∀ k, v.ownBlock = some k → ¬ X k) : RowE B e z w' v n c := by
  refine ⟨h.own.1, ?_⟩
  rcases h.own.2 with h1 | ⟨g, cap, cur, rfl, h2, h3, h4⟩
  · exact .inl h1
  · exact .inr ⟨g, cap, cur, rfl, h2, by rw [u.block g (Array.getElem?_eq_some_iff.1 h3).1 (hx g rfl)]; exact h3, h4⟩
theorem RowE.next {B : Nat} {e : TypeId} {z : Nat} {w w' : World} {v : Value} {n : Nat} {c : Nat → Nat → Value} (h : RowE B e z w v n c) (b : Below w.heap.size w w') : RowE B e z w' v n c := h.keep (Upd.of_below b (X := fun _ => False)) (fun _ _ hx => hx)
/-- a write to a block below B leaves the row -/
theorem RowE.low {B b : Nat} {e : TypeId} {z : Nat} {w w' : World} {v : Value} {n : Nat} {c : Nat → Nat → Value} (h : RowE B e z w v n c) (u : Upd (· = b) w w') (hb : b < B) : RowE B e z w' v n c := h.keep u (fun k hk hx => by
  have := (h.own.lt k hk).1
  omega)
theorem rows_apart {B B' : Nat} {e e' : TypeId} {z z' : Nat} {w : World} {v v' : Value} {n n' : Nat} {c c' : Nat → Nat → Value} (h : RowE B e z w v n c) (g : RowE B' e' z' w v' n' c') (hne : e ≠ e') : ∀ k, v.ownBlock = some k → ¬ some k = v'.ownBlock := by
  intro k hk hk'
  rcases h.own.2 with ⟨rfl, _⟩ | ⟨q, cap, cur, rfl, _, h3, _⟩
  · simp [Value.ownBlock] at hk
  rcases g.own.2 with ⟨rfl, _⟩ | ⟨q', cap', cur', rfl, _, g3, _⟩
  · simp [Value.ownBlock] at hk'
  simp [Value.ownBlock] at hk hk'
  subst hk hk'
  rw [h3] at g3
  injection g3 with g3
  injection g3 with _ g3
  exact hne g3
theorem RowE.ownS {B : Nat} {e : TypeId} {z : Nat} {w : World} {v : Value} {n : Nat} {c : Nat → Nat → Value} (h : RowE B e z w v n c) : ∃ g, OwnS w v n z c g ∧ (B ≤ g ∨ n = 0) := by
  rcases h.own.2 with ⟨h1, h2⟩ | ⟨g, cap, cur, rfl, h2, h3, h4, h5, h6, h7⟩
  · subst h1 h2
    exact ⟨0, OwnS.none_ _ _ _ _, .inr rfl⟩
  · refine ⟨g, Rw.own ⟨cur.size, fun k => (cur[k]?).getD default, by rw [h6]; exact Nat.mul_le_mul_right z h4, ⟨cur, _, h3, rfl, fun k hk => by rw [Array.getElem?_eq_getElem (by omega)]; rfl⟩, fun i j hi hj => ?_⟩ h4 h5, .inl h2⟩
    have := flatL_get (c := c) hi hj
    have hij := ij_lt (z := z) hi hj
    rw [← h7, List.getElem?_take, if_pos hij, Array.getElem?_toList] at this
    show (cur[i * z + j]?).getD default = c i j
    rw [this]
    rfl
theorem rowE_nil {B : Nat} {e : TypeId} {z : Nat} (w : World) (c : Nat → Nat → Value) (hB : B ≤ w.heap.size) : RowE B e z (w.alloc (.cells #[] e)) (.slice (some ⟨w.heap.size, 0, none⟩) 0 0) 0 c :=
  ⟨by simp [flatL], .inr ⟨w.heap.size, 0, #[], rfl, hB, heap_alloc_new w _, Nat.le_refl _, by unfold maxLen; omega, by simp, by simp [flatL]⟩⟩
theorem flatL_snoc {c c' : Nat → Nat → Value} {n z : Nat} {l : List Value} (hl : l.length = z) (h : ∀ i j, i < n → j < z → c' i j = c i j) (hn : ∀ j, j < z → l[j]? = some (c' n j)) : flatL c' (n + 1) z = flatL c n z ++ l := by
  apply List.ext_getElem?
  intro k
  by_cases hk : k < (n + 1) * z
  · have hz : 0 < z := by
      rcases Nat.eq_zero_or_pos z with e | e
      · subst e; omega
      · exact e
    have hi : k / z < n + 1 := (Nat.div_lt_iff_lt_mul hz).2 hk
    have hj := Nat.mod_lt k hz
    have hkk : k / z * z + k % z = k := by
      have := Nat.div_add_mod k z
      rw [Nat.mul_comm] at this
      omega
    have e1 := flatL_get (c := c') hi hj
    rw [hkk] at e1
    rw [e1]
    by_cases h1 : k / z < n
    · have hlt := ij_lt h1 hj
      rw [hkk] at hlt
      rw [List.getElem?_append_left (by rw [flatL_len]; omega)]
      have e2 := flatL_get (c := c) h1 hj
      rw [hkk] at e2
      rw [e2, h _ _ h1 hj]
    · have e3 : k / z = n := by omega
      rw [List.getElem?_append_right (by rw [flatL_len, ← e3]; omega), flatL_len, show k - n * z = k % z by rw [← e3]; omega, hn _ hj, e3]
  · have hz1 : (n + 1) * z = n * z + z := by rw [Nat.add_mul, Nat.one_mul]
    rw [List.getElem?_eq_none (by rw [flatL_len]; omega), List.getElem?_eq_none (by rw [List.length_append, flatL_len, hl]; omega)]
/-- one element is appended: from a new block of its cells -/
theorem appOne {t e : TypeId} {zv : Value} {z bytes : Nat} (ht : Tryz.prog.underlying t = some (.slice e)) (hinf : (Tryz.prog.info? e).map (fun i => (i.zero, i.size, i.bytes)) = some (some zv, z, bytes)) (hb64 : bytes ≤ 512) (hzs : zv.cells.size = z) (hz : 0 < z)
    (B : Nat) (W : World) (v : Value) (n : Nat) (c c' : Nat → Nat → Value) (h : RowE B e z W v n c) (hB : B ≤ W.heap.size) (l : List Value) (hl : l.length = z) (h1 : ∀ u ∈ l, u.oneCell' = true) (hc : ∀ i j, i < n → j < z → c' i j = c i j) (hn : ∀ j, j < z → l[j]? = some (c' n j)) (hn2 : n ≤ 1000000) :
    ∃ v' w', Sem.run Tryz.prog (Builtin.append_ #[t, t] t #[v, .slice (some ⟨W.heap.size, 0, none⟩) 1 1]) (W.alloc (.cells l.toArray e)) = .ok v' w' ∧ RowE B e z w' v' (n + 1) c' ∧ Upd (fun x => some x = v.ownBlock) W w' := by
  obtain ⟨i0, hi0, hz0, hz1, hz2⟩ := info_parts hinf
  have hA := h.next (below_new W (.cells l.toArray e))
  have hnew := heap_alloc_new W (.cells l.toArray e)
  obtain ⟨v', w', hr, ho, hgr, _⟩ := run_append_own (P := Tryz.prog) (W.alloc (.cells l.toArray e)) B t t e i0 zv z bytes ht hi0 hz0 hz1 hz2 hzs hz v n (flatL c n z) hA.own ⟨W.heap.size, 0, none⟩ 1 1 l (by omega) (fun j u hu => by
      have hadd : (⟨W.heap.size, 0, none⟩ : Addr).add j = ⟨W.heap.size, j, none⟩ := by unfold Addr.add; split <;> simp_all
      rw [hadd]
      simp only [World.cell?, hnew]
      simpa using hu) h1 (by unfold maxLen; omega) (by have : (n + 1) * bytes ≤ 1000001 * 512 := Nat.mul_le_mul (by omega) hb64; omega) (Nat.le_trans hB (by simp))
  refine ⟨v', w', hr, ⟨by rw [flatL_snoc hl hc hn]; exact ho⟩, ?_⟩
  have u0 : Upd (fun x => some x = v.ownBlock) W (W.alloc (.cells l.toArray e)) := Upd.of_below (below_new _ _)
  exact u0.trans ⟨hgr.os, hgr.tape, hgr.output, hgr.size, fun k hk hx => hgr.block k hk (fun e => hx e)⟩
end Go.Proofs.YtdbgcbkmcbgdiaaGreat.mem
