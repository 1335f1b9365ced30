/-
  Several texts in one: Two, Pth, Sph, Anc.
-/
import Derived.Test.YtjjjdahegcjmaaaRows
import Derived.Test.YtjjjdahegcjmaaaNetPA
import Derived.Test.YtjjjdahegcjmaaaDsd
import Derived.Test.YtjjjdahegcjmaaaApm
import Derived.Test.YtjjjdahegcjmaaaRev
namespace Go.Proofs.Ytjjjdahegcjmaaa.mem
open Go.RowKit
set_option linter.unusedVariables false

theorem bc2 (a b : Bool) : a = false ∨ (a = true ∧ b = false) ∨ (a = true ∧ b = true) := by cases a <;> cases b <;> simp
theorem two_arg (w : World) (x y : Int) : Cs (w.alloc (.cells #[.int .i64 x, .int .i64 y] 2)) (.slice (some ⟨w.heap.size, 0, none⟩) 2 2) 2 1 (fun i _ => .int .i64 ((fun i => if i = 0 then x else y) i)) 0 (w.heap.size + 1) := by
  refine (Rw.new w #[Value.int .i64 x, .int .i64 y] 2 2 1 (fun i _ => .int .i64 (if i = 0 then x else y)) (by simp) ?_).cs (Nat.le_refl _) (by omega) (Nat.zero_le _) (by omega)
  intro i j hi hj
  obtain rfl : j = 0 := by omega
  rcases (by omega : i = 0 ∨ i = 1) with rfl | rfl <;> rfl
theorem all_two (n : Nat) (x y : Int) : allR n 2 (fun i => if i = 0 then x else y) = (inR x 0 (n - 1) && inR y 0 (n - 1)) := by
  rw [Bool.eq_iff_iff, allR_iff, Bool.and_eq_true]
  constructor
  · intro h
    exact ⟨h 0 (by omega), h 1 (by omega)⟩
  · rintro ⟨h0, h1⟩ i hi
    rcases (by omega : i = 0 ∨ i = 1) with rfl | rfl
    · exact h0
    · exact h1

end Go.Proofs.Ytjjjdahegcjmaaa.mem

namespace Go.Proofs.Ytjjjdahegcjmaaa.mem
open Go.RowKit
set_option linter.unusedVariables false

noncomputable def spC (n : Nat) (N : Nat → Nod) (m : Nat) (P : Nat → Pip) (x y : Int) : Int :=
  if codeB (netB n N m P) (inR x 0 (n - 1) && inR y 0 (n - 1)) = 0 then (if vhas (vis n P m x) y = true then 0 else 4) else codeB (netB n N m P) (inR x 0 (n - 1) && inR y 0 (n - 1))
def spL (n : Nat) (P : Nat → Pip) (m : Nat) (x y : Int) : List Int := pth P (vis n P m x) x n y
def spD (n : Nat) (P : Nat → Pip) (m : Nat) (x y : Int) (k : Nat) : Int := ((spL n P m x y).reverse[k]?).getD 0
noncomputable def spN (n : Nat) (N : Nat → Nod) (m : Nat) (P : Nat → Pip) (x y : Int) : Nat := if spC n N m P x y = 0 then (spL n P m x y).length else 0
/-- at a node on the way back that isn't the first one -/
theorem Vok.step {n : Nat} {N : Nat → Nod} {P : Nat → Pip} {m : Nat} {x : Int} {fs : List Vs} (hN : netB n N m P = true) (h : Vok n P m x fs) {y : Int} (hy : vhas fs y = true) (hne : y ≠ x) :
    ∃ (a Y Z : Nat), y = (Z : Int) ∧ Z < n ∧ a < m ∧ pipB n (P a) = true ∧ vval (·.en) fs (Z : Int) = (a : Int) ∧ othV (P a) (Z : Int) = (Y : Int) ∧ (P a).f + (P a).t - (Z : Int) = (Y : Int) ∧ Y < n ∧ vhas fs (Y : Int) = true ∧ pth P fs x n (Z : Int) = (a : Int) :: pth P fs x n (Y : Int) := by
  obtain ⟨i, v, hv, rfl⟩ := vhas_get hy
  obtain ⟨j, u, a, hj, hu, ha, hen, he, ho, hp⟩ := h.back hN hv hne
  obtain ⟨hz0, hz1⟩ := h.rng v (List.mem_of_getElem? hv)
  obtain ⟨Z, hZ⟩ := Int.eq_ofNat_of_zero_le hz0
  obtain ⟨hy0, hy1⟩ := h.rng u (List.mem_of_getElem? hu)
  obtain ⟨Y, hY⟩ := Int.eq_ofNat_of_zero_le hy0
  have hpa := net_pip hN ha
  refine ⟨a, Y, Z, hZ, by omega, ha, hpa, by rw [← hZ]; exact hen, by rw [← hZ, ← hY]; exact ho, by rw [← hZ, ← hY, sum_other hpa he, ho], by omega, by rw [← hY]; exact get_vhas hu, by rw [← hZ, ← hY]; exact hp⟩
theorem Vok.plen {n : Nat} {N : Nat → Nod} {P : Nat → Pip} {m : Nat} {x : Int} {fs : List Vs} (hN : netB n N m P = true) (h : Vok n P m x fs) {y : Int} (hy : vhas fs y = true) : (pth P fs x n y).length < n := by
  obtain ⟨i, v, hv, rfl⟩ := vhas_get hy
  have h1 := h.pth_len hN i v hv
  have h2 := get_lt hv
  have h3 := h.len
  omega

set_option maxRecDepth 100000 in
set_option maxHeartbeats 4000000 in
theorem l04Path_any (w : World) (v : Value) (n : Nat) (N : Nat → Nod) (m : Nat) (P : Nat → Pip) (lo hi : Nat) (h : NetAt w v n N m P lo hi) (hhi : hi ≤ w.heap.size) (hN : ∀ i, i < n → (N i).s.size ≤ 9223372036854775807) (hB : netB n N m P = true) (X0 : Nat) (hX : X0 < n) (y : Int) (hy : vhas (vis n P m (X0 : Nat)) y = true) :
    Calls Try.prog 71 #[v, .int .i64 (X0 : Nat), .int .i64 y] w fun e w' => ∃ v2 g2, e = .returned v2 ∧ Own w' v2 (spL n P m (X0 : Nat) y).length (spD n P m (X0 : Nat) y) g2 ∧ w.heap.size ≤ g2 ∧ Below w.heap.size w w' := by
  obtain ⟨p0, c0, p1, c1, rfl, hn9, hm9⟩ := h.parts
  obtain ⟨hn1, hn24, hm40⟩ := net_sz hB
  have ok := vis_ok (P := P) (m := m) (x := ((X0 : Nat) : Int)) hB ⟨Int.natCast_nonneg _, by omega⟩
  have HV := Lib.hid h
  have HN := Lib.hid hN
  have HB := Lib.hid hB
  have HST := Lib.hid (fun z (h1 : vhas (vis n P m ((X0 : Nat) : Int)) z = true) (h2 : z ≠ ((X0 : Nat) : Int)) => ok.step hB h1 h2)
  have HPL := Lib.hid (ok.plen hB hy)
  have HY := Lib.hid hy
  have A0 := boxed w (.slice p0 n c0) (.slice p1 m c1) 30
  have B0 := below_new w (.cells #[.slice p0 n c0, .slice p1 m c1] 30)
  have hs0 : (w.alloc (.cells #[.slice p0 n c0, .slice p1 m c1] 30)).heap.size = w.heap.size + 1 := by simp
  have HL := Lib.hid (show pth P (vis n P m ((X0 : Nat) : Int)) ((X0 : Nat) : Int) n y = spL n P m ((X0 : Nat) : Int) y from rfl)
  have HD := Lib.hid (show spD n P m ((X0 : Nat) : Int) y = fun k => ((spL n P m ((X0 : Nat) : Int) y).reverse[k]?).getD 0 from rfl)
  generalize spL n P m ((X0 : Nat) : Int) y = L at *
  generalize spD n P m ((X0 : Nat) : Int) y = D at *
  clear h hN hB ok hy
  generalize hq : vis n P m ((X0 : Nat) : Int) = fs at *
  have HQ0 := Lib.hid hq
  clear hq
  go_enter Try.func71, Try.ntmps71
  go_wp2_with fail
  refine (l04Search_any _ _ n N m P lo hi (HV.out.below B0 hhi) (by omega) HN.out HB.out X0 hX).mono ?_
  rintro e w1 ⟨v2, g2, rfl, oe, oo, hg2, b1⟩
  obtain ⟨ca, rfl⟩ := oo.shape
  rw [HQ0.out] at oe
  rw [hs0] at oe
  have A1 := A0.below b1 (by omega)
  have B1 := B0.trans (b1.mono (by omega))
  have hs1 := b1.size
  have hlte := oe.lt
  have hb2 := below_new w1 (.cells #[] 2)
  have HA := Lib.hid (A1.below hb2 (by omega))
  have HBB := Lib.hid (B1.trans (hb2.mono (by omega)))
  have HE := Lib.hid (oe.below hb2 (by omega))
  have HO := Lib.hid (Own.nilled w1 (fun k => (([] : List Int).reverse[k]?).getD 0))
  clear oe oo A0 B0 A1 B1 hb2 b1
  go_wp2_with fail
  have hs2 : (w1.alloc (.cells #[] 2)).heap.size = w1.heap.size + 1 := by simp
  generalize hW : w1.alloc (.cells #[] 2) = w2 at *
  generalize hgd : w.heap.size + 1 + 1 = ge at *
  have hgew : w.heap.size < ge := by omega
  have hgg : ge < w1.heap.size := hlte
  clear hW hlte
  go_loopw [9, 10] (fun ov at_ wr => ∃ (z : Int) (l : List Int) (g : Nat) (ov' : Value), ov' = ov ∧ at_ = .int .i64 z ∧ vhas fs z = true ∧ L = l ++ pth P fs ((X0 : Nat) : Int) n z ∧ Own wr ov' l.length (fun k => (l.reverse[k]?).getD 0) g ∧ ge < g ∧ Ob wr w.heap.size 2 (bx (.slice p0 n c0) (.slice p1 m c1)) ∧ Ob wr ge n (tabC (vval (·.en) fs)) ∧ Below w.heap.size w wr) (fun _ at_ _ => (pth P fs ((X0 : Nat) : Int) n (intOf at_)).length)
  case atStart => exact ⟨y, [], _, _, rfl, rfl, HY.out, HL.out.symm, HO.out, hgg, HA.out, HE.out, HBB.out⟩
  case round =>
    obtain ⟨z, l, g, ov, rfl, rfl, hz, hl, ho, hg, ha, he, hb⟩ := hrel
    obtain ⟨co, rfl⟩ := ho.shape
    clear HA HE HO HBB
    have HA := Lib.hid ha
    have HE := Lib.hid he
    have HO := Lib.hid ho
    have HBB := Lib.hid hb
    have HZ := Lib.hid hz
    have HLL := Lib.hid hl
    clear ha he ho hb hz hl
    by_cases hne : z = ((X0 : Nat) : Int)
    · obtain rfl := hne
      have hb1 : (((X0 : Nat) : Int) != ((X0 : Nat) : Int)) = false := by simp
      have hlL : L = l := by rw [HLL.out, pth_self, List.append_nil]
      have HLe := Lib.hid hlL
      clear hlL
      generalize hQ : Exit.then _ _ = Q
      have HQ := Lib.hid hQ
      clear hQ
      go_wp2
      rw [← HQ.out]
      go_wp2
      go_ret
      rw [HD.out, HLe.out]
      exact ⟨_, g, rfl, HO.out, by omega, HBB.out⟩
    · have hb1 : (z != ((X0 : Nat) : Int)) = true := by simpa using hne
      obtain ⟨a, Y, Z, rfl, hZn, ham, hpa, hen, hot, hsum, hYn, hYh, hstep⟩ := HST.out z HZ.out hne
      have hla : l.length + 1 < n := by
        have h1 := HPL.out
        rw [HL.out, HLL.out, hstep] at h1
        simp only [List.length_append, List.length_cons] at h1
        omega
      have HSTEP := Lib.hid hstep
      have HOT := Lib.hid hsum
      have HYH := Lib.hid hYh
      have e0 : wr.cell? ⟨w.heap.size, 0, none⟩ = some (.slice p0 n c0) := HA.out.b0
      have e1 : wr.cell? ⟨w.heap.size, 1, none⟩ = some (.slice p1 m c1) := HA.out.b1
      have y1 : wr.cell? ⟨ge, Z, none⟩ = some (.int .i64 (a : Int)) := by
        have := HE.out.cell Z hZn
        unfold tabC at this
        rwa [hen] at this
      have z0 : (0 : Int) ≤ (Z : Int) := Int.natCast_nonneg _
      have z1 : (Z : Int) < (n : Int) := by omega
      have law := HA.out.lt
      have lge := HE.out.lt
      have lg := HO.out.lt
      have hinr : inR (Z : Int) 0 (n - 1) = true := inR_iff.2 ⟨by omega, by omega⟩
      have HL2 := Lib.hid (show L = (l ++ [(a : Int)]) ++ pth P fs ((X0 : Nat) : Int) n (Y : Int) by rw [HLL.out, HSTEP.out]; simp)
      obtain ⟨v7, w7, g7, hr, ap⟩ := apm_run (wr.alloc (.cells #[.int .i64 (a : Int)] 2)) _ 1 _ wr.heap.size g 0 l.length co _ (Own.one wr (a : Int)) (fun k hk => by rw [Nat.zero_add]; exact (HO.out.alloc _).row.cell k hk) (by omega)
      have bl := ap.below (B := wr.heap.size) (Nat.le_refl _) (by rw [szal]; omega)
      have b7 : Below wr.heap.size wr w7 := (below_new wr _).trans bl.1
      have hg7 : ge < g7 := by have := bl.2; omega
      have O7 := ap.own.congr (e := fun k => ((l ++ [(a : Int)]).reverse[k]?).getD 0) (fun k hk => by
        unfold catD
        rw [List.reverse_append, List.reverse_singleton, List.singleton_append]
        rcases Nat.eq_zero_or_pos k with rfl | hk0
        · rfl
        · obtain ⟨k', rfl⟩ : ∃ k', k = k' + 1 := ⟨k - 1, by omega⟩
          rw [if_neg (by omega), List.getElem?_cons_succ, Nat.add_sub_cancel])
      have HO7 := Lib.hid O7
      have HA7 := Lib.hid (HA.out.below b7 law)
      have HE7 := Lib.hid (HE.out.below b7 lge)
      have HB7 := Lib.hid (HBB.out.trans (b7.mono (by omega)))
      have f0 : w7.cell? ⟨w.heap.size, 0, none⟩ = some (.slice p0 n c0) := (b7.cell (p := ⟨w.heap.size, 0, none⟩) law).trans e0
      have f1 : w7.cell? ⟨w.heap.size, 1, none⟩ = some (.slice p1 m c1) := (b7.cell (p := ⟨w.heap.size, 1, none⟩) law).trans e1
      have f2 : w7.cell? ⟨ge, Z, none⟩ = some (.int .i64 (a : Int)) := (b7.cell (p := ⟨ge, Z, none⟩) lge).trans y1
      have law7 := HA7.out.lt
      have lge7 := HE7.out.lt
      have lg7 := HO7.out.lt
      have hv7 : ∃ c7, v7 = .slice (some ⟨g7, 0, none⟩) (1 + l.length) c7 := ap.own.shape
      obtain ⟨c7, rfl⟩ := hv7
      have HLE := Lib.hid (show (l ++ [(a : Int)]).length = 1 + l.length by rw [List.length_append, List.length_singleton, Nat.add_comm])
      have HMS := Lib.hid (show (pth P fs ((X0 : Nat) : Int) n (Y : Int)).length < (pth P fs ((X0 : Nat) : Int) n (Z : Int)).length by rw [HSTEP.out]; simp)
      clear ap bl b7 O7 hstep hsum hYh hen hot HO HA HE HBB
      generalize hQ : Exit.then _ _ = Q
      have HQ := Lib.hid hQ
      clear hQ
      go_wp2_with (at_builtin; refine wpList_app hr rfl _ _ rfl rfl rfl rfl ?_)
      clear e0 e1 y1 hr
      go_region_held3 (fun w' => w'.cell? ⟨w.heap.size, 0, none⟩ = some (.slice p0 n c0) ∧ w'.cell? ⟨w.heap.size, 1, none⟩ = some (.slice p1 m c1) ∧ w'.cell? ⟨ge, Z, none⟩ = some (.int .i64 (a : Int)))
        (first | exact ⟨f0, f1, f2⟩ | exact SW)
        (first | (go_at_call 98; refine (l02Other_any _ _ n N m P lo hi (HV.out.below HB7.out hhi).drew (by simp; omega) HN.out (by omega) a ham (Z : Int) hpa (by omega) hinr).mono ?_; rintro e w4 ⟨rfl, hb1⟩; rw [HOT.out]; have hb2 := below_dr0 hb1; have hs4 := hb2.size; have SW : w4.cell? ⟨w.heap.size, 0, none⟩ = some (.slice p0 n c0) ∧ w4.cell? ⟨w.heap.size, 1, none⟩ = some (.slice p1 m c1) ∧ w4.cell? ⟨ge, Z, none⟩ = some (.int .i64 (a : Int)) := ⟨(hb2.cell (p := ⟨w.heap.size, 0, none⟩) law7).trans f0, (hb2.cell (p := ⟨w.heap.size, 1, none⟩) law7).trans f1, (hb2.cell (p := ⟨ge, Z, none⟩) lge7).trans f2⟩))
      obtain ⟨w5, hw5⟩ : ∃ w', w' = w4 := ⟨_, rfl⟩
      subst hw5
      have HO5 := Lib.hid (HO7.out.keep (hb2.block _ lg7))
      have HA5 := Lib.hid (HA7.out.below hb2 law7)
      have HE5 := Lib.hid (HE7.out.below hb2 lge7)
      have HB5 := Lib.hid (HB7.out.trans (hb2.mono (by omega)))
      clear SW hb1 hb2 f0 f1 f2 HO7 HA7 HE7 HB7
      go_wp2
      rw [← HQ.out]
      refine ⟨⟨_, _, _, _, _, _, _, _, _, _, _, _, _, _, _, _, _, _, _, ?rel, rfl⟩, ?measure⟩
      case rel => exact ⟨(Y : Int), l ++ [(a : Int)], g7, _, rfl, rfl, HYH.out, HL2.out, by rw [HLE.out]; exact HO5.out, hg7, HA5.out, HE5.out, HB5.out⟩
      case measure => simp [intOf]; exact HMS.out
end Go.Proofs.Ytjjjdahegcjmaaa.mem

namespace Go.Proofs.Ytjjjdahegcjmaaa.mem
open Go.RowKit
set_option linter.unusedVariables false

theorem spC_zero {n : Nat} {N : Nat → Nod} {m : Nat} {P : Nat → Pip} {x y : Int} (h : codeB (netB n N m P) (inR x 0 (n - 1) && inR y 0 (n - 1)) = 0) : netB n N m P = true ∧ ∃ X0 Y0 : Nat, x = ((X0 : Nat) : Int) ∧ X0 < n ∧ y = ((Y0 : Nat) : Int) ∧ Y0 < n := by
  obtain ⟨h1, h2⟩ := codeB_zero h
  rw [Bool.and_eq_true] at h2
  obtain ⟨h3, h4⟩ := inR_iff.1 h2.1
  obtain ⟨h5, h6⟩ := inR_iff.1 h2.2
  obtain ⟨X0, hX⟩ := Int.eq_ofNat_of_zero_le h3
  obtain ⟨Y0, hY⟩ := Int.eq_ofNat_of_zero_le h5
  have := (net_sz h1).1
  exact ⟨h1, X0, Y0, hX, by omega, hY, by omega⟩
theorem sp_node {b y : Bool} {y2 : Bool} (h : codeB b y = 0) (h2 : y2 = false) : codeB b (y && y2) = 2 := by
  obtain ⟨h1, h3⟩ := codeB_zero h
  subst h1 h3 h2
  rfl
theorem sp_code {b y : Bool} {y2 : Bool} (h : codeB b y ≠ 0) : codeB b (y && y2) = codeB b y := by
  cases b <;> cases y <;> cases y2 <;> first | rfl | exact absurd rfl h

set_option maxRecDepth 100000 in
set_option maxHeartbeats 4000000 in
theorem shortestPathI_any (w : World) (v : Value) (n : Nat) (N : Nat → Nod) (m : Nat) (P : Nat → Pip) (lo hi : Nat) (h : NetAt w v n N m P lo hi) (hhi : hi ≤ w.heap.size) (hN : ∀ i, i < n → (N i).s.size ≤ 9223372036854775807) (x y : Int) :
    Calls Try.prog 30 #[v, .int .i64 x, .int .i64 y] w (LIPost w (spN n N m P x y) (spD n P m x y) (spC n N m P x y)) := by
  obtain ⟨v0, v1, rfl, g0, g1⟩ := h.ex
  obtain ⟨p0, c0, rfl⟩ := g0.shape
  obtain ⟨p1, c1, rfl⟩ := g1.shape
  have HC1 : Hid (m = 0 ∨ ∃ b o, p1 = some ⟨b, o, none⟩ ∧ lo ≤ b ∧ b < hi ∧ At w b o m 5 (pipC P)) := by
    obtain ⟨p, cap, hv, _, _, hc⟩ := g1.ex
    injection hv with e1 _ e2
    subst e1
    exact Lib.hid hc
  have HV := Lib.hid h
  have HN := Lib.hid hN
  clear h g0 g1 hN
  have A0 := boxed w (.slice p0 n c0) (.slice p1 m c1) 30
  have B0 := below_new w (.cells #[.slice p0 n c0, .slice p1 m c1] 30)
  have HCD := Lib.hid (show spC n N m P x y = if codeB (netB n N m P) (inR x 0 (n - 1) && inR y 0 (n - 1)) = 0 then (if vhas (vis n P m x) y = true then 0 else 4) else codeB (netB n N m P) (inR x 0 (n - 1) && inR y 0 (n - 1)) from rfl)
  have HND := Lib.hid (show spN n N m P x y = if spC n N m P x y = 0 then (spL n P m x y).length else 0 from rfl)
  have HAL := Lib.hid (all_two n x y)
  go_enter Try.func30, Try.ntmps30
  go_wp2_with fail
  have S1 := two_arg (w.alloc (Obj.cells #[Value.slice p0 n c0, Value.slice p1 m c1] 30)) x y
  have A1 := A0.keep (Below.heap_alloc _ (Obj.cells #[Value.int .i64 x, Value.int .i64 y] 2) _ A0.lt)
  have C1 : Below w.heap.size w ((w.alloc (Obj.cells #[Value.slice p0 n c0, Value.slice p1 m c1] 30)).alloc (Obj.cells #[Value.int .i64 x, Value.int .i64 y] 2)) := below_alloc B0 (by simp) _
  have hs1 : ((w.alloc (Obj.cells #[Value.slice p0 n c0, Value.slice p1 m c1] 30)).alloc (Obj.cells #[Value.int .i64 x, Value.int .i64 y] 2)).heap.size = w.heap.size + 2 := by simp
  simp only [szal] at S1
  refine (checkNodes_any _ _ n N m P lo hi (HV.out.below C1 hhi) (by omega) HN.out _ 2 (fun i => if i = 0 then x else y) 0 _ S1 (by omega)).mono ?_
  rintro e w5 ⟨rfl, b5⟩
  rw [HAL.out]
  clear S1 A0 B0
  have A0 := A1.below b5 (by omega)
  have B0 := C1.trans (b5.mono (by omega))
  have hs5 := b5.size
  have e0 := A0.b0
  have e1 := A0.b1
  have e2 : w.heap.size < w5.heap.size := by omega
  clear A1 C1 b5
  by_cases hc : codeB (netB n N m P) (inR x 0 (n - 1) && inR y 0 (n - 1)) = 0
  rotate_left 1
  · have hcb : (codeB (netB n N m P) (inR x 0 (n - 1) && inR y 0 (n - 1)) != 0) = true := by simp [hc]
    have H := Lib.hid (show spC n N m P x y = codeB (netB n N m P) (inR x 0 (n - 1) && inR y 0 (n - 1)) by rw [HCD.out, if_neg hc])
    have H2 := Lib.hid (show spN n N m P x y = 0 by rw [HND.out, H.out, if_neg hc])
    clear hc
    go_wp2_with fail
    go_ret2
    exact li_err H2.out H.out.symm rfl B0
  have hcb : (codeB (netB n N m P) (inR x 0 (n - 1) && inR y 0 (n - 1)) != 0) = false := by simp [hc]
  have HCE := Lib.hid (show spC n N m P x y = if vhas (vis n P m x) y = true then 0 else 4 by rw [HCD.out, if_pos hc])
  obtain ⟨hB, X0, Y0, rfl, hX, rfl, hY⟩ := spC_zero hc
  clear hc
  obtain ⟨hn1, hn24, hm40⟩ := net_sz hB
  have ok := vis_ok (P := P) (m := m) (x := ((X0 : Nat) : Int)) hB ⟨Int.natCast_nonneg _, by omega⟩
  have HST := Lib.hid (fun z (h1 : vhas (vis n P m ((X0 : Nat) : Int)) z = true) (h2 : z ≠ ((X0 : Nat) : Int)) => ok.step hB h1 h2)
  have HEN := Lib.hid (fun z (h2 : ((X0 : Nat) : Int) ≠ z) => ok.entry_no h2)
  have HSELF := Lib.hid (vis_self n P m ((X0 : Nat) : Int))
  have HPL := Lib.hid (fun (hy : vhas (vis n P m ((X0 : Nat) : Int)) ((Y0 : Nat) : Int) = true) => ok.plen hB hy)
  have HB := Lib.hid hB
  clear hB ok
  go_wp2_with fail
  refine (entriesFrom_any _ _ n N m P lo hi (HV.out.below B0 hhi) (by omega) HB.out X0 hX).mono ?_
  rintro e w6 ⟨g, rfl, hg, og, b6⟩
  have A6 := A0.below b6 (by omega)
  have B6 := B0.trans (b6.mono (by omega))
  have hs6 := b6.size
  have lg := og.lt
  clear e0 e1 A0 B0 b6
  have HL := Lib.hid (show pth P (vis n P m ((X0 : Nat) : Int)) ((X0 : Nat) : Int) n ((Y0 : Nat) : Int) = spL n P m ((X0 : Nat) : Int) ((Y0 : Nat) : Int) from rfl)
  have HD := Lib.hid (show spD n P m ((X0 : Nat) : Int) ((Y0 : Nat) : Int) = fun k => ((spL n P m ((X0 : Nat) : Int) ((Y0 : Nat) : Int)).reverse[k]?).getD 0 from rfl)
  generalize spL n P m ((X0 : Nat) : Int) ((Y0 : Nat) : Int) = L at *
  generalize spD n P m ((X0 : Nat) : Int) ((Y0 : Nat) : Int) = D at *
  generalize hq : vis n P m ((X0 : Nat) : Int) = fs at *
  have HQ0 := Lib.hid hq
  clear hq
  have hent : w6.cell? ⟨g, Y0, none⟩ = some (.int .i64 (vval (·.en) fs ((Y0 : Nat) : Int))) := og.cell Y0 hY
  have q0 : (0 : Int) ≤ (Y0 : Int) := Int.natCast_nonneg _
  have q1 : (Y0 : Int) < (n : Int) := by omega
  cases hvh : vhas fs ((Y0 : Nat) : Int)
  · have hxy : ¬ ((X0 : Int) = (Y0 : Int)) := by
      intro e
      have := HSELF.out
      rw [e, hvh] at this
      cases this
    have hxy2 : (((X0 : Nat) : Int) != ((Y0 : Nat) : Int)) = true := by simpa using hxy
    have hen : (vval (·.en) fs ((Y0 : Nat) : Int) == -1) = true := by rw [HEN.out _ hxy, hvh]; rfl
    have HC4 := Lib.hid (show spC n N m P ((X0 : Nat) : Int) ((Y0 : Nat) : Int) = 4 by rw [HCE.out, hvh]; rfl)
    have H2 := Lib.hid (show spN n N m P ((X0 : Nat) : Int) ((Y0 : Nat) : Int) = 0 by rw [HND.out, HC4.out]; rfl)
    clear hvh hxy
    go_wp2_with fail
    go_ret2
    exact li_err H2.out HC4.out.symm rfl B6
  · have HCC := Lib.hid (show spC n N m P ((X0 : Nat) : Int) ((Y0 : Nat) : Int) = 0 by rw [HCE.out, hvh]; rfl)
    have H2 := Lib.hid (show spN n N m P ((X0 : Nat) : Int) ((Y0 : Nat) : Int) = L.length by rw [HND.out, HCC.out]; rfl)
    have HPL2 := Lib.hid (HPL.out hvh)
    have HYH := Lib.hid hvh
    have hen : ((X0 : Int) != (Y0 : Int) && (vval (·.en) fs ((Y0 : Nat) : Int) == -1)) = false := by
      by_cases e : (X0 : Int) = (Y0 : Int)
      · simp [e]
      · rw [HEN.out _ e, hvh]; simp
    have HENN := Lib.hid hen
    clear hvh hen
    have hb2 := below_new w6 (.cells #[] 2)
    have HA := Lib.hid (A6.below hb2 (by omega))
    have HBB := Lib.hid (B6.trans (hb2.mono (by omega)))
    have HE := Lib.hid (og.below hb2 lg)
    have HO := Lib.hid (Own.nilled w6 (fun k => (([] : List Int)[k]?).getD 0))
    have hgw : w.heap.size < g := by omega
    clear A6 B6 og hb2
    have hcase : (¬ ((X0 : Int) = (Y0 : Int)) ∧ (((X0 : Nat) : Int) != ((Y0 : Nat) : Int)) = true ∧ (vval (·.en) fs ((Y0 : Nat) : Int) == -1) = false) ∨ ((((X0 : Nat) : Int) != ((Y0 : Nat) : Int)) = false) := by
      have := HENN.out
      by_cases e : (X0 : Int) = (Y0 : Int)
      · right; simp [e]
      · left
        refine ⟨e, by simpa using e, ?_⟩
        cases hb : (vval (·.en) fs ((Y0 : Nat) : Int) == -1)
        · rfl
        · rw [hb] at this; simp [e] at this
    rcases hcase with ⟨k1, k2, k3⟩ | k2
    all_goals
      go_wp2_with fail
      have hs7 : (w6.alloc (.cells #[] 2)).heap.size = w6.heap.size + 1 := by simp
      generalize hW : w6.alloc (.cells #[] 2) = w7 at *
      clear hW hent
      go_loopw [10, 11] (fun ov at_ wr => ∃ (z : Int) (l : List Int) (gg : Nat) (ov' : Value), ov' = ov ∧ at_ = .int .i64 z ∧ vhas fs z = true ∧ L = l ++ pth P fs ((X0 : Nat) : Int) n z ∧ Own wr ov' l.length (fun k => (l[k]?).getD 0) gg ∧ g < gg ∧ Ob wr w.heap.size 2 (bx (.slice p0 n c0) (.slice p1 m c1)) ∧ Ob wr g n (tabC (vval (·.en) fs)) ∧ Below w.heap.size w wr) (fun _ at_ _ => (pth P fs ((X0 : Nat) : Int) n (intOf at_)).length)
      case atStart => exact ⟨_, [], _, _, rfl, rfl, HYH.out, HL.out.symm, HO.out, lg, HA.out, HE.out, HBB.out⟩
      case round =>
        obtain ⟨z, l, gg, ov, rfl, rfl, hz, hl, ho, hgg, ha, he, hb⟩ := hrel
        obtain ⟨co, rfl⟩ := ho.shape
        clear HA HE HO HBB
        have HA := Lib.hid ha
        have HE := Lib.hid he
        have HO := Lib.hid ho
        have HBB := Lib.hid hb
        have HZ := Lib.hid hz
        have HLL := Lib.hid hl
        clear ha he ho hb hz hl
        by_cases hne : z = ((X0 : Nat) : Int)
        · obtain rfl := hne
          have hb1 : (((X0 : Nat) : Int) != ((X0 : Nat) : Int)) = false := by simp
          have hlL : L = l := by rw [HLL.out, pth_self, List.append_nil]
          have HLe := Lib.hid hlL
          have hll : l.length ≤ 1000000 := by have := HPL2.out; rw [HL.out, hlL] at this; omega
          clear hlL
          generalize hQ : Exit.then _ _ = Q
          have HQ := Lib.hid hQ
          clear hQ
          go_wp2
          rw [← HQ.out]
          go_wp2_with fail
          refine (reverse_any _ _ l.length _ gg HO.out hll).mono ?_
          rintro e w8 ⟨rfl, o8, on8⟩
          have B8 := Lib.hid (HBB.out.trans (on8.below (by omega)))
          have O8 := Lib.hid o8
          clear o8 on8
          go_wp2_with fail
          go_ret2
          refine li_ok (by rw [H2.out, HLe.out]) (by rw [HCC.out]; rfl) (O8.out.congr fun k hk => ?_) (by omega) B8.out
          rw [HD.out, HLe.out]
          show (l[l.length - 1 - k]?).getD 0 = (l.reverse[k]?).getD 0
          rw [List.getElem?_reverse hk]
        · have hb1 : (z != ((X0 : Nat) : Int)) = true := by simpa using hne
          obtain ⟨a, Y, Z, rfl, hZn, ham, hpa, hen, hot, hsum, hYn, hYh, hstep⟩ := HST.out z HZ.out hne
          have hla : l.length + 1 < n := by
            have h1 := HPL2.out
            rw [HL.out, HLL.out, hstep] at h1
            simp only [List.length_append, List.length_cons] at h1
            omega
          have HSTEP := Lib.hid hstep
          have HOT := Lib.hid hot
          have HYH2 := Lib.hid hYh
          rcases HC1.out with h0 | ⟨bp, op, hp1, hlo, hbp, g3⟩
          · omega
          subst hp1
          have e0 : wr.cell? ⟨w.heap.size, 0, none⟩ = some (.slice p0 n c0) := HA.out.b0
          have e1 : wr.cell? ⟨w.heap.size, 1, none⟩ = some (.slice (some ⟨bp, op, none⟩) m c1) := HA.out.b1
          have y1 : wr.cell? ⟨g, Z, none⟩ = some (.int .i64 (a : Int)) := by
            have := HE.out.cell Z hZn
            unfold tabC at this
            rwa [hen] at this
          have z0 : (0 : Int) ≤ (Z : Int) := Int.natCast_nonneg _
          have z1 : (Z : Int) < (n : Int) := by omega
          have z2 : (0 : Int) ≤ (a : Int) := Int.natCast_nonneg _
          have z3 : (a : Int) < (m : Int) := by omega
          have law := HA.out.lt
          have lge := HE.out.lt
          have lgg := HO.out.lt
          have HL2 := Lib.hid (show L = (l ++ [(a : Int)]) ++ pth P fs ((X0 : Nat) : Int) n (Y : Int) by rw [HLL.out, HSTEP.out]; simp)
          have HG3 := Lib.hid g3
          have hbw : bp < w.heap.size := by omega
          obtain ⟨v7, w7, g7, hr, ap⟩ := app_run (wr.alloc (.cells #[.int .i64 (a : Int)] 2)) _ l.length _ gg (a : Int) wr.heap.size (HO.out.alloc _) (cell_new1 wr _) (by omega)
          have hot1 := ap.other (c := w.heap.size) (by omega) (by rw [szal]; omega)
          have hot2 := ap.other (c := g) (by omega) (by rw [szal]; omega)
          have bl := ap.below (B := g + 1) (by omega) (by rw [szal]; omega)
          have b7 : Below (g + 1) wr w7 := ((Below.refl _ _).alloc (by omega) _).trans bl.1
          have hg7 : g < g7 := by have := bl.2; omega
          have O7 := ap.own.congr (e := fun k => ((l ++ [(a : Int)])[k]?).getD 0) (fun k hk => by
            unfold upd
            split
            · next hkl => subst hkl; simp
            · rw [List.getElem?_append_left (by omega)])
          have HO7 := Lib.hid O7
          have HA7 := Lib.hid (HA.out.below b7 (by omega))
          have HE7 := Lib.hid (HE.out.below b7 (by omega))
          have HB7 := Lib.hid (HBB.out.trans (b7.mono (by omega)))
          have f0 : w7.cell? ⟨w.heap.size, 0, none⟩ = some (.slice p0 n c0) := (b7.cell (p := ⟨w.heap.size, 0, none⟩) (by show w.heap.size < g + 1; omega)).trans e0
          have f1 : w7.cell? ⟨w.heap.size, 1, none⟩ = some (.slice (some ⟨bp, op, none⟩) m c1) := (b7.cell (p := ⟨w.heap.size, 1, none⟩) (by show w.heap.size < g + 1; omega)).trans e1
          have f2 : w7.cell? ⟨g, Z, none⟩ = some (.int .i64 (a : Int)) := (b7.cell (p := ⟨g, Z, none⟩) (by show g < g + 1; omega)).trans y1
          have r0 : w7.cell? ⟨bp, op + a * 5, none⟩ = some (.int .i64 (P a).f) := (HB7.out.cell (p := ⟨bp, op + a * 5, none⟩) hbw).trans (HG3.out.cell a 0 ham (by omega))
          have r1 : w7.cell? ⟨bp, op + a * 5 + 1, none⟩ = some (.int .i64 (P a).t) := (HB7.out.cell (p := ⟨bp, op + a * 5 + 1, none⟩) hbw).trans (HG3.out.cell a 1 ham (by omega))
          have r2 : w7.cell? ⟨bp, op + a * 5 + 2, none⟩ = some (.int .i64 (P a).k) := (HB7.out.cell (p := ⟨bp, op + a * 5 + 2, none⟩) hbw).trans (HG3.out.cell a 2 ham (by omega))
          have r3 : w7.cell? ⟨bp, op + a * 5 + 3, none⟩ = some (.int .i64 (P a).v) := (HB7.out.cell (p := ⟨bp, op + a * 5 + 3, none⟩) hbw).trans (HG3.out.cell a 3 ham (by omega))
          have r4 : w7.cell? ⟨bp, op + a * 5 + 4, none⟩ = some (.int .i64 (P a).l) := (HB7.out.cell (p := ⟨bp, op + a * 5 + 4, none⟩) hbw).trans (HG3.out.cell a 4 ham (by omega))
          have law7 := HA7.out.lt
          have lge7 := HE7.out.lt
          have lg7 := HO7.out.lt
          have hv7 : ∃ c7, v7 = .slice (some ⟨g7, 0, none⟩) (l.length + 1) c7 := ap.own.shape
          obtain ⟨c7, rfl⟩ := hv7
          have HLE := Lib.hid (show (l ++ [(a : Int)]).length = l.length + 1 by rw [List.length_append, List.length_singleton])
          have HMS := Lib.hid (show (pth P fs ((X0 : Nat) : Int) n (Y : Int)).length < (pth P fs ((X0 : Nat) : Int) n (Z : Int)).length by rw [HSTEP.out]; simp)
          clear ap bl b7 O7 hstep hsum hYh hen hot HO HA HE HBB hot1 hot2 g3
          generalize hQ : Exit.then _ _ = Q
          have HQ := Lib.hid hQ
          clear hQ
          go_wp2_with (at_builtin; refine wpList_app hr rfl _ _ rfl rfl rfl rfl ?_)
          clear e0 e1 y1 hr
          go_region_held3 (fun w' => w'.cell? ⟨w.heap.size, 1, none⟩ = some (.slice (some ⟨bp, op, none⟩) m c1) ∧ w'.cell? ⟨g, Z, none⟩ = some (.int .i64 (a : Int)) ∧ w'.cell? ⟨bp, op + a * 5, none⟩ = some (.int .i64 (P a).f) ∧ w'.cell? ⟨bp, op + a * 5 + 1, none⟩ = some (.int .i64 (P a).t) ∧ w'.cell? ⟨bp, op + a * 5 + 2, none⟩ = some (.int .i64 (P a).k) ∧ w'.cell? ⟨bp, op + a * 5 + 3, none⟩ = some (.int .i64 (P a).v) ∧ w'.cell? ⟨bp, op + a * 5 + 4, none⟩ = some (.int .i64 (P a).l))
            (first | exact ⟨f1, f2, r0, r1, r2, r3, r4⟩ | exact SW)
            (first | (go_at_call 72; refine (otherEnd_any (P a) (Z : Int) _).mono ?_; rintro e w4 ⟨rfl, hb1⟩; rw [HOT.out]; have hb2 := below_dr0 hb1; have hs4 := hb2.size; have hb7 : bp < w7.heap.size := Nat.lt_trans hbw law7; have SW : w4.cell? ⟨w.heap.size, 1, none⟩ = some (.slice (some ⟨bp, op, none⟩) m c1) ∧ w4.cell? ⟨g, Z, none⟩ = some (.int .i64 (a : Int)) ∧ w4.cell? ⟨bp, op + a * 5, none⟩ = some (.int .i64 (P a).f) ∧ w4.cell? ⟨bp, op + a * 5 + 1, none⟩ = some (.int .i64 (P a).t) ∧ w4.cell? ⟨bp, op + a * 5 + 2, none⟩ = some (.int .i64 (P a).k) ∧ w4.cell? ⟨bp, op + a * 5 + 3, none⟩ = some (.int .i64 (P a).v) ∧ w4.cell? ⟨bp, op + a * 5 + 4, none⟩ = some (.int .i64 (P a).l) := ⟨(hb2.cell (p := ⟨w.heap.size, 1, none⟩) law7).trans f1, (hb2.cell (p := ⟨g, Z, none⟩) lge7).trans f2, (hb2.cell (p := ⟨bp, op + a * 5, none⟩) hb7).trans r0, (hb2.cell (p := ⟨bp, op + a * 5 + 1, none⟩) hb7).trans r1, (hb2.cell (p := ⟨bp, op + a * 5 + 2, none⟩) hb7).trans r2, (hb2.cell (p := ⟨bp, op + a * 5 + 3, none⟩) hb7).trans r3, (hb2.cell (p := ⟨bp, op + a * 5 + 4, none⟩) hb7).trans r4⟩))
          obtain ⟨w5, hw5⟩ : ∃ w', w' = w4 := ⟨_, rfl⟩
          subst hw5
          have HO5 := Lib.hid (HO7.out.keep (hb2.block _ lg7))
          have HA5 := Lib.hid (HA7.out.below hb2 law7)
          have HE5 := Lib.hid (HE7.out.below hb2 lge7)
          have HB5 := Lib.hid (HB7.out.trans (hb2.mono (by omega)))
          clear SW hb1 hb2 f0 f1 f2 HO7 HA7 HE7 HB7 r0 r1 r2 r3 r4
          go_wp2
          rw [← HQ.out]
          refine ⟨⟨_, _, _, _, _, _, _, _, _, _, _, _, _, _, _, _, _, _, _, _, _, _, ?rel, rfl⟩, ?measure⟩
          case rel => exact ⟨(Y : Int), l ++ [(a : Int)], g7, _, rfl, rfl, HYH2.out, HL2.out, by rw [HLE.out]; exact HO5.out, hg7, HA5.out, HE5.out, HB5.out⟩
          case measure => simp [intOf]; exact HMS.out

theorem ne_dec (c : Int) : (c == 0) = decide (c = 0) := by simp [BEq.beq]
set_option maxRecDepth 100000 in
set_option maxHeartbeats 4000000 in
theorem shortestPathS_any (w : World) (v : Value) (n : Nat) (N : Nat → Nod) (m : Nat) (P : Nat → Pip) (lo hi : Nat) (h : NetAt w v n N m P lo hi) (hhi : hi ≤ w.heap.size) (hN : ∀ i, i < n → (N i).s.size ≤ 9223372036854775807) (x y : Int) :
    Calls Try.prog 29 #[v, .int .i64 x, .int .i64 y] w (LIPost w (spN n N m P x y) (spD n P m x y) (spC n N m P x y)) := by
  obtain ⟨p0, c0, p1, c1, rfl, hn9, hm9⟩ := h.parts
  have HV := Lib.hid h
  have HN := Lib.hid hN
  have A0 := boxed w (.slice p0 n c0) (.slice p1 m c1) 30
  have B0 := below_new w (.cells #[.slice p0 n c0, .slice p1 m c1] 30)
  have hs0 : (w.alloc (.cells #[.slice p0 n c0, .slice p1 m c1] 30)).heap.size = w.heap.size + 1 := by simp
  have HCD := Lib.hid (show spC n N m P x y = if codeB (netB n N m P) (inR x 0 (n - 1) && inR y 0 (n - 1)) = 0 then (if vhas (vis n P m x) y = true then 0 else 4) else codeB (netB n N m P) (inR x 0 (n - 1) && inR y 0 (n - 1)) from rfl)
  have HND := Lib.hid (show spN n N m P x y = if spC n N m P x y = 0 then (spL n P m x y).length else 0 from rfl)
  clear h hN
  go_enter Try.func29, Try.ntmps29
  go_wp2_with fail
  refine (l02NodeCode_any _ _ n N m P lo hi (HV.out.below B0 hhi) (by omega) HN.out x).mono ?_
  rintro e w5 ⟨rfl, b5⟩
  have A5 := A0.below b5 (by omega)
  have B5 := B0.trans (b5.mono (by omega))
  have hs5 := b5.size
  have e0 := A5.b0
  have e1 := A5.b1
  have e2 : w.heap.size < w5.heap.size := by omega
  clear A0 B0 b5
  by_cases hc : codeB (netB n N m P) (inR x 0 (n - 1)) = 0
  rotate_left 1
  · have hcb : (codeB (netB n N m P) (inR x 0 (n - 1)) == 0) = false := by simpa using hc
    have hcb2 : (codeB (netB n N m P) (inR x 0 (n - 1)) != 0) = true := by simpa using hc
    have hcc := sp_code (y2 := inR y 0 (n - 1)) hc
    have H := Lib.hid (show spC n N m P x y = codeB (netB n N m P) (inR x 0 (n - 1)) by rw [HCD.out, hcc, if_neg hc])
    have H2 := Lib.hid (show spN n N m P x y = 0 by rw [HND.out, H.out, if_neg hc])
    clear hc hcc
    go_wp2_with fail
    go_ret2
    exact li_err H2.out H.out.symm rfl B5
  have HCZ := Lib.hid hc
  rw [hc]
  obtain ⟨hB, hxr⟩ := codeB_zero hc
  clear hc
  have HB := Lib.hid hB
  have HXR := Lib.hid hxr
  obtain ⟨hn1, hn24, hm40⟩ := net_sz hB
  have ok := vis_ok (P := P) (m := m) (x := x) hB (inR_iff.1 hxr)
  have HDN := Lib.hid (fun z => ok.dist_no z)
  clear hB hxr ok
  go_wp2_with fail
  refine (l02Node_any _ _ n _ m _ y _ hn9).mono ?_
  rintro e w6 ⟨rfl, b6⟩
  have A6 := A5.below b6 (by omega)
  have B6 := B5.trans (b6.mono (by omega))
  have hs6 := b6.size
  clear e0 e1 e2 A5 B5 b6
  have e0 := A6.b0
  have e1 := A6.b1
  have e2 : w.heap.size < w6.heap.size := by omega
  cases hy : inR y 0 (n - 1)
  · have H := Lib.hid (show spC n N m P x y = 2 by
      have hcc := sp_node HCZ.out hy
      rw [HCD.out, hcc]
      rfl)
    have H2 := Lib.hid (show spN n N m P x y = 0 by rw [HND.out, H.out]; rfl)
    clear hy
    go_wp2_with fail
    go_ret2
    exact li_err H2.out H.out.symm rfl B6
  have HYR := Lib.hid hy
  have HCE := Lib.hid (show spC n N m P x y = if vhas (vis n P m x) y = true then 0 else 4 by rw [HCD.out, HXR.out, hy, HB.out]; rfl)
  clear hy
  obtain ⟨X0, hx0⟩ := Int.eq_ofNat_of_zero_le (inR_iff.1 HXR.out).1
  obtain ⟨Y0, hy0⟩ := Int.eq_ofNat_of_zero_le (inR_iff.1 HYR.out).1
  subst hx0 hy0
  have hX : X0 < n := by have := (inR_iff.1 HXR.out).2; omega
  have hY : Y0 < n := by have := (inR_iff.1 HYR.out).2; omega
  have q0 : (0 : Int) ≤ (Y0 : Int) := Int.natCast_nonneg _
  have q1 : (Y0 : Int) < (n : Int) := by omega
  go_wp2_with fail
  refine (l04Distances_any _ _ n N m P lo hi (HV.out.below B6 hhi) (by omega) HN.out HB.out X0 hX).mono ?_
  rintro e w7 ⟨g, rfl, hg, og, b7⟩
  have A7 := A6.below b7 (by omega)
  have B7 := B6.trans (b7.mono (by omega))
  have hs7 := b7.size
  have y0 : w7.cell? ⟨g, Y0, none⟩ = some (.int .i64 (vval (·.ds) (vis n P m (X0 : Nat)) ((Y0 : Nat) : Int))) := og.cell Y0 hY
  clear e0 e1 e2 A6 B6 b7
  have e0 := A7.b0
  have e1 := A7.b1
  have e2 : w.heap.size < w7.heap.size := by omega
  cases hv : vhas (vis n P m ((X0 : Nat) : Int)) ((Y0 : Nat) : Int)
  · have hd : decide (vval (·.ds) (vis n P m ((X0 : Nat) : Int)) ((Y0 : Nat) : Int) < 0) = true := by rw [HDN.out, hv]; rfl
    have H := Lib.hid (show spC n N m P ((X0 : Nat) : Int) ((Y0 : Nat) : Int) = 4 by rw [HCE.out, hv]; rfl)
    have H2 := Lib.hid (show spN n N m P ((X0 : Nat) : Int) ((Y0 : Nat) : Int) = 0 by rw [HND.out, H.out]; rfl)
    clear hv
    go_wp2_with fail
    go_ret2
    exact li_err H2.out H.out.symm rfl B7
  · have hd : decide (vval (·.ds) (vis n P m ((X0 : Nat) : Int)) ((Y0 : Nat) : Int) < 0) = false := by rw [HDN.out, hv]; rfl
    have H := Lib.hid (show spC n N m P ((X0 : Nat) : Int) ((Y0 : Nat) : Int) = 0 by rw [HCE.out, hv]; rfl)
    have H2 := Lib.hid (show spN n N m P ((X0 : Nat) : Int) ((Y0 : Nat) : Int) = (spL n P m ((X0 : Nat) : Int) ((Y0 : Nat) : Int)).length by rw [HND.out, H.out]; rfl)
    have HVH := Lib.hid hv
    clear hv
    go_wp2_with fail
    refine (l04Path_any _ _ n N m P lo hi (HV.out.below B7 hhi) (by omega) HN.out HB.out X0 hX _ HVH.out).mono ?_
    rintro e w8 ⟨v2, g2, rfl, o8, hg2, b8⟩
    have B8 := B7.trans (b8.mono (by omega))
    clear b8
    go_wp2_with fail
    go_ret2
    exact li_ok H2.out.symm (by rw [H.out]; rfl) o8 (by omega) B8
theorem spN_le (n : Nat) (N : Nat → Nod) (m : Nat) (P : Nat → Pip) (x y : Int) : spN n N m P x y ≤ 2000000 := by
  unfold spN
  split
  · next h =>
    unfold spC at h
    split at h
    · next h2 =>
      obtain ⟨hB, X0, Y0, rfl, hX, rfl, hY⟩ := spC_zero h2
      cases hv : vhas (vis n P m ((X0 : Nat) : Int)) ((Y0 : Nat) : Int)
      · rw [hv] at h; cases h
      · have := (vis_ok (P := P) (m := m) (x := ((X0 : Nat) : Int)) hB ⟨Int.natCast_nonneg _, by omega⟩).plen hB hv
        have := (net_sz hB).2.1
        unfold spL
        omega
    · next h2 => exact absurd h h2
  · omega
theorem agreeShortestPath (n : Nat) (N : Nat → Nod) (m : Nat) (P : Nat → Pip) (x y : Int) (hN : ∀ i, i < n → (N i).s.size ≤ 9223372036854775807) (_hn : n ≤ 2000000) (hm : m ≤ 2000000) :
    ∃ rn rd rc, rn ≤ 2000000 ∧ (∀ w v, NetAt w v n N m P 0 w.heap.size → Calls Try.prog 30 #[v, .int .i64 x, .int .i64 y] w (LIPost w rn rd rc)) ∧ (∀ w v, NetAt w v n N m P 0 w.heap.size → Calls Try.prog 29 #[v, .int .i64 x, .int .i64 y] w (LIPost w rn rd rc)) :=
  ⟨spN n N m P x y, spD n P m x y, spC n N m P x y, spN_le n N m P x y, fun w v h => shortestPathI_any w v n N m P 0 _ h (Nat.le_refl _) hN x y, fun w v h => shortestPathS_any w v n N m P 0 _ h (Nat.le_refl _) hN x y⟩
end Go.Proofs.Ytjjjdahegcjmaaa.mem

namespace Go.Proofs.Ytjjjdahegcjmaaa.mem
open Go.RowKit
set_option linter.unusedVariables false

/-- the node that lies j pipes ahead of b on the way to it -/
def anc (P : Nat → Pip) (fs : List Vs) (b : Int) : Nat → Int
  | 0 => b
  | j + 1 => othV (P (vval (·.en) fs (anc P fs b j)).toNat) (anc P fs b j)
theorem Vok.step2 {n : Nat} {N : Nat → Nod} {P : Nat → Pip} {m : Nat} {x : Int} {fs : List Vs} (hN : netB n N m P = true) (h : Vok n P m x fs) {y : Int} (hy : vhas fs y = true) (hne : y ≠ x) :
    ∃ (a : Nat) (u : Int), a < m ∧ vval (·.en) fs y = (a : Int) ∧ endB (P a) y = true ∧ othV (P a) y = u ∧ vhas fs u = true ∧ pth P fs x n y = (a : Int) :: pth P fs x n u := by
  obtain ⟨i, v, hv, rfl⟩ := vhas_get hy
  obtain ⟨j, u, a, hj, hu, ha, hen, he, ho, hp⟩ := h.back hN hv hne
  exact ⟨a, u.nd, ha, hen, he, ho, get_vhas hu, hp⟩
theorem Vok.anc_ok {n : Nat} {N : Nat → Nod} {P : Nat → Pip} {m : Nat} {x : Int} {fs : List Vs} (hN : netB n N m P = true) (h : Vok n P m x fs) {b : Int} (hb : vhas fs b = true) :
    ∀ j, j ≤ (pth P fs x n b).length → vhas fs (anc P fs b j) = true ∧ (pth P fs x n b).drop j = pth P fs x n (anc P fs b j)
  | 0, _ => ⟨hb, rfl⟩
  | j + 1, hj => by
    obtain ⟨h1, h2⟩ := Vok.anc_ok hN h hb j (by omega)
    have hne : anc P fs b j ≠ x := by
      intro e
      rw [e, pth_self] at h2
      have := congrArg List.length h2
      simp only [List.length_drop, List.length_nil] at this
      omega
    obtain ⟨a, u, ha, hen, he, ho, hu, hp⟩ := h.step2 hN h1 hne
    have e : anc P fs b (j + 1) = u := by
      show othV (P (vval (·.en) fs (anc P fs b j)).toNat) (anc P fs b j) = u
      rw [hen, Int.toNat_natCast, ho]
    rw [e]
    refine ⟨hu, ?_⟩
    rw [← List.drop_drop, h2, hp]
    rfl
theorem Vok.anc_end {n : Nat} {N : Nat → Nod} {P : Nat → Pip} {m : Nat} {x : Int} {fs : List Vs} (hN : netB n N m P = true) (h : Vok n P m x fs) {b : Int} (hb : vhas fs b = true) :
    anc P fs b (pth P fs x n b).length = x := by
  obtain ⟨h1, h2⟩ := h.anc_ok hN hb _ (Nat.le_refl _)
  rw [List.drop_length] at h2
  by_cases e : anc P fs b (pth P fs x n b).length = x
  · exact e
  · obtain ⟨a, u, _, _, _, _, _, hp⟩ := h.step2 hN h1 e
    rw [hp] at h2
    cases h2
/-- one step along the path -/
theorem sp_walk {n : Nat} {N : Nat → Nod} {P : Nat → Pip} {m : Nat} {x y : Int} (hN : netB n N m P = true) (hx : 0 ≤ x ∧ x ≤ (n : Int) - 1) (hy : vhas (vis n P m x) y = true) {k : Nat} (hk : k < (spL n P m x y).length) :
    ∃ (a Z : Nat), spD n P m x y k = (a : Int) ∧ a < m ∧ anc P (vis n P m x) y ((spL n P m x y).length - k) = (Z : Int) ∧ Z < n ∧ endB (P a) (Z : Int) = true ∧ othV (P a) (Z : Int) = anc P (vis n P m x) y ((spL n P m x y).length - (k + 1)) := by
  have ok := vis_ok (P := P) (m := m) hN hx
  unfold spL at hk ⊢
  obtain ⟨h1, h2⟩ := ok.anc_ok hN hy ((pth P (vis n P m x) x n y).length - (k + 1)) (by omega)
  obtain ⟨h3, h4⟩ := ok.anc_ok hN hy ((pth P (vis n P m x) x n y).length - k) (by omega)
  have hne : anc P (vis n P m x) y ((pth P (vis n P m x) x n y).length - (k + 1)) ≠ x := by
    intro e
    rw [e, pth_self] at h2
    have := congrArg List.length h2
    simp only [List.length_drop, List.length_nil] at this
    omega
  obtain ⟨a, u, ha, hen, he, ho, hu, hp⟩ := ok.step2 hN h1 hne
  have hsucc : (pth P (vis n P m x) x n y).length - k = ((pth P (vis n P m x) x n y).length - (k + 1)) + 1 := by omega
  have e : anc P (vis n P m x) y ((pth P (vis n P m x) x n y).length - k) = u := by
    rw [hsucc]
    show othV (P (vval (·.en) (vis n P m x) (anc P (vis n P m x) y ((pth P (vis n P m x) x n y).length - (k + 1)))).toNat) _ = u
    rw [hen, Int.toNat_natCast, ho]
  obtain ⟨i, v, hv, hvn⟩ := vhas_get h3
  obtain ⟨r0, r1⟩ := ok.rng v (List.mem_of_getElem? hv)
  rw [hvn] at r0 r1
  obtain ⟨Z, hZ⟩ := Int.eq_ofNat_of_zero_le r0
  have hb := oth_oth (net_pip hN ha) he
  rw [ho, ← e, hZ] at hb
  refine ⟨a, Z, ?_, ha, hZ, by omega, hb.2.1, hb.1⟩
  unfold spD spL
  rw [List.getElem?_reverse hk]
  have h5 : (pth P (vis n P m x) x n y)[(pth P (vis n P m x) x n y).length - 1 - k]? = some (a : Int) := by
    have h6 := congrArg (fun l => l[0]?) (h2.trans hp)
    simp only [List.getElem?_drop, List.getElem?_cons_zero] at h6
    rw [show (pth P (vis n P m x) x n y).length - 1 - k = (pth P (vis n P m x) x n y).length - (k + 1) + 0 by omega]
    exact h6
  rw [h5]
  rfl

/-- distances rise along the visits, and by 1 at most -/
def Mon (i : Nat) (fs : List Vs) : Prop := fs.Pairwise (fun a b => a.ds ≤ b.ds) ∧ ∀ u, fs[i]? = some u → ∀ v ∈ fs, v.ds ≤ u.ds + 1
theorem vrow_mem (P : Nat → Pip) (u : Vs) (fs : List Vs) : ∀ k v, v ∈ vrow P u k fs → v ∈ fs ∨ v.ds = u.ds + 1
  | 0, v, h => .inl h
  | k + 1, v, h => by
    rw [vrow_succ] at h
    unfold vadd at h
    split at h
    · rcases List.mem_append.1 h with h | h
      · exact vrow_mem P u fs k v h
      · obtain rfl := List.mem_singleton.1 h
        exact .inr rfl
    · exact vrow_mem P u fs k v h
theorem vrow_mon {P : Nat → Pip} {u : Vs} {fs : List Vs} (h1 : fs.Pairwise (fun a b => a.ds ≤ b.ds)) (h2 : ∀ v ∈ fs, v.ds ≤ u.ds + 1) : ∀ k, (vrow P u k fs).Pairwise (fun a b => a.ds ≤ b.ds)
  | 0 => h1
  | k + 1 => by
    have ih := vrow_mon (P := P) h1 h2 k
    rw [vrow_succ]
    unfold vadd
    split
    · rw [List.pairwise_append]
      refine ⟨ih, List.pairwise_singleton _ _, fun a ha b hb => ?_⟩
      obtain rfl := List.mem_singleton.1 hb
      rcases vrow_mem P u fs k a ha with h | h
      · exact h2 a h
      · exact Int.le_of_eq h
    · exact ih
theorem vup_mon (P : Nat → Pip) (m : Nat) (x : Int) : ∀ i, i ≤ (vup P m x i).length → Mon i (vup P m x i)
  | 0, _ => ⟨List.pairwise_singleton _ _, fun u hu v hv => by
      have h1 := List.mem_singleton.1 hv
      have h2 : (⟨x, -1, 0⟩ : Vs) = u := by simpa [vup] using hu
      rw [h1, ← h2]
      show (0 : Int) ≤ 0 + 1
      omega⟩
  | i + 1, hi => by
    cases hg : (vup P m x i)[i]? with
    | none =>
      have hl : (vup P m x i).length ≤ i := by simpa using hg
      rw [vup_stop hl] at hi
      omega
    | some u =>
      have hil := get_lt hg
      obtain ⟨h1, h2⟩ := vup_mon P m x i (by omega)
      have h3 := h2 u hg
      rw [vup_succ hg]
      have hm := vrow_mon (P := P) h1 h3 m
      refine ⟨hm, fun u' hu' v hv => ?_⟩
      have hui : (vrow P u m (vup P m x i))[i]? = some u := pre_get (vrow_pre P u _ m) hg
      have hl' := get_lt hu'
      have hle : u.ds ≤ u'.ds := by
        rw [List.getElem?_eq_getElem (by omega)] at hui hu'
        injection hui with hui
        injection hu' with hu'
        have := List.pairwise_iff_getElem.1 hm i (i + 1) (by omega) hl' (by omega)
        rw [hui, hu'] at this
        exact this
      rcases vrow_mem P u _ m v hv with h | h
      · have := h3 v h
        omega
      · omega
/-- a pipe's other end is at most one further away -/
theorem dist_next {n : Nat} {N : Nat → Nod} {P : Nat → Pip} {m : Nat} {x : Int} (hN : netB n N m P = true) (hx : 0 ≤ x ∧ x ≤ (n : Int) - 1) {y : Int} (hy : vhas (vis n P m x) y = true) {q : Nat} (hq : q < m) (he : endB (P q) y = true) :
    vhas (vis n P m x) (othV (P q) y) = true ∧ vval (·.ds) (vis n P m x) (othV (P q) y) ≤ vval (·.ds) (vis n P m x) y + 1 := by
  have ok := vis_ok (P := P) (m := m) hN hx
  refine ⟨vis_closed hN hx hy hq he, ?_⟩
  obtain ⟨i, v, hv, rfl⟩ := vhas_get hy
  have hl := get_lt hv
  have hl2 := ok.len
  have hi : (vup P m x i)[i]? = some v := by
    rcases Nat.lt_or_ge i (vup P m x i).length with h | h
    · have := pre_get (vup_vis (P := P) (m := m) hN hx (i := i)) (List.getElem?_eq_getElem h)
      rw [List.getElem?_eq_getElem h]
      rw [hv] at this
      exact this.symm
    · have := vup_end (P := P) (m := m) hN hx h (by omega)
      rw [this] at h
      omega
  have hm := (vup_mon P m x i (by have := get_lt hi; omega)).2 v hi
  have h1 := vup_vis (P := P) (m := m) hN hx (i := i + 1)
  rw [vup_succ hi] at h1
  obtain ⟨j, w, hw, hwn⟩ := vhas_get (vrow_has (fs := vup P m x i) m q hq he)
  have hvw : vval (·.ds) (vis n P m x) w.nd = w.ds := ok.val (·.ds) (pre_get h1 hw)
  rw [← hwn, hvw, ok.val (·.ds) hv]
  rcases vrow_mem P v _ m w (List.mem_of_getElem? hw) with h | h
  · exact hm w h
  · exact Int.le_of_eq h
/-- the path has as many pipes as the distance says -/
theorem Vok.pth_ds {n : Nat} {N : Nat → Nod} {P : Nat → Pip} {m : Nat} {x : Int} {fs : List Vs} (hN : netB n N m P = true) (h : Vok n P m x fs) : ∀ (i : Nat) (v : Vs), fs[i]? = some v → (((pth P fs x n v.nd).length : Nat) : Int) = v.ds := by
  intro i
  induction i using Nat.strongRecOn with
  | _ i ih =>
    intro v hv
    rcases Nat.eq_zero_or_pos i with rfl | hi
    · rw [h.fst] at hv
      injection hv with hv
      subst hv
      rw [pth_self]
      rfl
    · have hne : v.nd ≠ x := by
        intro e
        have := h.inj hv h.fst e
        omega
      obtain ⟨j, u, k, hj, hu, hk, hen, he, hnd, hds⟩ := h.par i v hi hv
      obtain ⟨a, u', ha, hen', he', ho', hu', hp'⟩ := h.step2 hN (get_vhas hv) hne
      have hak : a = k := by
        have := h.val (·.en) hv
        rw [hen'] at this
        have h2 : ((a : Nat) : Int) = (k : Nat) := by rw [this]; exact hen
        omega
      subst hak
      have hu2 : u' = u.nd := by
        have := (oth_oth (net_pip hN ha) he).1
        rw [← hnd, ho'] at this
        exact this
      rw [hp', hu2, List.length_cons]
      have := ih j hj u hu
      omega
end Go.Proofs.Ytjjjdahegcjmaaa.mem
