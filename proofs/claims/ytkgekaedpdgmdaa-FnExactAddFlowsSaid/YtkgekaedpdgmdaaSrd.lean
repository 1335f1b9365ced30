/-
  The specification's search: its entries and its order. Conditions: as each states.
-/
import Derived.Test.YtkgekaedpdgmdaaRows
import Derived.Test.YtkgekaedpdgmdaaSrc
namespace Go.Proofs.Ytkgekaedpdgmdaa.mem
open Go.RowKit
set_option linter.unusedVariables false

theorem Own.one (w : World) (x : Int) : Own (w.alloc (.cells #[.int .i64 x] 2)) (.slice (some ⟨w.heap.size, 0, none⟩) 1 1) 1 (fun _ => x) w.heap.size :=
  ⟨1, _, rfl, heap_alloc_new w _, Nat.le_refl _, by simp [maxLen], rfl, fun k hk => by have : k = 0 := (by omega); subst this; rfl⟩
/-- what lies in the search's own blocks: the box, the entries, the flags -/
structure SrM (w : World) (v0 v1 : Value) (n : Nat) (fs : List Vs) (wr : World) : Prop where
  box : Ob wr w.heap.size 2 (bx v0 v1)
  ent : Ob wr (w.heap.size + 1) n (tabC (vval (·.en) fs))
  flg : Ob wr (w.heap.size + 2) n (flagC fs)
  bel : Below w.heap.size w wr
theorem SrM.keep {w : World} {v0 v1 : Value} {n : Nat} {fs : List Vs} {wr w' : World} (h : SrM w v0 v1 n fs wr) (b : Below (w.heap.size + 3) wr w') : SrM w v0 v1 n fs w' :=
  ⟨h.box.below b (by omega), h.ent.below b (by omega), h.flg.below b (by omega), h.bel.trans (b.mono (by omega))⟩
/-- between two nodes -/
def SRel (w : World) (v0 v1 : Value) (n : Nat) (P : Nat → Pip) (m : Nat) (x : Int) (ov kv : Value) (wr : World) : Prop :=
  ∃ (k : Nat) (fs : List Vs) (go : Nat), kv = .int .i64 k ∧ fs = vup P m x k ∧ k ≤ fs.length ∧ Own wr ov fs.length (ordD fs) go ∧ w.heap.size + 3 ≤ go ∧ SrM w v0 v1 n fs wr
/-- between two pipes at a node -/
def SRel2 (w : World) (v0 v1 : Value) (n : Nat) (P : Nat → Pip) (v : Vs) (l : List Nat) (d : Nat → Int) (fs : List Vs) (av : Value) (ga : Nat) (ov iv : Value) (wr : World) : Prop :=
  ∃ (i : Nat) (gs : List Vs) (go : Nat), iv = .int .i64 i ∧ i ≤ l.length ∧ gs = vls P v (l.take i) fs ∧ Own wr ov gs.length (ordD gs) go ∧ w.heap.size + 3 ≤ go ∧ Own wr av l.length d ga ∧ ga ≠ go ∧ SrM w v0 v1 n gs wr

set_option maxRecDepth 100000 in
set_option maxHeartbeats 4000000 in
theorem l04Search_any (w : World) (v : Value) (n : Nat) (N : Nat → Nod) (m : Nat) (P : Nat → Pip) (lo hi : Nat) (h : NetAt w v n N m P lo hi) (hhi : hi ≤ w.heap.size) (hN : ∀ i, i < n → (N i).s.size ≤ 9223372036854775807) (hB : netB n N m P = true) (X0 : Nat) (hX : X0 < n) :
    Calls Try.prog 109 #[v, .int .i64 (X0 : Nat)] w fun e w' => ∃ v2 g2, e = .returned (.tuple #[.slice (some ⟨w.heap.size + 1, 0, none⟩) n n, v2]) ∧ Ob w' (w.heap.size + 1) n (tabC (vval (·.en) (vis n P m (X0 : Nat)))) ∧
      Own w' v2 (vis n P m (X0 : Nat)).length (ordD (vis n P m (X0 : Nat))) g2 ∧ w.heap.size + 3 ≤ g2 ∧ Below w.heap.size w w' := by
  obtain ⟨p0, c0, p1, c1, rfl, hn9, hm9⟩ := h.parts
  obtain ⟨hn1, hn24, hm40⟩ := net_sz hB
  have HV := Lib.hid h
  have HN := Lib.hid hN
  have HB := Lib.hid hB
  have HPI := Lib.hid (fun k (hk : k < m) => net_pip hB hk)
  have HOKK := Lib.hid (vup_ok (x := ((X0 : Nat) : Int)) hB ⟨Int.natCast_nonneg _, by omega⟩)
  have HEND := Lib.hid (fun i (h1 : (vup P m ((X0 : Nat) : Int) i).length ≤ i) (h2 : i ≤ n) => vup_end hB ⟨Int.natCast_nonneg _, by omega⟩ h1 h2)
  have A0 := boxed w (.slice p0 n c0) (.slice p1 m c1) 33
  have B0 := below_new w (.cells #[.slice p0 n c0, .slice p1 m c1] 33)
  obtain ⟨w1, hw1⟩ : ∃ w1, w.alloc (.cells #[.slice p0 n c0, .slice p1 m c1] 33) = w1 := ⟨_, rfl⟩
  have hs1 : w1.heap.size = w.heap.size + 1 := by rw [← hw1]; simp
  rw [hw1] at A0 B0
  have O1 := ob_zeros w1 n 2
  obtain ⟨w2, hw2⟩ : ∃ w2, w1.alloc (.cells (zeros n) 2) = w2 := ⟨_, rfl⟩
  have hs2 : w2.heap.size = w.heap.size + 2 := by rw [← hw2]; simp [hs1]
  have b2 : Below w1.heap.size w1 w2 := by rw [← hw2]; exact below_new _ _
  rw [hw2] at O1
  have O2 := ob_falses w2 n 4
  obtain ⟨w3, hw3⟩ : ∃ w3, w2.alloc (.cells (falses n) 4) = w3 := ⟨_, rfl⟩
  have hs3 : w3.heap.size = w.heap.size + 3 := by rw [← hw3]; simp [hs2]
  have b3 : Below w2.heap.size w2 w3 := by rw [← hw3]; exact below_new _ _
  rw [hw3] at O2
  rw [hs1] at O1
  rw [hs2] at O2
  have A2 := A0.below b2 (by omega)
  have A3 := A2.below b3 (by omega)
  have O1' := O1.below b3 (by omega)
  have B3 := (B0.trans (b2.mono (by omega))).trans (b3.mono (by omega))
  have H3 := Lib.hid (show Ob w3 w.heap.size 2 (bx (.slice p0 n c0) (.slice p1 m c1)) ∧ Ob w3 (w.heap.size + 1) n (fillC 0) ∧ Ob w3 (w.heap.size + 2) n (flagC []) ∧ Below w.heap.size w w3 from ⟨A3, O1'.congr (fun k hk => by unfold fillC; rw [if_neg (by omega)]), O2, B3⟩)
  have e0 : w2.cell? ⟨w.heap.size, 0, none⟩ = some (.slice p0 n c0) := A2.b0
  have e1 : w.heap.size < w2.heap.size := by omega
  have m1 := fun W => make_int64 W n (by omega)
  have m2 := fun W => make_bool W n (by omega)
  clear h hN hB A0 B0 O1 O2 O1' B3 A2 A3 b2 b3 hs1 hs2
  subst hw3 hw2 hw1
  go_enter Try.func109, Try.ntmps109
  go_wp2
  generalize hW : ((w.alloc (Obj.cells #[Value.slice p0 n c0, Value.slice p1 m c1] 33)).alloc (Obj.cells (zeros n) 2)).alloc (Obj.cells (falses n) 4) = w3 at *
  clear hW e0 e1 m1 m2
  go_loopw [8] (fun i wr => ∃ k : Nat, i = .int .i64 k ∧ k ≤ n ∧ Ob wr (w.heap.size + 1) n (fillC k) ∧ Ob wr w.heap.size 2 (bx (.slice p0 n c0) (.slice p1 m c1)) ∧ Ob wr (w.heap.size + 2) n (flagC []) ∧ Below w.heap.size w wr ∧ wr.heap.size = w.heap.size + 3) (fun i _ => n - (intOf i).toNat)
  case atStart => exact ⟨0, rfl, Nat.zero_le _, H3.out.2.1, H3.out.1, H3.out.2.2.1, H3.out.2.2.2, hs3⟩
  case round =>
    obtain ⟨k, rfl, hk, he, hbx, hfl, hbl, hsz⟩ := hrel
    have HE := Lib.hid he
    have HX := Lib.hid hbx
    have HF := Lib.hid hfl
    have HL := Lib.hid hbl
    clear he hbx hfl hbl H3
    have i0 : (0 : Int) ≤ (k : Int) := Int.natCast_nonneg _
    by_cases hlt : k < n
    · have j0 : (k : Int) < (n : Int) := by omega
      have y0 : wr.cell? ⟨w.heap.size + 1, k, none⟩ = some (fillC k k) := HE.out.cell k hlt
      have y1 : wr.frozen? ⟨w.heap.size + 1, k, none⟩ = false := HE.out.free k
      have o1 := (Only.refl (w.heap.size + 1) wr).setCell k (.int .i64 (-1))
      generalize hQ : Exit.then _ _ = Q
      have HQ := Lib.hid hQ
      clear hQ
      go_wp2
      rw [← HQ.out]
      refine ⟨⟨_, _, _, _, _, _, _, _, _, _, ?rel, rfl⟩, ?measure⟩
      case rel => exact ⟨k + 1, by go_num, hlt, fill_set HE.out hlt, HX.out.only o1 (by omega), HF.out.only o1 (by omega), HL.out.trans (o1.below (by omega)), by rw [sz_set]; exact hsz⟩
      case measure => simp [intOf]; omega
    · have hkn : n = k := by omega
      subst hkn
      have j0 : ¬ ((n : Int) < (n : Int)) := by omega
      have x0 : (0 : Int) ≤ (X0 : Int) := Int.natCast_nonneg _
      have x1 : (X0 : Int) < (n : Int) := by omega
      have y0 : wr.cell? ⟨w.heap.size + 1 + 1, X0, none⟩ = some (flagC [] X0) := HF.out.cell X0 hX
      have y1 : wr.frozen? ⟨w.heap.size + 1 + 1, X0, none⟩ = false := HF.out.free X0
      have o1 := (Only.refl (w.heap.size + 2) wr).setCell X0 (.bool true)
      have f1 := flag_set HF.out ⟨X0, -1, 0⟩ X0 hX rfl
      have M1 : SrM w (.slice p0 n c0) (.slice p1 m c1) n [⟨X0, -1, 0⟩] (wr.setCell ⟨w.heap.size + 2, X0, none⟩ (.bool true)) := ⟨HX.out.only o1 (by omega), (HE.out.only o1 (by omega)).congr (fun j hj => by
        unfold fillC tabC vval
        rw [if_pos hj]
        cases hq : (((X0 : Nat) : Int) == ((j : Nat) : Int)) <;> simp [hq]), f1, HL.out.trans (o1.below (by omega))⟩
      have hz1 : (wr.setCell ⟨w.heap.size + 2, X0, none⟩ (.bool true)).heap.size = w.heap.size + 3 := by rw [sz_set]; exact hsz
      have M2 := M1.keep ((below_new _ (.cells #[.int .i64 (X0 : Nat)] 2)).mono (by omega))
      have W2 := Own.one (wr.setCell ⟨w.heap.size + 2, X0, none⟩ (.bool true)) ((X0 : Nat) : Int)
      rw [hz1] at W2
      have HM2 := Lib.hid M2
      have HW2 := Lib.hid W2
      clear M1 M2 W2 f1 o1 HE HX HF HL
      go_wp2
      generalize hW4 : (wr.setCell _ _).alloc _ = w4 at *
      clear hW4 y0 y1 x0 x1 j0 i0 hk hlt
      go_loopw [9, 10] (fun ov kv wr => SRel w (.slice p0 n c0) (.slice p1 m c1) n P m ((X0 : Nat) : Int) ov kv wr) (fun _ kv _ => n - (intOf kv).toNat)
      case atStart => exact ⟨0, _, _, rfl, rfl, Nat.zero_le _, HW2.out.congr (fun j hj => by have : j = 0 := (by simp at hj; omega); subst this; rfl), Nat.le_refl _, HM2.out⟩
      case round =>
        clear HM2 HW2
        obtain ⟨k, fs, go, rfl, hfs, hk, ho, hgo, hM⟩ := hrel
        obtain ⟨co, rfl⟩ := ho.shape
        have ok := HOKK.out k
        rw [← hfs] at ok
        have hlen := ok.len
        have HFS := Lib.hid hfs
        have HO := Lib.hid ho
        have HM := Lib.hid hM
        have HOK := Lib.hid ok
        have e0 : wr.cell? ⟨w.heap.size, 0, none⟩ = some (.slice p0 n c0) := hM.box.b0
        have e1 : wr.cell? ⟨w.heap.size, 1, none⟩ = some (.slice p1 m c1) := hM.box.b1
        have hlt0 := hM.box.lt
        have hlt1 := hM.ent.lt
        have hlt2 := hM.flg.lt
        have hltg := ho.lt
        clear hfs ho hM ok
        by_cases hlt : k < fs.length
        · obtain ⟨v, hv⟩ : ∃ v, fs[k]? = some v := ⟨_, List.getElem?_eq_getElem hlt⟩
          have HVK := Lib.hid hv
          have y0 : wr.cell? ⟨go, k, none⟩ = some (.int .i64 v.nd) := by
            have := HO.out.row.cell k hlt
            rwa [ordD_some hv] at this
          have j0 : (0 : Int) ≤ (k : Int) := Int.natCast_nonneg _
          have j1 : (k : Int) < (fs.length : Int) := by omega
          clear hv
          generalize hQ : Exit.then _ _ = Q
          have HQ := Lib.hid hQ
          clear hQ
          go_wp2
          go_region_held3 (fun w' => w'.cell? ⟨w.heap.size, 0, none⟩ = some (.slice p0 n c0) ∧ w'.cell? ⟨w.heap.size, 1, none⟩ = some (.slice p1 m c1) ∧ w'.cell? ⟨go, k, none⟩ = some (.int .i64 v.nd))
            (first | exact ⟨e0, e1, y0⟩ | exact SW)
            (first | (go_at_call 125; refine (l02At_any _ _ n N m P lo hi (HV.out.below HM.out.bel hhi).drew (by simp; omega) HN.out (by omega) v.nd).mono ?_; rintro e w4' ⟨av, ga, rfl, hat, hga, hb1⟩; have hb2 := below_dr0 hb1; have hs4 := hb2.size; have SW : w4'.cell? ⟨w.heap.size, 0, none⟩ = some (.slice p0 n c0) ∧ w4'.cell? ⟨w.heap.size, 1, none⟩ = some (.slice p1 m c1) ∧ w4'.cell? ⟨go, k, none⟩ = some (.int .i64 v.nd) := ⟨(hb2.cell (p := ⟨w.heap.size, 0, none⟩) hlt0).trans e0, (hb2.cell (p := ⟨w.heap.size, 1, none⟩) hlt0).trans e1, (hb2.cell (p := ⟨go, k, none⟩) hltg).trans y0⟩))
          have hga' : wr.heap.size ≤ ga := hga
          have hga3 : w.heap.size + 3 ≤ ga := by omega
          have hgne : ga ≠ go := by omega
          clear hga
          have hlta := hat.lt
          have HM4 := Lib.hid (HM.out.keep (hb2.mono (by omega)))
          have HO4 := Lib.hid (HO.out.below hb2 (Nat.le_refl _))
          obtain ⟨ca, rfl⟩ := hat.shape
          have HAT := Lib.hid hat
          clear hat SW hb1 hb2 HM HO e0 e1 y0
          generalize hl : fl (paP P v.nd) m = l at *
          generalize hd : fd (paP P v.nd) m = d at *
          have HLL := Lib.hid hl
          have HDD := Lib.hid hd
          clear hl hd hs4
          have hll : l.length ≤ 40 := by rw [← HLL.out]; have := fl_le (paP P v.nd) m; omega
          go_wp2
          go_loopw [9, 12] (fun ov iv wr => SRel2 w (.slice p0 n c0) (.slice p1 m c1) n P v l d fs (.slice (some ⟨ga, 0, none⟩) l.length ca) ga ov iv wr) (fun _ iv _ => l.length - (intOf iv).toNat)
          case atStart => exact ⟨0, fs, go, rfl, Nat.zero_le _, rfl, HO4.out, hgo, HAT.out, hgne, HM4.out⟩
          case round =>
            clear HM4 HO4 HAT hlta hltg hlt0 hlt1 hlt2
            obtain ⟨i, gs, g2, rfl, hil0, hgs, ho, hg2, hat, hne, hM⟩ := hrel
            obtain ⟨co2, rfl⟩ := ho.shape
            have hpg : fs <+: gs := by rw [hgs]; exact vls_pre _ _ _ _
            have hgk : gs[k]? = some v := pre_get hpg HVK.out
            have hkg := get_lt hgk
            have okg : Vok n P m ((X0 : Nat) : Int) gs := by
              rw [hgs]
              exact Vok.ls HB.out _ _ HOK.out HVK.out (fun a ha => by
                have := List.mem_of_mem_take ha
                rw [← HLL.out] at this
                exact (fl_lt this).1)
            have HGS := Lib.hid hgs
            have HO := Lib.hid ho
            have HM := Lib.hid hM
            have HAT := Lib.hid hat
            have e0 : wr.cell? ⟨w.heap.size, 0, none⟩ = some (.slice p0 n c0) := hM.box.b0
            have e1 : wr.cell? ⟨w.heap.size, 1, none⟩ = some (.slice p1 m c1) := hM.box.b1
            have hlt0 := hM.box.lt
            have hlt1 := hM.ent.lt
            have hlt2 := hM.flg.lt
            have hltg := ho.lt
            have hlta := hat.lt
            clear hgs ho hM hat
            generalize hQ2 : Exit.then _ _ = Q2
            have HQ2 := Lib.hid hQ2
            clear hQ2
            by_cases hil : i < l.length
            · obtain ⟨a, ha⟩ : ∃ a, l[i]? = some a := ⟨_, List.getElem?_eq_getElem hil⟩
              have hag : a < m ∧ endB (P a) v.nd = true := by
                have := List.mem_of_getElem? ha
                rw [← HLL.out] at this
                exact fl_lt this
              have hda : d i = (a : Int) := by
                rw [← HDD.out]
                unfold fd
                rw [HLL.out, ha]
                rfl
              have y0 : wr.cell? ⟨g2, k, none⟩ = some (.int .i64 v.nd) := by
                have := HO.out.row.cell k hkg
                rwa [ordD_some hgk] at this
              have y1 : wr.cell? ⟨ga, i, none⟩ = some (.int .i64 (a : Int)) := by
                have := HAT.out.row.cell i hil
                rwa [hda] at this
              have q0 : (0 : Int) ≤ (i : Int) := Int.natCast_nonneg _
              have q1 : (i : Int) < (l.length : Int) := by omega
              have q2 : (k : Int) < (gs.length : Int) := by omega
              have hpa := HPI.out a hag.1
              obtain ⟨hz0, hz1⟩ := oth_rng hpa (y := v.nd)
              obtain ⟨Z, hZ⟩ := Int.eq_ofNat_of_zero_le hz0
              have HZ := Lib.hid hZ
              have hsum : (P a).f + (P a).t - v.nd = (Z : Int) := by rw [sum_other hpa hag.2, hZ]
              have HSUM := Lib.hid hsum
              have HAG := Lib.hid hag
              have hzn : Z < n := by omega
              have hvr := okg.rng v (List.mem_of_getElem? hgk)
              have q3 : (0 : Int) ≤ (Z : Int) := Int.natCast_nonneg _
              have q4 : (Z : Int) < (n : Int) := by omega
              have HAI := Lib.hid ha
              have HHA := Lib.hid hag.1
              clear hz0 hz1 hZ hsum hag hda ha
              go_wp2
              go_region_held3 (fun w' => w'.cell? ⟨w.heap.size, 0, none⟩ = some (.slice p0 n c0) ∧ w'.cell? ⟨w.heap.size, 1, none⟩ = some (.slice p1 m c1) ∧ w'.cell? ⟨g2, k, none⟩ = some (.int .i64 v.nd) ∧ w'.cell? ⟨ga, i, none⟩ = some (.int .i64 (a : Int)))
                (first | exact ⟨e0, e1, y0, y1⟩ | exact SW)
                (first | (go_at_call 110; refine (l02Other_any _ _ n N m P lo hi (HV.out.below HM.out.bel hhi).drew (by simp; omega) HN.out (by omega) a HHA.out v.nd hpa (by omega) (inR_iff.2 ⟨hvr.1, by omega⟩)).mono ?_; rintro e w5 ⟨rfl, hb1⟩; rw [HSUM.out]; have hb2 := below_dr0 hb1; have hs5 := hb2.size; have SW : w5.cell? ⟨w.heap.size, 0, none⟩ = some (.slice p0 n c0) ∧ w5.cell? ⟨w.heap.size, 1, none⟩ = some (.slice p1 m c1) ∧ w5.cell? ⟨g2, k, none⟩ = some (.int .i64 v.nd) ∧ w5.cell? ⟨ga, i, none⟩ = some (.int .i64 (a : Int)) := ⟨(hb2.cell (p := ⟨w.heap.size, 0, none⟩) hlt0).trans e0, (hb2.cell (p := ⟨w.heap.size, 1, none⟩) hlt0).trans e1, (hb2.cell (p := ⟨g2, k, none⟩) hltg).trans y0, (hb2.cell (p := ⟨ga, i, none⟩) hlta).trans y1⟩))
              have HM5 := Lib.hid (HM.out.keep (hb2.mono (by omega)))
              have HO5 := Lib.hid (HO.out.below hb2 (Nat.le_refl _))
              have HAT5 := Lib.hid (HAT.out.below hb2 (Nat.le_refl _))
              have y5 : w5.cell? ⟨ga, i, none⟩ = some (.int .i64 (a : Int)) := SW.2.2.2
              clear SW hb1 hb2 HM HO HAT e0 e1 y0 y1
              have hvl : vls P v (l.take (i + 1)) fs = vadd P v gs a := by rw [vls_one HAI.out, ← HGS.out]
              have y6 : w5.cell? ⟨w.heap.size + 1 + 1, Z, none⟩ = some (.bool (vhas gs (Z : Int))) := HM5.out.flg.cell Z hzn
              cases hF : vhas gs (Z : Int)
              · rw [hF] at y6
                obtain ⟨u, hu⟩ : ∃ u : Vs, u = ⟨(Z : Int), (a : Int), v.ds + 1⟩ := ⟨_, rfl⟩
                have hadd : vadd P v gs a = gs ++ [u] := by unfold vadd; rw [HAG.out.2, HZ.out, hu]; simp [hF]
                rw [hadd] at hvl
                have hund : u.nd = ((Z : Nat) : Int) := by rw [hu]
                have huen : u.en = ((a : Nat) : Int) := by rw [hu]
                have okq : Vok n P m ((X0 : Nat) : Int) (gs ++ [u]) := by
                  rw [← hvl]
                  exact Vok.ls HB.out _ _ HOK.out HVK.out (fun a ha => by
                    have := List.mem_of_mem_take ha
                    rw [← HLL.out] at this
                    exact (fl_lt this).1)
                have hlg := okq.len
                simp only [List.length_append, List.length_cons, List.length_nil] at hlg
                have HVL := Lib.hid hvl
                have y7 : w5.frozen? ⟨w.heap.size + 1 + 1, Z, none⟩ = false := HM5.out.flg.free Z
                have y8 : w5.cell? ⟨w.heap.size + 1, Z, none⟩ = some (tabC (vval (·.en) gs) Z) := HM5.out.ent.cell Z hzn
                have y9 : w5.frozen? ⟨w.heap.size + 1, Z, none⟩ = false := HM5.out.ent.free Z
                have l5 := HM5.out.flg.lt
                have lg5 := HO5.out.lt
                have la5 := HAT5.out.lt
                have o1 := (Only.refl (w.heap.size + 2) w5).setCell Z (.bool true)
                have o2 := (Only.refl (w.heap.size + 1) (w5.setCell ⟨w.heap.size + 2, Z, none⟩ (.bool true))).setCell Z (.int .i64 (a : Int))
                have F6 := (flag_set HM5.out.flg u Z hzn hund).only o2 (by omega)
                have E6 := tab_more (HM5.out.ent.only o1 (by omega)) (by rw [hund]; exact hF) hund hzn
                rw [huen] at E6
                have X6 := (HM5.out.box.only o1 (by omega)).only o2 (by omega)
                have B6 := (HM5.out.bel.trans (o1.below (by omega))).trans (o2.below (by omega))
                have A6 := (HAT5.out.keep (o1.block ga (by omega))).keep (o2.block ga (by omega))
                have O6 := ((HO5.out.keep (o1.block g2 (by omega))).keep (o2.block g2 (by omega))).congr (fun j hj => (ordD_pre (List.prefix_append gs [u]) hj).symm)
                have M6 : SrM w (.slice p0 n c0) (.slice p1 m c1) n (gs ++ [u]) _ := ⟨X6, E6, F6, B6⟩
                have z6 : ((w5.setCell ⟨w.heap.size + 2, Z, none⟩ (.bool true)).setCell ⟨w.heap.size + 1, Z, none⟩ (.int .i64 (a : Int))).heap.size = w5.heap.size := by rw [sz_set, sz_set]
                obtain ⟨w6, hw6⟩ : ∃ w6, (w5.setCell ⟨w.heap.size + 2, Z, none⟩ (.bool true)).setCell ⟨w.heap.size + 1, Z, none⟩ (.int .i64 (a : Int)) = w6 := ⟨_, rfl⟩
                rw [hw6] at M6 A6 O6 z6
                have cn := cell_new1 w6 ((Z : Nat) : Int)
                rw [z6] at cn
                obtain ⟨v7, w7, g7, hr, ap⟩ := app_run (w6.alloc (.cells #[.int .i64 (Z : Int)] 2)) _ gs.length _ g2 ((Z : Nat) : Int) w5.heap.size (O6.alloc _) cn (by omega)
                have O7 := ap.own.congr (e := ordD (gs ++ [u])) (fun j hj => by
                  unfold upd
                  split
                  · next hjn => rw [hjn, ordD_last, hund]
                  · rfl)
                have oa := ap.other (c := ga) (by omega) (by rw [szal]; omega)
                have bl := ap.below (B := w.heap.size + 3) hg2 (by rw [szal]; omega)
                have A7 := (A6.alloc (.cells #[.int .i64 (Z : Int)] 2)).keep oa.1
                have M7 := M6.keep ((below_alloc (Below.refl _ w6) (by omega) (.cells #[.int .i64 (Z : Int)] 2)).trans bl.1)
                have HO7 := Lib.hid O7
                have HA7 := Lib.hid A7
                have HM7 := Lib.hid M7
                have HG7 := bl.2
                have HNE := oa.2
                clear O7 A7 M7 bl oa ap cn z6 M6 A6 O6 B6 X6 E6 F6 o1 o2 okq hadd hund huen hvl
                rw [← hw6] at hr
                clear hw6 hu
                go_wp2_with (at_builtin; refine wpList_app hr rfl _ _ rfl rfl rfl rfl ?_)
                rw [← HQ2.out]
                refine ⟨⟨_, _, _, _, _, _, _, _, _, _, _, _, _, _, _, _, _, _, _, _, _, _, _, _, _, _, _, _, _, _, _, _, _, _, _, _, _, _, ?rel, rfl⟩, ?measure⟩
                case rel => exact ⟨i + 1, gs ++ [u], g7, by go_num, hil, HVL.out.symm, by simpa using HO7.out, HG7, HA7.out, HNE, HM7.out⟩
                case measure => simp [intOf]; omega
              · rw [hF] at y6
                have hadd : vadd P v gs a = gs := by unfold vadd; rw [HZ.out]; simp [hF]
                rw [hadd] at hvl
                have HVL := Lib.hid hvl
                clear hvl hadd
                go_wp2
                rw [← HQ2.out]
                refine ⟨⟨_, _, _, _, _, _, _, _, _, _, _, _, _, _, _, _, _, _, _, _, _, _, _, _, _, _, _, _, _, _, _, _, _, _, _, _, _, _, ?rel, rfl⟩, ?measure⟩
                case rel => exact ⟨i + 1, gs, g2, by go_num, hil, HVL.out.symm, HO5.out, hg2, HAT5.out, hne, HM5.out⟩
                case measure => simp [intOf]; omega
            · have hie : i = l.length := by omega
              have q1 : ¬ ((i : Int) < (l.length : Int)) := by omega
              have hgv : gs = vup P m ((X0 : Nat) : Int) (k + 1) := by
                rw [HGS.out, hie, List.take_length, ← HLL.out, vls_all, HFS.out]
                exact (vup_succ (by rw [← HFS.out]; exact HVK.out)).symm
              have HGV := Lib.hid hgv
              clear hgv hie
              go_wp2
              rw [← HQ2.out]
              go_wp2
              rw [← HQ.out]
              refine ⟨⟨_, _, _, _, _, _, _, _, _, _, _, _, _, _, _, _, _, _, _, _, _, _, _, _, _, _, _, _, _, _, _, _, _, _, _, _, _, _, _, _, _, _, _, _, _, _, _, _, _, _, _, _, ?rel, rfl⟩, ?measure⟩
              case rel => exact ⟨k + 1, gs, g2, by go_num, HGV.out, hkg, HO.out, hg2, HM.out⟩
              case measure => simp [intOf]; omega
        · have hke : k = fs.length := by omega
          have j1 : ¬ ((k : Int) < (fs.length : Int)) := by omega
          have hvis : fs = vis n P m ((X0 : Nat) : Int) := by rw [HFS.out]; exact HEND.out k (by rw [← HFS.out]; omega) (by omega)
          have HVI := Lib.hid hvis
          clear hvis hke
          generalize hQ : Exit.then _ _ = Q
          have HQ := Lib.hid hQ
          clear hQ
          go_wp2
          rw [← HQ.out]
          go_wp2
          go_ret2
          have hO := HO.out
          have hM := HM.out
          rw [HVI.out] at hO hM
          rw [HVI.out]
          exact ⟨_, go, rfl, hM.ent, hO, hgo, hM.bel⟩
end Go.Proofs.Ytkgekaedpdgmdaa.mem
