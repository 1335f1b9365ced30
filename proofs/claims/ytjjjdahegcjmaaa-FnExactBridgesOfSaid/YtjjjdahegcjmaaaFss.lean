/-
  SpanningForest, the specification's, and that both sides agree. Conditions: as each states.
-/
import Derived.Test.YtjjjdahegcjmaaaRows
import Derived.Test.YtjjjdahegcjmaaaFst
namespace Go.Proofs.Ytjjjdahegcjmaaa.mem
open Go.RowKit
set_option linter.unusedVariables false

theorem vval_mem {f : Vs → Int} {fs : List Vs} {y : Int} (h : vval f fs y ≠ -1) : ∃ v ∈ fs, v.nd = y ∧ vval f fs y = f v := by
  unfold vval at h ⊢
  cases hq : fs.find? (fun v => v.nd == y) with
  | none => rw [hq] at h; exact absurd rfl h
  | some v =>
    refine ⟨v, List.mem_of_find?_eq_some hq, ?_, rfl⟩
    have := List.find?_some hq
    simpa using this
theorem Vok.en_rng {n : Nat} {P : Nat → Pip} {m : Nat} {x : Int} {fs : List Vs} (h : Vok n P m x fs) (y : Int) : vval (·.en) fs y = -1 ∨ ∃ c : Nat, c < m ∧ vval (·.en) fs y = ((c : Nat) : Int) := by
  by_cases e : vval (·.en) fs y = -1
  · exact .inl e
  · right
    obtain ⟨v, hv, hnd, hvv⟩ := vval_mem e
    obtain ⟨i, hi, rfl⟩ := List.mem_iff_getElem.1 hv
    have hg : fs[i]? = some fs[i] := List.getElem?_eq_getElem hi
    rcases Nat.eq_zero_or_pos i with rfl | h0
    · have := h.fst
      rw [hg] at this
      injection this with this
      rw [hvv, this] at e
      exact absurd rfl e
    · obtain ⟨j, u, c, _, _, hc, he, _⟩ := h.par i _ h0 hg
      exact ⟨c, hc, hvv.trans he⟩
/-- pipe c is the entry of one of the first k nodes -/
def inE (fs : List Vs) (k : Nat) (c : Nat) : Bool := (List.range k).any (fun j => vval (·.en) fs ((j : Nat) : Int) == ((c : Nat) : Int))
theorem inE_succ (fs : List Vs) (k c : Nat) : inE fs (k + 1) c = (inE fs k c || (vval (·.en) fs ((k : Nat) : Int) == ((c : Nat) : Int))) := by
  unfold inE
  rw [List.range_succ, List.any_append]
  simp
theorem Vok.inE_all {n : Nat} {P : Nat → Pip} {m : Nat} {x : Int} {fs : List Vs} (h : Vok n P m x fs) (c : Nat) : inE fs n c = (ens fs).contains ((c : Nat) : Int) := by
  rw [Bool.eq_iff_iff]
  unfold inE
  simp only [List.any_eq_true, List.mem_range, beq_iff_eq, List.contains_iff_mem]
  constructor
  · rintro ⟨j, hj, e⟩
    obtain ⟨v, hv, hnd, hvv⟩ := vval_mem (f := (·.en)) (fs := fs) (y := ((j : Nat) : Int)) (by omega)
    exact ens_mem.2 ⟨v, hv, by rw [← hvv, e], by omega⟩
  · intro hm
    obtain ⟨v, hv, e, hne⟩ := ens_mem.1 hm
    obtain ⟨i, hi, rfl⟩ := List.mem_iff_getElem.1 hv
    obtain ⟨h1, h2⟩ := h.rng _ hv
    obtain ⟨Z, hZ⟩ := Int.eq_ofNat_of_zero_le h1
    refine ⟨Z, by omega, ?_⟩
    rw [← hZ, h.val (·.en) (List.getElem?_eq_getElem hi), e]
theorem inF_snoc (n : Nat) (P : Nat → Pip) (m : Nat) (rs : List Nat) (r c : Nat) : inF n P m (rs ++ [r]) c = (inF n P m rs c || (ens (vis n P m ((r : Nat) : Int))).contains ((c : Nat) : Int)) := by
  unfold inF
  rw [fcol_snoc, Bool.eq_iff_iff]
  simp only [List.contains_iff_mem, List.mem_append, Bool.or_eq_true]
def flgC (p : Nat → Bool) : Nat → Value := fun a => .bool (p a)
theorem flgC_set {w : World} {b n : Nat} {p q : Nat → Bool} (h : Ob w b n (flgC p)) (k : Nat) (hk : k < n) (e : ∀ a, q a = (p a || (k == a))) : Ob (w.setCell ⟨b, k, none⟩ (.bool true)) b n (flgC q) := by
  refine (h.set k (.bool true) hk).congr fun j hj => ?_
  unfold updV flgC
  rw [e j]
  by_cases hjk : j = k
  · subst hjk; simp
  · rw [if_neg hjk]
    have : (k == j) = false := by rw [beq_eq_false_iff_ne]; omega
    rw [this, Bool.or_false]
theorem forest_len (n : Nat) (P : Nat → Pip) (m : Nat) : (forest n P m).length = (fl (inF n P m (fl (rts n P m) n)) m).length := by unfold forest; rw [List.length_map]
theorem forest_lD (n : Nat) (P : Nat → Pip) (m k : Nat) (hk : k < (fl (inF n P m (fl (rts n P m) n)) m).length) : fd (inF n P m (fl (rts n P m) n)) m k = lD (forest n P m) k := by
  unfold fd lD forest
  rw [List.getElem?_map, List.getElem?_eq_getElem hk]
  rfl
theorem forest_le (n : Nat) (P : Nat → Pip) (m : Nat) : (forest n P m).length ≤ m := by rw [forest_len]; exact fl_le _ _

set_option maxRecDepth 100000 in
set_option maxHeartbeats 4000000 in
theorem l04Forest_any (w : World) (v : Value) (n : Nat) (N : Nat → Nod) (m : Nat) (P : Nat → Pip) (lo hi : Nat) (h : NetAt w v n N m P lo hi) (hhi : hi ≤ w.heap.size) (hN : ∀ i, i < n → (N i).s.size ≤ 9223372036854775807) (hB : netB n N m P = true) :
    Calls Try.prog 80 #[v] w fun e w' => ∃ v2 g, e = .returned v2 ∧ w.heap.size ≤ g ∧ Own w' v2 (forest n P m).length (lD (forest n P m)) g ∧ Below w.heap.size w w' := by
  obtain ⟨p0, c0, p1, c1, rfl, hn9, hm9⟩ := h.parts
  obtain ⟨hn1, hn24, hm40⟩ := net_sz hB
  have HV := Lib.hid h
  have HN := Lib.hid hN
  have HB := Lib.hid hB
  have A0 := boxed w (.slice p0 n c0) (.slice p1 m c1) 30
  have B0 := below_new w (.cells #[.slice p0 n c0, .slice p1 m c1] 30)
  have HOK := Lib.hid (fun (X0 : Nat) (hX : X0 < n) => vis_ok (P := P) (m := m) (x := ((X0 : Nat) : Int)) hB ⟨Int.natCast_nonneg _, by omega⟩)
  obtain ⟨w1, hw1⟩ : ∃ w1, w.alloc (.cells #[.slice p0 n c0, .slice p1 m c1] 30) = w1 := ⟨_, rfl⟩
  have hs1 : w1.heap.size = w.heap.size + 1 := by rw [← hw1]; simp
  rw [hw1] at A0 B0
  have O1 := ob_falses w1 m 4
  obtain ⟨w2, hw2⟩ : ∃ w2, w1.alloc (.cells (falses m) 4) = w2 := ⟨_, rfl⟩
  have hs2 : w2.heap.size = w.heap.size + 2 := by rw [← hw2]; simp [hs1]
  have b2 : Below w1.heap.size w1 w2 := by rw [← hw2]; exact below_new _ _
  rw [hw2] at O1
  rw [hs1] at O1
  have HA := Lib.hid (A0.below b2 (by omega))
  have HG := Lib.hid (O1.congr (e := flgC (inF n P m [])) (fun k hk => rfl))
  have HBB := Lib.hid (B0.trans (b2.mono (by omega)))
  have e0 : w1.cell? ⟨w.heap.size, 1, none⟩ = some (.slice p1 m c1) := A0.b1
  have e1 : w.heap.size < w1.heap.size := by omega
  have m1 := fun W => make_bool W m (by omega)
  have f0 : w2.cell? ⟨w.heap.size, 0, none⟩ = some (.slice p0 n c0) := HA.out.b0
  have f1 : w2.cell? ⟨w.heap.size, 1, none⟩ = some (.slice p1 m c1) := HA.out.b1
  have f2 : w.heap.size < w2.heap.size := by omega
  clear h hN hB A0 B0 O1 b2 hs1
  subst hw2 hw1
  go_enter Try.func80, Try.ntmps80
  go_wp2_with fail
  generalize hW : (w.alloc (Obj.cells #[Value.slice p0 n c0, Value.slice p1 m c1] 30)).alloc (Obj.cells (falses m) 4) = w3 at *
  clear hW e0 e1 m1 f0 f1
  refine (l04Components_any _ _ n N m P lo hi (HV.out.below HBB.out hhi) (by omega) HN.out HB.out).mono ?_
  rintro e w4 ⟨gc, rfl, hgc, oc, b4⟩
  obtain ⟨gi, hgi⟩ : ∃ gi, w.heap.size + 1 = gi := ⟨_, rfl⟩
  rw [hgi] at HG
  have hgw : w.heap.size < gi := by omega
  have HC := Lib.hid oc
  have HG4 := Lib.hid (HG.out.below b4 (by omega))
  have HA4 := Lib.hid (HA.out.below b4 (by omega))
  have HB4 := Lib.hid (HBB.out.trans (b4.mono (by omega)))
  have hgc2 : gi < gc := by omega
  have hs4 := b4.size
  rw [hgi]
  clear hgi oc b4 HG HA HBB hgc
  go_wp2
  go_loopw [5] (fun i wr => ∃ k : Nat, i = .int .i64 k ∧ k ≤ n ∧ Ob wr gi m (flgC (inF n P m (fl (rts n P m) k))) ∧ Ob wr gc n (tabC (cmp n P m n)) ∧ Ob wr w.heap.size 2 (bx (.slice p0 n c0) (.slice p1 m c1)) ∧ Below w.heap.size w wr) (fun i _ => n - (intOf i).toNat)
  case atStart => exact ⟨0, rfl, Nat.zero_le _, HG4.out, HC.out, HA4.out, HB4.out⟩
  case round =>
    obtain ⟨k, rfl, hk, hg, hc, ha, hb⟩ := hrel
    clear HG4 HC HA4 HB4
    have HG := Lib.hid hg
    have HC := Lib.hid hc
    have HA := Lib.hid ha
    have HBB := Lib.hid hb
    have lg := hg.lt
    have lc := hc.lt
    have la := ha.lt
    clear hg hc ha hb
    have k0 : (0 : Int) ≤ (k : Int) := Int.natCast_nonneg _
    generalize hQ : Exit.then _ _ = Q
    have HQ := Lib.hid hQ
    clear hQ
    by_cases hlt : k < n
    · have k1 : (k : Int) < (n : Int) := by omega
      have y0 : wr.cell? ⟨gc, k, none⟩ = some (.int .i64 (cmp n P m n k)) := HC.out.cell k hlt
      have HRE := Lib.hid (rts_eq n P m k)
      cases hr : rts n P m k
      · have hb1 : (cmp n P m n k != ((k : Nat) : Int)) = true := by
          have := HRE.out
          rw [hr, beq_eq_false_iff_ne] at this
          simpa using fun e => this e.symm
        have HR := Lib.hid (fl_no hr)
        clear hr
        go_wp2
        rw [← HQ.out]
        refine ⟨⟨_, _, _, _, _, _, _, _, _, _, _, _, _, _, _, _, _, _, _, _, _, _, _, _, _, _, _, _, _, _, _, _, _, _, _, _, _, _, _, ?rel, rfl⟩, ?measure⟩
        case rel => exact ⟨k + 1, by go_num, hlt, by rw [HR.out]; exact HG.out, HC.out, HA.out, HBB.out⟩
        case measure => simp [intOf]; omega
      · have hce : cmp n P m n k = ((k : Nat) : Int) := by
          have := HRE.out
          rw [hr, beq_iff_eq] at this
          exact this.symm
        have hb1 : (cmp n P m n k != ((k : Nat) : Int)) = false := by simp [hce]
        have HR := Lib.hid (fl_yes hr)
        have y1 : wr.cell? ⟨w.heap.size, 0, none⟩ = some (.slice p0 n c0) := HA.out.b0
        have y2 : wr.cell? ⟨w.heap.size, 1, none⟩ = some (.slice p1 m c1) := HA.out.b1
        clear hr hce
        go_wp2_with fail
        refine (l04Search_any _ _ n N m P lo hi (HV.out.below HBB.out hhi) (by omega) HN.out HB.out k hlt).mono ?_
        rintro e w5 ⟨v2, g2, rfl, oe, oo, hg2, b5⟩
        have ok := HOK.out k hlt
        have HENR := Lib.hid (fun y => ok.en_rng y)
        have HALL := Lib.hid (fun c => ok.inE_all c)
        have HSN := Lib.hid (fun c => inF_snoc n P m (fl (rts n P m) k) k c)
        generalize hq : vis n P m ((k : Nat) : Int) = fs at *
        obtain ⟨ge, hge⟩ : ∃ ge, wr.heap.size + 1 = ge := ⟨_, rfl⟩
        rw [hge] at oe
        rw [hge]
        have hgne : gi < ge := by omega
        have HG5 := Lib.hid ((HG.out.below b5 lg).congr (e := flgC (fun a => inF n P m (fl (rts n P m) k) a || inE fs 0 a)) (fun j hj => by unfold flgC; simp [inE]))
        have HC5 := Lib.hid (HC.out.below b5 lc)
        have HA5 := Lib.hid (HA.out.below b5 la)
        have HB5 := Lib.hid (HBB.out.trans (b5.mono (by omega)))
        have HE5 := Lib.hid oe
        clear hq oe oo b5 y0 y1 y2 ok hge
        go_wp2
        go_loopw [8] (fun i wr => ∃ j : Nat, i = .int .i64 j ∧ j ≤ n ∧ Ob wr gi m (flgC (fun a => inF n P m (fl (rts n P m) k) a || inE fs j a)) ∧ Ob wr ge n (tabC (vval (·.en) fs)) ∧ Ob wr gc n (tabC (cmp n P m n)) ∧ Ob wr w.heap.size 2 (bx (.slice p0 n c0) (.slice p1 m c1)) ∧ Below w.heap.size w wr) (fun i _ => n - (intOf i).toNat)
        case atStart => exact ⟨0, rfl, Nat.zero_le _, HG5.out, HE5.out, HC5.out, HA5.out, HB5.out⟩
        case round =>
          clear HG5 HE5 HC5 HA5 HB5 HG HC HA HBB lg lc la
          obtain ⟨j, rfl, hj, hg, he, hc, ha, hb⟩ := hrel
          have HG := Lib.hid hg
          have HE := Lib.hid he
          have HC := Lib.hid hc
          have HA := Lib.hid ha
          have HBB := Lib.hid hb
          clear hg he hc ha hb
          have j0 : (0 : Int) ≤ (j : Int) := Int.natCast_nonneg _
          generalize hQ3 : Exit.then _ _ = Q3
          have HQ3 := Lib.hid hQ3
          clear hQ3
          by_cases hjl : j < n
          · have j1 : (j : Int) < (n : Int) := by omega
            have y0 : wr.cell? ⟨ge, j, none⟩ = some (.int .i64 (vval (·.en) fs ((j : Nat) : Int))) := HE.out.cell j hjl
            have HIS := Lib.hid (fun c => inE_succ fs j c)
            rcases HENR.out ((j : Nat) : Int) with hen | ⟨c, hcm, hen⟩
            · rw [hen] at y0
              have HG6 := Lib.hid (HG.out.congr (e := flgC (fun a => inF n P m (fl (rts n P m) k) a || inE fs (j + 1) a)) (fun a ha => by
                show Value.bool (inF n P m (fl (rts n P m) k) a || inE fs j a) = Value.bool (inF n P m (fl (rts n P m) k) a || inE fs (j + 1) a)
                have h3 : ((-1 : Int) == ((a : Nat) : Int)) = false := by rw [beq_eq_false_iff_ne]; omega
                rw [HIS.out a, hen, h3, Bool.or_false]))
              clear hen
              go_wp2
              rw [← HQ3.out]
              refine ⟨⟨_, _, _, _, _, _, _, _, _, _, _, _, _, _, _, _, _, _, ?rel, rfl⟩, ?measure⟩
              case rel => exact ⟨j + 1, by go_num, hjl, HG6.out, HE.out, HC.out, HA.out, HBB.out⟩
              case measure => simp [intOf]; omega
            · rw [hen] at y0
              have y1 : wr.cell? ⟨gi, c, none⟩ = some (flgC (fun a => inF n P m (fl (rts n P m) k) a || inE fs j a) c) := HG.out.cell c hcm
              have y2 : wr.frozen? ⟨gi, c, none⟩ = false := HG.out.free c
              have z0 : (0 : Int) ≤ (c : Int) := Int.natCast_nonneg _
              have z1 : (c : Int) < (m : Int) := by omega
              have o1 := (Only.refl gi wr).setCell c (.bool true)
              have HG6 := Lib.hid (flgC_set (q := fun a => inF n P m (fl (rts n P m) k) a || inE fs (j + 1) a) HG.out c hcm (fun a => by
                have h3 : (((c : Nat) : Int) == ((a : Nat) : Int)) = (c == a) := by rw [Bool.eq_iff_iff]; simp only [beq_iff_eq]; omega
                show (_ || inE fs (j + 1) a) = _
                rw [HIS.out a, hen, h3, Bool.or_assoc]))
              clear hen
              go_wp2
              rw [← HQ3.out]
              refine ⟨⟨_, _, _, _, _, _, _, _, _, _, _, _, _, _, _, _, _, _, ?rel, rfl⟩, ?measure⟩
              case rel => exact ⟨j + 1, by go_num, hjl, HG6.out, HE.out.only o1 (by omega), HC.out.only o1 (by omega), HA.out.only o1 (by omega), HBB.out.trans (o1.below (by omega))⟩
              case measure => simp [intOf]; omega
          · have hjn : j = n := by omega
            subst hjn
            have j1 : ¬ ((j : Int) < (j : Int)) := by omega
            have HG6 := Lib.hid (HG.out.congr (e := flgC (inF j P m (fl (rts j P m) (k + 1)))) (fun a ha => by
              show Value.bool (inF j P m (fl (rts j P m) k) a || inE fs j a) = Value.bool (inF j P m (fl (rts j P m) (k + 1)) a)
              rw [HR.out, HSN.out a, HALL.out a]))
            go_wp2
            rw [← HQ3.out]
            go_wp2
            rw [← HQ.out]
            refine ⟨⟨_, _, _, _, _, _, _, _, _, _, _, _, _, _, _, _, _, _, _, _, _, _, _, _, _, _, _, _, _, _, _, _, _, _, _, _, _, _, _, ?rel, rfl⟩, ?measure⟩
            case rel => exact ⟨k + 1, by go_num, hlt, HG6.out, HC.out, HA.out, HBB.out⟩
            case measure => simp [intOf]; omega
    · have hkn : n = k := by omega
      subst hkn
      have k1 : ¬ ((n : Int) < (n : Int)) := by omega
      have HFL := Lib.hid (forest_len n P m)
      have HFD := Lib.hid (fun k hk => forest_lD n P m k hk)
      generalize hp : inF n P m (fl (rts n P m) n) = p at *
      have HO := Lib.hid (Own.nilled wr (fd p 0))
      have HG6 := Lib.hid (HG.out.keep (Below.heap_alloc wr (.cells #[] 2) _ lg))
      have HB6 : Hid (Below w.heap.size w (wr.alloc (.cells #[] 2))) := Lib.hid (below_alloc HBB.out (by omega) _)
      clear hp HG HC HA HBB
      go_wp2
      rw [← HQ.out]
      go_wp2
      generalize hW6 : wr.alloc (.cells #[] 2) = w6 at *
      clear hW6
      go_loopw [9, 10] (fun ov iv wr => ∃ (k g : Nat) (ov' : Value), ov' = ov ∧ iv = .int .i64 k ∧ k ≤ m ∧ Own wr ov' (fl p k).length (fd p k) g ∧ w.heap.size ≤ g ∧ g ≠ gi ∧ Ob wr gi m (flgC p) ∧ Below w.heap.size w wr) (fun _ iv _ => m - (intOf iv).toNat)
      case atStart => exact ⟨0, _, _, rfl, rfl, Nat.zero_le _, HO.out, by omega, by omega, HG6.out, HB6.out⟩
      case round =>
        obtain ⟨k, g, ov, rfl, rfl, hk, ho, hgg, hne, hg, hb⟩ := hrel
        obtain ⟨co, rfl⟩ := ho.shape
        clear HO HG6 HB6 lg lc la k0 k1
        have HO := Lib.hid ho
        have HG := Lib.hid hg
        have HBB := Lib.hid hb
        have lo := ho.lt
        have lg := hg.lt
        clear ho hg hb
        have k0 : (0 : Int) ≤ (k : Int) := Int.natCast_nonneg _
        generalize hQ3 : Exit.then _ _ = Q3
        have HQ3 := Lib.hid hQ3
        clear hQ3
        by_cases hlt : k < m
        · have k1 : (k : Int) < (m : Int) := by omega
          have y0 : wr.cell? ⟨gi, k, none⟩ = some (.bool (p k)) := HG.out.cell k hlt
          cases hp : p k
          · rw [hp] at y0
            have HP := Lib.hid hp
            clear hp
            go_wp2
            rw [← HQ3.out]
            refine ⟨⟨_, _, _, _, _, _, _, _, _, _, _, _, _, _, _, _, ?rel, rfl⟩, ?measure⟩
            case rel => exact ⟨k + 1, g, _, rfl, by go_num, hlt, fl_keep HP.out HO.out, hgg, hne, HG.out, HBB.out⟩
            case measure => simp [intOf]; omega
          · rw [hp] at y0
            have HP := Lib.hid hp
            clear hp
            obtain ⟨v7, w7, g7, hr, ap⟩ := coll_run wr _ p k g HO.out (by omega)
            have Y := Lib.hid (coll_below ap (B := w.heap.size) hgg lo)
            have O7 := Lib.hid (fl_app HP.out ap)
            have hoth := ap.other (c := gi) (by omega) (by rw [szal]; omega)
            have HG7 := Lib.hid ((HG.out.keep (Below.heap_alloc _ (.cells #[.int .i64 (k : Nat)] 2) _ lg)).keep hoth.1)
            have hne7 := hoth.2
            have hg7 := Y.out.2.1
            clear ap hoth
            go_wp2_with (at_builtin; refine wpList_app hr rfl _ _ rfl rfl rfl rfl ?_)
            rw [← HQ3.out]
            refine ⟨⟨_, _, _, _, _, _, _, _, _, _, _, _, _, _, _, _, ?rel, rfl⟩, ?measure⟩
            case rel => exact ⟨k + 1, g7, _, rfl, by go_num, hlt, O7.out, hg7, fun e => hne7 e.symm, HG7.out, HBB.out.trans Y.out.1⟩
            case measure => simp [intOf]; omega
        · have hkn : m = k := by omega
          subst hkn
          have k1 : ¬ ((m : Int) < (m : Int)) := by omega
          go_wp2
          rw [← HQ3.out]
          go_wp2
          go_ret
          refine ⟨_, g, rfl, hgg, ?_, HBB.out⟩
          rw [HFL.out]
          exact HO.out.congr (fun k hk => HFD.out k hk)
set_option maxRecDepth 100000 in
set_option maxHeartbeats 4000000 in
theorem spanningForestS_any (w : World) (v : Value) (n : Nat) (N : Nat → Nod) (m : Nat) (P : Nat → Pip) (lo hi : Nat) (h : NetAt w v n N m P lo hi) (hhi : hi ≤ w.heap.size) (hN : ∀ i, i < n → (N i).s.size ≤ 9223372036854775807) :
    Calls Try.prog 37 #[v] w (LIPost w (foN n N m P) (lD (forest n P m)) (cmC (netB n N m P))) := by
  obtain ⟨p0, c0, p1, c1, rfl, hn9, hm9⟩ := h.parts
  have HV := Lib.hid h
  have HN := Lib.hid hN
  have A0 := boxed w (.slice p0 n c0) (.slice p1 m c1) 30
  have B0 := below_new w (.cells #[.slice p0 n c0, .slice p1 m c1] 30)
  have hs0 : (w.alloc (.cells #[.slice p0 n c0, .slice p1 m c1] 30)).heap.size = w.heap.size + 1 := by simp
  clear h hN
  go_enter Try.func37, Try.ntmps37
  go_wp2_with fail
  refine (sIsNetwork_any _ _ n N m P lo hi (HV.out.below B0 hhi) (by omega) HN.out).mono ?_
  rintro e w2 ⟨rfl, b2⟩
  have A2 := A0.below b2 (by omega)
  have B2 := B0.trans (b2.mono (by omega))
  have hs2 := b2.size
  have e0 := A2.b0
  have e1 := A2.b1
  have e2 : w.heap.size < w2.heap.size := by omega
  clear A0 B0 b2
  cases hB : netB n N m P
  · have H2 := Lib.hid (show foN n N m P = 0 by unfold foN; rw [hB]; rfl)
    have H3 := Lib.hid (show cmC (netB n N m P) = 1 by rw [hB]; rfl)
    clear hB
    go_wp2_with fail
    go_ret2
    exact li_err H2.out H3.out.symm rfl B2
  · have H2 := Lib.hid (show foN n N m P = (forest n P m).length by unfold foN; rw [hB]; rfl)
    have H3 := Lib.hid (show cmC (netB n N m P) = 0 by rw [hB]; rfl)
    have HB := Lib.hid hB
    have hn24 := (net_sz hB).2.1
    clear hB
    go_wp2_with fail
    refine (l04Forest_any _ _ n N m P lo hi (HV.out.below B2 hhi) (by omega) HN.out HB.out).mono ?_
    rintro e w3 ⟨v2, g, rfl, hg, ot, b3⟩
    have B3 := B2.trans (b3.mono (by omega))
    clear b3
    go_wp2_with fail
    go_ret2
    exact li_ok H2.out.symm (by rw [H3.out]; rfl) ot (by omega) B3
theorem foN_le (n : Nat) (N : Nat → Nod) (m : Nat) (P : Nat → Pip) (hm : m ≤ 2000000) : foN n N m P ≤ 2000000 := by
  have := forest_le n P m
  unfold foN
  split <;> omega
theorem agreeSpanningForest (n : Nat) (N : Nat → Nod) (m : Nat) (P : Nat → Pip) (hN : ∀ i, i < n → (N i).s.size ≤ 9223372036854775807) (_hn : n ≤ 2000000) (hm : m ≤ 2000000) :
    ∃ rn rd rc, rn ≤ 2000000 ∧ (∀ w v, NetAt w v n N m P 0 w.heap.size → Calls Try.prog 38 #[v] w (LIPost w rn rd rc)) ∧ (∀ w v, NetAt w v n N m P 0 w.heap.size → Calls Try.prog 37 #[v] w (LIPost w rn rd rc)) :=
  ⟨foN n N m P, lD (forest n P m), cmC (netB n N m P), foN_le n N m P hm, fun w v h => spanningForestI_any w v n N m P 0 _ h (Nat.le_refl _) hN, fun w v h => spanningForestS_any w v n N m P 0 _ h (Nat.le_refl _) hN⟩
end Go.Proofs.Ytjjjdahegcjmaaa.mem
