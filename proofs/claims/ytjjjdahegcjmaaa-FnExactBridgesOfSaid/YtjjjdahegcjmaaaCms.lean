/-
  Components: the specification's table and count. Conditions: as each states.
-/
import Derived.Test.YtjjjdahegcjmaaaRows
import Derived.Test.YtjjjdahegcjmaaaCmr
import Derived.Test.YtjjjdahegcjmaaaDsd
namespace Go.Proofs.Ytjjjdahegcjmaaa.mem
open Go.RowKit
set_option linter.unusedVariables false

theorem cmpV_take {n : Nat} {P : Nat → Pip} {m k : Nat} {fs : List Vs} {j : Nat} {v : Vs} (h : fs[j]? = some v) : cmpV n P m k (fs.take (j + 1)) = fun y => if y = v.nd then (k : Int) else cmpV n P m k (fs.take j) y := by
  rw [take_one h]
  funext y
  exact cmpV_app n P m k _ v y

set_option maxRecDepth 100000 in
set_option maxHeartbeats 4000000 in
theorem l04Components_any (w : World) (v : Value) (n : Nat) (N : Nat → Nod) (m : Nat) (P : Nat → Pip) (lo hi : Nat) (h : NetAt w v n N m P lo hi) (hhi : hi ≤ w.heap.size) (hN : ∀ i, i < n → (N i).s.size ≤ 9223372036854775807) (hB : netB n N m P = true) :
    Calls Try.prog 75 #[v] w fun e w' => ∃ g, e = .returned (.slice (some ⟨g, 0, none⟩) n n) ∧ w.heap.size ≤ g ∧ Ob w' g n (tabC (cmp n P m n)) ∧ Below w.heap.size w w' := by
  obtain ⟨p0, c0, p1, c1, rfl, hn9, hm9⟩ := h.parts
  obtain ⟨hn1, hn24, hm40⟩ := net_sz hB
  have HV := Lib.hid h
  have HN := Lib.hid hN
  have HB := Lib.hid hB
  have A0 := boxed w (.slice p0 n c0) (.slice p1 m c1) 30
  have B0 := below_new w (.cells #[.slice p0 n c0, .slice p1 m c1] 30)
  have HOK := Lib.hid (fun (X0 : Nat) (hX : X0 < n) => vis_ok (P := P) (m := m) (x := ((X0 : Nat) : Int)) hB ⟨Int.natCast_nonneg _, by omega⟩)
  obtain ⟨w1, hw1⟩ : ∃ w1, w.alloc (.cells #[.slice p0 n c0, .slice p1 m c1] 30) = w1 := ⟨_, rfl⟩
  have hs1 : w1.heap.size = w.heap.size + 1 := by rw [← hw1]; simp
  rw [hw1] at A0 B0
  have O1 := ob_zeros w1 n 2
  obtain ⟨w2, hw2⟩ : ∃ w2, w1.alloc (.cells (zeros n) 2) = w2 := ⟨_, rfl⟩
  have hs2 : w2.heap.size = w.heap.size + 2 := by rw [← hw2]; simp [hs1]
  have b2 : Below w1.heap.size w1 w2 := by rw [← hw2]; exact below_new _ _
  rw [hw2] at O1
  rw [hs1] at O1
  have HA := Lib.hid (A0.below b2 (by omega))
  have HG := Lib.hid (O1.congr (e := fillC 0) (fun k hk => by unfold fillC; rw [if_neg (by omega)]))
  have HBB := Lib.hid (B0.trans (b2.mono (by omega)))
  have e0 : w1.cell? ⟨w.heap.size, 0, none⟩ = some (.slice p0 n c0) := A0.b0
  have e1 : w.heap.size < w1.heap.size := by omega
  have m1 := fun W => make_int64 W n (by omega)
  clear h hN hB A0 B0 O1 b2 hs1
  subst hw2 hw1
  go_enter Try.func75, Try.ntmps75
  go_wp2
  generalize hW : (w.alloc (Obj.cells #[Value.slice p0 n c0, Value.slice p1 m c1] 30)).alloc (Obj.cells (zeros n) 2) = w3 at *
  clear hW e0 e1 m1
  obtain ⟨g, hgg⟩ : ∃ g, g = w.heap.size + 1 := ⟨_, rfl⟩
  have hgw : w.heap.size < g := by omega
  rw [← hgg] at HG
  rw [← hgg]
  clear hgg
  go_loopw [4] (fun i wr => ∃ k : Nat, i = .int .i64 k ∧ k ≤ n ∧ Ob wr g n (fillC k) ∧ Ob wr w.heap.size 2 (bx (.slice p0 n c0) (.slice p1 m c1)) ∧ Below w.heap.size w wr) (fun i _ => n - (intOf i).toNat)
  case atStart => exact ⟨0, rfl, Nat.zero_le _, HG.out, HA.out, HBB.out⟩
  case round =>
    obtain ⟨k, rfl, hk, he, hbx, hbl⟩ := hrel
    clear HA HG HBB
    have HG := Lib.hid he
    have HA := Lib.hid hbx
    have HBB := Lib.hid hbl
    clear he hbx hbl
    have i0 : (0 : Int) ≤ (k : Int) := Int.natCast_nonneg _
    generalize hQ : Exit.then _ _ = Q
    have HQ := Lib.hid hQ
    clear hQ
    by_cases hlt : k < n
    · have j0 : (k : Int) < (n : Int) := by omega
      have y0 : wr.cell? ⟨g, k, none⟩ = some (fillC k k) := HG.out.cell k hlt
      have y1 : wr.frozen? ⟨g, k, none⟩ = false := HG.out.free k
      have o1 := (Only.refl g wr).setCell k (.int .i64 (-1))
      go_wp2
      rw [← HQ.out]
      refine ⟨⟨_, _, _, _, _, _, _, _, _, _, ?rel, rfl⟩, ?measure⟩
      case rel => exact ⟨k + 1, by go_num, hlt, fill_set HG.out hlt, HA.out.only o1 (by omega), HBB.out.trans (o1.below (by omega))⟩
      case measure => simp [intOf]; omega
    · have hkn : n = k := by omega
      subst hkn
      have j0 : ¬ ((n : Int) < (n : Int)) := by omega
      go_wp2
      rw [← HQ.out]
      go_wp2
      have HT := Lib.hid (HG.out.congr (e := tabC (cmp n P m 0)) (fun j hj => by unfold fillC tabC; rw [if_pos hj]; rfl))
      clear HG j0 i0
      have hbw := HBB.out.size
      have hgl := HT.out.lt
      go_loopw [5] (fun i wr => ∃ k : Nat, i = .int .i64 k ∧ k ≤ n ∧ Ob wr g n (tabC (cmp n P m k)) ∧ Ob wr w.heap.size 2 (bx (.slice p0 n c0) (.slice p1 m c1)) ∧ Below w.heap.size w wr) (fun i _ => n - (intOf i).toNat)
      case atStart => exact ⟨0, rfl, Nat.zero_le _, HT.out, HA.out, HBB.out⟩
      case round =>
        clear HT HA HBB hbw hgl
        obtain ⟨k, rfl, hk, ht, ha, hb⟩ := hrel
        have HT := Lib.hid ht
        have HA := Lib.hid ha
        have HBB := Lib.hid hb
        have hgl := ht.lt
        have law := ha.lt
        clear ht ha hb
        have k0 : (0 : Int) ≤ (k : Int) := Int.natCast_nonneg _
        generalize hQ2 : Exit.then _ _ = Q2
        have HQ2 := Lib.hid hQ2
        clear hQ2
        by_cases hlt : k < n
        · have k1 : (k : Int) < (n : Int) := by omega
          have y0 : wr.cell? ⟨g, k, none⟩ = some (.int .i64 (cmp n P m k k)) := HT.out.cell k hlt
          have y1 : wr.cell? ⟨w.heap.size, 0, none⟩ = some (.slice p0 n c0) := HA.out.b0
          have y2 : wr.cell? ⟨w.heap.size, 1, none⟩ = some (.slice p1 m c1) := HA.out.b1
          have hrg := cmp_rng n P m k k
          by_cases hc : cmp n P m k k = -1
          · have hcb : ¬ (0 ≤ cmp n P m k k) := by omega
            have HC := Lib.hid hc
            clear hc hrg
            go_wp2_with fail
            refine (l04Search_any _ _ n N m P lo hi (HV.out.below HBB.out hhi) (by omega) HN.out HB.out k hlt).mono ?_
            rintro e w5 ⟨v2, g2, rfl, oe, oo, hg2, b5⟩
            obtain ⟨ca, rfl⟩ := oo.shape
            have ok := HOK.out k hlt
            have HRND := Lib.hid (fun j v (hv : (vis n P m ((k : Nat) : Int))[j]? = some v) => ok.rng v (List.mem_of_getElem? hv))
            have hlen := ok.len
            have HALL := Lib.hid (cmpV_all (P := P) (m := m) HC.out)
            generalize hq : vis n P m ((k : Nat) : Int) = fs at *
            have HT5 := Lib.hid ((HT.out.below b5 hgl).congr (e := tabC (cmpV n P m k (fs.take 0))) (fun j hj => by unfold tabC; rw [List.take_zero, cmpV_nil]))
            have HA5 := Lib.hid (HA.out.below b5 law)
            have HB5 := Lib.hid (HBB.out.trans (b5.mono (by omega)))
            have HO5 := Lib.hid oo
            have hne2 : g2 ≠ g := by omega
            have hgw2 : w.heap.size < g2 := by omega
            clear hq oe oo b5 y0 y1 y2 ok
            go_wp2
            go_loopw [8] (fun i wr => ∃ j : Nat, i = .int .i64 j ∧ j ≤ fs.length ∧ Ob wr g n (tabC (cmpV n P m k (fs.take j))) ∧ Own wr (.slice (some ⟨g2, 0, none⟩) fs.length ca) fs.length (ordD fs) g2 ∧ Ob wr w.heap.size 2 (bx (.slice p0 n c0) (.slice p1 m c1)) ∧ Below w.heap.size w wr) (fun i _ => fs.length - (intOf i).toNat)
            case atStart => exact ⟨0, rfl, Nat.zero_le _, HT5.out, HO5.out, HA5.out, HB5.out⟩
            case round =>
              clear HT5 HO5 HA5 HB5 HT HA HBB hgl law
              obtain ⟨j, rfl, hj, ht, ho, ha, hb⟩ := hrel
              have HT := Lib.hid ht
              have HO := Lib.hid ho
              have HA := Lib.hid ha
              have HBB := Lib.hid hb
              clear ht ho ha hb
              have j0 : (0 : Int) ≤ (j : Int) := Int.natCast_nonneg _
              generalize hQ3 : Exit.then _ _ = Q3
              have HQ3 := Lib.hid hQ3
              clear hQ3
              by_cases hjl : j < fs.length
              · have j1 : (j : Int) < (fs.length : Int) := by omega
                obtain ⟨v, hv⟩ : ∃ v, fs[j]? = some v := ⟨_, List.getElem?_eq_getElem hjl⟩
                obtain ⟨hz0, hz1⟩ := HRND.out j v hv
                obtain ⟨Z, hZ⟩ := Int.eq_ofNat_of_zero_le hz0
                have hZn : Z < n := by omega
                have y0 : wr.cell? ⟨g2, j, none⟩ = some (.int .i64 (Z : Int)) := by
                  have := HO.out.row.cell j hjl
                  rwa [ordD_some hv, hZ] at this
                have y1 : wr.cell? ⟨g, Z, none⟩ = some (tabC (cmpV n P m k (fs.take j)) Z) := HT.out.cell Z hZn
                have y2 : wr.frozen? ⟨g, Z, none⟩ = false := HT.out.free Z
                have z0 : (0 : Int) ≤ (Z : Int) := Int.natCast_nonneg _
                have z1 : (Z : Int) < (n : Int) := by omega
                have ts := cmp_step HT.out hZ hZn
                have HTK := Lib.hid (take_one hv)
                rw [← HTK.out] at ts
                have o1 := (Only.refl g wr).setCell Z (.int .i64 (k : Nat))
                have HT6 := Lib.hid ts
                clear hZ hz0 hz1 hv ts
                go_wp2
                rw [← HQ3.out]
                refine ⟨⟨_, _, _, _, _, _, _, _, _, _, _, _, _, _, ?rel, rfl⟩, ?measure⟩
                case rel => exact ⟨j + 1, by go_num, hjl, HT6.out, HO.out.keep (o1.block _ hne2), HA.out.only o1 (by omega), HBB.out.trans (o1.below (by omega))⟩
                case measure => simp [intOf]; omega
              · have hjn : j = fs.length := by omega
                subst hjn
                have j1 : ¬ ((fs.length : Int) < (fs.length : Int)) := by omega
                have HT6 := HT.out
                rw [List.take_length, HALL.out] at HT6
                have HT7 := Lib.hid HT6
                clear HT6
                go_wp2
                rw [← HQ3.out]
                go_wp2
                rw [← HQ2.out]
                refine ⟨⟨_, _, _, _, _, _, _, _, _, _, _, _, _, _, _, _, _, _, _, _, _, _, _, _, _, _, _, _, _, _, _, _, _, _, ?rel, rfl⟩, ?measure⟩
                case rel => exact ⟨k + 1, by go_num, hlt, HT7.out, HA.out, HBB.out⟩
                case measure => simp [intOf]; omega
          · have hcb : 0 ≤ cmp n P m k k := by omega
            have HSK := Lib.hid (cmp_skip hc)
            clear hc hrg
            go_wp2
            rw [← HQ2.out]
            refine ⟨⟨_, _, _, _, _, _, _, _, _, _, _, _, _, _, _, _, _, _, _, _, _, _, _, _, _, _, _, _, _, _, _, _, _, _, ?rel, rfl⟩, ?measure⟩
            case rel => exact ⟨k + 1, by go_num, hlt, by rw [HSK.out]; exact HT.out, HA.out, HBB.out⟩
            case measure => simp [intOf]; omega
        · have hkn : n = k := by omega
          subst hkn
          have k1 : ¬ ((n : Int) < (n : Int)) := by omega
          go_wp2
          rw [← HQ2.out]
          go_wp2
          go_ret
          exact ⟨g, rfl, by omega, HT.out, HBB.out⟩
end Go.Proofs.Ytjjjdahegcjmaaa.mem
