/-
  The program's DropOf and DropsOf. Conditions: as each states.
-/
import Derived.Test.YtlcegdamjbpfpaaGreatRows
import Derived.Test.YtlcegdamjbpfpaaGreatLvf
import Derived.Test.YtlcegdamjbpfpaaGreatLvd
namespace Go.Proofs.YtlcegdamjbpfpaaGreat.mem
open Go.RowKit
set_option linter.unusedVariables false

set_option maxRecDepth 100000 in
set_option maxHeartbeats 8000000 in
theorem dropsOfI_any (w : World) (v : Value) (n : Nat) (N : Nat → Nod) (m : Nat) (P : Nat → Pip) (lo hi : Nat) (h : NetAt w v n N m P lo hi) (hhi : hi ≤ w.heap.size) (hN : ∀ i, i < n → (N i).s.size ≤ 9223372036854775807) (va : Value) (K : Nat) (d : Nat → Int) (la ha : Nat) (hv : Sl w va K d la ha) (hha : ha ≤ w.heap.size) (hK9 : K ≤ 9223372036854775807) :
    Calls Tryz.prog 22 #[v, va] w (LIPost w (dsN n N m P K d) (fun i => drp (P i) (d i)) (flC n N m P K d)) := by
  obtain ⟨p0, c0, p1, c1, rfl, hn9, hm9⟩ := h.parts
  have HV := Lib.hid h
  have HN := Lib.hid hN
  obtain ⟨pa, ca, rfl⟩ := hv.sh
  have HSV := Lib.hid hv
  have A0 := (boxed w (.slice p0 n c0) (.slice p1 m c1) 33).keep (Below.heap_alloc _ (.cells #[.slice pa K ca] 26) _ (by rw [szal]; omega))
  have B0 := (below_new w (.cells #[.slice p0 n c0, .slice p1 m c1] 33)).trans ((below_new _ (.cells #[.slice pa K ca] 26)).mono (by rw [szal]; omega))
  have hs0 : ((w.alloc (.cells #[.slice p0 n c0, .slice p1 m c1] 33)).alloc (.cells #[.slice pa K ca] 26)).heap.size = w.heap.size + 1 + 1 := by simp
  have y0' := cell_newV (w.alloc (.cells #[.slice p0 n c0, .slice p1 m c1] 33)) (.slice pa K ca) 26
  simp only [szal] at y0'
  clear h hN hv
  go_enter Tryz.func22, Tryz.ntmps22
  have e0 := A0.b0
  have e1 := A0.b1
  go_wp2_with fail
  refine (checkFlows_any _ _ n N m P lo hi (HV.out.below B0 hhi) (by omega) HN.out _ _ y0' (by omega) K d la ha (HSV.out.below B0 hha) (by omega) hK9).mono ?_
  rintro e w1 ⟨rfl, b1⟩
  have A1 := A0.below b1 (by omega)
  have B1 := B0.trans (b1.mono (by omega))
  have hs1 := b1.size
  have f2 : w.heap.size < w1.heap.size := by omega
  clear A0 B0 b1 e0 e1 hs0 y0' hs1
  have e0 := A1.b0
  have e1 := A1.b1
  by_cases hc : flC n N m P K d = 0
  · obtain ⟨hB, rfl, hf⟩ := flC_ok hc
    obtain ⟨hn1, hn24, hm40⟩ := net_sz hB
    have HFC := Lib.hid hc
    have HFR := Lib.hid (flB_rng hf)
    have H3 := Lib.hid (show dsN n N K P K d = K by unfold dsN; rw [if_pos hc])
    rw [hc]
    clear hc hf
    have mk1 := fun W => make_int64 W K (by omega)
    have zs : (zeros K).size = K := by unfold zeros; simp [madeCells]
    have m0 : (0 : Int) ≤ (K : Int) := Int.natCast_nonneg _
    have HB := Lib.hid hB
    clear hB
    go_wp2_with fail
    have O2 := Own.made2 w1 K (by omega)
    have b2 := below_new w1 (.cells (zeros K) 2)
    have HB2 := Lib.hid (B1.trans (b2.mono (by omega)))
    have HO2 := Lib.hid O2
    have hs2 : (w1.alloc (.cells (zeros K) 2)).heap.size = w1.heap.size + 1 := by simp
    obtain ⟨g, hg⟩ : ∃ g, w1.heap.size = g := ⟨_, rfl⟩
    obtain ⟨w2, hw2⟩ : ∃ w2, w1.alloc (.cells (zeros K) 2) = w2 := ⟨_, rfl⟩
    rw [hw2] at HB2 HO2 hs2 ⊢
    rw [hg] at HO2 ⊢
    have hg1 := Nat.le_antisymm_iff.1 hg
    clear hw2 hg O2 b2 A1 B1 e0 e1 mk1
    go_loopw [24] (fun iv wr => ∃ (k : Nat) (x : Nat → Int), iv = .int .i64 k ∧ k ≤ K ∧ Own wr (.slice (some ⟨g, 0, none⟩) K K) K x g ∧ (∀ j, j < k → x j = drp (P j) (d j)) ∧ Below w.heap.size w wr) (fun iv _ => K - (intOf iv).toNat)
    case atStart => exact ⟨0, _, rfl, Nat.zero_le _, HO2.out, fun j hj => by omega, HB2.out⟩
    case round =>
      obtain ⟨k, x, rfl, hk, ho, hx, hb⟩ := hrel
      clear HO2 HB2
      have HO := Lib.hid ho
      have HBB := Lib.hid hb
      have HXX := Lib.hid hx
      have hsz := hb.size
      have lg := ho.lt
      clear ho hb hx
      have k0 : (0 : Int) ≤ (k : Int) := Int.natCast_nonneg _
      generalize hQ : Exit.then _ _ = Q
      have HQ := Lib.hid hQ
      clear hQ
      by_cases hlt : k < K
      · have k1 : (k : Int) < (K : Int) := by omega
        obtain ⟨bp, op, rfl, z1, z2, r0, r1, r2, r3, r4⟩ := (HV.out.below HBB.out hhi).pipe hlt
        obtain ⟨p', c', ee, hxx⟩ := (HSV.out.below HBB.out hha).ex
        injection ee with ee1 _ ee3
        subst ee1 ee3
        obtain ⟨ba, oa, rfl, t1, t2, hxx⟩ : ∃ b o, pa = some ⟨b, o, none⟩ ∧ la ≤ b ∧ b < ha ∧ ∀ k, k < K → wr.cell? ⟨b, o + k, none⟩ = some (.int .i64 (d k)) := by
          rcases hxx with e | e
          · omega
          · exact e
        have yd := hxx k hlt
        obtain ⟨x0, x1⟩ := HFR.out k hlt
        have P5 := boxedP wr (P k) 48
        have b5 := below_new wr (.cells #[.int .i64 (P k).f, .int .i64 (P k).t, .int .i64 (P k).k, .int .i64 (P k).v, .int .i64 (P k).l] 48)
        have hs5 : (wr.alloc (.cells #[.int .i64 (P k).f, .int .i64 (P k).t, .int .i64 (P k).k, .int .i64 (P k).v, .int .i64 (P k).l] 48)).heap.size = wr.heap.size + 1 := by simp
        have HP5 := Lib.hid P5
        have HB5 := Lib.hid b5
        have yd5 := (b5.cell (p := ⟨ba, oa + k, none⟩) (by show ba < _; omega)).trans yd
        have O5 := HO.out.keep (b5.block g lg)
        clear hxx P5 b5 yd
        go_wp2_with fail
        obtain ⟨w5, hw5⟩ : ∃ w5, wr.alloc (.cells #[.int .i64 (P k).f, .int .i64 (P k).t, .int .i64 (P k).k, .int .i64 (P k).v, .int .i64 (P k).l] 48) = w5 := ⟨_, rfl⟩
        rw [hw5] at HP5 HB5 hs5 yd5 O5 ⊢
        clear hw5 r0 r1 r2 r3 r4
        have c0' := HP5.out.cell 0 (by omega)
        have c1' := HP5.out.cell 1 (by omega)
        have c2' := HP5.out.cell 2 (by omega)
        have c3' := HP5.out.cell 3 (by omega)
        have c4' := HP5.out.cell 4 (by omega)
        have hpg : wr.heap.size ≠ g := by omega
        have hpl : wr.heap.size < w5.heap.size := by omega
        have hbg : ba ≠ g := by omega
        have hbl : ba < w5.heap.size := by omega
        have lg5 : g < w5.heap.size := by omega
        have HK : ∀ X : World, Upd (fun b => b = g) w5 X → X.cell? ⟨wr.heap.size, 0, none⟩ = some (.int .i64 (P k).f) ∧ X.cell? ⟨wr.heap.size, 1, none⟩ = some (.int .i64 (P k).t) ∧ X.cell? ⟨wr.heap.size, 2, none⟩ = some (.int .i64 (P k).k) ∧ X.cell? ⟨wr.heap.size, 3, none⟩ = some (.int .i64 (P k).v) ∧ X.cell? ⟨wr.heap.size, 4, none⟩ = some (.int .i64 (P k).l) ∧ X.cell? ⟨ba, oa + k, none⟩ = some (.int .i64 (d k)) := fun X h => ⟨(World.cell?_of_block (h.block wr.heap.size hpl hpg)).trans c0', (World.cell?_of_block (h.block wr.heap.size hpl hpg)).trans c1', (World.cell?_of_block (h.block wr.heap.size hpl hpg)).trans c2', (World.cell?_of_block (h.block wr.heap.size hpl hpg)).trans c3', (World.cell?_of_block (h.block wr.heap.size hpl hpg)).trans c4', (World.cell?_of_block (h.block ba hbl hbg)).trans yd5⟩
        have HO5 := Lib.hid O5
        have K0 : Below w5.heap.size w5 w5.drew := ⟨rfl, rfl, rfl, Nat.le_refl _, fun _ _ => rfl⟩
        clear O5 c0' c1' c2' c3' c4' yd5
        go_region_held3 (fun X : World => X.cell? ⟨wr.heap.size, 0, none⟩ = some (.int .i64 (P k).f) ∧ X.cell? ⟨wr.heap.size, 1, none⟩ = some (.int .i64 (P k).t) ∧ X.cell? ⟨wr.heap.size, 2, none⟩ = some (.int .i64 (P k).k) ∧ X.cell? ⟨wr.heap.size, 3, none⟩ = some (.int .i64 (P k).v) ∧ X.cell? ⟨wr.heap.size, 4, none⟩ = some (.int .i64 (P k).l) ∧ X.cell? ⟨ba, oa + k, none⟩ = some (.int .i64 (d k))) (first | exact HK _ KZ | exact HK _ (Upd.of_below (by assumption : Below w5.heap.size w5 _)))
          (first | (go_at_call 56; refine (dropFor_any (P k) (d k) _ n (net_pip HB.out hlt) x0 x1).mono ?_; rintro e wC ⟨rfl, hbC⟩; have SC : Below w5.heap.size w5 wC := Below.trans (by assumption : Below w5.heap.size w5 _) (hbC.mono (Below.size (by assumption : Below w5.heap.size w5 _))); have yg := (HO5.out.keep (SC.block g lg5)).row.cell k hlt; have yz := (HO5.out.keep (SC.block g lg5)).fre2 k; have KZ : Upd (fun b => b = g) w5 (wC.setCell ⟨g, k, none⟩ (.int .i64 (drp (P k) (d k)))) := (Upd.of_below SC).trans (Upd.of_only ((Only.refl g wC).setCell k _)); clear hbC))
        all_goals
          have HO7 := Lib.hid ((HO5.out.keep (SC.block g lg5)).put2 k (drp (P k) (d k)) hlt)
          have HB7 := Lib.hid (HBB.out.trans ((HB5.out.mono hsz).trans (KZ.below (by omega) (fun q _ hq => by omega))))
          clear KZ SC HK yg yz
          go_wp2_with fail
          rw [← HQ.out]
          refine ⟨⟨_, _, _, _, _, _, _, _, _, _, _, _, _, _, _, _, _, ?rel, rfl⟩, ?measure⟩
          case rel =>
            refine ⟨k + 1, _, by go_num, hlt, HO7.out, fun j hj => ?_, HB7.out⟩
            unfold upd
            by_cases e : j = k
            · subst e; rw [if_pos rfl]
            · rw [if_neg e]; exact HXX.out j (by omega)
          case measure => simp [intOf]; omega
      · have hkn : K = k := by omega
        subst hkn
        have k1 : ¬ ((K : Int) < (K : Int)) := by omega
        have HOF := Lib.hid (HO.out.congr (e := fun i => drp (P i) (d i)) HXX.out)
        go_wp2_with fail
        rw [← HQ.out]
        go_wp2_with fail
        go_ret2
        exact li_ok H3.out.symm (by rw [HFC.out]; rfl) HOF.out (by omega) HBB.out
  · have hb1 : (flC n N m P K d != 0) = true := by simpa using hc
    have H3 := Lib.hid (show dsN n N m P K d = 0 by unfold dsN; rw [if_neg hc])
    clear hc
    go_wp2_with fail
    go_ret2
    exact li_err H3.out rfl rfl B1
end Go.Proofs.YtlcegdamjbpfpaaGreat.mem
