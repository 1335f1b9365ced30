/-
  components: the table of least nodes, the program's. Conditions: as each states.
-/
import Derived.Test.YtjjjdahegcjmaaaRows
import Derived.Test.YtjjjdahegcjmaaaEnt
namespace Go.Proofs.Ytjjjdahegcjmaaa.mem
open Go.RowKit
set_option linter.unusedVariables false
attribute [local go_sem] Oper.semAt_some

/-- the marks that searches leave among the deferred calls -/
def marks (bs : List Nat) : List Deferred := bs.map fun b => { target := .collected b, args := #[] }
theorem leaves_marks {F : Fence} {n : Nat} {P : Program} {fn : Func} {tmps : Array Value} {R : Ending → World → Prop} {u : FrameMode} (hu : u ≠ .run) : ∀ (bs : List Nat) (w : World),
    (∀ b, b ∈ bs → w.heap[b]? = some (.deferred (some []))) → bs.Pairwise (· ≠ ·) → (∀ w', Upd (fun b => b ∈ bs) w w' → LeavesInM F n P fn tmps R [] u w') → LeavesInM F n P fn tmps R (marks bs) u w
  | [], w, _, _, h => h w (Upd.refl _ _)
  | b :: bs, w, hb, hd, h => by
    refine ⟨hu, .inl ⟨b, _, rfl, run_takeDeferred (hb b (by simp)), ?_⟩⟩
    rw [List.pairwise_cons] at hd
    refine leaves_marks hu bs _ (fun c hc => ?_) hd.2 (fun w' hw' => h w' ?_)
    · exact (World.putObj_heap_other (fun e => hd.1 c hc e.symm)).trans (hb c (by simp [hc]))
    · exact (Upd.putObj _ w b (.deferred none) (by simp)).trans (hw'.mono fun k _ hk => by simp [hk])

/-- while the visits from k come: the table, the boxes -/
def CmpI (n : Nat) (P : Nat → Pip) (m k g be bn : Nat) (v : Value) (v0 v1 : Value) (bs : List Nat) (w : World) (pre : List Vs) (Y : Nat → Prop) (A : World) : Prop :=
  Y = (fun b => b = g) ∧ Ob A g n (tabC (cmpV n P m k pre)) ∧ Ob A be 1 (fun _ => v) ∧ Ob A bn 1 (fun _ => .int .i64 (k : Nat)) ∧ Ob A w.heap.size 2 (bx v0 v1) ∧ (∀ b, b ∈ bs → A.heap[b]? = some (.deferred (some []))) ∧ Below w.heap.size w A
theorem CmpI.upd {n : Nat} {P : Nat → Pip} {m k g be bn : Nat} {v v0 v1 : Value} {bs : List Nat} {w : World} {pre : List Vs} {Y X : Nat → Prop} {A B : World} (h : CmpI n P m k g be bn v v0 v1 bs w pre Y A) (u : Upd X A B) (hg : ¬ X g) (hb : ¬ X be) (hn : ¬ X bn) (h0 : ¬ X w.heap.size) (hbs : ∀ b, b ∈ bs → ¬ X b) (hX : ∀ k, X k → w.heap.size ≤ k) : CmpI n P m k g be bn v v0 v1 bs w pre Y B := by
  obtain ⟨h1, h2, h3, h4, h5, h6, h7⟩ := h
  refine ⟨h1, h2.keep (u.block _ h2.lt hg), h3.keep (u.block _ h3.lt hb), h4.keep (u.block _ h4.lt hn), h5.keep (u.block _ h5.lt h0), fun b hb2 => ?_, h7.trans (u.below h7.size (fun k _ hk => hX k hk))⟩
  have := h6 b hb2
  exact (u.block b (Array.getElem?_eq_some_iff.1 this).1 (hbs b hb2)).trans this
theorem cmp_step {A : World} {g n : Nat} {P : Nat → Pip} {m k : Nat} {pre : List Vs} {u : Vs} {Z : Nat} (h : Ob A g n (tabC (cmpV n P m k pre))) (hZ : u.nd = ((Z : Nat) : Int)) (hn : Z < n) :
    Ob (A.setCell ⟨g, Z, none⟩ (.int .i64 (k : Nat))) g n (tabC (cmpV n P m k (pre ++ [u]))) := by
  refine (h.set Z _ hn).congr fun j hj => ?_
  unfold updV tabC
  rw [cmpV_app, hZ]
  by_cases e : j = Z
  · subst e; simp
  · rw [if_neg e, if_neg (by omega)]

set_option maxRecDepth 100000 in
set_option maxHeartbeats 4000000 in
theorem components_any (w : World) (v : Value) (n : Nat) (N : Nat → Nod) (m : Nat) (P : Nat → Pip) (lo hi : Nat) (h : NetAt w v n N m P lo hi) (hhi : hi ≤ w.heap.size) (hB : netB n N m P = true) :
    Calls Try.prog 77 #[v] w fun e w' => ∃ g, e = .returned (.slice (some ⟨g, 0, none⟩) n n) ∧ w.heap.size ≤ g ∧ Ob w' g n (tabC (cmp n P m n)) ∧ Below w.heap.size w w' := by
  obtain ⟨p0, c0, p1, c1, rfl, hn9, hm9⟩ := h.parts
  obtain ⟨hn1, hn24, hm40⟩ := net_sz hB
  have HV := Lib.hid h
  have HB := Lib.hid hB
  have A0 := boxed w (.slice p0 n c0) (.slice p1 m c1) 30
  have B0 := below_new w (.cells #[.slice p0 n c0, .slice p1 m c1] 30)
  have hs0 : (w.alloc (.cells #[.slice p0 n c0, .slice p1 m c1] 30)).heap.size = w.heap.size + 1 := by simp
  have HOK := Lib.hid (fun (X0 : Nat) (hX : X0 < n) => vis_ok (P := P) (m := m) (x := ((X0 : Nat) : Int)) hB ⟨Int.natCast_nonneg _, by omega⟩)
  clear h hB
  refine (callsIn_wide (n := 9)).1 (callsIn_of_wp_marks Try.func77 rfl trivial ?_ rfl)
  simp only [Try.ntmps77, List.size_toArray, List.length_cons, List.length_nil, Nat.reduceAdd, Nat.reduceSub, Array.replicate_succ, Array.replicate_zero, List.push_toArray, List.append_toArray, List.nil_append, List.cons_append]
  gi_wp2
  refine ⟨trivial, (callsIn_wide.2 (unreached_any _ _ n N m P lo hi (HV.out.below B0 hhi) hn1 hn24)).mono ?_⟩
  rintro e w2 ⟨g, rfl, hg1, og, b2⟩
  have B2 := B0.trans (b2.mono (by omega))
  have A2 := A0.below b2 (by omega)
  have hs2 := b2.size
  have hg2 := og.lt
  have e0 := A2.b0
  have e2 : w.heap.size < w2.heap.size := by omega
  have A3 := A2.keep (Below.heap_alloc w2 (.cells #[.slice (some ⟨g, 0, none⟩) n n] 37) _ (by omega))
  have O3 := Ob.one w2 (.slice (some ⟨g, 0, none⟩) n n) 37
  have og3 := og.keep (Below.heap_alloc w2 (.cells #[.slice (some ⟨g, 0, none⟩) n n] 37) _ hg2)
  have B3 : Below w.heap.size w (w2.alloc (.cells #[.slice (some ⟨g, 0, none⟩) n n] 37)) := below_alloc B2 (by omega) _
  have HA := Lib.hid A3
  have HO := Lib.hid O3
  have HG := Lib.hid (og3.congr (e := tabC (cmp n P m 0)) fun k hk => rfl)
  have HBB := Lib.hid B3
  clear A3 O3 og3 B3 og B2 A0 B0 b2 A2
  gi_wp2
  have hs3 : (w2.alloc (.cells #[.slice (some ⟨g, 0, none⟩) n n] 37)).heap.size = w2.heap.size + 1 := by simp
  generalize hW : w2.alloc (.cells #[.slice (some ⟨g, 0, none⟩) n n] 37) = w3 at *
  clear hW e0
  refine wpIn_loop (fun a' w' => ∃ (k : Nat) (bs : List Nat) (u4 u12 u13 u14 u15 u16 u17 u18 u19 u20 u21 u28 : Value), a' = { tmps := #[.agg #[.slice p0 n c0, .slice p1 m c1], .pointer (some ⟨w.heap.size, 0, none⟩), .slice none 0 0, .pointer (some ⟨w2.heap.size, 0, none⟩), u4, undef, .agg #[.slice p0 n c0, .slice p1 m c1], .slice (some ⟨g, 0, none⟩) n n, .pointer (some ⟨w.heap.size, 0, none⟩), .slice p0 n c0, .int .i64 (n : Nat), .int .i64 (k : Nat), u12, u13, u14, u15, u16, u17, u18, u19, u20, u21, undef, undef, undef, undef, undef, undef, u28, undef], defers := marks bs } ∧ k ≤ n ∧ Ob w' g n (tabC (cmp n P m k)) ∧ Ob w' w2.heap.size 1 (fun _ => .slice (some ⟨g, 0, none⟩) n n) ∧ Ob w' w.heap.size 2 (bx (.slice p0 n c0) (.slice p1 m c1)) ∧ (∀ b, b ∈ bs → w'.heap[b]? = some (.deferred (some []))) ∧ (∀ b, b ∈ bs → w2.heap.size < b) ∧ bs.Pairwise (· ≠ ·) ∧ Below w.heap.size w w' ∧ w2.heap.size < w'.heap.size) (fun a' _ => n - (intOf (a'.tmps.getD 11 undef)).toNat) ?_ ?_
  · exact ⟨0, [], _, _, _, _, _, _, _, _, _, _, _, _, rfl, Nat.zero_le _, HG.out, HO.out, HA.out, by simp, by simp, by simp, HBB.out, by omega⟩
  · rintro a' wr ⟨k, bs, u4, u12, u13, u14, u15, u16, u17, u18, u19, u20, u21, u28, rfl, hk, og, ob, oa, hbs, hbg, hbd, hb, hsz⟩
    clear HA HO HG HBB
    have HG := Lib.hid og
    have HO := Lib.hid ob
    have HA := Lib.hid oa
    have HBS := Lib.hid hbs
    have HBG := Lib.hid hbg
    have HBD := Lib.hid hbd
    have HBB := Lib.hid hb
    clear og ob oa hbs hbg hbd hb
    dsimp only
    generalize hQ : Exit.then _ _ = Q
    have HQ := Lib.hid hQ
    clear hQ
    have k0 : (0 : Int) ≤ (k : Int) := Int.natCast_nonneg _
    have lg := HG.out.lt
    by_cases hlt : k < n
    · have k1 : (k : Int) < (n : Int) := by omega
      have o1 := HO.out.keep (Below.heap_alloc wr (.cells #[.int .i64 (k : Nat)] 2) _ HO.out.lt)
      have g1 := HG.out.keep (Below.heap_alloc wr (.cells #[.int .i64 (k : Nat)] 2) _ HG.out.lt)
      have a1 := HA.out.keep (Below.heap_alloc wr (.cells #[.int .i64 (k : Nat)] 2) _ HA.out.lt)
      have n1 := Ob.one wr (.int .i64 (k : Nat)) 2
      have s1 : ∀ b, b ∈ bs → (wr.alloc (.cells #[.int .i64 (k : Nat)] 2)).heap[b]? = some (.deferred (some [])) := fun b hb => (Below.heap_alloc wr (.cells #[.int .i64 (k : Nat)] 2) _ ((Array.getElem?_eq_some_iff.1 (HBS.out b hb)).1)).trans (HBS.out b hb)
      have b1 : Below w.heap.size w (wr.alloc (.cells #[.int .i64 (k : Nat)] 2)) := below_alloc HBB.out (by omega) _
      have hz1 : (wr.alloc (.cells #[.int .i64 (k : Nat)] 2)).heap.size = wr.heap.size + 1 := by simp
      obtain ⟨w4, hw4⟩ : ∃ w4, wr.alloc (.cells #[.int .i64 (k : Nat)] 2) = w4 := ⟨_, rfl⟩
      rw [hw4] at o1 g1 a1 n1 s1 b1 hz1
      have y0 : w4.cell? ⟨w2.heap.size, 0, none⟩ = some (.slice (some ⟨g, 0, none⟩) n n) := o1.cell 0 (by omega)
      have y1 : w4.cell? ⟨wr.heap.size, 0, none⟩ = some (.int .i64 (k : Nat)) := n1.cell 0 (by omega)
      have y2 : w4.cell? ⟨g, k, none⟩ = some (.int .i64 (cmp n P m k k)) := g1.cell k hlt
      have y3 : w4.cell? ⟨w.heap.size, 0, none⟩ = some (.slice p0 n c0) := a1.b0
      have y4 : w4.cell? ⟨w.heap.size, 1, none⟩ = some (.slice p1 m c1) := a1.b1
      by_cases hc : cmp n P m k k = -1
      · have hcb : (cmp n P m k k != -1) = false := by simp [hc]
        have HC := Lib.hid hc
        clear hc
        gi_wp2
        have O1 := Lib.hid o1
        have G1 := Lib.hid g1
        have A1 := Lib.hid a1
        have N1 := Lib.hid n1
        have S1 := Lib.hid s1
        have B1 := Lib.hid b1
        clear o1 g1 a1 n1 s1 b1 hw4 y0 y1 y2 y3 y4
        have hwr : w.heap.size + 1 ≤ w2.heap.size := e2
        refine ⟨trivial, (callsIn_wide.2 (visitsFrom_any 8 (by omega) w4 _ n N m P lo hi (HV.out.below B1.out hhi) (by omega) HB.out k hlt)).mono ?_⟩
        rintro e w5 ⟨lb, rfl, hseq, b5, hs5⟩
        have g5 := G1.out.below b5 (by omega)
        have o5 := O1.out.below b5 (by omega)
        have a5 := A1.out.below b5 (by omega)
        have n5 := N1.out.below b5 (by omega)
        have s5 : ∀ b, b ∈ bs → w5.heap[b]? = some (.deferred (some [])) := fun b hb => (b5.block b ((Array.getElem?_eq_some_iff.1 (S1.out b hb)).1)).trans (S1.out b hb)
        have bb5 := B1.out.trans (b5.mono (by omega))
        have sl5 : ∀ b, b ∈ bs → b < w5.heap.size := fun b hb => (Array.getElem?_eq_some_iff.1 (s5 b hb)).1
        have sg5 : ∀ b, b ∈ bs → b ≠ g ∧ w2.heap.size < b ∧ b < w5.heap.size := fun b hb => by
          have h1 := HBG.out b hb
          exact ⟨by omega, h1, sl5 b hb⟩
        gi_wp2
        refine wpIn_range_vis rfl (by omega) rfl trivial (fun _ _ => ?_) hseq (Upd.refl _ _) (fun b hb => by omega) (fun x => rfl) (fun b => b = g) (fun b hb => ⟨by omega, by omega⟩)
          (CmpI n P m k g w2.heap.size wr.heap.size (.slice (some ⟨g, 0, none⟩) n n) (.slice p0 n c0) (.slice p1 m c1) bs w) ?_ ?_ ?_ ?_
        · rfl
        · exact fun pre Y A B hi hu => hi.upd hu (by omega) (by omega) (by omega) (by omega) (fun b hb => by have := sg5 b hb; omega) (fun k hk => by omega)
        · exact ⟨rfl, g5.congr (fun j hj => by unfold tabC; rw [cmpV_nil]), o5, n5, a5, s5, bb5⟩
        · intro l pre x post Y W hx hi hsz hY
          obtain ⟨rfl, ot, ob, on, oa, os, bl⟩ := hi
          obtain ⟨q1, Z, hZ, q2⟩ := (HOK.out k hlt).round hx
          simp only [encV, List.zip_toArray, List.zip_cons_cons, List.zip_nil_right, List.foldl_toArray, List.foldl_cons, List.foldl_nil, List.setIfInBounds_toArray, List.set_cons_succ, List.set_cons_zero]
          gi_wp2
          refine ⟨Upd.alloc _ _ _, fun Wb hWb => ?_⟩
          have hbv := boxedV W x 78
          rw [hZ] at hbv
          have hst := hWb.size
          simp only [World.size_alloc] at hst
          have hbk : ∀ b, b < W.heap.size → ¬ (w5.heap.size ≤ b ∧ b < w5.heap.size + 4) → Wb.heap[b]? = W.heap[b]? := fun b h1 h2 => (hWb.block b (by simp; omega) h2).trans (Below.heap_alloc _ _ _ h1)
          have hbv2 := hbv.keep (hWb.block W.heap.size (by simp) (by omega))
          have ot2 := ot.keep (hbk _ ot.lt (by omega))
          have ob2 := ob.keep (hbk _ ob.lt (by omega))
          have on2 := on.keep (hbk _ on.lt (by omega))
          have oa2 := oa.keep (hbk _ oa.lt (by omega))
          have os2 : ∀ b, b ∈ bs → Wb.heap[b]? = some (.deferred (some [])) := fun b hb => (hbk b ((Array.getElem?_eq_some_iff.1 (os b hb)).1) (by have := sg5 b hb; omega)).trans (os b hb)
          have lt1 := ot.lt
          have lt2 := ob.lt
          have y0 : Wb.cell? ⟨w2.heap.size, 0, none⟩ = some (.slice (some ⟨g, 0, none⟩) n n) := ob2.cell 0 (by omega)
          have y1 : Wb.cell? ⟨W.heap.size, 0, none⟩ = some (.int .i64 (Z : Int)) := by rw [← hZ]; exact hbv2.cell 0 (by omega)
          have y2 : Wb.cell? ⟨wr.heap.size, 0, none⟩ = some (.int .i64 (k : Nat)) := on2.cell 0 (by omega)
          have y3 : Wb.cell? ⟨g, Z, none⟩ = some (tabC (cmpV n P m k pre) Z) := ot2.cell Z (by omega)
          have y4 : Wb.frozen? ⟨g, Z, none⟩ = false := ot2.free Z
          have y5 : (0 : Int) ≤ (Z : Int) := Int.natCast_nonneg _
          have y6 : (Z : Int) < (n : Int) := by omega
          have hbl2 : Below w.heap.size w Wb := (below_alloc bl (by omega) (.cells #[.int .i64 (Z : Int), .int .i64 x.en, .int .i64 x.ds] 78)).trans (hWb.below (by simp; omega) (fun k _ hk => by omega))
          have ts := cmp_step ot2 hZ q2
          have o1 := (Only.refl g Wb).setCell Z (.int .i64 (k : Nat))
          have H2 := Lib.hid os2
          have H5 := Lib.hid sg5
          clear hbv hbv2 hbk hWb os2 os sg5 sl5 s5
          gi_wp2
          exact ⟨_, (Upd.of_only o1).mono (fun b _ hb => .inl hb), ⟨rfl, ts, ob2.only o1 (by omega), on2.only o1 (by omega), oa2.only o1 (by omega), fun b hb => (o1.block b (H5.out b hb).1).trans (H2.out b hb), hbl2.trans (o1.below (by omega))⟩, fun b hb => .inl hb⟩
        · intro Y W hi hd
          obtain ⟨rfl, ot, ob, on, oa, os, bl⟩ := hi
          have H1 := Lib.hid os
          have H5 := Lib.hid sg5
          have H6 := Lib.hid hd
          have hWs := (Array.getElem?_eq_some_iff.1 hd).1
          clear os sg5 sl5 s5 hd
          gi_wp2
          rw [← HQ.out]
          refine ⟨⟨k + 1, w5.heap.size :: bs, _, _, _, _, _, _, _, _, _, _, _, _, rfl, hlt, ?_, ob, oa, ?_, ?_, ?_, bl, by omega⟩, ?_⟩
          · exact ot.congr (fun j hj => by unfold tabC; rw [cmpV_all HC.out])
          · rintro b hb
            rcases List.mem_cons.1 hb with rfl | hb
            · exact H6.out
            · exact H1.out b hb
          · rintro b hb
            rcases List.mem_cons.1 hb with rfl | hb
            · omega
            · exact (H5.out b hb).2.1
          · exact List.pairwise_cons.2 ⟨fun b hb => by have := (H5.out b hb).2.2; omega, HBD.out⟩
          · simp [intOf]
            omega
      · have hcb : (cmp n P m k k != -1) = true := by simp [hc]
        have HSK := Lib.hid (cmp_skip hc)
        clear hc
        gi_wp2
        rw [← HQ.out]
        refine ⟨⟨k + 1, bs, _, _, _, _, _, _, _, _, _, _, _, _, rfl, hlt, by rw [HSK.out]; exact g1, o1, a1, s1, HBG.out, HBD.out, b1, by omega⟩, ?_⟩
        simp [intOf]
        omega
    · have hkn : n = k := by omega
      subst hkn
      have k1 : ¬ ((n : Int) < (n : Int)) := by omega
      have y0 : wr.cell? ⟨w2.heap.size, 0, none⟩ = some (.slice (some ⟨g, 0, none⟩) n n) := HO.out.cell 0 (by omega)
      gi_wp2
      rw [← HQ.out]
      gi_wp2
      refine leaves_marks (by simp) bs wr HBS.out HBD.out (fun w' hw' => ?_)
      refine ⟨_, results_tmp rfl _ _ _, g, rfl, by omega, HG.out.keep (hw'.block g lg (fun hh => by have := HBG.out g hh; omega)), HBB.out.trans (hw'.below HBB.out.size (fun j _ hj => by have := HBG.out j hj; omega))⟩
end Go.Proofs.Ytjjjdahegcjmaaa.mem
