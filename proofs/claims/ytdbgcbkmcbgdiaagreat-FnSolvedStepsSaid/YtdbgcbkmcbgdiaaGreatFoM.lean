/-
  Several texts in one: Cmq, Cmr, Cms, Cmt, Srt, Fst, Fss, For.
-/
import Derived.Test.YtdbgcbkmcbgdiaaGreatRows
import Derived.Test.YtdbgcbkmcbgdiaaGreatGrM
import Derived.Test.YtdbgcbkmcbgdiaaGreatRev
import Derived.Test.YtdbgcbkmcbgdiaaGreatLsr
import Derived.Test.YtdbgcbkmcbgdiaaGreatCs
import Derived.OwnWalkIn
import Derived.Sort.Grow
namespace Go.Proofs.YtdbgcbkmcbgdiaaGreat.mem
open Go.RowKit
set_option linter.unusedVariables false
attribute [local go_sem] Oper.semAt_some

/-- the marks that searches leave among the deferred calls -/
def marks (bs : List Nat) : List Deferred := bs.map fun b => { target := .collected b, args := #[] }
theorem leaves_marks {F : Fence} {n : Nat} {P : Program} {fn : Func} {tmps : Array Value} {R : Ending → World → Prop} {u : FrameMode} (hu : u ≠ .run) : ∀ (bs : List Nat) (w : World),
    (∀ b, b ∈ bs → w.heap[b]? = some (.deferred (some []))) → bs.Pairwise (· ≠ ·) → (∀ w', Upd (fun b => b ∈ bs) w w' → LeavesInM F n P fn tmps R [] u w') → LeavesInM F n P fn tmps R (marks bs) u w
  | [], w, _, _, h => h w (Upd.refl _ _)
  | b :: bs, w, hb, hd, h => by
    refine ⟨hu, .inl ⟨b, _, rfl, run_takeDeferred (hb b (by simp)), ?_⟩⟩
    rw [List.pairwise_cons] at hd
    refine leaves_marks hu bs _ (fun c hc => ?_) hd.2 (fun w' hw' => h w' ?_)
    · exact (World.putObj_heap_other (fun e => hd.1 c hc e.symm)).trans (hb c (by simp [hc]))
    · exact (Upd.putObj _ w b (.deferred none) (by simp)).trans (hw'.mono fun k _ hk => by simp [hk])

/-- while the visits from k come: the table, the boxes -/
def CmpI (n : Nat) (P : Nat → Pip) (m k g be bn : Nat) (v : Value) (v0 v1 : Value) (bs : List Nat) (w : World) (pre : List Vs) (Y : Nat → Prop) (A : World) : Prop :=
  Y = (fun b => b = g) ∧ Ob A g n (tabC (cmpV n P m k pre)) ∧ Ob A be 1 (fun _ => v) ∧ Ob A bn 1 (fun _ => .int .i64 (k : Nat)) ∧ Ob A w.heap.size 2 (bx v0 v1) ∧ (∀ b, b ∈ bs → A.heap[b]? = some (.deferred (some []))) ∧ Below w.heap.size w A
theorem CmpI.upd {n : Nat} {P : Nat → Pip} {m k g be bn : Nat} {v v0 v1 : Value} {bs : List Nat} {w : World} {pre : List Vs} {Y X : Nat → Prop} {A B : World} (h : CmpI n P m k g be bn v v0 v1 bs w pre Y A) (u : Upd X A B) (hg : ¬ X g) (hb : ¬ X be) (hn : ¬ X bn) (h0 : ¬ X w.heap.size) (hbs : ∀ b, b ∈ bs → ¬ X b) (hX : ∀ k, X k → w.heap.size ≤ k) : CmpI n P m k g be bn v v0 v1 bs w pre Y B := by
  obtain ⟨h1, h2, h3, h4, h5, h6, h7⟩ := h
  refine ⟨h1, h2.keep (u.block _ h2.lt hg), h3.keep (u.block _ h3.lt hb), h4.keep (u.block _ h4.lt hn), h5.keep (u.block _ h5.lt h0), fun b hb2 => ?_, h7.trans (u.below h7.size (fun k _ hk => hX k hk))⟩
  have := h6 b hb2
  exact (u.block b (Array.getElem?_eq_some_iff.1 this).1 (hbs b hb2)).trans this
theorem cmp_step {A : World} {g n : Nat} {P : Nat → Pip} {m k : Nat} {pre : List Vs} {u : Vs} {Z : Nat} (h : Ob A g n (tabC (cmpV n P m k pre))) (hZ : u.nd = ((Z : Nat) : Int)) (hn : Z < n) :
    Ob (A.setCell ⟨g, Z, none⟩ (.int .i64 (k : Nat))) g n (tabC (cmpV n P m k (pre ++ [u]))) := by
  refine (h.set Z _ hn).congr fun j hj => ?_
  unfold updV tabC
  rw [cmpV_app, hZ]
  by_cases e : j = Z
  · subst e; simp
  · rw [if_neg e, if_neg (by omega)]

set_option maxRecDepth 100000 in
set_option maxHeartbeats 4000000 in
theorem components_any (w : World) (v : Value) (n : Nat) (N : Nat → Nod) (m : Nat) (P : Nat → Pip) (lo hi : Nat) (h : NetAt w v n N m P lo hi) (hhi : hi ≤ w.heap.size) (hB : netB n N m P = true) :
    Calls Tryz.prog 165 #[v] w fun e w' => ∃ g, e = .returned (.slice (some ⟨g, 0, none⟩) n n) ∧ w.heap.size ≤ g ∧ Ob w' g n (tabC (cmp n P m n)) ∧ Below w.heap.size w w' := by
  obtain ⟨p0, c0, p1, c1, rfl, hn9, hm9⟩ := h.parts
  obtain ⟨hn1, hn24, hm40⟩ := net_sz hB
  have HV := Lib.hid h
  have HB := Lib.hid hB
  have A0 := boxed w (.slice p0 n c0) (.slice p1 m c1) 27
  have B0 := below_new w (.cells #[.slice p0 n c0, .slice p1 m c1] 27)
  have hs0 : (w.alloc (.cells #[.slice p0 n c0, .slice p1 m c1] 27)).heap.size = w.heap.size + 1 := by simp
  have HOK := Lib.hid (fun (X0 : Nat) (hX : X0 < n) => vis_ok (P := P) (m := m) (x := ((X0 : Nat) : Int)) hB ⟨Int.natCast_nonneg _, by omega⟩)
  clear h hB
  refine (callsIn_wide (n := 9)).1 (callsIn_of_wp_marks Tryz.func165 rfl trivial ?_ rfl)
  simp only [Tryz.ntmps165, List.size_toArray, List.length_cons, List.length_nil, Nat.reduceAdd, Nat.reduceSub, Array.replicate_succ, Array.replicate_zero, List.push_toArray, List.append_toArray, List.nil_append, List.cons_append]
  gi_wp2
  refine ⟨trivial, (callsIn_wide.2 (unreached_any _ _ n N m P lo hi (HV.out.below B0 hhi) hn1 hn24)).mono ?_⟩
  rintro e w2 ⟨g, rfl, hg1, og, b2⟩
  have B2 := B0.trans (b2.mono (by omega))
  have A2 := A0.below b2 (by omega)
  have hs2 := b2.size
  have hg2 := og.lt
  have e0 := A2.b0
  have e2 : w.heap.size < w2.heap.size := by omega
  have A3 := A2.keep (Below.heap_alloc w2 (.cells #[.slice (some ⟨g, 0, none⟩) n n] 28) _ (by omega))
  have O3 := Ob.one w2 (.slice (some ⟨g, 0, none⟩) n n) 28
  have og3 := og.keep (Below.heap_alloc w2 (.cells #[.slice (some ⟨g, 0, none⟩) n n] 28) _ hg2)
  have B3 : Below w.heap.size w (w2.alloc (.cells #[.slice (some ⟨g, 0, none⟩) n n] 28)) := below_alloc B2 (by omega) _
  have HA := Lib.hid A3
  have HO := Lib.hid O3
  have HG := Lib.hid (og3.congr (e := tabC (cmp n P m 0)) fun k hk => rfl)
  have HBB := Lib.hid B3
  clear A3 O3 og3 B3 og B2 A0 B0 b2 A2
  gi_wp2
  have hs3 : (w2.alloc (.cells #[.slice (some ⟨g, 0, none⟩) n n] 28)).heap.size = w2.heap.size + 1 := by simp
  generalize hW : w2.alloc (.cells #[.slice (some ⟨g, 0, none⟩) n n] 28) = w3 at *
  clear hW e0
  refine wpIn_loop (fun a' w' => ∃ (k : Nat) (bs : List Nat) (u4 u12 u13 u14 u15 u16 u17 u18 u19 u20 u21 u28 : Value), a' = { tmps := #[.agg #[.slice p0 n c0, .slice p1 m c1], .pointer (some ⟨w.heap.size, 0, none⟩), .slice none 0 0, .pointer (some ⟨w2.heap.size, 0, none⟩), u4, undef, .agg #[.slice p0 n c0, .slice p1 m c1], .slice (some ⟨g, 0, none⟩) n n, .pointer (some ⟨w.heap.size, 0, none⟩), .slice p0 n c0, .int .i64 (n : Nat), .int .i64 (k : Nat), u12, u13, u14, u15, u16, u17, u18, u19, u20, u21, undef, undef, undef, undef, undef, undef, u28, undef], defers := marks bs } ∧ k ≤ n ∧ Ob w' g n (tabC (cmp n P m k)) ∧ Ob w' w2.heap.size 1 (fun _ => .slice (some ⟨g, 0, none⟩) n n) ∧ Ob w' w.heap.size 2 (bx (.slice p0 n c0) (.slice p1 m c1)) ∧ (∀ b, b ∈ bs → w'.heap[b]? = some (.deferred (some []))) ∧ (∀ b, b ∈ bs → w2.heap.size < b) ∧ bs.Pairwise (· ≠ ·) ∧ Below w.heap.size w w' ∧ w2.heap.size < w'.heap.size) (fun a' _ => n - (intOf (a'.tmps.getD 11 undef)).toNat) ?_ ?_
  · exact ⟨0, [], _, _, _, _, _, _, _, _, _, _, _, _, rfl, Nat.zero_le _, HG.out, HO.out, HA.out, by simp, by simp, by simp, HBB.out, by omega⟩
  · rintro a' wr ⟨k, bs, u4, u12, u13, u14, u15, u16, u17, u18, u19, u20, u21, u28, rfl, hk, og, ob, oa, hbs, hbg, hbd, hb, hsz⟩
    clear HA HO HG HBB
    have HG := Lib.hid og
    have HO := Lib.hid ob
    have HA := Lib.hid oa
    have HBS := Lib.hid hbs
    have HBG := Lib.hid hbg
    have HBD := Lib.hid hbd
    have HBB := Lib.hid hb
    clear og ob oa hbs hbg hbd hb
    dsimp only
    generalize hQ : Exit.then _ _ = Q
    have HQ := Lib.hid hQ
    clear hQ
    have k0 : (0 : Int) ≤ (k : Int) := Int.natCast_nonneg _
    have lg := HG.out.lt
    by_cases hlt : k < n
    · have k1 : (k : Int) < (n : Int) := by omega
      have o1 := HO.out.keep (Below.heap_alloc wr (.cells #[.int .i64 (k : Nat)] 2) _ HO.out.lt)
      have g1 := HG.out.keep (Below.heap_alloc wr (.cells #[.int .i64 (k : Nat)] 2) _ HG.out.lt)
      have a1 := HA.out.keep (Below.heap_alloc wr (.cells #[.int .i64 (k : Nat)] 2) _ HA.out.lt)
      have n1 := Ob.one wr (.int .i64 (k : Nat)) 2
      have s1 : ∀ b, b ∈ bs → (wr.alloc (.cells #[.int .i64 (k : Nat)] 2)).heap[b]? = some (.deferred (some [])) := fun b hb => (Below.heap_alloc wr (.cells #[.int .i64 (k : Nat)] 2) _ ((Array.getElem?_eq_some_iff.1 (HBS.out b hb)).1)).trans (HBS.out b hb)
      have b1 : Below w.heap.size w (wr.alloc (.cells #[.int .i64 (k : Nat)] 2)) := below_alloc HBB.out (by omega) _
      have hz1 : (wr.alloc (.cells #[.int .i64 (k : Nat)] 2)).heap.size = wr.heap.size + 1 := by simp
      obtain ⟨w4, hw4⟩ : ∃ w4, wr.alloc (.cells #[.int .i64 (k : Nat)] 2) = w4 := ⟨_, rfl⟩
      rw [hw4] at o1 g1 a1 n1 s1 b1 hz1
      have y0 : w4.cell? ⟨w2.heap.size, 0, none⟩ = some (.slice (some ⟨g, 0, none⟩) n n) := o1.cell 0 (by omega)
      have y1 : w4.cell? ⟨wr.heap.size, 0, none⟩ = some (.int .i64 (k : Nat)) := n1.cell 0 (by omega)
      have y2 : w4.cell? ⟨g, k, none⟩ = some (.int .i64 (cmp n P m k k)) := g1.cell k hlt
      have y3 : w4.cell? ⟨w.heap.size, 0, none⟩ = some (.slice p0 n c0) := a1.b0
      have y4 : w4.cell? ⟨w.heap.size, 1, none⟩ = some (.slice p1 m c1) := a1.b1
      by_cases hc : cmp n P m k k = -1
      · have hcb : (cmp n P m k k != -1) = false := by simp [hc]
        have HC := Lib.hid hc
        clear hc
        gi_wp2
        have O1 := Lib.hid o1
        have G1 := Lib.hid g1
        have A1 := Lib.hid a1
        have N1 := Lib.hid n1
        have S1 := Lib.hid s1
        have B1 := Lib.hid b1
        clear o1 g1 a1 n1 s1 b1 hw4 y0 y1 y2 y3 y4
        have hwr : w.heap.size + 1 ≤ w2.heap.size := e2
        refine ⟨trivial, (callsIn_wide.2 (visitsFrom_any 8 (by omega) w4 _ n N m P lo hi (HV.out.below B1.out hhi) (by omega) HB.out k hlt)).mono ?_⟩
        rintro e w5 ⟨lb, rfl, hseq, b5, hs5⟩
        have g5 := G1.out.below b5 (by omega)
        have o5 := O1.out.below b5 (by omega)
        have a5 := A1.out.below b5 (by omega)
        have n5 := N1.out.below b5 (by omega)
        have s5 : ∀ b, b ∈ bs → w5.heap[b]? = some (.deferred (some [])) := fun b hb => (b5.block b ((Array.getElem?_eq_some_iff.1 (S1.out b hb)).1)).trans (S1.out b hb)
        have bb5 := B1.out.trans (b5.mono (by omega))
        have sl5 : ∀ b, b ∈ bs → b < w5.heap.size := fun b hb => (Array.getElem?_eq_some_iff.1 (s5 b hb)).1
        have sg5 : ∀ b, b ∈ bs → b ≠ g ∧ w2.heap.size < b ∧ b < w5.heap.size := fun b hb => by
          have h1 := HBG.out b hb
          exact ⟨by omega, h1, sl5 b hb⟩
        gi_wp2
        refine wpIn_range_vis rfl (by omega) rfl trivial (fun _ _ => ?_) hseq (Upd.refl _ _) (fun b hb => by omega) (fun x => rfl) (fun b => b = g) (fun b hb => ⟨by omega, by omega⟩)
          (CmpI n P m k g w2.heap.size wr.heap.size (.slice (some ⟨g, 0, none⟩) n n) (.slice p0 n c0) (.slice p1 m c1) bs w) ?_ ?_ ?_ ?_
        · rfl
        · exact fun pre Y A B hi hu => hi.upd hu (by omega) (by omega) (by omega) (by omega) (fun b hb => by have := sg5 b hb; omega) (fun k hk => by omega)
        · exact ⟨rfl, g5.congr (fun j hj => by unfold tabC; rw [cmpV_nil]), o5, n5, a5, s5, bb5⟩
        · intro l pre x post Y W hx hi hsz hY
          obtain ⟨rfl, ot, ob, on, oa, os, bl⟩ := hi
          obtain ⟨q1, Z, hZ, q2⟩ := (HOK.out k hlt).round hx
          simp only [encV, List.zip_toArray, List.zip_cons_cons, List.zip_nil_right, List.foldl_toArray, List.foldl_cons, List.foldl_nil, List.setIfInBounds_toArray, List.set_cons_succ, List.set_cons_zero]
          gi_wp2
          refine ⟨Upd.alloc _ _ _, fun Wb hWb => ?_⟩
          have hbv := boxedV W x 174
          rw [hZ] at hbv
          have hst := hWb.size
          simp only [World.size_alloc] at hst
          have hbk : ∀ b, b < W.heap.size → ¬ (w5.heap.size ≤ b ∧ b < w5.heap.size + 4) → Wb.heap[b]? = W.heap[b]? := fun b h1 h2 => (hWb.block b (by simp; omega) h2).trans (Below.heap_alloc _ _ _ h1)
          have hbv2 := hbv.keep (hWb.block W.heap.size (by simp) (by omega))
          have ot2 := ot.keep (hbk _ ot.lt (by omega))
          have ob2 := ob.keep (hbk _ ob.lt (by omega))
          have on2 := on.keep (hbk _ on.lt (by omega))
          have oa2 := oa.keep (hbk _ oa.lt (by omega))
          have os2 : ∀ b, b ∈ bs → Wb.heap[b]? = some (.deferred (some [])) := fun b hb => (hbk b ((Array.getElem?_eq_some_iff.1 (os b hb)).1) (by have := sg5 b hb; omega)).trans (os b hb)
          have lt1 := ot.lt
          have lt2 := ob.lt
          have y0 : Wb.cell? ⟨w2.heap.size, 0, none⟩ = some (.slice (some ⟨g, 0, none⟩) n n) := ob2.cell 0 (by omega)
          have y1 : Wb.cell? ⟨W.heap.size, 0, none⟩ = some (.int .i64 (Z : Int)) := by rw [← hZ]; exact hbv2.cell 0 (by omega)
          have y2 : Wb.cell? ⟨wr.heap.size, 0, none⟩ = some (.int .i64 (k : Nat)) := on2.cell 0 (by omega)
          have y3 : Wb.cell? ⟨g, Z, none⟩ = some (tabC (cmpV n P m k pre) Z) := ot2.cell Z (by omega)
          have y4 : Wb.frozen? ⟨g, Z, none⟩ = false := ot2.free Z
          have y5 : (0 : Int) ≤ (Z : Int) := Int.natCast_nonneg _
          have y6 : (Z : Int) < (n : Int) := by omega
          have hbl2 : Below w.heap.size w Wb := (below_alloc bl (by omega) (.cells #[.int .i64 (Z : Int), .int .i64 x.en, .int .i64 x.ds] 174)).trans (hWb.below (by simp; omega) (fun k _ hk => by omega))
          have ts := cmp_step ot2 hZ q2
          have o1 := (Only.refl g Wb).setCell Z (.int .i64 (k : Nat))
          have H2 := Lib.hid os2
          have H5 := Lib.hid sg5
          clear hbv hbv2 hbk hWb os2 os sg5 sl5 s5
          gi_wp2
          exact ⟨_, (Upd.of_only o1).mono (fun b _ hb => .inl hb), ⟨rfl, ts, ob2.only o1 (by omega), on2.only o1 (by omega), oa2.only o1 (by omega), fun b hb => (o1.block b (H5.out b hb).1).trans (H2.out b hb), hbl2.trans (o1.below (by omega))⟩, fun b hb => .inl hb⟩
        · intro Y W hi hd
          obtain ⟨rfl, ot, ob, on, oa, os, bl⟩ := hi
          have H1 := Lib.hid os
          have H5 := Lib.hid sg5
          have H6 := Lib.hid hd
          have hWs := (Array.getElem?_eq_some_iff.1 hd).1
          clear os sg5 sl5 s5 hd
          gi_wp2
          rw [← HQ.out]
          refine ⟨⟨k + 1, w5.heap.size :: bs, _, _, _, _, _, _, _, _, _, _, _, _, rfl, hlt, ?_, ob, oa, ?_, ?_, ?_, bl, by omega⟩, ?_⟩
          · exact ot.congr (fun j hj => by unfold tabC; rw [cmpV_all HC.out])
          · rintro b hb
            rcases List.mem_cons.1 hb with rfl | hb
            · exact H6.out
            · exact H1.out b hb
          · rintro b hb
            rcases List.mem_cons.1 hb with rfl | hb
            · omega
            · exact (H5.out b hb).2.1
          · exact List.pairwise_cons.2 ⟨fun b hb => by have := (H5.out b hb).2.2; omega, HBD.out⟩
          · simp [intOf]
            omega
      · have hcb : (cmp n P m k k != -1) = true := by simp [hc]
        have HSK := Lib.hid (cmp_skip hc)
        clear hc
        gi_wp2
        rw [← HQ.out]
        refine ⟨⟨k + 1, bs, _, _, _, _, _, _, _, _, _, _, _, _, rfl, hlt, by rw [HSK.out]; exact g1, o1, a1, s1, HBG.out, HBD.out, b1, by omega⟩, ?_⟩
        simp [intOf]
        omega
    · have hkn : n = k := by omega
      subst hkn
      have k1 : ¬ ((n : Int) < (n : Int)) := by omega
      have y0 : wr.cell? ⟨w2.heap.size, 0, none⟩ = some (.slice (some ⟨g, 0, none⟩) n n) := HO.out.cell 0 (by omega)
      gi_wp2
      rw [← HQ.out]
      gi_wp2
      refine leaves_marks (by simp) bs wr HBS.out HBD.out (fun w' hw' => ?_)
      refine ⟨_, results_tmp rfl _ _ _, g, rfl, by omega, HG.out.keep (hw'.block g lg (fun hh => by have := HBG.out g hh; omega)), HBB.out.trans (hw'.below HBB.out.size (fun j _ hj => by have := HBG.out j hj; omega))⟩
end Go.Proofs.YtdbgcbkmcbgdiaaGreat.mem

namespace Go.Proofs.YtdbgcbkmcbgdiaaGreat.mem
open Go.RowKit
set_option linter.unusedVariables false

theorem rts_eq (n : Nat) (P : Nat → Pip) (m i : Nat) : (((i : Nat) : Int) == cmp n P m n i) = rts n P m i := by
  unfold rts
  rw [Bool.eq_iff_iff]
  simp only [beq_iff_eq, decide_eq_true_eq]
  exact eq_comm
theorem cnt_le (n : Nat) (P : Nat → Pip) (m : Nat) : cnt n P m ≤ n := fl_le _ _

set_option maxRecDepth 100000 in
set_option maxHeartbeats 4000000 in
theorem leastNodes_any (w : World) (v : Value) (n : Nat) (N : Nat → Nod) (m : Nat) (P : Nat → Pip) (lo hi : Nat) (h : NetAt w v n N m P lo hi) (hhi : hi ≤ w.heap.size) (hB : netB n N m P = true) :
    Calls Tryz.prog 152 #[v] w fun e w' => ∃ v2 g, e = .returned v2 ∧ Own w' v2 (cnt n P m) (fd (rts n P m) n) g ∧ w.heap.size ≤ g ∧ Below w.heap.size w w' := by
  obtain ⟨p0, c0, p1, c1, rfl, hn9, hm9⟩ := h.parts
  obtain ⟨hn1, hn24, hm40⟩ := net_sz hB
  have HV := Lib.hid h
  have HB := Lib.hid hB
  have A0 := boxed w (.slice p0 n c0) (.slice p1 m c1) 27
  have B0 := below_new w (.cells #[.slice p0 n c0, .slice p1 m c1] 27)
  obtain ⟨w1, hw1⟩ : ∃ w1, w.alloc (.cells #[.slice p0 n c0, .slice p1 m c1] 27) = w1 := ⟨_, rfl⟩
  have hs1 : w1.heap.size = w.heap.size + 1 := by rw [← hw1]; simp
  rw [hw1] at A0 B0
  have F0 := Own.nilled w1 (fd (rts n P m) 0)
  have b2 := below_new w1 (.cells #[] 2)
  obtain ⟨w2, hw2⟩ : ∃ w2, w1.alloc (.cells #[] 2) = w2 := ⟨_, rfl⟩
  have hs2 : w2.heap.size = w.heap.size + 2 := by rw [← hw2]; simp [hs1]
  rw [hw2] at F0 b2
  have A2 := A0.below b2 (by omega)
  have B2 := B0.trans (b2.mono (by omega))
  have HF := Lib.hid F0
  have HBB := Lib.hid B2
  have e0 : w2.cell? ⟨w.heap.size, 0, none⟩ = some (.slice p0 n c0) := A2.b0
  have e1 : w2.cell? ⟨w.heap.size, 1, none⟩ = some (.slice p1 m c1) := A2.b1
  have e2 : w.heap.size < w2.heap.size := by omega
  clear h hB A0 B0 F0 b2 A2 B2
  subst hw2 hw1
  go_enter Tryz.func152, Tryz.ntmps152
  go_wp2_with fail
  generalize hW : (w.alloc (Obj.cells #[Value.slice p0 n c0, Value.slice p1 m c1] 27)).alloc (.cells #[] 2) = w2 at *
  clear hW e0 e1
  refine (components_any w2 _ n N m P lo hi (HV.out.below HBB.out hhi) (by omega) HB.out).mono ?_
  rintro e w3 ⟨gt, rfl, hgt, ot, b3⟩
  have HT := Lib.hid ot
  have HF3 := Lib.hid (HF.out.below b3 (Nat.le_refl _))
  have HB3 := Lib.hid (HBB.out.trans (b3.mono (by omega)))
  have hs3 := b3.size
  have hgl := ot.lt
  clear ot b3 HF HBB
  go_wp2_with fail
  go_loopw [3, 10] (fun ov iv wr => ∃ (k g : Nat) (ov' : Value), ov' = ov ∧ iv = .int .i64 k ∧ k ≤ n ∧ Own wr ov' (fl (rts n P m) k).length (fd (rts n P m) k) g ∧ w.heap.size < g ∧ g ≠ gt ∧ Ob wr gt n (tabC (cmp n P m n)) ∧ Below w.heap.size w wr) (fun _ iv _ => n - (intOf iv).toNat)
  case atStart => exact ⟨0, w.heap.size + 1, _, rfl, rfl, Nat.zero_le _, by have := HF3.out; simp only [World.size_alloc] at this; exact this, by omega, by omega, HT.out, HB3.out⟩
  case round =>
    obtain ⟨k, g, ov, rfl, rfl, hk, ho, hg, hne, ht, hb⟩ := hrel
    obtain ⟨co, rfl⟩ := ho.shape
    clear HF3 HT HB3
    have HO := Lib.hid ho
    have HT := Lib.hid ht
    have HBB := Lib.hid hb
    have lg := ho.lt
    have lt := ht.lt
    clear ho ht hb
    have k0 : (0 : Int) ≤ (k : Int) := Int.natCast_nonneg _
    generalize hQ : Exit.then _ _ = Q
    have HQ := Lib.hid hQ
    clear hQ
    by_cases hlt : k < n
    · have k1 : (k : Int) < (n : Int) := by omega
      have y0 : wr.cell? ⟨gt, k, none⟩ = some (.int .i64 (cmp n P m n k)) := HT.out.cell k hlt
      have HRE := Lib.hid (rts_eq n P m k)
      cases hr : rts n P m k
      · have hb1 : (((k : Nat) : Int) == cmp n P m n k) = false := by rw [HRE.out, hr]
        have HR := Lib.hid hr
        clear hr
        go_wp2_with fail
        rw [← HQ.out]
        refine ⟨⟨_, _, _, _, _, _, _, _, _, _, _, _, _, _, _, _, ?rel, rfl⟩, ?measure⟩
        case rel => exact ⟨k + 1, g, _, rfl, by go_num, hlt, fl_keep HR.out HO.out, hg, hne, HT.out, HBB.out⟩
        case measure => simp [intOf]; omega
      · have hb1 : (((k : Nat) : Int) == cmp n P m n k) = true := by rw [HRE.out, hr]
        have hce : cmp n P m n k = (k : Int) := by rw [beq_iff_eq] at hb1; exact hb1.symm
        rw [hce] at y0
        have HR := Lib.hid hr
        clear hr hb1 hce
        obtain ⟨v7, w7, g7, hr, ap⟩ := coll_run wr _ (rts n P m) k g HO.out (by omega)
        have Y := Lib.hid (coll_below ap (B := w.heap.size + 1) (by omega) lg)
        have O7 := Lib.hid (fl_app HR.out ap)
        have hoth := ap.other (c := gt) (by omega) (by rw [szal]; omega)
        have HT7 := Lib.hid ((HT.out.keep (Below.heap_alloc _ (.cells #[.int .i64 (k : Nat)] 2) _ lt)).keep hoth.1)
        have hne7 := hoth.2
        have hg7 := Y.out.2.1
        clear ap hoth
        go_wp2_with (at_builtin; refine wpList_app hr rfl _ _ rfl rfl rfl rfl ?_)
        rw [← HQ.out]
        refine ⟨⟨_, _, _, _, _, _, _, _, _, _, _, _, _, _, _, _, ?rel, rfl⟩, ?measure⟩
        case rel => exact ⟨k + 1, g7, _, rfl, by go_num, hlt, O7.out, by omega, fun e => hne7 e.symm, HT7.out, HBB.out.trans (Y.out.1.mono (by omega))⟩
        case measure => simp [intOf]; omega
    · have hkn : n = k := by omega
      subst hkn
      have k1 : ¬ ((n : Int) < (n : Int)) := by omega
      go_wp2
      rw [← HQ.out]
      go_wp2
      go_ret
      exact ⟨_, g, rfl, HO.out, by omega, HBB.out⟩
end Go.Proofs.YtdbgcbkmcbgdiaaGreat.mem

namespace Go.Proofs.YtdbgcbkmcbgdiaaGreat.mem
open Go.RowKit
set_option linter.unusedVariables false

theorem cmpV_take {n : Nat} {P : Nat → Pip} {m k : Nat} {fs : List Vs} {j : Nat} {v : Vs} (h : fs[j]? = some v) : cmpV n P m k (fs.take (j + 1)) = fun y => if y = v.nd then (k : Int) else cmpV n P m k (fs.take j) y := by
  rw [take_one h]
  funext y
  exact cmpV_app n P m k _ v y

set_option maxRecDepth 100000 in
set_option maxHeartbeats 4000000 in
theorem l04Components_any (w : World) (v : Value) (n : Nat) (N : Nat → Nod) (m : Nat) (P : Nat → Pip) (lo hi : Nat) (h : NetAt w v n N m P lo hi) (hhi : hi ≤ w.heap.size) (hN : ∀ i, i < n → (N i).s.size ≤ 9223372036854775807) (hB : netB n N m P = true) :
    Calls Tryz.prog 98 #[v] w fun e w' => ∃ g, e = .returned (.slice (some ⟨g, 0, none⟩) n n) ∧ w.heap.size ≤ g ∧ Ob w' g n (tabC (cmp n P m n)) ∧ Below w.heap.size w w' := by
  obtain ⟨p0, c0, p1, c1, rfl, hn9, hm9⟩ := h.parts
  obtain ⟨hn1, hn24, hm40⟩ := net_sz hB
  have HV := Lib.hid h
  have HN := Lib.hid hN
  have HB := Lib.hid hB
  have A0 := boxed w (.slice p0 n c0) (.slice p1 m c1) 27
  have B0 := below_new w (.cells #[.slice p0 n c0, .slice p1 m c1] 27)
  have HOK := Lib.hid (fun (X0 : Nat) (hX : X0 < n) => vis_ok (P := P) (m := m) (x := ((X0 : Nat) : Int)) hB ⟨Int.natCast_nonneg _, by omega⟩)
  obtain ⟨w1, hw1⟩ : ∃ w1, w.alloc (.cells #[.slice p0 n c0, .slice p1 m c1] 27) = w1 := ⟨_, rfl⟩
  have hs1 : w1.heap.size = w.heap.size + 1 := by rw [← hw1]; simp
  rw [hw1] at A0 B0
  have O1 := ob_zeros w1 n 2
  obtain ⟨w2, hw2⟩ : ∃ w2, w1.alloc (.cells (zeros n) 2) = w2 := ⟨_, rfl⟩
  have hs2 : w2.heap.size = w.heap.size + 2 := by rw [← hw2]; simp [hs1]
  have b2 : Below w1.heap.size w1 w2 := by rw [← hw2]; exact below_new _ _
  rw [hw2] at O1
  rw [hs1] at O1
  have HA := Lib.hid (A0.below b2 (by omega))
  have HG := Lib.hid (O1.congr (e := fillC 0) (fun k hk => by unfold fillC; rw [if_neg (by omega)]))
  have HBB := Lib.hid (B0.trans (b2.mono (by omega)))
  have e0 : w1.cell? ⟨w.heap.size, 0, none⟩ = some (.slice p0 n c0) := A0.b0
  have e1 : w.heap.size < w1.heap.size := by omega
  have m1 := fun W => make_int64 W n (by omega)
  clear h hN hB A0 B0 O1 b2 hs1
  subst hw2 hw1
  go_enter Tryz.func98, Tryz.ntmps98
  go_wp2
  generalize hW : (w.alloc (Obj.cells #[Value.slice p0 n c0, Value.slice p1 m c1] 27)).alloc (Obj.cells (zeros n) 2) = w3 at *
  clear hW e0 e1 m1
  obtain ⟨g, hgg⟩ : ∃ g, g = w.heap.size + 1 := ⟨_, rfl⟩
  have hgw : w.heap.size < g := by omega
  rw [← hgg] at HG
  rw [← hgg]
  clear hgg
  go_loopw [4] (fun i wr => ∃ k : Nat, i = .int .i64 k ∧ k ≤ n ∧ Ob wr g n (fillC k) ∧ Ob wr w.heap.size 2 (bx (.slice p0 n c0) (.slice p1 m c1)) ∧ Below w.heap.size w wr) (fun i _ => n - (intOf i).toNat)
  case atStart => exact ⟨0, rfl, Nat.zero_le _, HG.out, HA.out, HBB.out⟩
  case round =>
    obtain ⟨k, rfl, hk, he, hbx, hbl⟩ := hrel
    clear HA HG HBB
    have HG := Lib.hid he
    have HA := Lib.hid hbx
    have HBB := Lib.hid hbl
    clear he hbx hbl
    have i0 : (0 : Int) ≤ (k : Int) := Int.natCast_nonneg _
    generalize hQ : Exit.then _ _ = Q
    have HQ := Lib.hid hQ
    clear hQ
    by_cases hlt : k < n
    · have j0 : (k : Int) < (n : Int) := by omega
      have y0 : wr.cell? ⟨g, k, none⟩ = some (fillC k k) := HG.out.cell k hlt
      have y1 : wr.frozen? ⟨g, k, none⟩ = false := HG.out.free k
      have o1 := (Only.refl g wr).setCell k (.int .i64 (-1))
      go_wp2
      rw [← HQ.out]
      refine ⟨⟨_, _, _, _, _, _, _, _, _, _, ?rel, rfl⟩, ?measure⟩
      case rel => exact ⟨k + 1, by go_num, hlt, fill_set HG.out hlt, HA.out.only o1 (by omega), HBB.out.trans (o1.below (by omega))⟩
      case measure => simp [intOf]; omega
    · have hkn : n = k := by omega
      subst hkn
      have j0 : ¬ ((n : Int) < (n : Int)) := by omega
      go_wp2
      rw [← HQ.out]
      go_wp2
      have HT := Lib.hid (HG.out.congr (e := tabC (cmp n P m 0)) (fun j hj => by unfold fillC tabC; rw [if_pos hj]; rfl))
      clear HG j0 i0
      have hbw := HBB.out.size
      have hgl := HT.out.lt
      go_loopw [5] (fun i wr => ∃ k : Nat, i = .int .i64 k ∧ k ≤ n ∧ Ob wr g n (tabC (cmp n P m k)) ∧ Ob wr w.heap.size 2 (bx (.slice p0 n c0) (.slice p1 m c1)) ∧ Below w.heap.size w wr) (fun i _ => n - (intOf i).toNat)
      case atStart => exact ⟨0, rfl, Nat.zero_le _, HT.out, HA.out, HBB.out⟩
      case round =>
        clear HT HA HBB hbw hgl
        obtain ⟨k, rfl, hk, ht, ha, hb⟩ := hrel
        have HT := Lib.hid ht
        have HA := Lib.hid ha
        have HBB := Lib.hid hb
        have hgl := ht.lt
        have law := ha.lt
        clear ht ha hb
        have k0 : (0 : Int) ≤ (k : Int) := Int.natCast_nonneg _
        generalize hQ2 : Exit.then _ _ = Q2
        have HQ2 := Lib.hid hQ2
        clear hQ2
        by_cases hlt : k < n
        · have k1 : (k : Int) < (n : Int) := by omega
          have y0 : wr.cell? ⟨g, k, none⟩ = some (.int .i64 (cmp n P m k k)) := HT.out.cell k hlt
          have y1 : wr.cell? ⟨w.heap.size, 0, none⟩ = some (.slice p0 n c0) := HA.out.b0
          have y2 : wr.cell? ⟨w.heap.size, 1, none⟩ = some (.slice p1 m c1) := HA.out.b1
          have hrg := cmp_rng n P m k k
          by_cases hc : cmp n P m k k = -1
          · have hcb : ¬ (0 ≤ cmp n P m k k) := by omega
            have HC := Lib.hid hc
            clear hc hrg
            go_wp2_with fail
            refine (l04Search_any _ _ n N m P lo hi (HV.out.below HBB.out hhi) (by omega) HN.out HB.out k hlt).mono ?_
            rintro e w5 ⟨v2, g2, rfl, oe, oo, hg2, b5⟩
            obtain ⟨ca, rfl⟩ := oo.shape
            have ok := HOK.out k hlt
            have HRND := Lib.hid (fun j v (hv : (vis n P m ((k : Nat) : Int))[j]? = some v) => ok.rng v (List.mem_of_getElem? hv))
            have hlen := ok.len
            have HALL := Lib.hid (cmpV_all (P := P) (m := m) HC.out)
            generalize hq : vis n P m ((k : Nat) : Int) = fs at *
            have HT5 := Lib.hid ((HT.out.below b5 hgl).congr (e := tabC (cmpV n P m k (fs.take 0))) (fun j hj => by unfold tabC; rw [List.take_zero, cmpV_nil]))
            have HA5 := Lib.hid (HA.out.below b5 law)
            have HB5 := Lib.hid (HBB.out.trans (b5.mono (by omega)))
            have HO5 := Lib.hid oo
            have hne2 : g2 ≠ g := by omega
            have hgw2 : w.heap.size < g2 := by omega
            clear hq oe oo b5 y0 y1 y2 ok
            go_wp2
            go_loopw [8] (fun i wr => ∃ j : Nat, i = .int .i64 j ∧ j ≤ fs.length ∧ Ob wr g n (tabC (cmpV n P m k (fs.take j))) ∧ Own wr (.slice (some ⟨g2, 0, none⟩) fs.length ca) fs.length (ordD fs) g2 ∧ Ob wr w.heap.size 2 (bx (.slice p0 n c0) (.slice p1 m c1)) ∧ Below w.heap.size w wr) (fun i _ => fs.length - (intOf i).toNat)
            case atStart => exact ⟨0, rfl, Nat.zero_le _, HT5.out, HO5.out, HA5.out, HB5.out⟩
            case round =>
              clear HT5 HO5 HA5 HB5 HT HA HBB hgl law
              obtain ⟨j, rfl, hj, ht, ho, ha, hb⟩ := hrel
              have HT := Lib.hid ht
              have HO := Lib.hid ho
              have HA := Lib.hid ha
              have HBB := Lib.hid hb
              clear ht ho ha hb
              have j0 : (0 : Int) ≤ (j : Int) := Int.natCast_nonneg _
              generalize hQ3 : Exit.then _ _ = Q3
              have HQ3 := Lib.hid hQ3
              clear hQ3
              by_cases hjl : j < fs.length
              · have j1 : (j : Int) < (fs.length : Int) := by omega
                obtain ⟨v, hv⟩ : ∃ v, fs[j]? = some v := ⟨_, List.getElem?_eq_getElem hjl⟩
                obtain ⟨hz0, hz1⟩ := HRND.out j v hv
                obtain ⟨Z, hZ⟩ := Int.eq_ofNat_of_zero_le hz0
                have hZn : Z < n := by omega
                have y0 : wr.cell? ⟨g2, j, none⟩ = some (.int .i64 (Z : Int)) := by
                  have := HO.out.row.cell j hjl
                  rwa [ordD_some hv, hZ] at this
                have y1 : wr.cell? ⟨g, Z, none⟩ = some (tabC (cmpV n P m k (fs.take j)) Z) := HT.out.cell Z hZn
                have y2 : wr.frozen? ⟨g, Z, none⟩ = false := HT.out.free Z
                have z0 : (0 : Int) ≤ (Z : Int) := Int.natCast_nonneg _
                have z1 : (Z : Int) < (n : Int) := by omega
                have ts := cmp_step HT.out hZ hZn
                have HTK := Lib.hid (take_one hv)
                rw [← HTK.out] at ts
                have o1 := (Only.refl g wr).setCell Z (.int .i64 (k : Nat))
                have HT6 := Lib.hid ts
                clear hZ hz0 hz1 hv ts
                go_wp2
                rw [← HQ3.out]
                refine ⟨⟨_, _, _, _, _, _, _, _, _, _, _, _, _, _, ?rel, rfl⟩, ?measure⟩
                case rel => exact ⟨j + 1, by go_num, hjl, HT6.out, HO.out.keep (o1.block _ hne2), HA.out.only o1 (by omega), HBB.out.trans (o1.below (by omega))⟩
                case measure => simp [intOf]; omega
              · have hjn : j = fs.length := by omega
                subst hjn
                have j1 : ¬ ((fs.length : Int) < (fs.length : Int)) := by omega
                have HT6 := HT.out
                rw [List.take_length, HALL.out] at HT6
                have HT7 := Lib.hid HT6
                clear HT6
                go_wp2
                rw [← HQ3.out]
                go_wp2
                rw [← HQ2.out]
                refine ⟨⟨_, _, _, _, _, _, _, _, _, _, _, _, _, _, _, _, _, _, _, _, _, _, _, _, _, _, _, _, _, _, _, _, _, _, ?rel, rfl⟩, ?measure⟩
                case rel => exact ⟨k + 1, by go_num, hlt, HT7.out, HA.out, HBB.out⟩
                case measure => simp [intOf]; omega
          · have hcb : 0 ≤ cmp n P m k k := by omega
            have HSK := Lib.hid (cmp_skip hc)
            clear hc hrg
            go_wp2
            rw [← HQ2.out]
            refine ⟨⟨_, _, _, _, _, _, _, _, _, _, _, _, _, _, _, _, _, _, _, _, _, _, _, _, _, _, _, _, _, _, _, _, _, _, ?rel, rfl⟩, ?measure⟩
            case rel => exact ⟨k + 1, by go_num, hlt, by rw [HSK.out]; exact HT.out, HA.out, HBB.out⟩
            case measure => simp [intOf]; omega
        · have hkn : n = k := by omega
          subst hkn
          have k1 : ¬ ((n : Int) < (n : Int)) := by omega
          go_wp2
          rw [← HQ2.out]
          go_wp2
          go_ret
          exact ⟨g, rfl, by omega, HT.out, HBB.out⟩
end Go.Proofs.YtdbgcbkmcbgdiaaGreat.mem

namespace Go.Proofs.YtdbgcbkmcbgdiaaGreat.mem
open Go.RowKit
set_option linter.unusedVariables false

def cmC (b : Bool) : Int := if b = true then 0 else 1
noncomputable def cmN (n : Nat) (N : Nat → Nod) (m : Nat) (P : Nat → Pip) : Nat := if cmC (netB n N m P) = 0 then n else 0
noncomputable def conB (n : Nat) (N : Nat → Nod) (m : Nat) (P : Nat → Pip) : Bool := netB n N m P && decide (cnt n P m = 1)
noncomputable def treeB (n : Nat) (N : Nat → Nod) (m : Nat) (P : Nat → Pip) : Bool := conB n N m P && decide (m + 1 = n)

set_option maxRecDepth 100000 in
set_option maxHeartbeats 4000000 in
theorem l04Count_any (w : World) (v : Value) (n : Nat) (N : Nat → Nod) (m : Nat) (P : Nat → Pip) (lo hi : Nat) (h : NetAt w v n N m P lo hi) (hhi : hi ≤ w.heap.size) (hN : ∀ i, i < n → (N i).s.size ≤ 9223372036854775807) (hB : netB n N m P = true) :
    Calls Tryz.prog 88 #[v] w fun e w' => e = .returned (.int .i64 (cnt n P m : Nat)) ∧ Below w.heap.size w w' := by
  obtain ⟨p0, c0, p1, c1, rfl, hn9, hm9⟩ := h.parts
  obtain ⟨hn1, hn24, hm40⟩ := net_sz hB
  have HV := Lib.hid h
  have HN := Lib.hid hN
  have HB := Lib.hid hB
  have B0 := below_new w (.cells #[.slice p0 n c0, .slice p1 m c1] 27)
  have hs0 : (w.alloc (.cells #[.slice p0 n c0, .slice p1 m c1] 27)).heap.size = w.heap.size + 1 := by simp
  clear h hN hB
  go_enter Tryz.func88, Tryz.ntmps88
  go_wp2_with fail
  refine (l04Components_any _ _ n N m P lo hi (HV.out.below B0 hhi) (by omega) HN.out HB.out).mono ?_
  rintro e w3 ⟨g, rfl, hg, ot, b3⟩
  have HT := Lib.hid ot
  have HB3 := Lib.hid (B0.trans (b3.mono (by omega)))
  clear ot b3 B0 hs0
  go_wp2_with fail
  go_loopw [4, 5] (fun cv iv wr => ∃ k : Nat, iv = .int .i64 k ∧ k ≤ n ∧ cv = .int .i64 ((fl (rts n P m) k).length : Nat) ∧ Ob wr g n (tabC (cmp n P m n)) ∧ Below w.heap.size w wr) (fun _ iv _ => n - (intOf iv).toNat)
  case atStart => exact ⟨0, rfl, Nat.zero_le _, rfl, HT.out, HB3.out⟩
  case round =>
    obtain ⟨k, rfl, hk, rfl, ht, hb⟩ := hrel
    clear HT HB3
    have HT := Lib.hid ht
    have HBB := Lib.hid hb
    clear ht hb
    have k0 : (0 : Int) ≤ (k : Int) := Int.natCast_nonneg _
    have hfl := fl_le (rts n P m) k
    generalize hQ : Exit.then _ _ = Q
    have HQ := Lib.hid hQ
    clear hQ
    by_cases hlt : k < n
    · have k1 : (k : Int) < (n : Int) := by omega
      have y0 : wr.cell? ⟨g, k, none⟩ = some (.int .i64 (cmp n P m n k)) := HT.out.cell k hlt
      have HRE := Lib.hid (rts_eq n P m k)
      have hcm : (cmp n P m n k == ((k : Nat) : Int)) = (((k : Nat) : Int) == cmp n P m n k) := by rw [Bool.eq_iff_iff, beq_iff_eq, beq_iff_eq]; exact ⟨fun h => h.symm, fun h => h.symm⟩
      cases hr : rts n P m k
      · have hb1 : (cmp n P m n k == ((k : Nat) : Int)) = false := by rw [hcm, HRE.out, hr]
        have HR := Lib.hid (fl_no hr)
        clear hr hcm
        go_wp2_with fail
        rw [← HQ.out]
        refine ⟨⟨_, _, _, _, _, _, _, _, _, _, _, _, _, _, _, _, ?rel, rfl⟩, ?measure⟩
        case rel => exact ⟨k + 1, by go_num, hlt, by rw [HR.out], HT.out, HBB.out⟩
        case measure => simp [intOf]; omega
      · have hb1 : (cmp n P m n k == ((k : Nat) : Int)) = true := by rw [hcm, HRE.out, hr]
        have HR := Lib.hid (fl_yes hr)
        have HC := Lib.hid (show cmp n P m n k = (k : Int) by rw [beq_iff_eq] at hb1; exact hb1)
        rw [HC.out] at y0
        clear hr hcm hb1
        go_wp2_with fail
        rw [← HQ.out]
        refine ⟨⟨_, _, _, _, _, _, _, _, _, _, _, _, _, _, _, _, ?rel, rfl⟩, ?measure⟩
        case rel => exact ⟨k + 1, by go_num, hlt, by rw [HR.out, List.length_append, List.length_singleton]; go_num, HT.out, HBB.out⟩
        case measure => simp [intOf]; omega
    · have hkn : n = k := by omega
      subst hkn
      have k1 : ¬ ((n : Int) < (n : Int)) := by omega
      go_wp2
      rw [← HQ.out]
      go_wp2
      go_ret
      exact ⟨rfl, HBB.out⟩
theorem li_tab1 {w w' : World} {cnt g n : Nat} {f : Int → Int} {c : Int} {e : Ending} (h0 : n = cnt) (hc : 0 = c) (he : e = .returned (.tuple #[.slice (some ⟨g, 0, none⟩) n n, .int .i64 0])) (h : Ob w' g n (tabC f)) (hn : n ≤ 24) (hg : w.heap.size ≤ g) (hb : Below w.heap.size w w') : LIPost w cnt (fun k => f ((k : Nat) : Int)) c e w' := li_tab h0 hc he h hn hg hb

theorem cmN_le (n : Nat) (N : Nat → Nod) (m : Nat) (P : Nat → Pip) (hn : n ≤ 2000000) : cmN n N m P ≤ 2000000 := by
  unfold cmN
  split <;> omega
set_option maxRecDepth 100000 in
set_option maxHeartbeats 4000000 in
theorem isConnectedI_any (w : World) (v : Value) (n : Nat) (N : Nat → Nod) (m : Nat) (P : Nat → Pip) (lo hi : Nat) (h : NetAt w v n N m P lo hi) (hhi : hi ≤ w.heap.size) (hN : ∀ i, i < n → (N i).s.size ≤ 9223372036854775807) :
    Calls Tryz.prog 108 #[v] w (BPost w (conB n N m P)) := by
  obtain ⟨p0, c0, p1, c1, rfl, hn9, hm9⟩ := h.parts
  have HV := Lib.hid h
  have HN := Lib.hid hN
  have A0 := boxed w (.slice p0 n c0) (.slice p1 m c1) 27
  have B0 := below_new w (.cells #[.slice p0 n c0, .slice p1 m c1] 27)
  have hs0 : (w.alloc (.cells #[.slice p0 n c0, .slice p1 m c1] 27)).heap.size = w.heap.size + 1 := by simp
  clear h hN
  go_enter Tryz.func108, Tryz.ntmps108
  go_wp2_with fail
  refine (isNetwork_any _ _ n N m P lo hi (HV.out.below B0 hhi) (by omega) HN.out).mono ?_
  rintro e w2 ⟨rfl, b2⟩
  have A2 := A0.below b2 (by omega)
  have B2 := B0.trans (b2.mono (by omega))
  have hs2 := b2.size
  have e0 := A2.b0
  have e1 := A2.b1
  have e2 : w.heap.size < w2.heap.size := by omega
  clear A0 B0 b2
  cases hB : netB n N m P
  · have H2 := Lib.hid (show conB n N m P = false by unfold conB; rw [hB]; rfl)
    clear hB
    go_wp2_with fail
    go_ret
    exact ⟨ret_b H2.out.symm, B2⟩
  · have H2 := Lib.hid (show conB n N m P = decide (cnt n P m = 1) by unfold conB; rw [hB]; rfl)
    have HB := Lib.hid hB
    have hcl := cnt_le n P m
    have hn24 := (net_sz hB).2.1
    clear hB
    go_wp2_with fail
    refine (leastNodes_any _ _ n N m P lo hi (HV.out.below B2 hhi) (by omega) HB.out).mono ?_
    rintro e w3 ⟨v3, g, rfl, o3, hg, b3⟩
    obtain ⟨c3, rfl⟩ := o3.shape
    have B3 := B2.trans (b3.mono (by omega))
    clear b3 o3
    have hd : ((((cnt n P m : Nat) : Int)) == 1) = conB n N m P := by
      rw [H2.out, Bool.eq_iff_iff]
      simp only [beq_iff_eq, decide_eq_true_eq]
      omega
    have HD := Lib.hid hd
    clear hd
    go_wp2_with fail
    go_ret
    exact ⟨ret_b HD.out, B3⟩
set_option maxRecDepth 100000 in
set_option maxHeartbeats 4000000 in
theorem isConnectedS_any (w : World) (v : Value) (n : Nat) (N : Nat → Nod) (m : Nat) (P : Nat → Pip) (lo hi : Nat) (h : NetAt w v n N m P lo hi) (hhi : hi ≤ w.heap.size) (hN : ∀ i, i < n → (N i).s.size ≤ 9223372036854775807) :
    Calls Tryz.prog 43 #[v] w (BPost w (conB n N m P)) := by
  obtain ⟨p0, c0, p1, c1, rfl, hn9, hm9⟩ := h.parts
  have HV := Lib.hid h
  have HN := Lib.hid hN
  have A0 := boxed w (.slice p0 n c0) (.slice p1 m c1) 27
  have B0 := below_new w (.cells #[.slice p0 n c0, .slice p1 m c1] 27)
  have hs0 : (w.alloc (.cells #[.slice p0 n c0, .slice p1 m c1] 27)).heap.size = w.heap.size + 1 := by simp
  clear h hN
  go_enter Tryz.func43, Tryz.ntmps43
  go_wp2_with fail
  refine (sIsNetwork_any _ _ n N m P lo hi (HV.out.below B0 hhi) (by omega) HN.out).mono ?_
  rintro e w2 ⟨rfl, b2⟩
  have A2 := A0.below b2 (by omega)
  have B2 := B0.trans (b2.mono (by omega))
  have hs2 := b2.size
  have e0 := A2.b0
  have e1 := A2.b1
  have e2 : w.heap.size < w2.heap.size := by omega
  clear A0 B0 b2
  cases hB : netB n N m P
  · have H2 := Lib.hid (show conB n N m P = false by unfold conB; rw [hB]; rfl)
    clear hB
    go_wp2_with fail
    go_ret
    exact ⟨ret_b H2.out.symm, B2⟩
  · have H2 := Lib.hid (show conB n N m P = decide (cnt n P m = 1) by unfold conB; rw [hB]; rfl)
    have HB := Lib.hid hB
    have hcl := cnt_le n P m
    have hn24 := (net_sz hB).2.1
    clear hB
    go_wp2_with fail
    refine (l04Count_any _ _ n N m P lo hi (HV.out.below B2 hhi) (by omega) HN.out HB.out).mono ?_
    rintro e w3 ⟨rfl, b3⟩
    have B3 := B2.trans (b3.mono (by omega))
    clear b3
    have hd : ((((cnt n P m : Nat) : Int)) == 1) = conB n N m P := by
      rw [H2.out, Bool.eq_iff_iff]
      simp only [beq_iff_eq, decide_eq_true_eq]
      omega
    have HD := Lib.hid hd
    clear hd
    go_wp2_with fail
    go_ret
    exact ⟨ret_b HD.out, B3⟩

theorem agreeIsConnected (n : Nat) (N : Nat → Nod) (m : Nat) (P : Nat → Pip) (hN : ∀ i, i < n → (N i).s.size ≤ 9223372036854775807) (_hn : n ≤ 2000000) (hm : m ≤ 2000000) :
    ∃ rb, (∀ w v, NetAt w v n N m P 0 w.heap.size → Calls Tryz.prog 108 #[v] w (BPost w rb)) ∧ (∀ w v, NetAt w v n N m P 0 w.heap.size → Calls Tryz.prog 43 #[v] w (BPost w rb)) :=
  ⟨conB n N m P, fun w v h => isConnectedI_any w v n N m P 0 _ h (Nat.le_refl _) hN, fun w v h => isConnectedS_any w v n N m P 0 _ h (Nat.le_refl _) hN⟩
end Go.Proofs.YtdbgcbkmcbgdiaaGreat.mem

namespace Go.Proofs.YtdbgcbkmcbgdiaaGreat.mem
open Go.RowKit
set_option linter.unusedVariables false
theorem grow_below (w : World) (os : Array Obj) : Below w.heap.size w (Go.Sort.grow w os) := by
  refine ⟨rfl, rfl, rfl, ?_, fun k hk => ?_⟩
  · show w.heap.size ≤ (w.heap ++ os).size
    simp
  · show (w.heap ++ os)[k]? = _
    rw [Array.getElem?_append_left hk]
/-- the numbers of an own slice are sorted; what was made beside is new -/
theorem sort_any (w : World) (v : Value) (n : Nat) (d : Nat → Int) (g : Nat) (h : Own w v n d g) (hn : n ≤ 1000000) :
    Calls Tryz.prog 154 #[v] w fun e w' => e = .returned (.tuple #[]) ∧ Own w' v n (fun k => (((dl n d).mergeSort fun x y => decide (x ≤ y))[k]?).getD 0) g ∧ Upd (fun b => b = g) w w' := by
  obtain ⟨cap, rfl⟩ := h.shape
  have hc := AnyM.slices_Sort_int Tryz.srt g 0 cap (dl n d) w h.holds h.lt (by rw [dl_len]; omega)
  rw [dl_len] at hc
  refine hc.mono ?_
  rintro e w' ⟨he, q, os, rfl⟩
  obtain ⟨h1, h2⟩ := h.put q ((dl n d).mergeSort fun x y => decide (x ≤ y)) (by rw [List.length_mergeSort, dl_len])
  have hb := grow_below (Go.Sort.putRow (Value.int .i64) (Go.Sort.ahead w q) g 0 ((dl n d).mergeSort fun x y => decide (x ≤ y)).toArray) os
  exact ⟨he, h1.keep (hb.block g h1.lt), (Upd.of_only h2).trans (Upd.of_below hb)⟩
end Go.Proofs.YtdbgcbkmcbgdiaaGreat.mem

namespace Go.Proofs.YtdbgcbkmcbgdiaaGreat.mem
open Go.RowKit
set_option linter.unusedVariables false
attribute [local go_sem] Oper.semAt_some

theorem wpListIn_app {F : Fence} {n : Nat} {ops : Array Oper} {rest : List Oper} {o : Oper} {a : Act} {Q : Exit → Act → World → Prop} {w w' : World} {v v' xv : Value} (hr : Sem.run Tryz.prog (Builtin.append_ #[28, 28] 28 #[v, xv]) w = .ok v' w')
    (hgd : o.guard = none) (s x : Operand) (ho : o.op = .call { callee := .builtin .append, args := #[s, x], argTypes := #[28, 28] }) (hty : o.type = 28) (hs : a.eval s = v) (hx : a.eval x = xv)
    (h : wpListIn F n Tryz.prog ops Q rest (a.put o.dst v') w') : wpListIn F n Tryz.prog ops Q (o :: rest) a w := by
  refine wpListIn_plain hgd fun K hK => ?_
  unfold Oper.wpIn
  refine ⟨?_, ?_⟩
  · simp [Oper.about, ho, resolve, Target.leads, Sem.run_pure]
  · rw [Oper.semAt_plain F _ _ (by rw [ho]; intro c hc'; cases hc')]
    simp [execOp, ho, hty, resolve, invoke, builtin, hs, hx, hr, Result.andThen]
    exact hK _ _ h
/-- a list's elements, as a function -/
def lD (l : List Int) (k : Nat) : Int := (l[k]?).getD 0
theorem lD_app (l : List Int) (x : Int) (k : Nat) : upd (lD l) l.length x k = if k < l.length + 1 then lD (l ++ [x]) k else upd (lD l) l.length x k := by
  split
  · next h =>
    unfold upd lD
    by_cases e : k = l.length
    · subst e; simp
    · rw [if_neg e, List.getElem?_append_left (by omega)]
  · rfl
theorem dl_lD (l : List Int) : dl l.length (lD l) = l := by
  apply List.ext_getElem?
  intro k
  by_cases h : k < l.length
  · rw [dl_get _ h]
    unfold lD
    rw [List.getElem?_eq_getElem h]
    rfl
  · rw [List.getElem?_eq_none (by rw [dl_len]; omega), List.getElem?_eq_none (by omega)]
theorem Own.notMark {w : World} {v : Value} {n g b : Nat} {d : Nat → Int} {x : Option (List Deferred)} (h : Own w v n d g) (hb : w.heap[b]? = some (.deferred x)) : b ≠ g := by
  intro e
  obtain ⟨_, _, _, h1, _⟩ := h.ex
  rw [e, h1] at hb
  cases hb
theorem Ob.notMark {w : World} {n g b : Nat} {d : Nat → Value} {x : Option (List Deferred)} (h : Ob w g n d) (h0 : 0 < n) (hb : w.heap[b]? = some (.deferred x)) : b ≠ g := by
  intro e
  have := h.cell 0 h0
  simp only [World.cell?, ← e, hb] at this
  cases this
theorem ens_le (fs : List Vs) : (ens fs).length ≤ fs.length := by
  unfold ens
  rw [List.length_map]
  exact List.length_filter_le _ _
theorem fcol_le {n : Nat} {N : Nat → Nod} {P : Nat → Pip} {m : Nat} (hN : netB n N m P = true) : ∀ (rs : List Nat), (∀ r ∈ rs, r < n) → (fcol n P m rs).length ≤ rs.length * n
  | [], _ => Nat.zero_le _
  | r :: rs, h => by
    have h1 := ens_le (vis n P m ((r : Nat) : Int))
    have h2 := (vis_ok (P := P) (m := m) (x := ((r : Nat) : Int)) hN (by have := h r (by simp); omega)).len
    have h3 := fcol_le hN rs (fun q hq => h q (by simp [hq]))
    unfold fcol at h3 ⊢
    rw [List.flatMap_cons, List.length_append, List.length_cons, Nat.add_mul]
    omega
theorem fcol_snoc (n : Nat) (P : Nat → Pip) (m : Nat) (rs : List Nat) (r : Nat) : fcol n P m (rs ++ [r]) = fcol n P m rs ++ ens (vis n P m ((r : Nat) : Int)) := by
  unfold fcol
  simp

noncomputable def foN (n : Nat) (N : Nat → Nod) (m : Nat) (P : Nat → Pip) : Nat := if cmC (netB n N m P) = 0 then (forest n P m).length else 0
end Go.Proofs.YtdbgcbkmcbgdiaaGreat.mem

namespace Go.Proofs.YtdbgcbkmcbgdiaaGreat.mem
open Go.RowKit
set_option linter.unusedVariables false

theorem vval_mem {f : Vs → Int} {fs : List Vs} {y : Int} (h : vval f fs y ≠ -1) : ∃ v ∈ fs, v.nd = y ∧ vval f fs y = f v := by
  unfold vval at h ⊢
  cases hq : fs.find? (fun v => v.nd == y) with
  | none => rw [hq] at h; exact absurd rfl h
  | some v =>
    refine ⟨v, List.mem_of_find?_eq_some hq, ?_, rfl⟩
    have := List.find?_some hq
    simpa using this
theorem Vok.en_rng {n : Nat} {P : Nat → Pip} {m : Nat} {x : Int} {fs : List Vs} (h : Vok n P m x fs) (y : Int) : vval (·.en) fs y = -1 ∨ ∃ c : Nat, c < m ∧ vval (·.en) fs y = ((c : Nat) : Int) := by
  by_cases e : vval (·.en) fs y = -1
  · exact .inl e
  · right
    obtain ⟨v, hv, hnd, hvv⟩ := vval_mem e
    obtain ⟨i, hi, rfl⟩ := List.mem_iff_getElem.1 hv
    have hg : fs[i]? = some fs[i] := List.getElem?_eq_getElem hi
    rcases Nat.eq_zero_or_pos i with rfl | h0
    · have := h.fst
      rw [hg] at this
      injection this with this
      rw [hvv, this] at e
      exact absurd rfl e
    · obtain ⟨j, u, c, _, _, hc, he, _⟩ := h.par i _ h0 hg
      exact ⟨c, hc, hvv.trans he⟩
/-- pipe c is the entry of one of the first k nodes -/
def inE (fs : List Vs) (k : Nat) (c : Nat) : Bool := (List.range k).any (fun j => vval (·.en) fs ((j : Nat) : Int) == ((c : Nat) : Int))
theorem inE_succ (fs : List Vs) (k c : Nat) : inE fs (k + 1) c = (inE fs k c || (vval (·.en) fs ((k : Nat) : Int) == ((c : Nat) : Int))) := by
  unfold inE
  rw [List.range_succ, List.any_append]
  simp
theorem Vok.inE_all {n : Nat} {P : Nat → Pip} {m : Nat} {x : Int} {fs : List Vs} (h : Vok n P m x fs) (c : Nat) : inE fs n c = (ens fs).contains ((c : Nat) : Int) := by
  rw [Bool.eq_iff_iff]
  unfold inE
  simp only [List.any_eq_true, List.mem_range, beq_iff_eq, List.contains_iff_mem]
  constructor
  · rintro ⟨j, hj, e⟩
    obtain ⟨v, hv, hnd, hvv⟩ := vval_mem (f := (·.en)) (fs := fs) (y := ((j : Nat) : Int)) (by omega)
    exact ens_mem.2 ⟨v, hv, by rw [← hvv, e], by omega⟩
  · intro hm
    obtain ⟨v, hv, e, hne⟩ := ens_mem.1 hm
    obtain ⟨i, hi, rfl⟩ := List.mem_iff_getElem.1 hv
    obtain ⟨h1, h2⟩ := h.rng _ hv
    obtain ⟨Z, hZ⟩ := Int.eq_ofNat_of_zero_le h1
    refine ⟨Z, by omega, ?_⟩
    rw [← hZ, h.val (·.en) (List.getElem?_eq_getElem hi), e]
theorem inF_snoc (n : Nat) (P : Nat → Pip) (m : Nat) (rs : List Nat) (r c : Nat) : inF n P m (rs ++ [r]) c = (inF n P m rs c || (ens (vis n P m ((r : Nat) : Int))).contains ((c : Nat) : Int)) := by
  unfold inF
  rw [fcol_snoc, Bool.eq_iff_iff]
  simp only [List.contains_iff_mem, List.mem_append, Bool.or_eq_true]
def flgC (p : Nat → Bool) : Nat → Value := fun a => .bool (p a)
theorem flgC_set {w : World} {b n : Nat} {p q : Nat → Bool} (h : Ob w b n (flgC p)) (k : Nat) (hk : k < n) (e : ∀ a, q a = (p a || (k == a))) : Ob (w.setCell ⟨b, k, none⟩ (.bool true)) b n (flgC q) := by
  refine (h.set k (.bool true) hk).congr fun j hj => ?_
  unfold updV flgC
  rw [e j]
  by_cases hjk : j = k
  · subst hjk; simp
  · rw [if_neg hjk]
    have : (k == j) = false := by rw [beq_eq_false_iff_ne]; omega
    rw [this, Bool.or_false]
theorem forest_len (n : Nat) (P : Nat → Pip) (m : Nat) : (forest n P m).length = (fl (inF n P m (fl (rts n P m) n)) m).length := by unfold forest; rw [List.length_map]
theorem forest_lD (n : Nat) (P : Nat → Pip) (m k : Nat) (hk : k < (fl (inF n P m (fl (rts n P m) n)) m).length) : fd (inF n P m (fl (rts n P m) n)) m k = lD (forest n P m) k := by
  unfold fd lD forest
  rw [List.getElem?_map, List.getElem?_eq_getElem hk]
  rfl
theorem forest_le (n : Nat) (P : Nat → Pip) (m : Nat) : (forest n P m).length ≤ m := by rw [forest_len]; exact fl_le _ _

set_option maxRecDepth 100000 in
set_option maxHeartbeats 4000000 in
theorem l04Forest_any (w : World) (v : Value) (n : Nat) (N : Nat → Nod) (m : Nat) (P : Nat → Pip) (lo hi : Nat) (h : NetAt w v n N m P lo hi) (hhi : hi ≤ w.heap.size) (hN : ∀ i, i < n → (N i).s.size ≤ 9223372036854775807) (hB : netB n N m P = true) :
    Calls Tryz.prog 156 #[v] w fun e w' => ∃ v2 g, e = .returned v2 ∧ w.heap.size ≤ g ∧ Own w' v2 (forest n P m).length (lD (forest n P m)) g ∧ Below w.heap.size w w' := by
  obtain ⟨p0, c0, p1, c1, rfl, hn9, hm9⟩ := h.parts
  obtain ⟨hn1, hn24, hm40⟩ := net_sz hB
  have HV := Lib.hid h
  have HN := Lib.hid hN
  have HB := Lib.hid hB
  have A0 := boxed w (.slice p0 n c0) (.slice p1 m c1) 27
  have B0 := below_new w (.cells #[.slice p0 n c0, .slice p1 m c1] 27)
  have HOK := Lib.hid (fun (X0 : Nat) (hX : X0 < n) => vis_ok (P := P) (m := m) (x := ((X0 : Nat) : Int)) hB ⟨Int.natCast_nonneg _, by omega⟩)
  obtain ⟨w1, hw1⟩ : ∃ w1, w.alloc (.cells #[.slice p0 n c0, .slice p1 m c1] 27) = w1 := ⟨_, rfl⟩
  have hs1 : w1.heap.size = w.heap.size + 1 := by rw [← hw1]; simp
  rw [hw1] at A0 B0
  have O1 := ob_falses w1 m 4
  obtain ⟨w2, hw2⟩ : ∃ w2, w1.alloc (.cells (falses m) 4) = w2 := ⟨_, rfl⟩
  have hs2 : w2.heap.size = w.heap.size + 2 := by rw [← hw2]; simp [hs1]
  have b2 : Below w1.heap.size w1 w2 := by rw [← hw2]; exact below_new _ _
  rw [hw2] at O1
  rw [hs1] at O1
  have HA := Lib.hid (A0.below b2 (by omega))
  have HG := Lib.hid (O1.congr (e := flgC (inF n P m [])) (fun k hk => rfl))
  have HBB := Lib.hid (B0.trans (b2.mono (by omega)))
  have e0 : w1.cell? ⟨w.heap.size, 1, none⟩ = some (.slice p1 m c1) := A0.b1
  have e1 : w.heap.size < w1.heap.size := by omega
  have m1 := fun W => make_bool W m (by omega)
  have f0 : w2.cell? ⟨w.heap.size, 0, none⟩ = some (.slice p0 n c0) := HA.out.b0
  have f1 : w2.cell? ⟨w.heap.size, 1, none⟩ = some (.slice p1 m c1) := HA.out.b1
  have f2 : w.heap.size < w2.heap.size := by omega
  clear h hN hB A0 B0 O1 b2 hs1
  subst hw2 hw1
  go_enter Tryz.func156, Tryz.ntmps156
  go_wp2_with fail
  generalize hW : (w.alloc (Obj.cells #[Value.slice p0 n c0, Value.slice p1 m c1] 27)).alloc (Obj.cells (falses m) 4) = w3 at *
  clear hW e0 e1 m1 f0 f1
  refine (l04Components_any _ _ n N m P lo hi (HV.out.below HBB.out hhi) (by omega) HN.out HB.out).mono ?_
  rintro e w4 ⟨gc, rfl, hgc, oc, b4⟩
  obtain ⟨gi, hgi⟩ : ∃ gi, w.heap.size + 1 = gi := ⟨_, rfl⟩
  rw [hgi] at HG
  have hgw : w.heap.size < gi := by omega
  have HC := Lib.hid oc
  have HG4 := Lib.hid (HG.out.below b4 (by omega))
  have HA4 := Lib.hid (HA.out.below b4 (by omega))
  have HB4 := Lib.hid (HBB.out.trans (b4.mono (by omega)))
  have hgc2 : gi < gc := by omega
  have hs4 := b4.size
  rw [hgi]
  clear hgi oc b4 HG HA HBB hgc
  go_wp2
  go_loopw [5] (fun i wr => ∃ k : Nat, i = .int .i64 k ∧ k ≤ n ∧ Ob wr gi m (flgC (inF n P m (fl (rts n P m) k))) ∧ Ob wr gc n (tabC (cmp n P m n)) ∧ Ob wr w.heap.size 2 (bx (.slice p0 n c0) (.slice p1 m c1)) ∧ Below w.heap.size w wr) (fun i _ => n - (intOf i).toNat)
  case atStart => exact ⟨0, rfl, Nat.zero_le _, HG4.out, HC.out, HA4.out, HB4.out⟩
  case round =>
    obtain ⟨k, rfl, hk, hg, hc, ha, hb⟩ := hrel
    clear HG4 HC HA4 HB4
    have HG := Lib.hid hg
    have HC := Lib.hid hc
    have HA := Lib.hid ha
    have HBB := Lib.hid hb
    have lg := hg.lt
    have lc := hc.lt
    have la := ha.lt
    clear hg hc ha hb
    have k0 : (0 : Int) ≤ (k : Int) := Int.natCast_nonneg _
    generalize hQ : Exit.then _ _ = Q
    have HQ := Lib.hid hQ
    clear hQ
    by_cases hlt : k < n
    · have k1 : (k : Int) < (n : Int) := by omega
      have y0 : wr.cell? ⟨gc, k, none⟩ = some (.int .i64 (cmp n P m n k)) := HC.out.cell k hlt
      have HRE := Lib.hid (rts_eq n P m k)
      cases hr : rts n P m k
      · have hb1 : (cmp n P m n k != ((k : Nat) : Int)) = true := by
          have := HRE.out
          rw [hr, beq_eq_false_iff_ne] at this
          simpa using fun e => this e.symm
        have HR := Lib.hid (fl_no hr)
        clear hr
        go_wp2
        rw [← HQ.out]
        refine ⟨⟨_, _, _, _, _, _, _, _, _, _, _, _, _, _, _, _, _, _, _, _, _, _, _, _, _, _, _, _, _, _, _, _, _, _, _, _, _, _, _, ?rel, rfl⟩, ?measure⟩
        case rel => exact ⟨k + 1, by go_num, hlt, by rw [HR.out]; exact HG.out, HC.out, HA.out, HBB.out⟩
        case measure => simp [intOf]; omega
      · have hce : cmp n P m n k = ((k : Nat) : Int) := by
          have := HRE.out
          rw [hr, beq_iff_eq] at this
          exact this.symm
        have hb1 : (cmp n P m n k != ((k : Nat) : Int)) = false := by simp [hce]
        have HR := Lib.hid (fl_yes hr)
        have y1 : wr.cell? ⟨w.heap.size, 0, none⟩ = some (.slice p0 n c0) := HA.out.b0
        have y2 : wr.cell? ⟨w.heap.size, 1, none⟩ = some (.slice p1 m c1) := HA.out.b1
        clear hr hce
        go_wp2_with fail
        refine (l04Search_any _ _ n N m P lo hi (HV.out.below HBB.out hhi) (by omega) HN.out HB.out k hlt).mono ?_
        rintro e w5 ⟨v2, g2, rfl, oe, oo, hg2, b5⟩
        have ok := HOK.out k hlt
        have HENR := Lib.hid (fun y => ok.en_rng y)
        have HALL := Lib.hid (fun c => ok.inE_all c)
        have HSN := Lib.hid (fun c => inF_snoc n P m (fl (rts n P m) k) k c)
        generalize hq : vis n P m ((k : Nat) : Int) = fs at *
        obtain ⟨ge, hge⟩ : ∃ ge, wr.heap.size + 1 = ge := ⟨_, rfl⟩
        rw [hge] at oe
        rw [hge]
        have hgne : gi < ge := by omega
        have HG5 := Lib.hid ((HG.out.below b5 lg).congr (e := flgC (fun a => inF n P m (fl (rts n P m) k) a || inE fs 0 a)) (fun j hj => by unfold flgC; simp [inE]))
        have HC5 := Lib.hid (HC.out.below b5 lc)
        have HA5 := Lib.hid (HA.out.below b5 la)
        have HB5 := Lib.hid (HBB.out.trans (b5.mono (by omega)))
        have HE5 := Lib.hid oe
        clear hq oe oo b5 y0 y1 y2 ok hge
        go_wp2
        go_loopw [8] (fun i wr => ∃ j : Nat, i = .int .i64 j ∧ j ≤ n ∧ Ob wr gi m (flgC (fun a => inF n P m (fl (rts n P m) k) a || inE fs j a)) ∧ Ob wr ge n (tabC (vval (·.en) fs)) ∧ Ob wr gc n (tabC (cmp n P m n)) ∧ Ob wr w.heap.size 2 (bx (.slice p0 n c0) (.slice p1 m c1)) ∧ Below w.heap.size w wr) (fun i _ => n - (intOf i).toNat)
        case atStart => exact ⟨0, rfl, Nat.zero_le _, HG5.out, HE5.out, HC5.out, HA5.out, HB5.out⟩
        case round =>
          clear HG5 HE5 HC5 HA5 HB5 HG HC HA HBB lg lc la
          obtain ⟨j, rfl, hj, hg, he, hc, ha, hb⟩ := hrel
          have HG := Lib.hid hg
          have HE := Lib.hid he
          have HC := Lib.hid hc
          have HA := Lib.hid ha
          have HBB := Lib.hid hb
          clear hg he hc ha hb
          have j0 : (0 : Int) ≤ (j : Int) := Int.natCast_nonneg _
          generalize hQ3 : Exit.then _ _ = Q3
          have HQ3 := Lib.hid hQ3
          clear hQ3
          by_cases hjl : j < n
          · have j1 : (j : Int) < (n : Int) := by omega
            have y0 : wr.cell? ⟨ge, j, none⟩ = some (.int .i64 (vval (·.en) fs ((j : Nat) : Int))) := HE.out.cell j hjl
            have HIS := Lib.hid (fun c => inE_succ fs j c)
            rcases HENR.out ((j : Nat) : Int) with hen | ⟨c, hcm, hen⟩
            · rw [hen] at y0
              have HG6 := Lib.hid (HG.out.congr (e := flgC (fun a => inF n P m (fl (rts n P m) k) a || inE fs (j + 1) a)) (fun a ha => by
                show Value.bool (inF n P m (fl (rts n P m) k) a || inE fs j a) = Value.bool (inF n P m (fl (rts n P m) k) a || inE fs (j + 1) a)
                have h3 : ((-1 : Int) == ((a : Nat) : Int)) = false := by rw [beq_eq_false_iff_ne]; omega
                rw [HIS.out a, hen, h3, Bool.or_false]))
              clear hen
              go_wp2
              rw [← HQ3.out]
              refine ⟨⟨_, _, _, _, _, _, _, _, _, _, _, _, _, _, _, _, _, _, ?rel, rfl⟩, ?measure⟩
              case rel => exact ⟨j + 1, by go_num, hjl, HG6.out, HE.out, HC.out, HA.out, HBB.out⟩
              case measure => simp [intOf]; omega
            · rw [hen] at y0
              have y1 : wr.cell? ⟨gi, c, none⟩ = some (flgC (fun a => inF n P m (fl (rts n P m) k) a || inE fs j a) c) := HG.out.cell c hcm
              have y2 : wr.frozen? ⟨gi, c, none⟩ = false := HG.out.free c
              have z0 : (0 : Int) ≤ (c : Int) := Int.natCast_nonneg _
              have z1 : (c : Int) < (m : Int) := by omega
              have o1 := (Only.refl gi wr).setCell c (.bool true)
              have HG6 := Lib.hid (flgC_set (q := fun a => inF n P m (fl (rts n P m) k) a || inE fs (j + 1) a) HG.out c hcm (fun a => by
                have h3 : (((c : Nat) : Int) == ((a : Nat) : Int)) = (c == a) := by rw [Bool.eq_iff_iff]; simp only [beq_iff_eq]; omega
                show (_ || inE fs (j + 1) a) = _
                rw [HIS.out a, hen, h3, Bool.or_assoc]))
              clear hen
              go_wp2
              rw [← HQ3.out]
              refine ⟨⟨_, _, _, _, _, _, _, _, _, _, _, _, _, _, _, _, _, _, ?rel, rfl⟩, ?measure⟩
              case rel => exact ⟨j + 1, by go_num, hjl, HG6.out, HE.out.only o1 (by omega), HC.out.only o1 (by omega), HA.out.only o1 (by omega), HBB.out.trans (o1.below (by omega))⟩
              case measure => simp [intOf]; omega
          · have hjn : j = n := by omega
            subst hjn
            have j1 : ¬ ((j : Int) < (j : Int)) := by omega
            have HG6 := Lib.hid (HG.out.congr (e := flgC (inF j P m (fl (rts j P m) (k + 1)))) (fun a ha => by
              show Value.bool (inF j P m (fl (rts j P m) k) a || inE fs j a) = Value.bool (inF j P m (fl (rts j P m) (k + 1)) a)
              rw [HR.out, HSN.out a, HALL.out a]))
            go_wp2
            rw [← HQ3.out]
            go_wp2
            rw [← HQ.out]
            refine ⟨⟨_, _, _, _, _, _, _, _, _, _, _, _, _, _, _, _, _, _, _, _, _, _, _, _, _, _, _, _, _, _, _, _, _, _, _, _, _, _, _, ?rel, rfl⟩, ?measure⟩
            case rel => exact ⟨k + 1, by go_num, hlt, HG6.out, HC.out, HA.out, HBB.out⟩
            case measure => simp [intOf]; omega
    · have hkn : n = k := by omega
      subst hkn
      have k1 : ¬ ((n : Int) < (n : Int)) := by omega
      have HFL := Lib.hid (forest_len n P m)
      have HFD := Lib.hid (fun k hk => forest_lD n P m k hk)
      generalize hp : inF n P m (fl (rts n P m) n) = p at *
      have HO := Lib.hid (Own.nilled wr (fd p 0))
      have HG6 := Lib.hid (HG.out.keep (Below.heap_alloc wr (.cells #[] 2) _ lg))
      have HB6 : Hid (Below w.heap.size w (wr.alloc (.cells #[] 2))) := Lib.hid (below_alloc HBB.out (by omega) _)
      clear hp HG HC HA HBB
      go_wp2
      rw [← HQ.out]
      go_wp2
      generalize hW6 : wr.alloc (.cells #[] 2) = w6 at *
      clear hW6
      go_loopw [9, 10] (fun ov iv wr => ∃ (k g : Nat) (ov' : Value), ov' = ov ∧ iv = .int .i64 k ∧ k ≤ m ∧ Own wr ov' (fl p k).length (fd p k) g ∧ w.heap.size ≤ g ∧ g ≠ gi ∧ Ob wr gi m (flgC p) ∧ Below w.heap.size w wr) (fun _ iv _ => m - (intOf iv).toNat)
      case atStart => exact ⟨0, _, _, rfl, rfl, Nat.zero_le _, HO.out, by omega, by omega, HG6.out, HB6.out⟩
      case round =>
        obtain ⟨k, g, ov, rfl, rfl, hk, ho, hgg, hne, hg, hb⟩ := hrel
        obtain ⟨co, rfl⟩ := ho.shape
        clear HO HG6 HB6 lg lc la k0 k1
        have HO := Lib.hid ho
        have HG := Lib.hid hg
        have HBB := Lib.hid hb
        have lo := ho.lt
        have lg := hg.lt
        clear ho hg hb
        have k0 : (0 : Int) ≤ (k : Int) := Int.natCast_nonneg _
        generalize hQ3 : Exit.then _ _ = Q3
        have HQ3 := Lib.hid hQ3
        clear hQ3
        by_cases hlt : k < m
        · have k1 : (k : Int) < (m : Int) := by omega
          have y0 : wr.cell? ⟨gi, k, none⟩ = some (.bool (p k)) := HG.out.cell k hlt
          cases hp : p k
          · rw [hp] at y0
            have HP := Lib.hid hp
            clear hp
            go_wp2
            rw [← HQ3.out]
            refine ⟨⟨_, _, _, _, _, _, _, _, _, _, _, _, _, _, _, _, ?rel, rfl⟩, ?measure⟩
            case rel => exact ⟨k + 1, g, _, rfl, by go_num, hlt, fl_keep HP.out HO.out, hgg, hne, HG.out, HBB.out⟩
            case measure => simp [intOf]; omega
          · rw [hp] at y0
            have HP := Lib.hid hp
            clear hp
            obtain ⟨v7, w7, g7, hr, ap⟩ := coll_run wr _ p k g HO.out (by omega)
            have Y := Lib.hid (coll_below ap (B := w.heap.size) hgg lo)
            have O7 := Lib.hid (fl_app HP.out ap)
            have hoth := ap.other (c := gi) (by omega) (by rw [szal]; omega)
            have HG7 := Lib.hid ((HG.out.keep (Below.heap_alloc _ (.cells #[.int .i64 (k : Nat)] 2) _ lg)).keep hoth.1)
            have hne7 := hoth.2
            have hg7 := Y.out.2.1
            clear ap hoth
            go_wp2_with (at_builtin; refine wpList_app hr rfl _ _ rfl rfl rfl rfl ?_)
            rw [← HQ3.out]
            refine ⟨⟨_, _, _, _, _, _, _, _, _, _, _, _, _, _, _, _, ?rel, rfl⟩, ?measure⟩
            case rel => exact ⟨k + 1, g7, _, rfl, by go_num, hlt, O7.out, hg7, fun e => hne7 e.symm, HG7.out, HBB.out.trans Y.out.1⟩
            case measure => simp [intOf]; omega
        · have hkn : m = k := by omega
          subst hkn
          have k1 : ¬ ((m : Int) < (m : Int)) := by omega
          go_wp2
          rw [← HQ3.out]
          go_wp2
          go_ret
          refine ⟨_, g, rfl, hgg, ?_, HBB.out⟩
          rw [HFL.out]
          exact HO.out.congr (fun k hk => HFD.out k hk)
theorem foN_le (n : Nat) (N : Nat → Nod) (m : Nat) (P : Nat → Pip) (hm : m ≤ 2000000) : foN n N m P ≤ 2000000 := by
  have := forest_le n P m
  unfold foN
  split <;> omega
end Go.Proofs.YtdbgcbkmcbgdiaaGreat.mem

namespace Go.Proofs.YtdbgcbkmcbgdiaaGreat.mem
open Go.RowKit
set_option linter.unusedVariables false

/-- a component once given stays given -/
theorem cmp_stay {n : Nat} {P : Nat → Pip} {m k : Nat} {y : Int} (h : cmp n P m k y ≠ -1) : ∀ j, cmp n P m (k + j) y ≠ -1
  | 0 => h
  | j + 1 => by
    have ih := cmp_stay h j
    rw [← Nat.add_assoc, cmp_succ]
    split
    · omega
    · exact ih
theorem vis_sym {n : Nat} {N : Nat → Nod} {P : Nat → Pip} {m : Nat} (hN : netB n N m P = true) {a b : Nat} (ha : a < n) (hb : b < n) (h : vhas (vis n P m (a : Nat)) (b : Nat) = true) : vhas (vis n P m (b : Nat)) (a : Nat) = true := by
  obtain ⟨i, v, hv, hvn⟩ := vhas_get h
  exact vis_meet (x := ((b : Nat) : Int)) (y := ((a : Nat) : Int)) hN (by omega) (by omega) i v hv (by rw [hvn]; exact vis_self n P m _)
/-- a node that no smaller one leads to is a root -/
theorem open_rts {n : Nat} {N : Nat → Nod} {P : Nat → Pip} {m : Nat} (hN : netB n N m P = true) {k : Nat} (hk : k < n) (h : cmp n P m k k = -1) : rts n P m k = true := by
  have key : ∀ j, k + 1 + j ≤ n → cmp n P m (k + 1 + j) k = (k : Nat) := by
    intro j
    induction j with
    | zero => intro _; show cmp n P m (k + 1) k = _; rw [cmp_take h, if_pos (vis_self n P m _)]
    | succ j ih =>
      intro hj
      rw [← Nat.add_assoc, cmp_succ]
      split
      · next hc =>
        exfalso
        have h1 := vis_sym hN (by omega) hk hc.2
        have h2 : cmp n P m (k + 1) ((k + 1 + j : Nat) : Int) ≠ -1 := by rw [cmp_take h, if_pos h1]; omega
        exact cmp_stay h2 j hc.1
      · exact ih (by omega)
  unfold rts
  rw [decide_eq_true_eq]
  have := key (n - (k + 1)) (by omega)
  rw [show k + 1 + (n - (k + 1)) = n by omega] at this
  exact this
/-- every node lies in the search of a root -/
theorem cmp_some {n : Nat} {N : Nat → Nod} {P : Nat → Pip} {m : Nat} (hN : netB n N m P = true) : ∀ (t : Nat), t ≤ n → ∀ y, cmp n P m t y ≠ -1 → ∃ r, r < t ∧ rts n P m r = true ∧ vhas (vis n P m (r : Nat)) y = true
  | 0, _, y, h => absurd rfl h
  | t + 1, ht, y, h => by
    rw [cmp_succ] at h
    split at h
    · next hc => exact ⟨t, by omega, open_rts hN (by omega) hc.1, hc.2⟩
    · obtain ⟨r, h1, h2⟩ := cmp_some hN t (by omega) y h
      exact ⟨r, by omega, h2⟩
theorem root_of {n : Nat} {N : Nat → Nod} {P : Nat → Pip} {m : Nat} (hN : netB n N m P = true) {k : Nat} (hk : k < n) : ∃ r, r < n ∧ rts n P m r = true ∧ vhas (vis n P m (r : Nat)) (k : Nat) = true := by
  refine cmp_some hN n (Nat.le_refl _) _ ?_
  have h1 : cmp n P m (k + 1) ((k : Nat) : Int) ≠ -1 := by
    by_cases e : cmp n P m k k = -1
    · rw [cmp_take e, if_pos (vis_self n P m _)]
      omega
    · rw [cmp_skip e]
      exact e
  have := cmp_stay h1 (n - (k + 1))
  rw [show k + 1 + (n - (k + 1)) = n by omega] at this
  exact this
/-- all nodes, root by root -/
def allV (n : Nat) (P : Nat → Pip) (m : Nat) (rs : List Nat) : List Int := rs.flatMap (fun r => (vis n P m (r : Nat)).map (·.nd))
theorem allV_nodup {n : Nat} {N : Nat → Nod} {P : Nat → Pip} {m : Nat} (hN : netB n N m P = true) : (allV n P m (fl (rts n P m) n)).Pairwise (· ≠ ·) := by
  unfold allV
  rw [List.pairwise_flatMap]
  refine ⟨fun r hr => ?_, ?_⟩
  · have := (fl_lt hr).1
    exact List.pairwise_map.2 (vis_ok (P := P) (m := m) (x := ((r : Nat) : Int)) hN (by omega)).dis
  · refine List.Pairwise.imp_of_mem (R := (· < ·)) ?_ (fl_sorted _ _)
    intro r s hr hs hrs a ha b hb e
    subst e
    have h1 := fl_lt hr
    have h2 := fl_lt hs
    obtain ⟨v, hv, rfl⟩ := List.mem_map.1 ha
    obtain ⟨u, hu, hun⟩ := List.mem_map.1 hb
    obtain ⟨i, hi, rfl⟩ := List.mem_iff_getElem.1 hu
    have := vis_meet (x := ((r : Nat) : Int)) (y := ((s : Nat) : Int)) hN (by omega) (by omega) i _ (List.getElem?_eq_getElem hi) (by rw [hun]; exact vhas_iff.2 ⟨v, hv, rfl⟩)
    rw [rts_apart hN h2.1 hrs h1.2 h2.2] at this
    cases this
theorem allV_len {n : Nat} {N : Nat → Nod} {P : Nat → Pip} {m : Nat} (hN : netB n N m P = true) : (allV n P m (fl (rts n P m) n)).length = n := by
  have hr : (allV n P m (fl (rts n P m) n)).mergeSort (fun x y => decide (x ≤ y)) = (List.range n).map (fun k => ((k : Nat) : Int)) := by
    refine rising_eq _ _ (rising_of ?_ ?_) ?_ fun x => ?_
    · have := List.pairwise_mergeSort (le := fun (x y : Int) => decide (x ≤ y)) (fun a b c => by simp only [decide_eq_true_eq]; omega) (fun a b => by simp only [Bool.or_eq_true, decide_eq_true_eq]; omega) (allV n P m (fl (rts n P m) n))
      exact this.imp (fun h => by simpa using h)
    · exact (List.mergeSort_perm _ _).symm.pairwise (allV_nodup hN) (fun h e => h e.symm)
    · rw [List.pairwise_map]
      exact List.pairwise_lt_range.imp (fun h => by omega)
    · rw [(List.mergeSort_perm _ _).mem_iff]
      constructor
      · intro hx
        unfold allV at hx
        obtain ⟨r, hr, hx⟩ := List.mem_flatMap.1 hx
        obtain ⟨v, hv, rfl⟩ := List.mem_map.1 hx
        have h1 := (fl_lt hr).1
        obtain ⟨a, b⟩ := (vis_ok (P := P) (m := m) (x := ((r : Nat) : Int)) hN (by omega)).rng v hv
        obtain ⟨Z, hZ⟩ := Int.eq_ofNat_of_zero_le a
        exact List.mem_map.2 ⟨Z, List.mem_range.2 (by omega), hZ.symm⟩
      · intro hx
        obtain ⟨k, hk, rfl⟩ := List.mem_map.1 hx
        obtain ⟨r, h1, h2, h3⟩ := root_of hN (List.mem_range.1 hk)
        obtain ⟨v, hv, hvn⟩ := vhas_iff.1 h3
        unfold allV
        exact List.mem_flatMap.2 ⟨r, fl_mem h1 h2, List.mem_map.2 ⟨v, hv, hvn⟩⟩
  have := congrArg List.length hr
  simpa using this
theorem Vok.ens_len {n : Nat} {P : Nat → Pip} {m : Nat} {x : Int} {fs : List Vs} (h : Vok n P m x fs) : (ens fs).length + 1 = fs.length := by
  have hf := h.fst
  cases fs with
  | nil => simp at hf
  | cons a t =>
    simp only [List.getElem?_cons_zero, Option.some.injEq] at hf
    have ht : t.filter (fun v => v.en != -1) = t := by
      rw [List.filter_eq_self]
      intro v hv
      obtain ⟨i, hi, rfl⟩ := List.mem_iff_getElem.1 hv
      obtain ⟨j, u, k, _, _, _, he, _⟩ := h.par (i + 1) t[i] (by omega) (by simp)
      rw [bne_iff_ne, he]
      omega
    unfold ens
    rw [List.filter_cons, if_neg (by rw [hf]; simp), ht, List.length_map, List.length_cons]
theorem fcol_len {n : Nat} {N : Nat → Nod} {P : Nat → Pip} {m : Nat} (hN : netB n N m P = true) : ∀ (rs : List Nat), (∀ r ∈ rs, r < n) → (fcol n P m rs).length + rs.length = (allV n P m rs).length
  | [], _ => rfl
  | r :: rs, h => by
    have h1 := fcol_len hN rs (fun q hq => h q (by simp [hq]))
    have h2 := (vis_ok (P := P) (m := m) (x := ((r : Nat) : Int)) hN (by have := h r (by simp); omega)).ens_len
    unfold fcol allV at h1 ⊢
    rw [List.flatMap_cons, List.flatMap_cons, List.length_append, List.length_append, List.length_cons, List.length_map]
    omega
/-- as many pipes as there are nodes minus components -/
theorem forest_cnt {n : Nat} {N : Nat → Nod} {P : Nat → Pip} {m : Nat} (hN : netB n N m P = true) : (forest n P m).length + cnt n P m = n := by
  have h1 := fcol_len (P := P) (m := m) hN (fl (rts n P m) n) (fun r hr => (fl_lt hr).1)
  rw [allV_len hN] at h1
  have h2 := forest_eq (P := P) (m := m) hN (List.mergeSort_perm _ (fun x y => decide (x ≤ y))) (by
    have := List.pairwise_mergeSort (le := fun (x y : Int) => decide (x ≤ y)) (fun a b c => by simp only [decide_eq_true_eq]; omega) (fun a b => by simp only [Bool.or_eq_true, decide_eq_true_eq]; omega) (fcol n P m (fl (rts n P m) n))
    exact this.imp (fun h => by simpa using h))
  have h3 := congrArg List.length h2
  rw [List.length_mergeSort] at h3
  unfold cnt
  omega

/-- the pipes of the forest -/
def frP (n : Nat) (P : Nat → Pip) (m : Nat) (i : Nat) : Pip := P (lD (forest n P m) i).toNat
theorem frP_at {n : Nat} {P : Nat → Pip} {m i : Nat} (hi : i < (forest n P m).length) : ∃ a : Nat, a < m ∧ lD (forest n P m) i = (a : Int) ∧ frP n P m i = P a := by
  have h1 := forest_len n P m
  have h2 := forest_lD n P m i (by omega)
  obtain ⟨h3, h4⟩ := fl_getS (p := inF n P m (fl (rts n P m) n)) (m := m) (i := i) (by omega)
  refine ⟨_, h3, h2.symm, ?_⟩
  unfold frP
  rw [← h2]
  unfold fd
  rw [Int.toNat_natCast]
theorem frP_has {n : Nat} {P : Nat → Pip} {m a : Nat} (ha : a < m) (h : ((a : Nat) : Int) ∈ fcol n P m (fl (rts n P m) n)) : ∃ i, i < (forest n P m).length ∧ frP n P m i = P a := by
  have hm : ((a : Nat) : Int) ∈ forest n P m := by
    unfold forest
    exact List.mem_map.2 ⟨a, fl_mem ha (by unfold inF; simpa using h), rfl⟩
  obtain ⟨i, hi, e⟩ := List.mem_iff_getElem.1 hm
  refine ⟨i, hi, ?_⟩
  unfold frP lD
  rw [List.getElem?_eq_getElem hi, e]
  rfl
theorem net_forest {n : Nat} {N : Nat → Nod} {P : Nat → Pip} {m : Nat} (h : netB n N m P = true) : netB n N (forest n P m).length (frP n P m) = true := by
  have h2 := h
  have hl := forest_le n P m
  unfold netB at h ⊢
  simp only [Bool.and_eq_true] at h ⊢
  refine ⟨⟨szB_iff.2 ?_, h.1.2⟩, pipesB_iff.2 fun j hj => ?_⟩
  · have := szB_iff.1 h.1.1
    exact ⟨this.1, this.2.1, by omega⟩
  · obtain ⟨a, ha, _, e⟩ := frP_at hj
    rw [e]
    exact net_pip h2 ha
theorem vis_less {n : Nat} {N : Nat → Nod} {P : Nat → Pip} {m : Nat} (hN : netB n N m P = true) {r : Nat} (hr : r < n) {y : Int} (hy : vhas (vis n (frP n P m) (forest n P m).length (r : Nat)) y = true) : vhas (vis n P m (r : Nat)) y = true := by
  have ok := vis_ok (P := frP n P m) (m := (forest n P m).length) (x := ((r : Nat) : Int)) (net_forest hN) (by omega)
  obtain ⟨i, v, hv, rfl⟩ := vhas_get hy
  clear hy
  induction i using Nat.strongRecOn generalizing v with
  | _ i ih =>
    rcases Nat.eq_zero_or_pos i with rfl | h0
    · have := ok.fst
      rw [hv] at this
      injection this with this
      rw [this]
      exact vis_self n P m _
    · obtain ⟨j, u, k, hj, hu, hk, _, he, hn, _⟩ := ok.par i v h0 hv
      obtain ⟨a, ha, _, e⟩ := frP_at hk
      rw [e] at he hn
      rw [hn]
      exact vis_closed hN (by omega) (ih j hj u hu) ha he
theorem vis_more {n : Nat} {N : Nat → Nod} {P : Nat → Pip} {m : Nat} (hN : netB n N m P = true) {r : Nat} (hr : r < n) (hroot : rts n P m r = true) {y : Int} (hy : vhas (vis n P m (r : Nat)) y = true) : vhas (vis n (frP n P m) (forest n P m).length (r : Nat)) y = true := by
  have ok := vis_ok (P := P) (m := m) (x := ((r : Nat) : Int)) hN (by omega)
  obtain ⟨i, v, hv, rfl⟩ := vhas_get hy
  clear hy
  induction i using Nat.strongRecOn generalizing v with
  | _ i ih =>
    rcases Nat.eq_zero_or_pos i with rfl | h0
    · have := ok.fst
      rw [hv] at this
      injection this with this
      rw [this]
      exact vis_self n _ _ _
    · obtain ⟨j, u, k, hj, hu, hk, hen, he, hn, _⟩ := ok.par i v h0 hv
      have hm : ((k : Nat) : Int) ∈ fcol n P m (fl (rts n P m) n) := by
        unfold fcol
        refine List.mem_flatMap.2 ⟨r, fl_mem hr hroot, ens_mem.2 ⟨v, List.mem_of_getElem? hv, hen, by omega⟩⟩
      obtain ⟨i', hi', e⟩ := frP_has hk hm
      rw [← e] at he hn
      rw [hn]
      exact vis_closed (net_forest hN) (by omega) (ih j hj u hu) hi' he
/-- the forest joins what the network joins -/
theorem cmp_forest {n : Nat} {N : Nat → Nod} {P : Nat → Pip} {m : Nat} (hN : netB n N m P = true) : ∀ (k : Nat), k ≤ n → ∀ y, cmp n (frP n P m) (forest n P m).length k y = cmp n P m k y
  | 0, _, y => rfl
  | k + 1, hk, y => by
    have ih := cmp_forest hN k (by omega)
    rw [cmp_succ, cmp_succ, ih, ih]
    by_cases h : cmp n P m k k = -1
    · have hroot := open_rts hN (by omega) h
      have e : vhas (vis n (frP n P m) (forest n P m).length (k : Nat)) y = vhas (vis n P m (k : Nat)) y := by
        rw [Bool.eq_iff_iff]
        exact ⟨fun g => vis_less hN (by omega) g, fun g => vis_more hN (by omega) hroot g⟩
      rw [e]
    · rw [if_neg (fun g => h g.1), if_neg (fun g => h g.1)]
end Go.Proofs.YtdbgcbkmcbgdiaaGreat.mem
