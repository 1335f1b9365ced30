/-
  entriesFrom: the table of entries of a search. Conditions: as each states.
-/
import Derived.Test.YtjjjdahegcjmaaaRows
import Derived.Test.YtjjjdahegcjmaaaVisF
namespace Go.Proofs.Ytjjjdahegcjmaaa.mem
open Go.RowKit
set_option linter.unusedVariables false
attribute [local go_sem] Oper.semAt_some

/-- a variable's box -/
theorem Ob.one (w : World) (v : Value) (t : TypeId) : Ob (w.alloc (.cells #[v] t)) w.heap.size 1 (fun _ => v) := Ob.new w _ _ 1 _ rfl (by intro k hk; have : k = 0 := (by omega); subst this; rfl)
/-- a table over the nodes -/
def tabC (f : Int → Int) : Nat → Value := fun k => .int .i64 (f ((k : Nat) : Int))
/-- the invariant of a loop that fills a table in block g, which lies in the box be -/
def TabI (f : List Vs → Int → Int) (g be n : Nat) (v : Value) (w : World) (pre : List Vs) (Y : Nat → Prop) (A : World) : Prop :=
  Y = (fun b => b = g) ∧ Ob A g n (tabC (f pre)) ∧ Ob A be 1 (fun _ => v) ∧ Below w.heap.size w A

theorem TabI.upd {f : List Vs → Int → Int} {g be n : Nat} {v : Value} {w : World} {pre : List Vs} {Y X : Nat → Prop} {A B : World} (h : TabI f g be n v w pre Y A) (u : Upd X A B) (hg : ¬ X g) (hb : ¬ X be) (hX : ∀ k, X k → w.heap.size ≤ k) : TabI f g be n v w pre Y B := by
  obtain ⟨h1, h2, h3, h4⟩ := h
  exact ⟨h1, h2.keep (u.block _ h2.lt hg), h3.keep (u.block _ h3.lt hb), h4.trans (u.below h4.size (fun k _ hk => hX k hk))⟩
/-- the visit that a round gets: not yet visited, a node -/
theorem Vok.round {n : Nat} {P : Nat → Pip} {m : Nat} {x : Int} {fs pre post : List Vs} {u : Vs} (h : Vok n P m x fs) (e : fs = pre ++ u :: post) : vhas pre u.nd = false ∧ ∃ Z : Nat, u.nd = ((Z : Nat) : Int) ∧ Z < n := by
  have hg : fs[pre.length]? = some u := by rw [e]; simp
  have h1 := h.has_take hg
  rw [show fs.take pre.length = pre by rw [e]; simp] at h1
  obtain ⟨h2, h3⟩ := h.rng u (List.mem_of_getElem? hg)
  obtain ⟨Z, hZ⟩ := Int.eq_ofNat_of_zero_le h2
  exact ⟨h1, Z, hZ, by omega⟩
theorem tab_step {A : World} {g n : Nat} {f : Vs → Int} {pre : List Vs} {u : Vs} {Z : Nat} (h : Ob A g n (tabC (vval f pre))) (h1 : vhas pre u.nd = false) (hZ : u.nd = ((Z : Nat) : Int)) (hn : Z < n) :
    Ob (A.setCell ⟨g, Z, none⟩ (.int .i64 (f u))) g n (tabC (vval f (pre ++ [u]))) := by
  refine (h.set Z _ hn).congr fun k hk => ?_
  unfold updV tabC
  rw [vval_app h1, hZ]
  by_cases hkz : k = Z
  · subst hkz
    rw [if_pos rfl, if_pos rfl]
  · rw [if_neg hkz, if_neg (by omega)]

set_option maxRecDepth 100000 in
set_option maxHeartbeats 4000000 in
theorem entriesFrom_any (w : World) (v : Value) (n : Nat) (N : Nat → Nod) (m : Nat) (P : Nat → Pip) (lo hi : Nat) (h : NetAt w v n N m P lo hi) (hhi : hi ≤ w.heap.size) (hB : netB n N m P = true) (X0 : Nat) (hX : X0 < n) :
    Calls Try.prog 69 #[v, .int .i64 (X0 : Nat)] w fun e w' => ∃ g, e = .returned (.slice (some ⟨g, 0, none⟩) n n) ∧ w.heap.size ≤ g ∧ Ob w' g n (tabC (vval (·.en) (vis n P m (X0 : Nat)))) ∧ Below w.heap.size w w' := by
  obtain ⟨p0, c0, p1, c1, rfl, hn9, hm9⟩ := h.parts
  obtain ⟨hn1, hn24, hm40⟩ := net_sz hB
  have HV := Lib.hid h
  have HB := Lib.hid hB
  have A0 := boxed w (.slice p0 n c0) (.slice p1 m c1) 30
  have B0 := below_new w (.cells #[.slice p0 n c0, .slice p1 m c1] 30)
  have hs0 : (w.alloc (.cells #[.slice p0 n c0, .slice p1 m c1] 30)).heap.size = w.heap.size + 1 := by simp
  have ok := vis_ok (x := ((X0 : Nat) : Int)) hB ⟨Int.natCast_nonneg _, by omega⟩
  have HOK := Lib.hid ok
  clear h hB ok
  refine (callsIn_wide (n := 9)).1 (callsIn_of_wp_marks Try.func69 rfl trivial ?_ rfl)
  simp only [Try.ntmps69, List.size_toArray, List.length_cons, List.length_nil, Nat.reduceAdd, Nat.reduceSub, Array.replicate_succ, Array.replicate_zero, List.push_toArray, List.append_toArray, List.nil_append, List.cons_append]
  gi_wp2
  refine ⟨trivial, (callsIn_wide.2 (unreached_any _ _ n N m P lo hi (HV.out.below B0 hhi) hn1 hn24)).mono ?_⟩
  rintro e w2 ⟨g, rfl, hg1, og, b2⟩
  have B2 := B0.trans (b2.mono (by omega))
  have A2 := A0.below b2 (by omega)
  have hs2 := b2.size
  have hg2 := og.lt
  have e0 := A2.b0
  have e1 := A2.b1
  have e2 : w.heap.size < w2.heap.size := by omega
  gi_wp2
  have A3 := A2.keep (Below.heap_alloc w2 (.cells #[.slice (some ⟨g, 0, none⟩) n n] 37) _ (by omega))
  have O3 := Ob.one w2 (.slice (some ⟨g, 0, none⟩) n n) 37
  have og3 := og.keep (Below.heap_alloc w2 (.cells #[.slice (some ⟨g, 0, none⟩) n n] 37) _ hg2)
  have B3 : Below w.heap.size w (w2.alloc (.cells #[.slice (some ⟨g, 0, none⟩) n n] 37)) := below_alloc B2 (by omega) _
  have hs3 : (w2.alloc (.cells #[.slice (some ⟨g, 0, none⟩) n n] 37)).heap.size = w2.heap.size + 1 := by simp
  generalize hW : w2.alloc (.cells #[.slice (some ⟨g, 0, none⟩) n n] 37) = w3 at *
  clear hW e0 e1
  refine ⟨trivial, (callsIn_wide.2 (visitsFrom_any 8 (by omega) w3 _ n N m P lo hi (HV.out.below B3 hhi) (by omega) HB.out X0 hX)).mono ?_⟩
  rintro e w4 ⟨lb, rfl, hseq, b4, hs4⟩
  gi_wp2
  refine wpIn_range_vis rfl (by omega) rfl trivial (fun _ _ => ?_) hseq (Upd.refl _ _) (fun b hb => by omega) (fun x => rfl) (fun b => b = g) (fun b hb => ⟨by omega, by omega⟩)
    (TabI (vval (·.en)) g w2.heap.size n (.slice (some ⟨g, 0, none⟩) n n) w) ?_ ?_ ?_ ?_
  · rfl
  · exact fun pre Y A B hi hu => hi.upd hu (by omega) (by omega) (fun k hk => by omega)
  · refine ⟨rfl, ?_, ?_, B3.trans (b4.mono (by omega))⟩
    · exact (og3.below b4 (by omega)).congr fun k hk => rfl
    · exact O3.below b4 (by omega)
  · intro l pre x post Y W hx hi hsz hY
    obtain ⟨rfl, ot, ob, bl⟩ := hi
    obtain ⟨q1, Z, hZ, q2⟩ := HOK.out.round hx
    simp only [encV, List.zip_toArray, List.zip_cons_cons, List.zip_nil_right, List.foldl_toArray, List.foldl_cons, List.foldl_nil, List.setIfInBounds_toArray, List.set_cons_succ, List.set_cons_zero]
    gi_wp2
    refine ⟨Upd.alloc _ _ _, fun Wb hWb => ?_⟩
    have hbv := boxedV W x 78
    rw [hZ] at hbv
    have hst := hWb.size
    simp only [World.size_alloc] at hst
    have hbk : ∀ b, b < W.heap.size → ¬ (w4.heap.size ≤ b ∧ b < w4.heap.size + 4) → Wb.heap[b]? = W.heap[b]? := fun b h1 h2 => (hWb.block b (by simp; omega) h2).trans (Below.heap_alloc _ _ _ h1)
    have hbv2 := hbv.keep (hWb.block W.heap.size (by simp) (by omega))
    have ot2 := ot.keep (hbk _ ot.lt (by omega))
    have ob2 := ob.keep (hbk _ ob.lt (by omega))
    have lt1 := ot.lt
    have lt2 := ob.lt
    have y0 : Wb.cell? ⟨w2.heap.size, 0, none⟩ = some (.slice (some ⟨g, 0, none⟩) n n) := ob2.cell 0 (by omega)
    have y1 : Wb.cell? ⟨W.heap.size, 0, none⟩ = some (.int .i64 (Z : Int)) := by rw [← hZ]; exact hbv2.cell 0 (by omega)
    have y2 : Wb.cell? ⟨W.heap.size, 1, none⟩ = some (.int .i64 x.en) := hbv2.cell 1 (by omega)
    have y3 : Wb.cell? ⟨g, Z, none⟩ = some (tabC (vval (·.en) pre) Z) := ot2.cell Z (by omega)
    have y4 : Wb.frozen? ⟨g, Z, none⟩ = false := ot2.free Z
    have y5 : (0 : Int) ≤ (Z : Int) := Int.natCast_nonneg _
    have y6 : (Z : Int) < (n : Int) := by omega
    have hbl2 : Below w.heap.size w Wb := (below_alloc bl (by omega) (.cells #[.int .i64 (Z : Int), .int .i64 x.en, .int .i64 x.ds] 78)).trans (hWb.below (by simp; omega) (fun k _ hk => by omega))
    have ts := tab_step ot2 q1 hZ q2
    have o1 := (Only.refl g Wb).setCell Z (.int .i64 x.en)
    clear hbv hbv2 hbk hWb
    gi_wp2
    exact ⟨_, (Upd.of_only o1).mono (fun b _ hb => .inl hb), ⟨rfl, ts, ob2.only o1 (by omega), hbl2.trans (o1.below (by omega))⟩, fun b hb => .inl hb⟩
  · intro Y W hi hd
    obtain ⟨rfl, ot, ob, bl⟩ := hi
    have lt1 := ot.lt
    have lt2 := ob.lt
    have y0 : W.cell? ⟨w2.heap.size, 0, none⟩ = some (.slice (some ⟨g, 0, none⟩) n n) := ob.cell 0 (by omega)
    gi_wp2
    refine ⟨by simp, .inl ⟨_, _, rfl, run_takeDeferred hd, ?_⟩⟩
    refine ⟨_, results_tmp rfl _ _ _, g, rfl, by omega, ot.keep (World.putObj_heap_other (by omega)), bl.trans ((Upd.putObj (fun b => b = w4.heap.size) _ _ _ rfl).below (by omega) (fun k _ hk => by omega))⟩
end Go.Proofs.Ytjjjdahegcjmaaa.mem
