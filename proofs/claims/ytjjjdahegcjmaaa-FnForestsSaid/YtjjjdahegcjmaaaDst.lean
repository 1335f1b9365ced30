/-
  DistancesFrom and EntriesFrom, the program's. Conditions: as each states.
-/
import Derived.Test.YtjjjdahegcjmaaaRows
import Derived.Test.YtjjjdahegcjmaaaEnt
import Derived.Test.YtjjjdahegcjmaaaNetPA
namespace Go.Proofs.Ytjjjdahegcjmaaa.mem
open Go.RowKit
set_option linter.unusedVariables false
attribute [local go_sem] Oper.semAt_some

/-- the code of an argument that is a node -/
noncomputable def ndC (n : Nat) (N : Nat → Nod) (m : Nat) (P : Nat → Pip) (x : Int) : Int := codeB (netB n N m P) (inR x 0 (n - 1))
noncomputable def ndN (n : Nat) (N : Nat → Nod) (m : Nat) (P : Nat → Pip) (x : Int) : Nat := if ndC n N m P x = 0 then n else 0
theorem Ob.ownT {w : World} {g n : Nat} {f : Int → Int} (h : Ob w g n (tabC f)) (hn : n ≤ 24) : OwnS w (.slice (some ⟨g, 0, none⟩) n n) n 1 (fun i _ => .int .i64 (f ((i : Nat) : Int))) g := by
  refine ⟨_, n, rfl, Nat.le_refl _, by omega, .inr ⟨rfl, ⟨n, tabC f, by omega, h, fun i j hi hj => ?_⟩⟩⟩
  obtain rfl : j = 0 := by omega
  rw [Nat.mul_one, Nat.add_zero]
  rfl
theorem li_tab {w w' : World} {cnt g n : Nat} {f : Int → Int} {c : Int} {e : Ending} (h0 : n = cnt) (hc : 0 = c) (he : e = .returned (.tuple #[.slice (some ⟨g, 0, none⟩) n n, .int .i64 0])) (h : Ob w' g n (tabC f)) (hn : n ≤ 24) (hg : w.heap.size ≤ g) (hb : Below w.heap.size w w') : LIPost w cnt (fun k => f ((k : Nat) : Int)) c e w' := by
  subst h0 hc
  exact ⟨_, g, he, h.ownT hn, hg, hb⟩
theorem ndC_zero {n : Nat} {N : Nat → Nod} {m : Nat} {P : Nat → Pip} {x : Int} (h : ndC n N m P x = 0) : netB n N m P = true ∧ ∃ X0 : Nat, x = ((X0 : Nat) : Int) ∧ X0 < n := by
  obtain ⟨h1, h2⟩ := codeB_zero h
  obtain ⟨h3, h4⟩ := inR_iff.1 h2
  obtain ⟨X0, hX⟩ := Int.eq_ofNat_of_zero_le h3
  have := (net_sz h1).1
  exact ⟨h1, X0, hX, by omega⟩

set_option maxRecDepth 100000 in
set_option maxHeartbeats 4000000 in
theorem distancesFromI_any (w : World) (v : Value) (n : Nat) (N : Nat → Nod) (m : Nat) (P : Nat → Pip) (lo hi : Nat) (h : NetAt w v n N m P lo hi) (hhi : hi ≤ w.heap.size) (hN : ∀ i, i < n → (N i).s.size ≤ 9223372036854775807) (x : Int) :
    Calls Try.prog 23 #[v, .int .i64 x] w (LIPost w (ndN n N m P x) (fun k => vval (·.ds) (vis n P m x) ((k : Nat) : Int)) (ndC n N m P x)) := by
  obtain ⟨p0, c0, p1, c1, rfl, hn9, hm9⟩ := h.parts
  have HV := Lib.hid h
  have HN := Lib.hid hN
  have A0 := boxed w (.slice p0 n c0) (.slice p1 m c1) 30
  have B0 := below_new w (.cells #[.slice p0 n c0, .slice p1 m c1] 30)
  have hs0 : (w.alloc (.cells #[.slice p0 n c0, .slice p1 m c1] 30)).heap.size = w.heap.size + 1 := by simp
  have HCD := Lib.hid (show codeB (netB n N m P) (inR x 0 (n - 1)) = ndC n N m P x from rfl)
  have HND := Lib.hid (show ndN n N m P x = if ndC n N m P x = 0 then n else 0 from rfl)
  have hall : allR n 1 (fun _ => x) = inR x 0 (n - 1) := by
    rw [Bool.eq_iff_iff, allR_iff]
    exact ⟨fun h => h 0 (by omega), fun h i _ => h⟩
  have HAL := Lib.hid hall
  clear hall h hN
  refine (callsIn_wide (n := 9)).1 (callsIn_of_wp_marks Try.func23 rfl trivial ?_ rfl)
  simp only [Try.ntmps23, List.size_toArray, List.length_cons, List.length_nil, Nat.reduceAdd, Nat.reduceSub, Array.replicate_succ, Array.replicate_zero, List.push_toArray, List.append_toArray, List.nil_append, List.cons_append]
  gi_wp2
  have S1 := one_arg (w.alloc (Obj.cells #[Value.slice p0 n c0, Value.slice p1 m c1] 30)) x
  have A1 := A0.keep (Below.heap_alloc _ (Obj.cells #[Value.int .i64 x] 2) _ A0.lt)
  have C1 : Below w.heap.size w ((w.alloc (Obj.cells #[Value.slice p0 n c0, Value.slice p1 m c1] 30)).alloc (Obj.cells #[Value.int .i64 x] 2)) := below_alloc B0 (by omega) _
  have hs1 : ((w.alloc (Obj.cells #[Value.slice p0 n c0, Value.slice p1 m c1] 30)).alloc (Obj.cells #[Value.int .i64 x] 2)).heap.size = w.heap.size + 2 := by simp
  generalize hW : (w.alloc (Obj.cells #[Value.slice p0 n c0, Value.slice p1 m c1] 30)).alloc (Obj.cells #[Value.int .i64 x] 2) = w1 at *
  clear hW
  simp only [szal] at S1
  refine ⟨trivial, (callsIn_wide.2 (checkNodes_any _ _ n N m P lo hi (HV.out.below C1 hhi) (by omega) HN.out _ 1 (fun _ => x) 0 _ S1 (by omega))).mono ?_⟩
  rintro e w5 ⟨rfl, b5⟩
  rw [HAL.out, HCD.out]
  clear S1 A0 B0 hs0
  have A0 := A1.below b5 (by omega)
  have B0 := C1.trans (b5.mono (by omega))
  have hs5 := b5.size
  have e0 := A0.b0
  have e1 := A0.b1
  have e2 : w.heap.size < w5.heap.size := by omega
  by_cases hc : ndC n N m P x = 0
  rotate_left 1
  · have hcb : (ndC n N m P x != 0) = true := by simp [hc]
    have H := Lib.hid (show ndN n N m P x = 0 by rw [HND.out, if_neg hc])
    clear hc
    gi_wp2
    exact ⟨_, results_tmp2 rfl _ _ _, li_err H.out rfl rfl B0⟩
  have hcb : (ndC n N m P x != 0) = false := by simp [hc]
  have HND2 := Lib.hid (show ndN n N m P x = n by rw [HND.out, if_pos hc])
  have HC := Lib.hid hc
  obtain ⟨hB, X0, rfl, hX⟩ := ndC_zero hc
  clear hc
  obtain ⟨hn1, hn24, hm40⟩ := net_sz hB
  have HB := Lib.hid hB
  have ok := vis_ok (x := ((X0 : Nat) : Int)) hB ⟨Int.natCast_nonneg _, by omega⟩
  have HOK := Lib.hid ok
  clear hB ok
  gi_wp2
  refine ⟨trivial, (callsIn_wide.2 (unreached_any _ _ n N m P lo hi (HV.out.below B0 hhi) hn1 hn24)).mono ?_⟩
  rintro e w2 ⟨g, rfl, hg1, og, b2⟩
  have B2 := B0.trans (b2.mono (by omega))
  have A2 := A0.below b2 (by omega)
  have hs2 := b2.size
  have hg2 := og.lt
  have e0 := A2.b0
  have e1 := A2.b1
  have e2 : w.heap.size < w2.heap.size := by omega
  gi_wp2
  have A3 := A2.keep (Below.heap_alloc w2 (.cells #[.slice (some ⟨g, 0, none⟩) n n] 37) _ (by omega))
  have O3 := Ob.one w2 (.slice (some ⟨g, 0, none⟩) n n) 37
  have og3 := og.keep (Below.heap_alloc w2 (.cells #[.slice (some ⟨g, 0, none⟩) n n] 37) _ hg2)
  have B3 : Below w.heap.size w (w2.alloc (.cells #[.slice (some ⟨g, 0, none⟩) n n] 37)) := below_alloc B2 (by omega) _
  have hs3 : (w2.alloc (.cells #[.slice (some ⟨g, 0, none⟩) n n] 37)).heap.size = w2.heap.size + 1 := by simp
  generalize hW : w2.alloc (.cells #[.slice (some ⟨g, 0, none⟩) n n] 37) = w3 at *
  clear hW e0 e1
  refine ⟨trivial, (callsIn_wide.2 (visitsFrom_any 8 (by omega) w3 _ n N m P lo hi (HV.out.below B3 hhi) (by omega) HB.out X0 hX)).mono ?_⟩
  rintro e w4 ⟨lb, rfl, hseq, b4, hs4⟩
  gi_wp2
  refine wpIn_range_vis rfl (by omega) rfl trivial (fun _ _ => ?_) hseq (Upd.refl _ _) (fun b hb => by omega) (fun x => rfl) (fun b => b = g) (fun b hb => ⟨by omega, by omega⟩)
    (TabI (vval (·.ds)) g w2.heap.size n (.slice (some ⟨g, 0, none⟩) n n) w) ?_ ?_ ?_ ?_
  · rfl
  · exact fun pre Y A B hi hu => hi.upd hu (by omega) (by omega) (fun k hk => by omega)
  · refine ⟨rfl, ?_, ?_, B3.trans (b4.mono (by omega))⟩
    · exact (og3.below b4 (by omega)).congr fun k hk => rfl
    · exact O3.below b4 (by omega)
  · intro l pre x post Y W hx hi hsz hY
    obtain ⟨rfl, ot, ob, bl⟩ := hi
    obtain ⟨q1, Z, hZ, q2⟩ := HOK.out.round hx
    simp only [encV, List.zip_toArray, List.zip_cons_cons, List.zip_nil_right, List.foldl_toArray, List.foldl_cons, List.foldl_nil, List.setIfInBounds_toArray, List.set_cons_succ, List.set_cons_zero]
    gi_wp2
    refine ⟨Upd.alloc _ _ _, fun Wb hWb => ?_⟩
    have hbv := boxedV W x 78
    rw [hZ] at hbv
    have hst := hWb.size
    simp only [World.size_alloc] at hst
    have hbk : ∀ b, b < W.heap.size → ¬ (w4.heap.size ≤ b ∧ b < w4.heap.size + 4) → Wb.heap[b]? = W.heap[b]? := fun b h1 h2 => (hWb.block b (by simp; omega) h2).trans (Below.heap_alloc _ _ _ h1)
    have hbv2 := hbv.keep (hWb.block W.heap.size (by simp) (by omega))
    have ot2 := ot.keep (hbk _ ot.lt (by omega))
    have ob2 := ob.keep (hbk _ ob.lt (by omega))
    have lt1 := ot.lt
    have lt2 := ob.lt
    have y0 : Wb.cell? ⟨w2.heap.size, 0, none⟩ = some (.slice (some ⟨g, 0, none⟩) n n) := ob2.cell 0 (by omega)
    have y1 : Wb.cell? ⟨W.heap.size, 0, none⟩ = some (.int .i64 (Z : Int)) := by rw [← hZ]; exact hbv2.cell 0 (by omega)
    have y2 : Wb.cell? ⟨W.heap.size, 2, none⟩ = some (.int .i64 x.ds) := hbv2.cell 2 (by omega)
    have y3 : Wb.cell? ⟨g, Z, none⟩ = some (tabC (vval (·.ds) pre) Z) := ot2.cell Z (by omega)
    have y4 : Wb.frozen? ⟨g, Z, none⟩ = false := ot2.free Z
    have y5 : (0 : Int) ≤ (Z : Int) := Int.natCast_nonneg _
    have y6 : (Z : Int) < (n : Int) := by omega
    have hbl2 : Below w.heap.size w Wb := (below_alloc bl (by omega) (.cells #[.int .i64 (Z : Int), .int .i64 x.en, .int .i64 x.ds] 78)).trans (hWb.below (by simp; omega) (fun k _ hk => by omega))
    have ts := tab_step ot2 q1 hZ q2
    have o1 := (Only.refl g Wb).setCell Z (.int .i64 x.ds)
    clear hbv hbv2 hbk hWb
    gi_wp2
    exact ⟨_, (Upd.of_only o1).mono (fun b _ hb => .inl hb), ⟨rfl, ts, ob2.only o1 (by omega), hbl2.trans (o1.below (by omega))⟩, fun b hb => .inl hb⟩
  · intro Y W hi hd
    obtain ⟨rfl, ot, ob, bl⟩ := hi
    have lt1 := ot.lt
    have lt2 := ob.lt
    have y0 : W.cell? ⟨w2.heap.size, 0, none⟩ = some (.slice (some ⟨g, 0, none⟩) n n) := ob.cell 0 (by omega)
    gi_wp2
    refine ⟨by simp, .inl ⟨_, _, rfl, run_takeDeferred hd, ?_⟩⟩
    refine ⟨_, results_tmp2 rfl _ _ _, li_tab HND2.out.symm HC.out.symm rfl (ot.keep (World.putObj_heap_other (by omega))) hn24 (by omega) (bl.trans ((Upd.putObj (fun b => b = w4.heap.size) _ _ _ rfl).below (by omega) (fun k _ hk => by omega)))⟩

set_option maxRecDepth 100000 in
set_option maxHeartbeats 4000000 in
theorem entriesFromI_any (w : World) (v : Value) (n : Nat) (N : Nat → Nod) (m : Nat) (P : Nat → Pip) (lo hi : Nat) (h : NetAt w v n N m P lo hi) (hhi : hi ≤ w.heap.size) (hN : ∀ i, i < n → (N i).s.size ≤ 9223372036854775807) (x : Int) :
    Calls Try.prog 28 #[v, .int .i64 x] w (LIPost w (ndN n N m P x) (fun k => vval (·.en) (vis n P m x) ((k : Nat) : Int)) (ndC n N m P x)) := by
  obtain ⟨p0, c0, p1, c1, rfl, hn9, hm9⟩ := h.parts
  have HV := Lib.hid h
  have HN := Lib.hid hN
  have A0 := boxed w (.slice p0 n c0) (.slice p1 m c1) 30
  have B0 := below_new w (.cells #[.slice p0 n c0, .slice p1 m c1] 30)
  have HCD := Lib.hid (show codeB (netB n N m P) (inR x 0 (n - 1)) = ndC n N m P x from rfl)
  have HND := Lib.hid (show ndN n N m P x = if ndC n N m P x = 0 then n else 0 from rfl)
  have hall : allR n 1 (fun _ => x) = inR x 0 (n - 1) := by
    rw [Bool.eq_iff_iff, allR_iff]
    exact ⟨fun h => h 0 (by omega), fun h i _ => h⟩
  have HAL := Lib.hid hall
  clear hall h hN
  go_enter Try.func28, Try.ntmps28
  go_wp2_with fail
  have S1 := one_arg (w.alloc (Obj.cells #[Value.slice p0 n c0, Value.slice p1 m c1] 30)) x
  have A1 := A0.keep (Below.heap_alloc _ (Obj.cells #[Value.int .i64 x] 2) _ A0.lt)
  have C1 : Below w.heap.size w ((w.alloc (Obj.cells #[Value.slice p0 n c0, Value.slice p1 m c1] 30)).alloc (Obj.cells #[Value.int .i64 x] 2)) := below_alloc B0 (by simp) _
  have hs1 : ((w.alloc (Obj.cells #[Value.slice p0 n c0, Value.slice p1 m c1] 30)).alloc (Obj.cells #[Value.int .i64 x] 2)).heap.size = w.heap.size + 2 := by simp
  simp only [szal] at S1
  refine (checkNodes_any _ _ n N m P lo hi (HV.out.below C1 hhi) (by omega) HN.out _ 1 (fun _ => x) 0 _ S1 (by omega)).mono ?_
  rintro e w5 ⟨rfl, b5⟩
  rw [HAL.out, HCD.out]
  clear S1 A0 B0
  have A0 := A1.below b5 (by omega)
  have B0 := C1.trans (b5.mono (by omega))
  have hs5 := b5.size
  have e0 := A0.b0
  have e1 := A0.b1
  have e2 : w.heap.size < w5.heap.size := by omega
  by_cases hc : ndC n N m P x = 0
  rotate_left 1
  · have hcb : (ndC n N m P x != 0) = true := by simp [hc]
    have H := Lib.hid (show ndN n N m P x = 0 by rw [HND.out, if_neg hc])
    clear hc
    go_wp2_with fail
    go_ret2
    exact li_err H.out rfl rfl B0
  have hcb : (ndC n N m P x != 0) = false := by simp [hc]
  have HND2 := Lib.hid (show ndN n N m P x = n by rw [HND.out, if_pos hc])
  have HC := Lib.hid hc
  obtain ⟨hB, X0, rfl, hX⟩ := ndC_zero hc
  clear hc
  have hn24 := (net_sz hB).2.1
  have HB := Lib.hid hB
  clear hB
  go_wp2_with fail
  refine (entriesFrom_any _ _ n N m P lo hi (HV.out.below B0 hhi) (by omega) HB.out X0 hX).mono ?_
  rintro e w6 ⟨g, rfl, hg, og, b6⟩
  have B6 := B0.trans (b6.mono (by omega))
  clear b6
  go_wp2_with fail
  go_ret2
  exact li_tab HND2.out.symm HC.out.symm rfl og hn24 (by omega) B6
end Go.Proofs.Ytjjjdahegcjmaaa.mem
