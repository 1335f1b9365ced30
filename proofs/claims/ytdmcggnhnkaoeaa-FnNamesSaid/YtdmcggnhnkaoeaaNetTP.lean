/-
  TurnPipe: the contracts of the program and of the specification. Conditions: as each states.
-/
import Derived.Test.YtdmcggnhnkaoeaaRows
import Derived.Test.YtdmcggnhnkaoeaaNetOw
import Derived.Test.YtdmcggnhnkaoeaaNetPA
import Derived.WalkKit
import Derived.ProofKit
import Derived.Outline
import Derived.OwnWalk
import Derived.Lib.Hide
import Derived.Deep.RegionHeld3
namespace Go.Proofs.Ytdmcggnhnkaoeaa.mem
open Go.RowKit
set_option linter.unusedVariables false

noncomputable def tpC (n : Nat) (N : Nat → Nod) (m : Nat) (P : Nat → Pip) (x : Int) : Int := codeB (netB n N m P) (inR x 0 (m - 1))
noncomputable def tpN (n : Nat) (N : Nat → Nod) (m : Nat) (P : Nat → Pip) (x : Int) (k : Nat) : Nat := if tpC n N m P x = 0 then k else 0
def turnP (P : Nat → Pip) (k : Nat) : Nat → Pip := fun i => if i = k then ⟨(P k).t, (P k).f, (P k).k, (P k).v, (P k).l⟩ else P i
theorem ni_err {w w' : World} {n m : Nat} {N : Nat → Nod} {P : Nat → Pip} {c c' : Int} {e : Ending} (h0 : n = 0) (h1 : m = 0) (hc : c = c') (he : e = .returned (.tuple #[.agg #[.slice none 0 0, .slice none 0 0], .int .i64 c])) (hb : Below w.heap.size w w') : NIPost w n N m P c' e w' := by
  subst h0 h1 hc
  exact ⟨_, w.heap.size, w.heap.size, he, NetOwn.none_ _ _ _ _ _, Nat.le_refl _, Nat.le_refl _, hb⟩

theorem upd_dw {X : Nat → Prop} {w w' : World} (h : Upd X w w') : Upd X w w'.drew := ⟨h.os, h.tape, h.output, h.size, h.block⟩
theorem turn_eq (P : Nat → Pip) (k : Nat) (c : Nat → Nat → Value) (h : ∀ i j, c i j = if i = k then (if j = 0 then .int .i64 (P k).t else if j = 1 then .int .i64 (P k).f else pipC P i j) else pipC P i j) :
    ∀ i j, j < 5 → c i j = pipC (turnP P k) i j := by
  intro i j hj
  rw [h i j]
  by_cases e : i = k
  · subst e
    rcases (by omega : j = 0 ∨ j = 1 ∨ j = 2 ∨ j = 3 ∨ j = 4) with rfl | rfl | rfl | rfl | rfl <;> simp [pipC, turnP]
  · rcases (by omega : j = 0 ∨ j = 1 ∨ j = 2 ∨ j = 3 ∨ j = 4) with rfl | rfl | rfl | rfl | rfl <;> simp [pipC, turnP, e]
theorem turn_row {w : World} {b m k : Nat} {P : Nat → Pip} (h : Rw w b m 5 (pipC P)) (hk : k < m) :
    Rw ((w.setCell ⟨b, k * 5, none⟩ (.int .i64 (P k).t)).setCell ⟨b, k * 5 + 1, none⟩ (.int .i64 (P k).f)) b m 5 (pipC (turnP P k)) := by
  refine (((h.set k 0 (.int .i64 (P k).t) hk (by omega)).set k 1 (.int .i64 (P k).f) hk (by omega))).congr fun i j hi hj => turn_eq P k _ (fun i j => ?_) i j hj
  unfold updC
  by_cases e : i = k
  · subst e
    by_cases e0 : j = 0
    · subst e0; simp
    · by_cases e1 : j = 1
      · subst e1; simp
      · simp [e0, e1]
  · simp [e]
theorem turn_row5 {w : World} {b m k : Nat} {P : Nat → Pip} (h : Rw w b m 5 (pipC P)) (hk : k < m) :
    Rw (((((w.setCell ⟨b, k * 5, none⟩ (.int .i64 (P k).t)).setCell ⟨b, k * 5 + 1, none⟩ (.int .i64 (P k).f)).setCell ⟨b, k * 5 + 2, none⟩ (.int .i64 (P k).k)).setCell ⟨b, k * 5 + 3, none⟩ (.int .i64 (P k).v)).setCell ⟨b, k * 5 + 4, none⟩ (.int .i64 (P k).l)) b m 5 (pipC (turnP P k)) := by
  refine ((((turn_row h hk).set k 2 (.int .i64 (P k).k) hk (by omega)).set k 3 (.int .i64 (P k).v) hk (by omega)).set k 4 (.int .i64 (P k).l) hk (by omega)).congr fun i j hi hj => ?_
  unfold updC
  by_cases e : i = k
  · subst e
    rcases (by omega : j = 0 ∨ j = 1 ∨ j = 2 ∨ j = 3 ∨ j = 4) with rfl | rfl | rfl | rfl | rfl <;> simp [pipC, turnP]
  · simp [e]
theorem ni_ok {w w3 w' : World} {u0 : Value} {n m n' m' b1 b2 r : Nat} {N : Nat → Nod} {P P' : Nat → Pip} {c : Int} {e : Ending} {cap : Nat} (hn : n' = n) (hm : m' = m) (hc : c = 0)
    (he : e = .returned (.tuple #[.agg #[u0, .slice (some ⟨b2, 0, none⟩) m cap], .int .i64 0])) (h : NetOwn w3 (.agg #[u0, .slice (some ⟨b2, 0, none⟩) m cap]) n N m P b1 b2) (hu : Upd (fun x => x = b2 ∨ x = r) w3 w') (hr : b1 ≠ r)
    (hR : Rw w' b2 m 5 (pipC P')) (hb1 : w.heap.size ≤ b1) (hb2 : w.heap.size ≤ b2) (hb : Below w.heap.size w w') (hm0 : 0 < m) : NIPost w n' N m' P' c e w' := by
  subst hn hm hc
  obtain ⟨z0, z1, he', g0, g1, hd⟩ := h.ex
  simp only [Value.agg.injEq, Array.mk.injEq, List.cons.injEq, and_true] at he'
  obtain ⟨rfl, rfl⟩ := he'
  obtain ⟨p, q, hv, h1, h2, _⟩ := g1.ex
  injection hv with _ _ e3
  subst e3
  exact ⟨_, b1, b2, he, ⟨_, _, rfl, g0.upd hu (by rcases hd with hd | hd | hd; exact .inl hd; omega; exact .inr (by rintro (hx | hx); exact hd hx; exact hr hx)), hR.own h1 h2, hd⟩, hb1, hb2, hb⟩

set_option maxRecDepth 100000 in
set_option maxHeartbeats 4000000 in
theorem turnI_any (w : World) (v : Value) (n : Nat) (N : Nat → Nod) (m : Nat) (P : Nat → Pip) (lo hi : Nat) (h : NetAt w v n N m P lo hi) (hhi : hi ≤ w.heap.size) (hN : ∀ i, i < n → (N i).s.size ≤ 9223372036854775807) (hn2 : n ≤ 2000000) (hm2 : m ≤ 2000000) (x : Int) :
    Calls Try.prog 11 #[v, .int .i64 x] w (NIPost w (tpN n N m P x n) N (tpN n N m P x m) (turnP P x.toNat) (tpC n N m P x)) := by
  obtain ⟨v0, v1, rfl, g0, g1⟩ := h.ex
  obtain ⟨p0, c0, rfl⟩ := g0.shape
  obtain ⟨p1, c1, rfl⟩ := g1.shape
  have hn9 : n ≤ 9223372036854775807 := by omega
  have hm9 : m ≤ 9223372036854775807 := by omega
  have HC1 : Hid (m = 0 ∨ ∃ b o, p1 = some ⟨b, o, none⟩ ∧ lo ≤ b ∧ b < hi ∧ At w b o m 5 (pipC P)) := by
    obtain ⟨p, cap, hv, _, _, hc⟩ := g1.ex
    injection hv with e1 _ e2
    subst e1
    exact Lib.hid hc
  have HV := Lib.hid h
  have HN := Lib.hid hN
  clear h g0 g1 hN
  have HCD := Lib.hid (show tpC n N m P x = codeB (netB n N m P) (inR x 0 (m - 1)) from rfl)
  go_enter Try.func11, Try.ntmps11
  go_wp2_with fail
  have A1 := (boxed w (.slice p0 n c0) (.slice p1 m c1) 27).keep (Below.heap_alloc (w.alloc (Obj.cells #[Value.slice p0 n c0, Value.slice p1 m c1] 27)) (Obj.cells #[Value.slice none 0 0, Value.slice none 0 0] 27) _ (by simp))
  have R1 := boxed (w.alloc (Obj.cells #[Value.slice p0 n c0, Value.slice p1 m c1] 27)) (.slice none 0 0) (.slice none 0 0) 27
  rw [show (w.alloc (Obj.cells #[Value.slice p0 n c0, Value.slice p1 m c1] 27)).heap.size = w.heap.size + 1 by simp] at R1
  have C1 := bel2 w (Obj.cells #[Value.slice p0 n c0, Value.slice p1 m c1] 27) (Obj.cells #[Value.slice none 0 0, Value.slice none 0 0] 27)
  have hs1 : w.heap.size + 2 ≤ ((w.alloc (Obj.cells #[Value.slice p0 n c0, Value.slice p1 m c1] 27)).alloc (Obj.cells #[Value.slice none 0 0, Value.slice none 0 0] 27)).heap.size := by simp
  refine (checkPipe_any _ _ n N m P lo hi (HV.out.below C1 hhi) (by omega) HN.out x).mono ?_
  rintro e w2 ⟨rfl, b2⟩
  have A2 := A1.next b2
  have R2 := R1.next b2
  have C2 := belowNext C1 b2
  have hs2 := Nat.le_trans hs1 b2.size
  have e0 := A2.b0
  have e1 := A2.b1
  have e2 : w.heap.size < w2.heap.size := by omega
  clear b2 A1 C1 hs1 R1
  rw [← HCD.out]
  by_cases hc : tpC n N m P x = 0
  rotate_left 1
  · have hcb : (tpC n N m P x != 0) = true := by simp [hc]
    have f0 := R2.b0
    have f1 := R2.b1
    have k0 := R2.free 0
    have k1 := R2.free 1
    have H := Lib.hid (fun k => show tpN n N m P x k = 0 by unfold tpN; rw [if_neg hc])
    have C3 := Lib.hid (below_set (below_set C2 (b := w.heap.size + 1) (by omega) 0 (.slice none 0 0)) (b := w.heap.size + 1) (by omega) 1 (.slice none 0 0))
    clear hc
    go_wp2_with fail
    refine bodyPost_ret (v := .tuple #[.agg #[.slice none 0 0, .slice none 0 0], .int .i64 (tpC n N m P x)]) (by simp [results, Try.results11, go_sem, f0, f1]) rfl (ni_err (H.out n) (H.out m) rfl rfl C3.out)
  have hcb : (tpC n N m P x != 0) = false := by simp [hc]
  have HT := Lib.hid (fun k => show tpN n N m P x k = k by unfold tpN; rw [if_pos hc])
  have hz := codeB_zero (HCD.out ▸ hc)
  obtain ⟨k, rfl⟩ := Int.eq_ofNat_of_zero_le (inR_iff.1 hz.2).1
  have hxk := (inR_iff.1 hz.2).2
  have HC := Lib.hid hc
  have hkm : k < m := by omega
  clear hc hz
  rcases HC1.out with h0 | ⟨b, o, rfl, hlo, hb, g3⟩
  · omega
  have y0 : w.cell? ⟨b, o + k * 5, none⟩ = some (.int .i64 (P k).f) := g3.cell k 0 hkm (by omega)
  have y1 : w.cell? ⟨b, o + k * 5 + 1, none⟩ = some (.int .i64 (P k).t) := g3.cell k 1 hkm (by omega)
  have y2 : w.cell? ⟨b, o + k * 5 + 2, none⟩ = some (.int .i64 (P k).k) := g3.cell k 2 hkm (by omega)
  have y3 : w.cell? ⟨b, o + k * 5 + 3, none⟩ = some (.int .i64 (P k).v) := g3.cell k 3 hkm (by omega)
  have y4 : w.cell? ⟨b, o + k * 5 + 4, none⟩ = some (.int .i64 (P k).l) := g3.cell k 4 hkm (by omega)
  have Y := Lib.hid (And.intro y0 (And.intro y1 (And.intro y2 (And.intro y3 y4))))
  clear g3 y0 y1 y2 y3 y4
  go_wp2_with fail
  refine (copied_any _ _ n N m P lo hi (HV.out.below C2 hhi) (by omega) HN.out hn2 hm2).mono ?_
  rintro e w3 ⟨u, b1, b2, rfl, ou, l1, l2, b3⟩
  obtain ⟨u1, u2, u3, u4, rfl⟩ := ou.shape
  have A3 := A2.next b3
  have R3 := R2.next b3
  have C3 := belowNext C2 b3
  have hs3 := Nat.le_trans hs2 b3.size
  clear b3 A2 R2 C2 e0 e1 e2
  have e0 := A3.b0
  have e1 := A3.b1
  have e2 := A3.lt
  have hbw : b < w.heap.size := Nat.lt_of_lt_of_le hb hhi
  obtain ⟨rfl, hR⟩ : u3 = some ⟨b2, 0, none⟩ ∧ Rw w3 b2 m 5 (pipC P) := by
    obtain ⟨z0, z1, he, _, h2, _⟩ := ou.ex
    simp only [Value.agg.injEq, Array.mk.injEq, List.cons.injEq, and_true] at he
    obtain ⟨p, cap, hv, _, _, h3⟩ := h2.ex
    rw [← he.2] at hv
    injection hv with f1 _ _
    subst f1
    rcases h3 with h3 | ⟨h3, h4⟩
    · omega
    · exact ⟨h3, h4⟩
  have hlt := hR.lt
  have hb2 : w.heap.size + 2 ≤ b2 := by omega
  have W4 := below_new w3 (Obj.cells #[Value.slice u1 n u2, Value.slice (some ⟨b2, 0, none⟩) m u4] 27)
  have y0 := ((C3.trans (W4.mono (by omega))).cell (p := ⟨b, o + k * 5, none⟩) hbw).trans Y.out.1
  have y1 := ((C3.trans (W4.mono (by omega))).cell (p := ⟨b, o + k * 5 + 1, none⟩) hbw).trans Y.out.2.1
  have y2 := ((C3.trans (W4.mono (by omega))).cell (p := ⟨b, o + k * 5 + 2, none⟩) hbw).trans Y.out.2.2.1
  have y3 := ((C3.trans (W4.mono (by omega))).cell (p := ⟨b, o + k * 5 + 3, none⟩) hbw).trans Y.out.2.2.2.1
  have y4 := ((C3.trans (W4.mono (by omega))).cell (p := ⟨b, o + k * 5 + 4, none⟩) hbw).trans Y.out.2.2.2.2
  have OU := Lib.hid ou
  have HR := Lib.hid hR
  have H1 := Lib.hid (And.intro A3 (And.intro R3 (And.intro C3 W4)))
  clear ou hR A3 R3 C3 W4
  go_wp2_with fail
  clear y0 y1 y2 y3 y4 e0 e1 e2 HC1
  have T5 := (boxed w3 (.slice u1 n u2) (.slice (some ⟨b2, 0, none⟩) m u4) 27).next (below_new _ (Obj.cells #[Value.int .i64 (P k).f, .int .i64 (P k).t, .int .i64 (P k).k, .int .i64 (P k).v, .int .i64 (P k).l] 68))
  have S5 := Ob.new (w3.alloc (Obj.cells #[Value.slice u1 n u2, Value.slice (some ⟨b2, 0, none⟩) m u4] 27)) #[Value.int .i64 (P k).f, .int .i64 (P k).t, .int .i64 (P k).k, .int .i64 (P k).v, .int .i64 (P k).l] 68 5 (pipC P k) rfl (by intro j hj; rcases (by omega : j = 0 ∨ j = 1 ∨ j = 2 ∨ j = 3 ∨ j = 4) with rfl | rfl | rfl | rfl | rfl <;> rfl)
  have b5 := bel2 w3 (Obj.cells #[Value.slice u1 n u2, Value.slice (some ⟨b2, 0, none⟩) m u4] 27) (Obj.cells #[Value.int .i64 (P k).f, .int .i64 (P k).t, .int .i64 (P k).k, .int .i64 (P k).v, .int .i64 (P k).l] 68)
  simp only [szal] at S5
  generalize hW : (w3.alloc (Obj.cells #[Value.slice u1 n u2, Value.slice (some ⟨b2, 0, none⟩) m u4] 27)).alloc (Obj.cells #[Value.int .i64 (P k).f, .int .i64 (P k).t, .int .i64 (P k).k, .int .i64 (P k).v, .int .i64 (P k).l] 68) = W5 at *
  clear hW
  have t0 := T5.b0
  have t1 := T5.b1
  have s0 : W5.cell? ⟨w3.heap.size + 1, 0, none⟩ = some (.int .i64 (P k).f) := S5.cell 0 (by omega)
  have s1 : W5.cell? ⟨w3.heap.size + 1, 1, none⟩ = some (.int .i64 (P k).t) := S5.cell 1 (by omega)
  have HR5 := HR.out.below b5 hlt
  have q0 := HR5.free (k * 5)
  have q1 := HR5.free (k * 5 + 1)
  have c0' : W5.cell? ⟨b2, k * 5, none⟩ = some (.int .i64 (P k).f) := HR5.cell k 0 hkm (by omega)
  have c1' : W5.cell? ⟨b2, k * 5 + 1, none⟩ = some (.int .i64 (P k).t) := HR5.cell k 1 hkm (by omega)
  have ne1 : b2 ≠ w3.heap.size := by omega
  have ne2 : b2 ≠ w3.heap.size + 1 := by omega
  have HB5 := Lib.hid b5
  have HT5 := Lib.hid (And.intro T5 HR5)
  clear b5 T5 HR5 S5
  go_region_held3 (fun w' => w'.cell? ⟨w3.heap.size, 1, none⟩ = some (.slice (some ⟨b2, 0, none⟩) m u4) ∧ w'.cell? ⟨w3.heap.size + 1, 0, none⟩ = some (.int .i64 (P k).f) ∧ w'.cell? ⟨w3.heap.size + 1, 1, none⟩ = some (.int .i64 (P k).t))
    (first | exact ⟨t1, s0, s1⟩ | exact ⟨(((Only.refl b2 _).setCell _ _).cell (a := ⟨w3.heap.size, 1, none⟩) ne1.symm).trans t1, (((Only.refl b2 _).setCell _ _).cell (a := ⟨w3.heap.size + 1, 0, none⟩) ne2.symm).trans s0, (((Only.refl b2 _).setCell _ _).cell (a := ⟨w3.heap.size + 1, 1, none⟩) ne2.symm).trans s1⟩ | exact ⟨((((Only.refl b2 _).setCell _ _).setCell _ _).cell (a := ⟨w3.heap.size, 1, none⟩) ne1.symm).trans t1, ((((Only.refl b2 _).setCell _ _).setCell _ _).cell (a := ⟨w3.heap.size + 1, 0, none⟩) ne2.symm).trans s0, ((((Only.refl b2 _).setCell _ _).setCell _ _).cell (a := ⟨w3.heap.size + 1, 1, none⟩) ne2.symm).trans s1⟩)
    (fail)
  have U6 : Upd (· = b2) W5 _ := upd_dw (Upd.of_only (((Only.refl b2 W5).setCell (k * 5) (Value.int .i64 (P k).t)).setCell (k * 5 + 1) (Value.int .i64 (P k).f)))
  have R6 : Rw ((W5.setCell ⟨b2, k * 5, none⟩ (.int .i64 (P k).t)).setCell ⟨b2, k * 5 + 1, none⟩ (.int .i64 (P k).f)).drew b2 m 5 (pipC (turnP P k)) := (turn_row HT5.out.2 hkm).keep rfl
  clear t0 t1 s0 s1 q0 q1 c0' c1'
  generalize hW : ((W5.setCell ⟨b2, k * 5, none⟩ (.int .i64 (P k).t)).setCell ⟨b2, k * 5 + 1, none⟩ (.int .i64 (P k).f)).drew = W6 at *
  clear hW
  have T6 := HT5.out.1.next_upd U6 ne1.symm
  have F6 := (H1.out.2.1.next HB5.out).next_upd U6 (by omega)
  have C6 := belowNextUpd (belowNext H1.out.2.2.1 HB5.out) U6 (by rintro x rfl; omega)
  have U36 := (Upd.of_below HB5.out (X := (· = b2))).trans U6
  have t0 := T6.b0
  have t1 := T6.b1
  have f0 := F6.b0
  have f1 := F6.b1
  have k0 := F6.free 0
  have k1 := F6.free 1
  have U7 := Lib.hid ((U36.mono (fun x _ e => .inl e) : Upd (fun x => x = b2 ∨ x = w.heap.size + 1) w3 W6).trans ((Upd.of_only (((Only.refl (w.heap.size + 1) W6).setCell 0 (.slice u1 n u2)).setCell 1 (.slice (some ⟨b2, 0, none⟩) m u4))).mono (fun x _ e => .inr e)))
  have R7 := Lib.hid (R6.only (((Only.refl (w.heap.size + 1) W6).setCell 0 (.slice u1 n u2)).setCell 1 (.slice (some ⟨b2, 0, none⟩) m u4)) (by omega))
  have C7 := Lib.hid (below_set (below_set C6 (b := w.heap.size + 1) (by omega) 0 (.slice u1 n u2)) (b := w.heap.size + 1) (by omega) 1 (.slice (some ⟨b2, 0, none⟩) m u4))
  clear U6 R6 T6 F6 C6 U36
  go_wp2_with fail
  refine bodyPost_ret (v := .tuple #[.agg #[.slice u1 n u2, .slice (some ⟨b2, 0, none⟩) m u4], .int .i64 0]) (by simp [results, Try.results11, go_sem, f0, f1]) rfl (ni_ok (HT.out n) (HT.out m) HC.out rfl OU.out U7.out (by omega) R7.out (by omega) (by omega) C7.out (by omega))
end Go.Proofs.Ytdmcggnhnkaoeaa.mem
