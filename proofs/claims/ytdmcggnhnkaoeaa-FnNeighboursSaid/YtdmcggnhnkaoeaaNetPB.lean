/-
  PipesBetween: the contracts of the program and of the specification. Conditions: as each states.
-/
import Derived.Test.YtdmcggnhnkaoeaaRows
import Derived.Test.YtdmcggnhnkaoeaaNetPA
import Derived.WalkKit
import Derived.ProofKit
import Derived.Outline
import Derived.OwnWalk
import Derived.Lib.Hide
namespace Go.Proofs.Ytdmcggnhnkaoeaa.mem
open Go.RowKit
set_option linter.unusedVariables false

noncomputable def pbC (n : Nat) (N : Nat → Nod) (m : Nat) (P : Nat → Pip) (x y : Int) : Int := codeB (netB n N m P) (inR x 0 (n - 1) && inR y 0 (n - 1))
def pbP (P : Nat → Pip) (x y : Int) (i : Nat) : Bool := endB (P i) x && (othV (P i) x == y)
noncomputable def pbN (n : Nat) (N : Nat → Nod) (m : Nat) (P : Nat → Pip) (x y : Int) : Nat := if pbC n N m P x y = 0 then (fl (pbP P x y) m).length else 0
theorem pb_eq {P : Nat → Pip} {x y : Int} {k : Nat} (h : (P k).f ≠ (P k).t) : pbP P x y k = (((P k).f == x && (P k).t == y) || ((P k).f == y && (P k).t == x)) := by
  unfold pbP endB othV
  rw [Bool.eq_iff_iff]
  simp only [Bool.or_eq_true, Bool.and_eq_true, beq_iff_eq]
  split <;> omega
theorem bc2 (a b : Bool) : a = false ∨ (a = true ∧ b = false) ∨ (a = true ∧ b = true) := by cases a <;> cases b <;> simp
theorem two_arg (w : World) (x y : Int) : Cs (w.alloc (.cells #[.int .i64 x, .int .i64 y] 2)) (.slice (some ⟨w.heap.size, 0, none⟩) 2 2) 2 1 (fun i _ => .int .i64 ((fun i => if i = 0 then x else y) i)) 0 (w.heap.size + 1) := by
  refine (Rw.new w #[Value.int .i64 x, .int .i64 y] 2 2 1 (fun i _ => .int .i64 (if i = 0 then x else y)) (by simp) ?_).cs (Nat.le_refl _) (by omega) (Nat.zero_le _) (by omega)
  intro i j hi hj
  obtain rfl : j = 0 := by omega
  rcases (by omega : i = 0 ∨ i = 1) with rfl | rfl <;> rfl
theorem all_two (n : Nat) (x y : Int) : allR n 2 (fun i => if i = 0 then x else y) = (inR x 0 (n - 1) && inR y 0 (n - 1)) := by
  rw [Bool.eq_iff_iff, allR_iff, Bool.and_eq_true]
  constructor
  · intro h
    exact ⟨h 0 (by omega), h 1 (by omega)⟩
  · rintro ⟨h0, h1⟩ i hi
    rcases (by omega : i = 0 ∨ i = 1) with rfl | rfl
    · exact h0
    · exact h1

set_option maxRecDepth 100000 in
set_option maxHeartbeats 2000000 in
theorem pipesBetweenI_any (w : World) (v : Value) (n : Nat) (N : Nat → Nod) (m : Nat) (P : Nat → Pip) (lo hi : Nat) (h : NetAt w v n N m P lo hi) (hhi : hi ≤ w.heap.size) (hN : ∀ i, i < n → (N i).s.size ≤ 9223372036854775807) (x y : Int) :
    Calls Try.prog 22 #[v, .int .i64 x, .int .i64 y] w (LIPost w (pbN n N m P x y) (fd (pbP P x y) m) (pbC n N m P x y)) := by
  obtain ⟨v0, v1, rfl, g0, g1⟩ := h.ex
  obtain ⟨p0, c0, rfl⟩ := g0.shape
  obtain ⟨p1, c1, rfl⟩ := g1.shape
  have hn9 : n ≤ 9223372036854775807 := by
    obtain ⟨p, cap, he, q1, q2, _⟩ := g0.ex
    omega
  have hm9 : m ≤ 9223372036854775807 := by
    obtain ⟨p, cap, he, q1, q2, _⟩ := g1.ex
    omega
  have HC0 : Hid (n = 0 ∨ ∃ b o, p0 = some ⟨b, o, none⟩ ∧ lo ≤ b ∧ b < hi ∧ At w b o n 3 (nodC N)) := by
    obtain ⟨p, cap, hv, _, _, hc⟩ := g0.ex
    injection hv with e1 _ e2
    subst e1
    exact Lib.hid hc
  have HC1 : Hid (m = 0 ∨ ∃ b o, p1 = some ⟨b, o, none⟩ ∧ lo ≤ b ∧ b < hi ∧ At w b o m 5 (pipC P)) := by
    obtain ⟨p, cap, hv, _, _, hc⟩ := g1.ex
    injection hv with e1 _ e2
    subst e1
    exact Lib.hid hc
  have HV := Lib.hid h
  have HN := Lib.hid hN
  clear h g0 g1 hN
  have A0 := boxed w (.slice p0 n c0) (.slice p1 m c1) 27
  have C0 : Below w.heap.size w _ := below_new w (Obj.cells #[Value.slice p0 n c0, Value.slice p1 m c1] 27)
  have hs0 : w.heap.size + 1 ≤ (w.alloc (Obj.cells #[Value.slice p0 n c0, Value.slice p1 m c1] 27)).heap.size := by simp
  have HP := Lib.hid (show pbN n N m P x y = if pbC n N m P x y = 0 then (fl (pbP P x y) m).length else 0 from rfl)
  have HCD := Lib.hid (show pbC n N m P x y = codeB (netB n N m P) (inR x 0 (n - 1) && inR y 0 (n - 1)) from rfl)
  have HAL := Lib.hid (all_two n x y)
  go_enter Try.func22, Try.ntmps22
  go_wp2_with fail
  have S1 := two_arg (w.alloc (Obj.cells #[Value.slice p0 n c0, Value.slice p1 m c1] 27)) x y
  simp only [szal] at S1
  have A1 := A0.keep (Below.heap_alloc _ (Obj.cells #[Value.int .i64 x, Value.int .i64 y] 2) _ A0.lt)
  have C1 : Below w.heap.size w ((w.alloc (Obj.cells #[Value.slice p0 n c0, Value.slice p1 m c1] 27)).alloc (Obj.cells #[Value.int .i64 x, Value.int .i64 y] 2)) := below_alloc C0 (by omega) _
  have hs1 : w.heap.size + 1 ≤ ((w.alloc (Obj.cells #[Value.slice p0 n c0, Value.slice p1 m c1] 27)).alloc (Obj.cells #[Value.int .i64 x, Value.int .i64 y] 2)).heap.size := by simp
  refine (checkNodes_any _ _ n N m P lo hi (HV.out.below C1 hhi) (by omega) HN.out _ 2 (fun i => if i = 0 then x else y) 0 _ S1 (by simp)).mono ?_
  rintro e w2 ⟨rfl, b2⟩
  have A2 := A1.below b2 (by omega)
  have C2 := C1.trans (b2.mono (by omega))
  have hs2 := Nat.le_trans hs1 b2.size
  have e0 := A2.b0
  have e1 := A2.b1
  have e2 : w.heap.size < w2.heap.size := by omega
  clear b2 S1 A1 C1 hs1 A0 C0 hs0
  rw [HAL.out, ← HCD.out]
  by_cases hc : pbC n N m P x y = 0
  rotate_left 1
  · have hcb : (pbC n N m P x y != 0) = true := by simp [hc]
    have H := Lib.hid (show pbN n N m P x y = 0 by rw [HP.out, if_neg hc])
    clear hc
    go_wp2_with fail
    go_ret2
    exact li_err H.out rfl rfl C2
  have hcb : (pbC n N m P x y != 0) = false := by simp [hc]
  have H := Lib.hid (show pbN n N m P x y = (fl (pbP P x y) m).length by rw [HP.out, if_pos hc])
  have HC := Lib.hid hc
  have hm2 : m ≤ 1000000 := by rw [HCD.out] at hc; have := net_sz (codeB_zero hc).1; omega
  clear hc
  go_wp2_with fail
  have F0 := Own.nilled w2 (fd (pbP P x y) 0)
  have A3 := A2.keep (Below.heap_alloc w2 (Obj.cells #[] 2) _ A2.lt)
  have C3 : Below w.heap.size w (w2.alloc (Obj.cells #[] 2)) := below_alloc C2 (by omega) _
  have hs3 : w.heap.size + 1 ≤ (w2.alloc (Obj.cells #[] 2)).heap.size := by simp; omega
  generalize hW : (w2.alloc (Obj.cells #[] 2)) = W3 at *
  clear hW A2 C2 e0 e1
  go_loopw [24, 10, 11, 9] (fun i _ _ out wr => ∃ (k g : Nat) (out' : Value), i = .int .i64 k ∧ out' = out ∧ k ≤ m ∧ Own wr out' (fl (pbP P x y) k).length (fd (pbP P x y) k) g ∧ w.heap.size ≤ g ∧ Below w.heap.size w wr ∧ w.heap.size + 1 ≤ wr.heap.size) (fun i _ _ _ _ => m - (intOf i).toNat)
  case atStart => exact ⟨0, w2.heap.size, _, rfl, rfl, Nat.zero_le _, F0, by omega, C3, hs3⟩
  case round =>
    obtain ⟨k, g, out, rfl, rfl, hk, ho, hg, hbel, hsz⟩ := hrel
    obtain ⟨co, rfl⟩ := ho.shape
    have HO := Lib.hid ho
    have HB := Lib.hid hbel
    have hgl := ho.lt
    clear ho hbel
    by_cases hlt : k < m
    · rcases HC1.out with h0 | ⟨b, o, rfl, hlo, hb, g3⟩
      · omega
      have y0 : wr.cell? ⟨b, o + k * 5, none⟩ = some (.int .i64 (P k).f) := (HB.out.cell (p := ⟨b, o + k * 5, none⟩) (Nat.lt_of_lt_of_le hb hhi)).trans (g3.cell k 0 hlt (by omega))
      have y1 : wr.cell? ⟨b, o + k * 5 + 1, none⟩ = some (.int .i64 (P k).t) := (HB.out.cell (p := ⟨b, o + k * 5 + 1, none⟩) (Nat.lt_of_lt_of_le hb hhi)).trans (g3.cell k 1 hlt (by omega))
      have y2 : wr.cell? ⟨b, o + k * 5 + 2, none⟩ = some (.int .i64 (P k).k) := (HB.out.cell (p := ⟨b, o + k * 5 + 2, none⟩) (Nat.lt_of_lt_of_le hb hhi)).trans (g3.cell k 2 hlt (by omega))
      have y3 : wr.cell? ⟨b, o + k * 5 + 3, none⟩ = some (.int .i64 (P k).v) := (HB.out.cell (p := ⟨b, o + k * 5 + 3, none⟩) (Nat.lt_of_lt_of_le hb hhi)).trans (g3.cell k 3 hlt (by omega))
      have y4 : wr.cell? ⟨b, o + k * 5 + 4, none⟩ = some (.int .i64 (P k).l) := (HB.out.cell (p := ⟨b, o + k * 5 + 4, none⟩) (Nat.lt_of_lt_of_le hb hhi)).trans (g3.cell k 4 hlt (by omega))
      clear g3
      have V1 := boxedP wr (P k) 68
      have b1 := below_new wr (.cells #[.int .i64 (P k).f, .int .i64 (P k).t, .int .i64 (P k).k, .int .i64 (P k).v, .int .i64 (P k).l] 68)
      rcases bc2 (endB (P k) x) (othV (P k) x == y) with h1 | ⟨h1, h2⟩ | ⟨h1, h2⟩
      · have HPK := Lib.hid (show pbP P x y k = false by unfold pbP; rw [h1]; rfl)
        go_wp2_with fail
        refine (endsAt_any (P k) x _).mono ?_
        rintro e w4 ⟨rfl, b4⟩
        have b5 := b1.trans (b4.mono (by simp))
        have HO4 := Lib.hid (HO.out.below b5 (Nat.le_refl _))
        have HB4 := Lib.hid (HB.out.trans (b5.mono (by omega)))
        have hs4 := b5.size
        clear b1 b4 b5 y0 y1 y2 y3 y4 V1
        go_wp2_with fail
        go_roundw
        case rel => exact ⟨k + 1, g, _, by go_num, rfl, hlt, fl_keep HPK.out HO4.out, hg, HB4.out, by omega⟩
        case measure => simp [intOf]; omega
      all_goals
        have HPK := Lib.hid (show pbP P x y k = _ by unfold pbP; rw [h1, h2])
        go_wp2_with fail
        refine (endsAt_any (P k) x _).mono ?_
        rintro e w4 ⟨rfl, b4⟩
        have V4 := V1.below b4 (by simp)
        have z0 : w4.cell? ⟨wr.heap.size, 0, none⟩ = some (.int .i64 (P k).f) := V4.cell 0 (by omega)
        have z1 : w4.cell? ⟨wr.heap.size, 1, none⟩ = some (.int .i64 (P k).t) := V4.cell 1 (by omega)
        have z2 : w4.cell? ⟨wr.heap.size, 2, none⟩ = some (.int .i64 (P k).k) := V4.cell 2 (by omega)
        have z3 : w4.cell? ⟨wr.heap.size, 3, none⟩ = some (.int .i64 (P k).v) := V4.cell 3 (by omega)
        have z4 : w4.cell? ⟨wr.heap.size, 4, none⟩ = some (.int .i64 (P k).l) := V4.cell 4 (by omega)
        have b5 := b1.trans (b4.mono (by simp))
        have hs4 := b5.size
        clear b1 b4 y0 y1 y2 y3 y4 V1
        go_wp2_with fail
        refine (otherEnd_any (P k) x _).mono ?_
        rintro e w6 ⟨rfl, b6⟩
        have b7 := b5.trans (b6.mono hs4)
        have HO4 := Lib.hid (HO.out.below b7 (Nat.le_refl _))
        have HB4 := Lib.hid (HB.out.trans (b7.mono (by omega)))
        have hs6 := b7.size
        clear b5 b6 b7 z0 z1 z2 z3 z4 V4
      · go_wp2_with fail
        go_roundw
        case rel => exact ⟨k + 1, g, _, by go_num, rfl, hlt, fl_keep HPK.out HO4.out, hg, HB4.out, by omega⟩
        case measure => simp [intOf]; omega
      · obtain ⟨v5, w5, g5, hr, ap⟩ := coll_run w6 _ (pbP P x y) k g HO4.out (by omega)
        have Y := Lib.hid (coll_below ap hg (by omega))
        have O5 := Lib.hid (fl_app HPK.out ap)
        have hs5 := Y.out.2.2
        clear ap
        go_wp2_with (at_builtin; refine wpList_app hr rfl _ _ rfl rfl rfl rfl ?_)
        go_roundw
        case rel => exact ⟨k + 1, g5, v5, by go_num, rfl, hlt, O5.out, Y.out.2.1, HB4.out.trans Y.out.1, by omega⟩
        case measure => simp [intOf]; omega
    · obtain rfl : k = m := by omega
      go_wp2_with fail
      go_ret2
      exact li_ok H.out.symm (by rw [HC.out]; rfl) HO.out hg HB.out

end Go.Proofs.Ytdmcggnhnkaoeaa.mem
