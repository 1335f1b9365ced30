/-
  Validity of nodes, pipes and networks: the contracts of the program's and the specification's smaller functions. Conditions: as each states.
-/
import Derived.Test.YtdbgcbkmcbgdiaaDoorRows
import Derived.Test.YtdbgcbkmcbgdiaaDoorNetB
import Derived.Test.YtdbgcbkmcbgdiaaDoorNetE
import Derived.WalkKit
import Derived.ProofKit
import Derived.Outline
import Derived.OwnWalk
import Derived.Lib.Hide
namespace Go.Proofs.YtdbgcbkmcbgdiaaDoor.mem
open Go.RowKit
set_option linter.unusedVariables false

theorem nod_name {x : Nod} (h : nameB x.s = false) : nodB x = false := by unfold nodB; rw [h]; rfl
theorem nod_ab {x : Nod} (h : ¬ 0 ≤ x.lo ∨ ¬ x.lo ≤ x.hi ∨ ¬ x.hi ≤ 100000000) : nodB x = false := by
  unfold nodB
  rcases h with h | h | h <;> rw [decide_eq_false h] <;> simp
theorem nod_yes {x : Nod} (h : nameB x.s = true) (h1 : 0 ≤ x.lo) (h2 : x.lo ≤ x.hi) (h3 : x.hi ≤ 100000000) : nodB x = true := by
  unfold nodB
  rw [h, decide_eq_true h1, decide_eq_true h2, decide_eq_true h3]; rfl

theorem isNode_any (x : Nod) (w : World) (hs : x.s.size ≤ 9223372036854775807) : Calls Tryd.prog 60 #[.agg #[.string x.s, .int .i64 x.lo, .int .i64 x.hi]] w fun e w' => e = .returned (.bool (nodB x)) ∧ Below w.heap.size w w' := by
  obtain ⟨s, lo, hi⟩ := x
  simp only at hs ⊢
  cases hn : nameB s
  · have HN := Lib.hid (nod_name (x := ⟨s, lo, hi⟩) hn)
    go_enter Tryd.func60, Tryd.ntmps60
    go_wp2_with (go_at_call 69; refine (isName_any _ _ hs).mono ?_; rintro e w' ⟨rfl, rfl⟩)
    go_ret
    exact ⟨ret_b HN.out.symm, below_new _ _⟩
  by_cases h : 0 ≤ lo ∧ lo ≤ hi ∧ hi ≤ 100000000
  · obtain ⟨h1, h2, h3⟩ := h
    have HN := Lib.hid (nod_yes (x := ⟨s, lo, hi⟩) hn h1 h2 h3)
    go_enter Tryd.func60, Tryd.ntmps60
    go_wp2_with (go_at_call 69; refine (isName_any _ _ hs).mono ?_; rintro e w' ⟨rfl, rfl⟩)
    go_ret
    exact ⟨ret_b (by first | exact HN.out.symm | (rw [HN.out]; simp; done) | (rw [HN.out]; simp; omega)), below_new _ _⟩
  · have HN := Lib.hid (nod_ab (x := ⟨s, lo, hi⟩) (by show ¬ 0 ≤ lo ∨ ¬ lo ≤ hi ∨ ¬ hi ≤ 100000000; omega))
    by_cases h1 : 0 ≤ lo <;> by_cases h2 : lo ≤ hi
    all_goals
      have HX := Lib.hid h
    all_goals
      clear h
      go_enter Tryd.func60, Tryd.ntmps60
      go_wp2_with (go_at_call 69; refine (isName_any _ _ hs).mono ?_; rintro e w' ⟨rfl, rfl⟩)
      go_ret
      exact ⟨ret_b (by first | exact HN.out.symm | (rw [HN.out]; simp; done) | (have := HX.out; rw [HN.out]; simp; omega)), below_new _ _⟩
theorem sIsNode_any (x : Nod) (w : World) (hs : x.s.size ≤ 9223372036854775807) : Calls Tryd.prog 47 #[.agg #[.string x.s, .int .i64 x.lo, .int .i64 x.hi]] w fun e w' => e = .returned (.bool (nodB x)) ∧ Below w.heap.size w w' := by
  obtain ⟨s, lo, hi⟩ := x
  simp only at hs ⊢
  cases hn : nameB s
  · have HN := Lib.hid (nod_name (x := ⟨s, lo, hi⟩) hn)
    go_enter Tryd.func47, Tryd.ntmps47
    go_wp2_with (go_at_call 59; refine (l02Name_any _ _ hs).mono ?_; rintro e w' ⟨rfl, rfl⟩)
    go_ret
    exact ⟨ret_b HN.out.symm, below_new _ _⟩
  by_cases h : 0 ≤ lo ∧ lo ≤ hi ∧ hi ≤ 100000000
  · obtain ⟨h1, h2, h3⟩ := h
    have HN := Lib.hid (nod_yes (x := ⟨s, lo, hi⟩) hn h1 h2 h3)
    go_enter Tryd.func47, Tryd.ntmps47
    go_wp2_with (go_at_call 59; refine (l02Name_any _ _ hs).mono ?_; rintro e w' ⟨rfl, rfl⟩)
    go_ret
    exact ⟨ret_b (by first | exact HN.out.symm | (rw [HN.out]; simp; done) | (rw [HN.out]; simp; omega)), below_new _ _⟩
  · have HN := Lib.hid (nod_ab (x := ⟨s, lo, hi⟩) (by show ¬ 0 ≤ lo ∨ ¬ lo ≤ hi ∨ ¬ hi ≤ 100000000; omega))
    by_cases h1 : 0 ≤ lo <;> by_cases h2 : lo ≤ hi
    all_goals
      have HX := Lib.hid h
    all_goals
      clear h
      go_enter Tryd.func47, Tryd.ntmps47
      go_wp2_with (go_at_call 59; refine (l02Name_any _ _ hs).mono ?_; rintro e w' ⟨rfl, rfl⟩)
      go_ret
      exact ⟨ret_b (by first | exact HN.out.symm | (rw [HN.out]; simp; done) | (have := HX.out; rw [HN.out]; simp; omega)), below_new _ _⟩

theorem bc3 (a b c : Bool) : a = false ∨ (a = true ∧ b = false) ∨ (a = true ∧ b = true ∧ c = false) ∨ (a = true ∧ b = true ∧ c = true) := by cases a <;> cases b <;> cases c <;> simp
def numB (p : Pip) : Bool := inR p.k 1 1000 && inR p.v 0 1000000 && inR p.l 1 30000
theorem pipB_eq (n : Int) (p : Pip) : pipB n p = (inR p.f 0 (n - 1) && inR p.t 0 (n - 1) && (p.f != p.t) && numB p) := by unfold pipB numB; simp only [Bool.and_assoc]
theorem hasValidNumbers_any (p : Pip) (w : World) : Calls Tryd.prog 63 #[.agg #[.int .i64 p.f, .int .i64 p.t, .int .i64 p.k, .int .i64 p.v, .int .i64 p.l]] w fun e w' => e = .returned (.bool (numB p)) ∧ Below w.heap.size w w' := by
  unfold numB
  rcases bc3 (inR p.k 1 1000) (inR p.v 0 1000000) (inR p.l 1 30000) with h1 | ⟨h1, h2⟩ | ⟨h1, h2, h3⟩ | ⟨h1, h2, h3⟩
  all_goals
    go_enter Tryd.func63, Tryd.ntmps63
    go_wp2_with (go_at_call 54; refine (inRange_any _ _ _ _).mono ?_; rintro e w' ⟨rfl, rfl⟩)
    go_ret
    exact ⟨ret_b (by simp [*]), below_new _ _⟩
theorem l02Pipe_any (p : Pip) (n : Int) (w : World) (hn0 : 0 ≤ n) (hn : n ≤ 9223372036854775807) : Calls Tryd.prog 48 #[.agg #[.int .i64 p.f, .int .i64 p.t, .int .i64 p.k, .int .i64 p.v, .int .i64 p.l], .int .i64 n] w fun e w' => e = .returned (.bool (pipB n p)) ∧ Below w.heap.size w w' := by
  unfold pipB
  rcases bc3 (inR p.f 0 (n - 1)) (inR p.t 0 (n - 1)) (p.f != p.t) with h1 | ⟨h1, h2⟩ | ⟨h1, h2, h3⟩ | ⟨h1, h2, h3⟩
  rotate_left 3
  rcases bc3 (inR p.k 1 1000) (inR p.v 0 1000000) (inR p.l 1 30000) with h4 | ⟨h4, h5⟩ | ⟨h4, h5, h6⟩ | ⟨h4, h5, h6⟩
  all_goals
    go_enter Tryd.func48, Tryd.ntmps48
    go_wp2_with (go_at_call 50; refine (l01In_any _ _ _ _).mono ?_; rintro e w' ⟨rfl, rfl⟩)
    go_ret
    exact ⟨ret_b (by simp [*]), below_new _ _⟩

/-- a boxed network -/
def bx (v0 v1 : Value) : Nat → Value := fun k => if k = 0 then v0 else v1
theorem boxed (w : World) (v0 v1 : Value) (t : TypeId) : Ob (w.alloc (.cells #[v0, v1] t)) w.heap.size 2 (bx v0 v1) := Ob.new w _ _ 2 _ rfl (by intro k hk; rcases (by omega : k = 0 ∨ k = 1) with rfl | rfl <;> rfl)
theorem Ob.b0 {w : World} {b : Nat} {v0 v1 : Value} (h : Ob w b 2 (bx v0 v1)) : w.cell? ⟨b, 0, none⟩ = some v0 := h.cell 0 (by omega)
theorem Ob.b1 {w : World} {b : Nat} {v0 v1 : Value} (h : Ob w b 2 (bx v0 v1)) : w.cell? ⟨b, 1, none⟩ = some v1 := h.cell 1 (by omega)

theorem hasNode_any (p0 p1 : Option Addr) (n c0 m c1 : Nat) (x : Int) (w : World) (hn : n ≤ 9223372036854775807) : Calls Tryd.prog 62 #[.agg #[.slice p0 n c0, .slice p1 m c1], .int .i64 x] w fun e w' => e = .returned (.bool (inR x 0 (n - 1))) ∧ Below w.heap.size w w' := by
  unfold inR
  by_cases h1 : 0 ≤ x
  all_goals
    go_enter Tryd.func62, Tryd.ntmps62
    go_wp2_with fail
    go_ret
    exact ⟨ret_b (by simp [h1] <;> omega), below_new _ _⟩
def szB (n m : Nat) : Bool := decide (1 ≤ n ∧ n ≤ 24 ∧ m ≤ 40)
theorem szB_iff {n m : Nat} : szB n m = true ↔ 1 ≤ n ∧ n ≤ 24 ∧ m ≤ 40 := by unfold szB; simp
theorem szB_no {n m : Nat} (h : ¬ (1 ≤ n ∧ n ≤ 24 ∧ m ≤ 40)) : szB n m = false := by unfold szB; simp only [decide_eq_false_iff_not]; exact h
theorem hasValidSizes_any (p0 p1 : Option Addr) (n c0 m c1 : Nat) (w : World) (hn : n ≤ 9223372036854775807) (hm : m ≤ 9223372036854775807) : Calls Tryd.prog 51 #[.agg #[.slice p0 n c0, .slice p1 m c1]] w fun e w' => e = .returned (.bool (szB n m)) ∧ Below w.heap.size w w' := by
  by_cases h : 1 ≤ n ∧ n ≤ 24 ∧ m ≤ 40
  · have HS := Lib.hid (szB_iff.2 h)
    obtain ⟨h0, h1, h2⟩ := h
    have g0 : (0 : Int) < n := by omega
    go_enter Tryd.func51, Tryd.ntmps51
    go_wp2_with fail
    go_ret
    exact ⟨ret_b (by rw [HS.out]; simp <;> omega), below_new _ _⟩
  · have HS := Lib.hid (szB_no h)
    rcases (by omega : n < 1 ∨ (1 ≤ n ∧ 24 < n) ∨ (1 ≤ n ∧ n ≤ 24 ∧ 40 < m)) with h0 | ⟨h0, h1⟩ | ⟨h0, h1, h2⟩
    · have g0 : ¬ ((0 : Int) < n) := by omega
      clear h
      go_enter Tryd.func51, Tryd.ntmps51
      go_wp2_with fail
      go_ret
      exact ⟨ret_b HS.out.symm, below_new _ _⟩
    · have g0 : (0 : Int) < n := by omega
      have g1 : decide ((n : Int) ≤ 24) = false := by simp; omega
      clear h
      go_enter Tryd.func51, Tryd.ntmps51
      go_wp2_with fail
      go_ret
      exact ⟨ret_b HS.out.symm, below_new _ _⟩
    · have g0 : (0 : Int) < n := by omega
      have g1 : decide ((n : Int) ≤ 24) = true := by simp; omega
      have g2 : decide ((m : Int) ≤ 40) = false := by simp; omega
      clear h
      go_enter Tryd.func51, Tryd.ntmps51
      go_wp2_with fail
      go_ret
      exact ⟨ret_b HS.out.symm, below_new _ _⟩
end Go.Proofs.YtdbgcbkmcbgdiaaDoor.mem
