/-
  Collecting indices: the indices below k that meet a test, in order, as a slice of the call's own. No condition.
-/
import Derived.Test.YtdbgcbkmcbgdiaaDoorRows
import Derived.Test.YtdbgcbkmcbgdiaaDoorOwn
import Derived.Test.YtdbgcbkmcbgdiaaDoorI64
import Derived.WalkKit
import Derived.ProofKit
namespace Go.Proofs.YtdbgcbkmcbgdiaaDoor.mem
open Go.RowKit
set_option linter.unusedVariables false

/-- the indices below k that meet p -/
def fl (p : Nat → Bool) (k : Nat) : List Nat := (List.range k).filter p
def fd (p : Nat → Bool) (k : Nat) (j : Nat) : Int := (((fl p k)[j]?).getD 0 : Nat)
theorem fl_yes {p : Nat → Bool} {k : Nat} (h : p k = true) : fl p (k + 1) = fl p k ++ [k] := by
  unfold fl
  rw [List.range_succ, List.filter_append]
  simp [h]
theorem fl_no {p : Nat → Bool} {k : Nat} (h : p k = false) : fl p (k + 1) = fl p k := by
  unfold fl
  rw [List.range_succ, List.filter_append]
  simp [h]
theorem fl_le (p : Nat → Bool) (k : Nat) : (fl p k).length ≤ k := by
  unfold fl
  exact Nat.le_trans (List.length_filter_le _ _) (by simp)
theorem fl_congr {p q : Nat → Bool} {k : Nat} (h : ∀ i, i < k → p i = q i) : fl p k = fl q k := by
  unfold fl
  exact List.filter_congr (fun x hx => h x (by simpa using hx))
theorem fl_app {p : Nat → Bool} {k g g' : Nat} {W w' : World} {v' : Value} (hp : p k = true) (h : App W w' v' (fl p k).length (fd p k) k g g') : Own w' v' (fl p (k + 1)).length (fd p (k + 1)) g' := by
  have e : (fl p (k + 1)).length = (fl p k).length + 1 := by rw [fl_yes hp]; simp
  rw [e]
  refine h.own.congr fun j hj => ?_
  unfold upd fd
  rw [fl_yes hp]
  by_cases hjn : j = (fl p k).length
  · subst hjn
    simp
  · rw [if_neg hjn, List.getElem?_append_left (by omega)]
theorem fl_keep {p : Nat → Bool} {k g : Nat} {w : World} {v : Value} (hp : p k = false) (h : Own w v (fl p k).length (fd p k) g) : Own w v (fl p (k + 1)).length (fd p (k + 1)) g := by
  have e := fl_no hp
  unfold fd
  rw [e]
  exact h
theorem Own.ownS {w : World} {v : Value} {n g : Nat} {d : Nat → Int} (h : Own w v n d g) : OwnS w v n 1 (fun i _ => .int .i64 (d i)) g := by
  obtain ⟨cap, cur, rfl, h1, h2, h3, h4, h5⟩ := h.ex
  refine ⟨_, cap, rfl, h2, by simpa [maxLen] using h3, .inr ⟨rfl, ⟨cap, fun k => (cur[k]?).getD default, by omega, ⟨cur, _, h1, h4, fun k hk => ?_⟩, fun i j hi hj => ?_⟩⟩⟩
  · rw [Array.getElem?_eq_getElem (by omega)]
    rfl
  · obtain rfl : j = 0 := by omega
    show (cur[i * 1 + 0]?).getD default = _
    rw [Nat.mul_one, Nat.add_zero, h5 i hi]
    rfl
theorem cell_new1 (w : World) (x : Int) : (w.alloc (.cells #[.int .i64 x] 2)).cell? ⟨w.heap.size, 0, none⟩ = some (.int .i64 x) := by
  have := heap_alloc_new w (Obj.cells #[.int .i64 x] 2)
  simp only [World.cell?, this]
  simp
theorem Own.below {w w' : World} {v : Value} {n g B : Nat} {d : Nat → Int} (h : Own w v n d g) (k : Below B w w') (hB : w.heap.size ≤ B) : Own w' v n d g := h.keep (k.block g (by have := h.lt; omega))
/-- an append of the index k to what has been collected, behind the one-cell block of k -/
theorem coll_run (w : World) (v : Value) (p : Nat → Bool) (k g : Nat) (h : Own w v (fl p k).length (fd p k) g) (hk : k ≤ 1000000) :
    ∃ v' w' g', Sem.run Tryd.prog (Builtin.append_ #[26, 26] 26 #[v, .slice (some ⟨w.heap.size, 0, none⟩) 1 1]) (w.alloc (.cells #[.int .i64 k] 2)) = .ok v' w' ∧
      App (w.alloc (.cells #[.int .i64 k] 2)) w' v' (fl p k).length (fd p k) k g g' :=
  app_run _ v _ _ g k w.heap.size (h.alloc _) (cell_new1 w k) (Nat.le_trans (fl_le p k) hk)
theorem coll_below {w w' : World} {v' : Value} {p : Nat → Bool} {k g g' B : Nat} (h : App (w.alloc (.cells #[.int .i64 k] 2)) w' v' (fl p k).length (fd p k) k g g') (hB : B ≤ g) (hg : g < w.heap.size) : Below B w w' ∧ B ≤ g' ∧ w.heap.size ≤ w'.heap.size := by
  have y := h.below (B := B) hB (by rw [szal]; omega)
  refine ⟨((Below.refl _ w).alloc (by omega) _).trans y.1, y.2, ?_⟩
  have := y.1.size
  rw [szal] at this
  omega
end Go.Proofs.YtdbgcbkmcbgdiaaDoor.mem
