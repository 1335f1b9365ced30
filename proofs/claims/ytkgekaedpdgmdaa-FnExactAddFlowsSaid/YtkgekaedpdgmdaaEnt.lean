/-
  entriesFrom: the table of entries of a search. Conditions: as each states.
-/
import Derived.Test.YtkgekaedpdgmdaaRows
import Derived.Test.YtkgekaedpdgmdaaVisF
namespace Go.Proofs.Ytkgekaedpdgmdaa.mem
open Go.RowKit
set_option linter.unusedVariables false
attribute [local go_sem] Oper.semAt_some

/-- a variable's box -/
theorem Ob.one (w : World) (v : Value) (t : TypeId) : Ob (w.alloc (.cells #[v] t)) w.heap.size 1 (fun _ => v) := Ob.new w _ _ 1 _ rfl (by intro k hk; have : k = 0 := (by omega); subst this; rfl)
/-- a table over the nodes -/
def tabC (f : Int → Int) : Nat → Value := fun k => .int .i64 (f ((k : Nat) : Int))
/-- the invariant of a loop that fills a table in block g, which lies in the box be -/
def TabI (f : List Vs → Int → Int) (g be n : Nat) (v : Value) (w : World) (pre : List Vs) (Y : Nat → Prop) (A : World) : Prop :=
  Y = (fun b => b = g) ∧ Ob A g n (tabC (f pre)) ∧ Ob A be 1 (fun _ => v) ∧ Below w.heap.size w A

theorem TabI.upd {f : List Vs → Int → Int} {g be n : Nat} {v : Value} {w : World} {pre : List Vs} {Y X : Nat → Prop} {A B : World} (h : TabI f g be n v w pre Y A) (u : Upd X A B) (hg : ¬ X g) (hb : ¬ X be) (hX : ∀ k, X k → w.heap.size ≤ k) : TabI f g be n v w pre Y B := by
  obtain ⟨h1, h2, h3, h4⟩ := h
  exact ⟨h1, h2.keep (u.block _ h2.lt hg), h3.keep (u.block _ h3.lt hb), h4.trans (u.below h4.size (fun k _ hk => hX k hk))⟩
/-- the visit that a round gets: not yet visited, a node -/
theorem Vok.round {n : Nat} {P : Nat → Pip} {m : Nat} {x : Int} {fs pre post : List Vs} {u : Vs} (h : Vok n P m x fs) (e : fs = pre ++ u :: post) : vhas pre u.nd = false ∧ ∃ Z : Nat, u.nd = ((Z : Nat) : Int) ∧ Z < n := by
  have hg : fs[pre.length]? = some u := by rw [e]; simp
  have h1 := h.has_take hg
  rw [show fs.take pre.length = pre by rw [e]; simp] at h1
  obtain ⟨h2, h3⟩ := h.rng u (List.mem_of_getElem? hg)
  obtain ⟨Z, hZ⟩ := Int.eq_ofNat_of_zero_le h2
  exact ⟨h1, Z, hZ, by omega⟩
theorem tab_step {A : World} {g n : Nat} {f : Vs → Int} {pre : List Vs} {u : Vs} {Z : Nat} (h : Ob A g n (tabC (vval f pre))) (h1 : vhas pre u.nd = false) (hZ : u.nd = ((Z : Nat) : Int)) (hn : Z < n) :
    Ob (A.setCell ⟨g, Z, none⟩ (.int .i64 (f u))) g n (tabC (vval f (pre ++ [u]))) := by
  refine (h.set Z _ hn).congr fun k hk => ?_
  unfold updV tabC
  rw [vval_app h1, hZ]
  by_cases hkz : k = Z
  · subst hkz
    rw [if_pos rfl, if_pos rfl]
  · rw [if_neg hkz, if_neg (by omega)]

end Go.Proofs.Ytkgekaedpdgmdaa.mem
