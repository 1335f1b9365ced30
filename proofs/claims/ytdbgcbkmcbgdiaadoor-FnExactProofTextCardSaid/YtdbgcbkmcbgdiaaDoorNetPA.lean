/-
  PipesAt: the contracts of the program and of the specification. Conditions: as each states.
-/
import Derived.Test.YtdbgcbkmcbgdiaaDoorRows
import Derived.Test.YtdbgcbkmcbgdiaaDoorNetO
import Derived.Test.YtdbgcbkmcbgdiaaDoorColl
import Derived.WalkKit
import Derived.ProofKit
import Derived.Outline
import Derived.OwnWalk
import Derived.Lib.Hide
namespace Go.Proofs.YtdbgcbkmcbgdiaaDoor.mem
open Go.RowKit
set_option linter.unusedVariables false

noncomputable def paC (n : Nat) (N : Nat → Nod) (m : Nat) (P : Nat → Pip) (x : Int) : Int := codeB (netB n N m P) (inR x 0 (n - 1))
theorem codeB_zero {b r : Bool} (h : codeB b r = 0) : b = true ∧ r = true := by
  unfold codeB at h
  cases b <;> cases r <;> simp at h ⊢
def paP (P : Nat → Pip) (x : Int) (i : Nat) : Bool := endB (P i) x
noncomputable def paN (n : Nat) (N : Nat → Nod) (m : Nat) (P : Nat → Pip) (x : Int) : Nat := if paC n N m P x = 0 then (fl (paP P x) m).length else 0
theorem one_arg (w : World) (x : Int) : Cs (w.alloc (.cells #[.int .i64 x] 2)) (.slice (some ⟨w.heap.size, 0, none⟩) 1 1) 1 1 (fun i _ => .int .i64 ((fun _ => x) i)) 0 (w.heap.size + 1) := by
  refine (Rw.new w #[Value.int .i64 x] 2 1 1 (fun i _ => .int .i64 x) (by simp) ?_).cs (Nat.le_refl _) (by omega) (Nat.zero_le _) (by omega)
  intro i j hi hj
  obtain rfl : i = 0 := by omega
  obtain rfl : j = 0 := by omega
  rfl
theorem li_err {w w' : World} {cnt : Nat} {d : Nat → Int} {c c' : Int} {e : Ending} (h0 : cnt = 0) (hc : c = c') (he : e = .returned (.tuple #[.slice none 0 0, .int .i64 c])) (hb : Below w.heap.size w w') : LIPost w cnt d c' e w' := by
  subst h0 hc
  exact ⟨_, w.heap.size, he, OwnS.none_ _ _ _ _, Nat.le_refl _, hb⟩
theorem li_ok {w w' : World} {v : Value} {cnt n g : Nat} {d : Nat → Int} {c : Int} {e : Ending} (h0 : n = cnt) (he : e = .returned (.tuple #[v, .int .i64 c])) (h : Own w' v n d g) (hg : w.heap.size ≤ g) (hb : Below w.heap.size w w') : LIPost w cnt d c e w' := by
  subst h0
  exact ⟨_, g, he, h.ownS, hg, hb⟩

end Go.Proofs.YtdbgcbkmcbgdiaaDoor.mem
