/-
  DistancesFrom and EntriesFrom, the program's. Conditions: as each states.
-/
import Derived.Test.YtkgekaedpdgmdaaRows
import Derived.Test.YtkgekaedpdgmdaaEnt
import Derived.Test.YtkgekaedpdgmdaaNetPA
namespace Go.Proofs.Ytkgekaedpdgmdaa.mem
open Go.RowKit
set_option linter.unusedVariables false
attribute [local go_sem] Oper.semAt_some

/-- the code of an argument that is a node -/
noncomputable def ndC (n : Nat) (N : Nat → Nod) (m : Nat) (P : Nat → Pip) (x : Int) : Int := codeB (netB n N m P) (inR x 0 (n - 1))
noncomputable def ndN (n : Nat) (N : Nat → Nod) (m : Nat) (P : Nat → Pip) (x : Int) : Nat := if ndC n N m P x = 0 then n else 0
theorem Ob.ownT {w : World} {g n : Nat} {f : Int → Int} (h : Ob w g n (tabC f)) (hn : n ≤ 24) : OwnS w (.slice (some ⟨g, 0, none⟩) n n) n 1 (fun i _ => .int .i64 (f ((i : Nat) : Int))) g := by
  refine ⟨_, n, rfl, Nat.le_refl _, by omega, .inr ⟨rfl, ⟨n, tabC f, by omega, h, fun i j hi hj => ?_⟩⟩⟩
  obtain rfl : j = 0 := by omega
  rw [Nat.mul_one, Nat.add_zero]
  rfl
theorem li_tab {w w' : World} {cnt g n : Nat} {f : Int → Int} {c : Int} {e : Ending} (h0 : n = cnt) (hc : 0 = c) (he : e = .returned (.tuple #[.slice (some ⟨g, 0, none⟩) n n, .int .i64 0])) (h : Ob w' g n (tabC f)) (hn : n ≤ 24) (hg : w.heap.size ≤ g) (hb : Below w.heap.size w w') : LIPost w cnt (fun k => f ((k : Nat) : Int)) c e w' := by
  subst h0 hc
  exact ⟨_, g, he, h.ownT hn, hg, hb⟩
theorem ndC_zero {n : Nat} {N : Nat → Nod} {m : Nat} {P : Nat → Pip} {x : Int} (h : ndC n N m P x = 0) : netB n N m P = true ∧ ∃ X0 : Nat, x = ((X0 : Nat) : Int) ∧ X0 < n := by
  obtain ⟨h1, h2⟩ := codeB_zero h
  obtain ⟨h3, h4⟩ := inR_iff.1 h2
  obtain ⟨X0, hX⟩ := Int.eq_ofNat_of_zero_le h3
  have := (net_sz h1).1
  exact ⟨h1, X0, hX, by omega⟩

end Go.Proofs.Ytkgekaedpdgmdaa.mem
