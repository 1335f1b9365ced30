/-
  Sums of lists: over the marks; without signs. Pure. Conditions: as each states.
-/
import Derived.Test.YtmjmamiokkkblaaRows
import Derived.Test.YtmjmamiokkkblaaBaM
namespace Go.Proofs.Ytmjmamiokkkblaa.mem
open Go.RowKit
set_option linter.unusedVariables false

def tl (s : Nat → Int) : Nat → Int
  | 0 => 0
  | k + 1 => tl s k + s k
theorem tl_add (s t : Nat → Int) : ∀ k, tl (fun i => s i + t i) k = tl s k + tl t k
  | 0 => rfl
  | k + 1 => by unfold tl; rw [tl_add s t k]; omega
theorem tl_zero : ∀ k, tl (fun _ => 0) k = 0
  | 0 => rfl
  | k + 1 => by unfold tl; rw [tl_zero k]; rfl
theorem tl_congr {s t : Nat → Int} : ∀ {k : Nat}, (∀ i, i < k → s i = t i) → tl s k = tl t k
  | 0, _ => rfl
  | k + 1, h => by unfold tl; rw [tl_congr (k := k) (fun i hi => h i (by omega)), h k (by omega)]
theorem tl_one (r : Nat) (c : Int) : ∀ n, tl (fun z => if ((r : Nat) : Int) = ((z : Nat) : Int) then c else 0) n = if r < n then c else 0
  | 0 => by rw [if_neg (by omega)]; rfl
  | n + 1 => by
    unfold tl
    rw [tl_one r c n]
    by_cases e : r = n
    · subst e
      rw [if_neg (by omega), if_pos rfl, if_pos (by omega)]
      omega
    · rw [if_neg (show ¬ ((r : Nat) : Int) = ((n : Nat) : Int) by omega)]
      by_cases g : r < n
      · rw [if_pos g, if_pos (by omega)]; omega
      · rw [if_neg g, if_neg (by omega)]; rfl
theorem tl_csm {R s : Nat → Int} {n : Nat} : ∀ k, (∀ i, i < k → ∃ r : Nat, r < n ∧ R i = ((r : Nat) : Int)) → tl (fun z => csm R s k ((z : Nat) : Int)) n = tl s k
  | 0, _ => tl_zero n
  | k + 1, h => by
    obtain ⟨r, hr, e⟩ := h k (by omega)
    have e1 : (fun z : Nat => csm R s (k + 1) ((z : Nat) : Int)) = fun z => csm R s k ((z : Nat) : Int) + (if ((r : Nat) : Int) = ((z : Nat) : Int) then s k else 0) := by
      funext z
      rw [csm, e]
    rw [e1, tl_add, tl_csm k (fun i hi => h i (by omega)), tl_one, if_pos hr]
    rfl
/-- even supplies add up to 0 -/
theorem even_tl {n : Nat} {N : Nat → Nod} {P : Nat → Pip} {m : Nat} (hN : netB n N m P = true) {s : Nat → Int} (he : evB n P m s = true) : tl s n = 0 := by
  have h1 := tl_csm (R := cmpN n P m) (s := s) (n := n) n (fun i hi => by
    obtain ⟨r, h1, h2⟩ := cmp_nat (P := P) (m := m) hN hi
    exact ⟨r, h1, h2⟩)
  rw [← h1, tl_congr (t := fun _ => 0) (fun z hz => evB_iff.1 he z hz), tl_zero]
theorem thr_abs (s : Nat → Int) : ∀ k, 2 * thr s k = tl (fun i => max (s i) (-(s i))) k + tl s k
  | 0 => rfl
  | k + 1 => by
    have ih := thr_abs s k
    unfold thr tl
    have e : 2 * max (s k) 0 = max (s k) (-(s k)) + s k := by
      rw [Int.max_def, Int.max_def]
      split <;> split <;> omega
    omega
end Go.Proofs.Ytmjmamiokkkblaa.mem
