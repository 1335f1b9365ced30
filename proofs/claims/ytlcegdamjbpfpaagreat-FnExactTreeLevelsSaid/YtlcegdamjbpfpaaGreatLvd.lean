/-
  What the functions of chapter 7 answer. Pure. Conditions: as each states.
-/
import Derived.Test.YtlcegdamjbpfpaaGreatRows
import Derived.Test.YtlcegdamjbpfpaaGreatBaM
import Derived.Test.YtlcegdamjbpfpaaGreatPot
namespace Go.Proofs.YtlcegdamjbpfpaaGreat.mem
open Go.RowKit
set_option linter.unusedVariables false

noncomputable def dpC (n : Nat) (N : Nat → Nod) (m : Nat) (P : Nat → Pip) (a x : Int) : Int := if codeB (netB n N m P) (inR a 0 (m - 1)) = 0 then (if flQ x = true then 0 else 2) else codeB (netB n N m P) (inR a 0 (m - 1))
noncomputable def dpA (n : Nat) (N : Nat → Nod) (m : Nat) (P : Nat → Pip) (a x : Int) : Int := if dpC n N m P a x = 0 then drp (P a.toNat) x else 0
noncomputable def dsN (n : Nat) (N : Nat → Nod) (m : Nat) (P : Nat → Pip) (K : Nat) (d : Nat → Int) : Nat := if flC n N m P K d = 0 then m else 0
/-- may this be a root's level? -/
def rlB (x : Int) : Bool := inR x (-500000000000000000) 500000000000000000
noncomputable def fvC (n : Nat) (N : Nat → Nod) (m : Nat) (P : Nat → Pip) (K : Nat) (d : Nat → Int) (r l : Int) : Int :=
  if flC n N m P K d = 0 then (if (inR r 0 (n - 1) && rlB l) = true then (if conB n N m P = true then 0 else 5) else 2) else flC n N m P K d
noncomputable def fvN (n : Nat) (N : Nat → Nod) (m : Nat) (P : Nat → Pip) (K : Nat) (d : Nat → Int) (r l : Int) : Nat := if fvC n N m P K d r l = 0 then n else 0
noncomputable def gpC (n : Nat) (N : Nat → Nod) (m : Nat) (P : Nat → Pip) (K : Nat) (d : Nat → Int) (a b : Int) : Int :=
  if flC n N m P K d = 0 then (if (inR a 0 (n - 1) && inR b 0 (n - 1)) = true then (if conB n N m P = true then 0 else 5) else 2) else flC n N m P K d
noncomputable def gpA (n : Nat) (N : Nat → Nod) (m : Nat) (P : Nat → Pip) (K : Nat) (d : Nat → Int) (a b : Int) : Int := if gpC n N m P K d a b = 0 then lvl n P m d b 0 a else 0
noncomputable def lwC (n : Nat) (N : Nat → Nod) (m : Nat) (P : Nat → Pip) (K : Nat) (d : Nat → Int) : Int := if flC n N m P K d = 0 then (if conB n N m P = true then 0 else 5) else flC n N m P K d
/-- the first of the least among the elements 0 to k -/
def bst (x : Nat → Int) : Nat → Nat
  | 0 => 0
  | k + 1 => if x (k + 1) < x (bst x k) then k + 1 else bst x k
theorem bst_le (x : Nat → Int) : ∀ k, bst x k ≤ k
  | 0 => Nat.le_refl _
  | k + 1 => by
    have := bst_le x k
    unfold bst
    split <;> omega
theorem bst_min (x : Nat → Int) : ∀ k j, j ≤ k → x (bst x k) ≤ x j
  | 0, j, h => by
    obtain rfl : j = 0 := by omega
    exact Int.le_refl _
  | k + 1, j, h => by
    unfold bst
    rcases Nat.lt_or_ge k j with h1 | h1
    · obtain rfl : j = k + 1 := by omega
      split <;> omega
    · have := bst_min x k j h1
      split <;> omega
theorem bst_first (x : Nat → Int) : ∀ k j, j < bst x k → x (bst x k) < x j
  | 0, j, h => by unfold bst at h; omega
  | k + 1, j, h => by
    unfold bst at h ⊢
    split at h
    · next hc =>
      rw [if_pos hc]
      have := bst_min x k j (by omega)
      omega
    · next hc =>
      rw [if_neg hc]
      exact bst_first x k j h
noncomputable def lwA (n : Nat) (N : Nat → Nod) (m : Nat) (P : Nat → Pip) (K : Nat) (d : Nat → Int) : Int := if lwC n N m P K d = 0 then ((bst (fun j => lvl n P m d 0 0 ((j : Nat) : Int)) (n - 1) : Nat) : Int) else 0
noncomputable def tfC (n : Nat) (N : Nat → Nod) (m : Nat) (P : Nat → Pip) (K : Nat) (d : Nat → Int) : Int := if svC n N m P K d = 0 then (if treeB n N m P = true then ffC n N m P K d else 5) else svC n N m P K d
noncomputable def tfN (n : Nat) (N : Nat → Nod) (m : Nat) (P : Nat → Pip) (K : Nat) (d : Nat → Int) : Nat := if tfC n N m P K d = 0 then m else 0
noncomputable def tlC (n : Nat) (N : Nat → Nod) (m : Nat) (P : Nat → Pip) (K : Nat) (d : Nat → Int) (r l : Int) : Int :=
  if svC n N m P K d = 0 then (if (inR r 0 (n - 1) && rlB l) = true then tfC n N m P K d else 2) else svC n N m P K d
noncomputable def tlN (n : Nat) (N : Nat → Nod) (m : Nat) (P : Nat → Pip) (K : Nat) (d : Nat → Int) (r l : Int) : Nat := if tlC n N m P K d r l = 0 then n else 0
theorem fvN_le (n : Nat) (N : Nat → Nod) (m : Nat) (P : Nat → Pip) (K : Nat) (d : Nat → Int) (r l : Int) (hn : n ≤ 2000000) : fvN n N m P K d r l ≤ 2000000 := by unfold fvN; split <;> omega
theorem dsN_le (n : Nat) (N : Nat → Nod) (m : Nat) (P : Nat → Pip) (K : Nat) (d : Nat → Int) (hm : m ≤ 2000000) : dsN n N m P K d ≤ 2000000 := by unfold dsN; split <;> omega
theorem tfN_le (n : Nat) (N : Nat → Nod) (m : Nat) (P : Nat → Pip) (K : Nat) (d : Nat → Int) (hm : m ≤ 2000000) : tfN n N m P K d ≤ 2000000 := by unfold tfN; split <;> omega
theorem tlN_le (n : Nat) (N : Nat → Nod) (m : Nat) (P : Nat → Pip) (K : Nat) (d : Nat → Int) (r l : Int) (hn : n ≤ 2000000) : tlN n N m P K d r l ≤ 2000000 := by unfold tlN; split <;> omega
theorem conB_one {n : Nat} {N : Nat → Nod} {m : Nat} {P : Nat → Pip} (h : conB n N m P = true) : netB n N m P = true ∧ cnt n P m = 1 := by
  unfold conB at h
  simp only [Bool.and_eq_true, decide_eq_true_eq] at h
  exact h
theorem treeB_con {n : Nat} {N : Nat → Nod} {m : Nat} {P : Nat → Pip} (h : treeB n N m P = true) : conB n N m P = true := by
  unfold treeB at h
  simp only [Bool.and_eq_true, decide_eq_true_eq] at h
  exact h.1
theorem flB_rng {d : Nat → Int} {n : Nat} (h : flB d n = true) : ∀ a, a < n → -30000 ≤ d a ∧ d a ≤ 30000 := fun a ha => flQ_iff.1 (flB_iff.1 h a ha)
theorem lvl_gap (n : Nat) (P : Nat → Pip) (m : Nat) (x : Nat → Int) (a b : Int) : -lvl n P m x a 0 b = lvl n P m x b 0 a := by unfold lvl; omega
end Go.Proofs.YtlcegdamjbpfpaaGreat.mem
