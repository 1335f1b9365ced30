/-
  The pipes to the neighbours of a node are the pipes at it. Conditions: as each states.
-/
import Derived.Test.YtdmcggnhnkaoeaaRows
import Derived.Test.YtdmcggnhnkaoeaaNetNC
import Derived.Test.YtdmcggnhnkaoeaaNetPB
import Derived.WalkKit
import Derived.ProofKit
namespace Go.Proofs.Ytdmcggnhnkaoeaa.mem
open Go.RowKit
set_option linter.unusedVariables false

def upto (f : Nat → Nat) : Nat → Nat
  | 0 => 0
  | k + 1 => upto f k + f k
theorem upto_congr {f g : Nat → Nat} {n : Nat} (h : ∀ i, i < n → f i = g i) : upto f n = upto g n := by
  induction n with
  | zero => rfl
  | succ n ih =>
    show upto f n + f n = upto g n + g n
    rw [ih (fun i hi => h i (by omega)), h n (by omega)]
theorem upto_mono {f : Nat → Nat} {j k : Nat} (h : j ≤ k) : upto f j ≤ upto f k := by
  induction k with
  | zero => obtain rfl : j = 0 := by omega
            exact Nat.le_refl _
  | succ k ih =>
    rcases (by omega : j = k + 1 ∨ j ≤ k) with rfl | h1
    · exact Nat.le_refl _
    · exact Nat.le_trans (ih h1) (Nat.le_add_right _ _)
theorem upto_add {f g : Nat → Nat} {n : Nat} : upto (fun i => f i + g i) n = upto f n + upto g n := by
  induction n with
  | zero => rfl
  | succ n ih =>
    show upto (fun i => f i + g i) n + (f n + g n) = (upto f n + f n) + (upto g n + g n)
    rw [ih]
    omega
theorem upto_zero {n : Nat} : upto (fun _ => 0) n = 0 := by
  induction n with
  | zero => rfl
  | succ n ih =>
    show upto (fun _ => 0) n + 0 = 0
    rw [ih]
theorem upto_one {a n : Nat} (h : a < n) : upto (fun j => if (a : Int) = j then 1 else 0) n = 1 := by
  induction n with
  | zero => omega
  | succ n ih =>
    show upto (fun j => if (a : Int) = j then 1 else 0) n + (if (a : Int) = n then 1 else 0) = 1
    rcases (by omega : a < n ∨ a = n) with h1 | h1
    · rw [ih h1, if_neg (by omega)]
    · subst h1
      rw [upto_congr (g := fun _ => 0) (fun i hi => if_neg (by omega)), upto_zero, if_pos rfl]
theorem upto_fl (q : Nat → Bool) (G : Nat → Nat) (n : Nat) : upto (fun i => G (((fl q n)[i]?).getD 0)) (fl q n).length = upto (fun j => if q j = true then G j else 0) n := by
  induction n with
  | zero => rfl
  | succ n ih =>
    show _ = upto (fun j => if q j = true then G j else 0) n + (if q n = true then G n else 0)
    cases h : q n
    · rw [fl_no h, ih]
      simp
    · rw [fl_yes h, ← ih, List.length_append]
      show upto _ (fl q n).length + G _ = _
      rw [List.getElem?_append_right (Nat.le_refl _)]
      simp only [Nat.sub_self, List.getElem?_cons_zero, Option.getD_some, if_true]
      congr 1
      refine upto_congr (fun i hi => ?_)
      rw [List.getElem?_append_left hi]
theorem fl_len {q : Nat → Bool} {k : Nat} : (fl q (k + 1)).length = (fl q k).length + (if q k = true then 1 else 0) := by
  cases h : q k
  · rw [fl_no h]
    simp
  · rw [fl_yes h]
    simp
theorem pipes_all {n : Nat} {P : Nat → Pip} {x : Int} {m : Nat} (hP : ∀ k, k < m → pipB n (P k) = true) : upto (fun (j : Nat) => (fl (pbP P x j) m).length) n = (fl (paP P x) m).length := by
  induction m with
  | zero => exact upto_zero
  | succ m ih =>
    rw [upto_congr (g := fun j => (fl (pbP P x j) m).length + (if pbP P x j m = true then 1 else 0)) (fun i _ => fl_len), upto_add, ih (fun k hk => hP k (by omega)), fl_len]
    congr 1
    cases h : paP P x m
    · rw [upto_congr (g := fun _ => 0) (fun i _ => if_neg (by unfold pbP; unfold paP at h; rw [h]; simp)), upto_zero]
      simp
    · obtain ⟨h1, h2⟩ := oth_in (x := x) (hP m (by omega))
      obtain ⟨a, ha⟩ := Int.eq_ofNat_of_zero_le h1
      rw [upto_congr (g := fun (j : Nat) => if (a : Int) = j then 1 else 0) (fun i _ => by unfold pbP; unfold paP at h; rw [h, ha]; simp), upto_one (by omega), if_pos rfl]
theorem pipes_add {n : Nat} {P : Nat → Pip} {x : Int} {m : Nat} (hP : ∀ k, k < m → pipB n (P k) = true) :
    upto (fun i => (fl (pbP P x (fd (nbk P x m) n i)) m).length) (fl (nbk P x m) n).length = (fl (paP P x) m).length := by
  rw [← pipes_all hP]
  refine (upto_fl (nbk P x m) (fun (j : Nat) => (fl (pbP P x j) m).length) n).trans ?_
  refine upto_congr (fun j _ => ?_)
  split
  · rfl
  · rename_i h
    symm
    rw [List.length_eq_zero_iff]
    unfold fl
    rw [List.filter_eq_nil_iff]
    intro k hk hq
    refine h ?_
    unfold nbk
    rw [List.any_eq_true]
    exact ⟨k, hk, hq⟩
end Go.Proofs.Ytdmcggnhnkaoeaa.mem
