/-
  Plain facts on the pieces of a list of bytes at its newlines. No condition.
-/
import Derived.Test.YtmeoepdmaffjjaaGreatDoorTxA
import Derived.Lib.Split
import Derived.Lib.IndexLaws
import Derived.Lib.IndexBytes
import Derived.Lib.Join
namespace Go.Proofs.YtmeoepdmaffjjaaGreatDoor.nl
open Go.RowKit Go.Proofs.YtmeoepdmaffjjaaGreatDoor.mem
set_option linter.unusedVariables false

def sp : Nat → List UInt8 → List (List UInt8)
  | 0, s => [s]
  | k + 1, s => if (10 : UInt8) ∈ s then s.takeWhile (· != 10) :: sp k ((s.dropWhile (· != 10)).drop 1) else [s]
theorem cut_at {a t : List UInt8} (h : (10 : UInt8) ∉ a) : (a ++ 10 :: t).takeWhile (· != 10) = a ∧ ((a ++ 10 :: t).dropWhile (· != 10)).drop 1 = t := by
  induction a with
  | nil => simp
  | cons x r ih =>
    have hx : (x != 10) = true := by simp; intro e; subst e; exact h (List.mem_cons_self ..)
    have hr := ih (fun e => h (List.mem_cons_of_mem _ e))
    simp only [List.cons_append, List.takeWhile_cons, List.dropWhile_cons, hx, if_true]
    exact ⟨by rw [hr.1], hr.2⟩
theorem cut_ex {s : List UInt8} (h : (10 : UInt8) ∈ s) : ∃ a t, (10 : UInt8) ∉ a ∧ s = a ++ 10 :: t := by
  induction s with
  | nil => cases h
  | cons x r ih =>
    by_cases hx : x = 10
    · subst hx
      exact ⟨[], r, by simp, rfl⟩
    · obtain ⟨a, t, h1, h2⟩ := ih (by rcases List.mem_cons.1 h with e | e; exact absurd e.symm hx; exact e)
      exact ⟨x :: a, t, by simp only [List.mem_cons, not_or]; exact ⟨fun e => hx e.symm, h1⟩, by rw [h2]; rfl⟩
theorem sp_one {k : Nat} {a t : List UInt8} (h : (10 : UInt8) ∉ a) : sp (k + 1) (a ++ 10 :: t) = a :: sp k t := by
  obtain ⟨h1, h2⟩ := cut_at (t := t) h
  show (if (10 : UInt8) ∈ a ++ 10 :: t then _ else _) = _
  rw [if_pos (by simp), h1, h2]
theorem sp_end {k : Nat} {a : List UInt8} (h : (10 : UInt8) ∉ a) : sp k a = [a] := by
  cases k with
  | zero => rfl
  | succ k =>
    show (if (10 : UInt8) ∈ a then _ else _) = _
    rw [if_neg h]
theorem sp_ne (k : Nat) (s : List UInt8) : sp k s ≠ [] := by
  cases k with
  | zero => simp [sp]
  | succ k =>
    unfold sp
    split <;> simp
theorem sp_join : ∀ (k : Nat) (s : List UInt8), Lib.join (sp k s) [10] = s := by
  intro k
  induction k with
  | zero => intro s; simp [sp, Lib.join, List.intercalate]
  | succ k ih =>
    intro s
    by_cases h : (10 : UInt8) ∈ s
    · obtain ⟨a, t, h1, rfl⟩ := cut_ex h
      rw [sp_one h1]
      have hi := ih t
      cases hs : sp k t with
      | nil => exact absurd hs (sp_ne k t)
      | cons y r =>
        rw [hs] at hi
        rw [← hi]
        simp [Lib.join, List.intercalate, List.intersperse]
    · rw [sp_end h]
      simp [Lib.join, List.intercalate]
theorem sp_big : ∀ (k j : Nat) (s : List UInt8), s.length ≤ k → s.length ≤ j → sp k s = sp j s := by
  intro k
  induction k with
  | zero =>
    intro j s h1 h2
    obtain rfl : s = [] := List.length_eq_zero_iff.1 (by omega)
    rw [sp_end (by simp), sp_end (by simp)]
  | succ k ih =>
    intro j s h1 h2
    by_cases h : (10 : UInt8) ∈ s
    · obtain ⟨a, t, h3, rfl⟩ := cut_ex h
      simp only [List.length_append, List.length_cons] at h1 h2
      obtain ⟨j', rfl⟩ : ∃ j', j = j' + 1 := ⟨j - 1, by omega⟩
      rw [sp_one h3, sp_one h3, ih j' t (by omega) (by omega)]
    · rw [sp_end h, sp_end h]
theorem sp_min (k : Nat) (s : List UInt8) : sp (min (k + 1) (s.length + 1) - 1) s = sp k s := by
  by_cases h : k ≤ s.length
  · rw [show min (k + 1) (s.length + 1) - 1 = k by omega]
  · rw [show min (k + 1) (s.length + 1) - 1 = s.length by omega]
    exact sp_big _ _ _ (Nat.le_refl _) (by omega)
theorem index_no {s : List UInt8} (h : (10 : UInt8) ∉ s) : Lib.index s [10] = -1 := by
  rw [Lib.index_one]
  have := Lib.indexByte_ge s 10
  rcases (by omega : Lib.indexByte s 10 = -1 ∨ 0 ≤ Lib.indexByte s 10) with e | e
  · exact e
  · obtain ⟨o, ho⟩ := Int.eq_ofNat_of_zero_le e
    exact absurd (List.mem_of_getElem? (Lib.indexByte_some ho).1) h
theorem index_at {a t : List UInt8} (h : (10 : UInt8) ∉ a) : Lib.index (a ++ 10 :: t) [10] = (a.length : Int) := by
  rw [Lib.index_one]
  have hge := Lib.indexByte_ge (a ++ 10 :: t) 10
  have hat : (a ++ 10 :: t)[a.length]? = some 10 := by simp
  rcases (by omega : Lib.indexByte (a ++ 10 :: t) 10 = -1 ∨ 0 ≤ Lib.indexByte (a ++ 10 :: t) 10) with e | e
  · exact absurd hat (Lib.indexByte_none e _)
  · obtain ⟨o, ho⟩ := Int.eq_ofNat_of_zero_le e
    obtain ⟨h1, h2⟩ := Lib.indexByte_some ho
    rw [ho]
    rcases Nat.lt_trichotomy o a.length with q | q | q
    · rw [List.getElem?_append_left q] at h1
      exact absurd (List.mem_of_getElem? h1) h
    · rw [q]
    · exact absurd hat (h2 _ q)
theorem splitK_sp : ∀ (k : Nat) (s : List UInt8), Lib.splitK [10] 0 k s = sp k s := by
  intro k
  induction k with
  | zero => intro s; rfl
  | succ k ih =>
    intro s
    by_cases h : (10 : UInt8) ∈ s
    · obtain ⟨a, t, h1, rfl⟩ := cut_ex h
      rw [sp_one h1]
      unfold Lib.splitK
      rw [index_at h1, if_neg (by simp), ih]
      simp
    · rw [sp_end h]
      unfold Lib.splitK
      rw [index_no h]
      rfl
theorem splitB_sp (k : Nat) (s : ByteArray) : (Lib.splitB ⟨#[10]⟩ 0 (min (k + 1) (s.size + 1) - 1) s).map (·.data.toList) = sp k s.data.toList := by
  rw [Lib.splitB_data]
  show Lib.splitK [10] 0 _ _ = _
  have e : s.size = s.data.toList.length := Array.length_toList.symm
  rw [splitK_sp, e, sp_min]
theorem sp_size : ∀ (k : Nat) (s x : List UInt8), x ∈ sp k s → x.length ≤ s.length := by
  intro k
  induction k with
  | zero =>
    intro s x h
    obtain rfl : x = s := by simpa [sp] using h
    exact Nat.le_refl _
  | succ k ih =>
    intro s x h
    by_cases hb : (10 : UInt8) ∈ s
    · obtain ⟨a, t, h1, rfl⟩ := cut_ex hb
      rw [sp_one h1] at h
      simp only [List.length_append, List.length_cons]
      rcases List.mem_cons.1 h with rfl | h
      · omega
      · have := ih t x h
        omega
    · rw [sp_end hb] at h
      obtain rfl : x = s := by simpa using h
      exact Nat.le_refl _
end Go.Proofs.YtmeoepdmaffjjaaGreatDoor.nl
