/-
  Validity of names, nodes and pipes: one Bool each, and the contracts of the program's and the specification's functions. Conditions: as each states.
-/
import Derived.Test.YtdbgcbkmcbgdiaaDoorRows
import Derived.Test.YtdbgcbkmcbgdiaaDoorNetC
import Derived.WalkKit
import Derived.ProofKit
import Derived.Outline
import Derived.OwnWalk
import Derived.Lib.Hide
import Derived.WalkSpells
namespace Go.Proofs.YtdbgcbkmcbgdiaaDoor.mem
open Go.RowKit
set_option linter.unusedVariables false

def inR (x lo hi : Int) : Bool := decide (lo ≤ x) && decide (x ≤ hi)
theorem inR_iff {x lo hi : Int} : inR x lo hi = true ↔ lo ≤ x ∧ x ≤ hi := by unfold inR; simp
theorem inR_no {x lo hi : Int} : inR x lo hi = false ↔ (x < lo ∨ hi < x) := by
  unfold inR
  simp only [Bool.and_eq_false_iff, decide_eq_false_iff_not]
  omega
def chr (x : UInt8) : Bool := (decide (97 ≤ x.toNat) && decide (x.toNat ≤ 122)) || (decide (48 ≤ x.toNat) && decide (x.toNat ≤ 57))
theorem chr_iff {x : UInt8} : chr x = true ↔ (97 ≤ x.toNat ∧ x.toNat ≤ 122) ∨ (48 ≤ x.toNat ∧ x.toNat ≤ 57) := by unfold chr; simp
theorem chr_no {x : UInt8} : chr x = false ↔ ¬ ((97 ≤ x.toNat ∧ x.toNat ≤ 122) ∨ (48 ≤ x.toNat ∧ x.toNat ≤ 57)) := by rw [← chr_iff]; simp
def nameB (s : ByteArray) : Bool := decide (1 ≤ s.size) && decide (s.size ≤ 8) && s.data.toList.all chr
def nodB (x : Nod) : Bool := nameB x.s && decide (0 ≤ x.lo) && decide (x.lo ≤ x.hi) && decide (x.hi ≤ 100000000)
def pipB (n : Int) (p : Pip) : Bool := inR p.f 0 (n - 1) && inR p.t 0 (n - 1) && (p.f != p.t) && inR p.k 1 1000 && inR p.v 0 1000000 && inR p.l 1 30000

theorem inRange_any (x lo hi : Int) (w : World) : Calls Tryd.prog 54 #[.int .i64 x, .int .i64 lo, .int .i64 hi] w fun e w' => e = .returned (.bool (inR x lo hi)) ∧ w = w' := by
  unfold inR
  by_cases h1 : lo ≤ x
  all_goals
    go_enter Tryd.func54, Tryd.ntmps54
    go_wp2
    go_ret
    exact ⟨by simp [h1] <;> omega, rfl⟩
theorem l01In_any (x lo hi : Int) (w : World) : Calls Tryd.prog 50 #[.int .i64 x, .int .i64 lo, .int .i64 hi] w fun e w' => e = .returned (.bool (inR x lo hi)) ∧ w = w' := by
  unfold inR
  by_cases h1 : lo ≤ x
  all_goals
    go_enter Tryd.func50, Tryd.ntmps50
    go_wp2
    go_ret
    exact ⟨by simp [h1] <;> omega, rfl⟩

theorem isNameByte_any (x : UInt8) (w : World) : Calls Tryd.prog 72 #[.int .u8 x.toNat] w fun e w' => e = .returned (.bool (chr x)) ∧ w = w' := by
  unfold chr
  by_cases h1 : 97 ≤ x.toNat <;> by_cases h2 : x.toNat ≤ 122 <;> by_cases h3 : 48 ≤ x.toNat <;> by_cases h4 : x.toNat ≤ 57
  all_goals
    try omega
  all_goals
    have g1 := h1
    have g2 := h2
    have g3 := h3
    have g4 := h4
    simp only [Nat.not_le] at g1 g2 g3 g4
    go_enter Tryd.func72, Tryd.ntmps72
    go_wp2
    go_ret
    exact ⟨by simp [h1, h2, h3, h4] <;> omega, rfl⟩

theorem getElem_all {s : ByteArray} {k : Nat} (h : k < s.size) : s.data.toList[k]? = some s[k] := by
  rw [Array.getElem?_toList]
  exact Array.getElem?_eq_getElem (by simpa using h)
theorem all_of {s : ByteArray} (h : ∀ k (hk : k < s.size), chr s[k] = true) : s.data.toList.all chr = true := by
  rw [List.all_eq_true]
  intro x hx
  obtain ⟨k, hk, rfl⟩ := List.getElem_of_mem hx
  exact h k (by simpa using hk)
theorem all_no {s : ByteArray} {k : Nat} (hk : k < s.size) (h : chr s[k] = false) : s.data.toList.all chr = false := by
  rw [List.all_eq_false]
  exact ⟨s[k], List.mem_of_getElem? (getElem_all hk), by simp [h]⟩

theorem ret_b {a b : Bool} (h : a = b) : Ending.returned (.bool a) = .returned (.bool b) := by rw [h]
theorem name_all {s : ByteArray} (h : ∀ k (hk : k < s.size), chr s[k] = true) (h1 : 1 ≤ s.size) : nameB s = decide ((s.size : Int) ≤ 8) := by
  unfold nameB
  rw [all_of h, decide_eq_true h1]
  by_cases h8 : s.size ≤ 8
  · rw [decide_eq_true h8, decide_eq_true (by omega : (s.size : Int) ≤ 8)]; rfl
  · rw [decide_eq_false h8, decide_eq_false (by omega : ¬ (s.size : Int) ≤ 8)]; rfl
theorem name_yes {s : ByteArray} (h : ∀ k (hk : k < s.size), chr s[k] = true) (h1 : 1 ≤ s.size) (h8 : s.size ≤ 8) : nameB s = true := by
  rw [name_all h h1]
  simp
  omega
theorem name_chr {s : ByteArray} {k : Nat} (hk : k < s.size) (h : chr s[k] = false) : nameB s = false := by
  unfold nameB
  rw [all_no hk h]
  simp
theorem name_size {s : ByteArray} (h : s.size < 1 ∨ 8 < s.size) : nameB s = false := by
  unfold nameB
  rcases h with h | h
  · rw [decide_eq_false (by omega : ¬ (1 ≤ s.size))]; rfl
  · rw [decide_eq_false (by omega : ¬ (s.size ≤ 8))]; simp

set_option maxHeartbeats 1000000 in
theorem isName_any (s : ByteArray) (w : World) (hs : s.size ≤ 9223372036854775807) : Calls Tryd.prog 69 #[.string s] w fun e w' => e = .returned (.bool (nameB s)) ∧ w = w' := by
  by_cases h0 : s.size = 0
  · have HN := Lib.hid (name_size (s := s) (.inl (by omega)))
    have h0' : ((s.size : Int) == 0) = true := by simp [h0]
    clear h0
    go_enter Tryd.func69, Tryd.ntmps69
    go_wp2
    go_ret
    exact ⟨ret_b HN.out.symm, rfl⟩
  have h0' : ((s.size : Int) == 0) = false := beq_eq_false_iff_ne.2 (by omega)
  by_cases h8 : 8 < s.size
  · have HN := Lib.hid (name_size (s := s) (.inr h8))
    have h8' : (8 : Int) < s.size := by omega
    clear h0
    go_enter Tryd.func69, Tryd.ntmps69
    go_wp2
    go_ret
    exact ⟨ret_b HN.out.symm, rfl⟩
  have h8' : ¬ ((8 : Int) < s.size) := by omega
  have H0 := Lib.hid h0
  clear h0
  go_enter Tryd.func69, Tryd.ntmps69
  go_wp2
  go_loop [14, 3] (fun i j => ∃ k : Nat, i = .int .i64 k ∧ k ≤ s.size ∧ ∀ x (hx : x < s.size), x < k → chr s[x] = true) (fun i _ => s.size - (intOf i).toNat)
  case atStart => exact ⟨0, rfl, Nat.zero_le _, fun x hx h => by omega⟩
  case round =>
    obtain ⟨k, rfl, hk, hall⟩ := hrel
    have HA := Lib.hid hall
    clear hall
    by_cases hlt : k < s.size
    · cases hc : chr s[k]
      · have HC := Lib.hid (name_chr hlt hc)
        go_wp2_with (go_at_call 72; refine (isNameByte_any _ _).mono ?_; rintro e w' ⟨rfl, rfl⟩)
        go_ret
        exact ⟨ret_b HC.out.symm, rfl⟩
      · have HC2 := Lib.hid hc
        go_wp2_with (go_at_call 72; refine (isNameByte_any _ _).mono ?_; rintro e w' ⟨rfl, rfl⟩)
        go_round
        case rel =>
          refine ⟨k + 1, by go_num, hlt, fun x hx h => ?_⟩
          by_cases e : x = k
          · subst e; exact HC2.out
          · exact HA.out x hx (by omega)
        case measure => simp [intOf]; omega
    · have HB := Lib.hid (name_yes (fun x hx => HA.out x hx (by omega)) (by have := H0.out; omega) (by omega))
      clear HA
      go_wp2
      go_ret
      exact ⟨ret_b HB.out.symm, rfl⟩
set_option maxHeartbeats 1000000 in
theorem l02Name_any (s : ByteArray) (w : World) (hs : s.size ≤ 9223372036854775807) : Calls Tryd.prog 59 #[.string s] w fun e w' => e = .returned (.bool (nameB s)) ∧ w = w' := by
  go_enter Tryd.func59, Tryd.ntmps59
  go_wp2
  go_loop [3] (fun i => ∃ k : Nat, i = .int .i64 k ∧ k ≤ s.size ∧ ∀ x (hx : x < s.size), x < k → chr s[x] = true) (fun i => s.size - (intOf i).toNat)
  case atStart => exact ⟨0, rfl, Nat.zero_le _, fun x hx h => by omega⟩
  case round =>
    obtain ⟨k, rfl, hk, hall⟩ := hrel
    have HA := Lib.hid hall
    clear hall
    by_cases hlt : k < s.size
    · cases hc : chr s[k]
      · have HC := Lib.hid (name_chr hlt hc)
        have hc2 := chr_no.1 hc
        rcases (by omega : s[k].toNat < 48 ∨ 57 < s[k].toNat ∧ s[k].toNat < 97 ∨ 122 < s[k].toNat) with h1 | ⟨h1, h2⟩ | h1
        all_goals
          clear hc hc2
          have H1 := h1
          go_wp2
          go_ret
          exact ⟨ret_b HC.out.symm, rfl⟩
      · have HC2 := Lib.hid hc
        have hc2 := chr_iff.1 hc
        clear hc
        rcases hc2 with ⟨h1, h2⟩ | ⟨h1, h2⟩
        all_goals
          go_wp2
          go_round
          case rel =>
            refine ⟨k + 1, by go_num, hlt, fun x hx h => ?_⟩
            by_cases e : x = k
            · subst e; exact HC2.out
            · exact HA.out x hx (by omega)
          case measure => simp [intOf]; omega
    · by_cases h1 : 1 ≤ s.size
      · have HB := Lib.hid (name_all (fun x hx => HA.out x hx (by omega)) h1)
        clear HA
        go_wp2
        go_ret
        exact ⟨ret_b HB.out.symm, rfl⟩
      · have HB := Lib.hid (name_size (s := s) (.inl (by omega)))
        clear HA
        have h1' : s.size < 1 := by omega
        go_wp2
        go_ret
        exact ⟨ret_b HB.out.symm, rfl⟩
end Go.Proofs.YtdbgcbkmcbgdiaaDoor.mem
