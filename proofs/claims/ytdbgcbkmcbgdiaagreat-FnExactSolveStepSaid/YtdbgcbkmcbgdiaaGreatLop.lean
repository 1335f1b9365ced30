/-
  Relaxing flows as a function, steps, the best multiple of a cycle, as numbers. Conditions: as each states.
-/
import Derived.Test.YtdbgcbkmcbgdiaaGreatRows
import Derived.Test.YtdbgcbkmcbgdiaaGreatEnM
namespace Go.Proofs.YtdbgcbkmcbgdiaaGreat.mem
open Go.RowKit
set_option linter.unusedVariables false

/-- one chord of a pass -/
def psT (m : Nat) (P : Nat → Pip) (y : Nat → Int) (step left : Int) (s : (Nat → Int) × Int) : (Nat → Int) × Int :=
  if s.2 < left then (if loB m P s.1 y step = true then (fun k => s.1 k + step * y k, s.2 + 1) else if loB m P s.1 y (-step) = true then (fun k => s.1 k + (-step) * y k, s.2 + 1) else s) else s
/-- a pass through the first chords -/
def psS (m : Nat) (P : Nat → Pip) (Y : Nat → Nat → Int) (x : Nat → Int) (step left : Int) : Nat → (Nat → Int) × Int
  | 0 => (x, 0)
  | j + 1 => psT m P (Y j) step left (psS m P Y x step left j)
theorem loB_rng {m : Nat} {P : Nat → Pip} {x y : Nat → Int} {t : Int} (h : loB m P x y t = true) : ∀ k, k < m → -30000 ≤ x k + t * y k ∧ x k + t * y k ≤ 30000 := by
  unfold loB at h
  rw [Bool.and_eq_true] at h
  exact fun k hk => flQ_iff.1 (flB_iff.1 h.1 k hk)
theorem loB_lt {m : Nat} {P : Nat → Pip} {x y : Nat → Int} {t : Int} (h : loB m P x y t = true) : egS P (fun k => x k + t * y k) m < egS P x m := by
  unfold loB at h
  rw [Bool.and_eq_true, decide_eq_true_iff] at h
  exact h.2
theorem psS_rng {m : Nat} {P : Nat → Pip} {Y : Nat → Nat → Int} {x : Nat → Int} {step left : Int} (hx : ∀ k, k < m → -30000 ≤ x k ∧ x k ≤ 30000) : ∀ j k, k < m → -30000 ≤ (psS m P Y x step left j).1 k ∧ (psS m P Y x step left j).1 k ≤ 30000
  | 0, k, hk => hx k hk
  | j + 1, k, hk => by
    unfold psS psT
    split
    · split
      · next h => exact loB_rng h k hk
      · split
        · next h => exact loB_rng h k hk
        · exact psS_rng hx j k hk
    · exact psS_rng hx j k hk
theorem psS_cnt {m : Nat} {P : Nat → Pip} {Y : Nat → Nat → Int} {x : Nat → Int} {step left : Int} (hl : 0 ≤ left) : ∀ j : Nat, 0 ≤ (psS m P Y x step left j).2 ∧ (psS m P Y x step left j).2 ≤ left ∧ (psS m P Y x step left j).2 ≤ j
  | 0 => by simp [psS, hl]
  | j + 1 => by
    have h := psS_cnt (m := m) (P := P) (Y := Y) (x := x) (step := step) hl j
    unfold psS psT
    split
    · split
      · dsimp only; omega
      · split
        · dsimp only; omega
        · omega
    · omega
theorem psS_stop {m : Nat} {P : Nat → Pip} {Y : Nat → Nat → Int} {x : Nat → Int} {step left : Int} {i : Nat} (h : ¬ (psS m P Y x step left i).2 < left) : ∀ {j : Nat}, i ≤ j → psS m P Y x step left j = psS m P Y x step left i
  | 0, hj => by rw [show i = 0 by omega]
  | j + 1, hj => by
    by_cases e : i = j + 1
    · rw [e]
    · have h1 := psS_stop h (by omega : i ≤ j)
      show psT m P (Y j) step left (psS m P Y x step left j) = _
      rw [h1]
      unfold psT
      rw [if_neg h]
/-- relaxing: so many passes at most -/
def rlS (m : Nat) (P : Nat → Pip) (Y : Nat → Nat → Int) (C : Nat) : Nat → (Nat → Int) → Int → Int → (Nat → Int) × Int
  | 0, x, tot, _ => (x, tot)
  | f + 1, x, tot, st => if 1 ≤ st ∧ tot < 5000 then rlS m P Y C f (psS m P Y x st (5000 - tot) C).1 (tot + (psS m P Y x st (5000 - tot) C).2) (if (psS m P Y x st (5000 - tot) C).2 = 0 then st / 2 else st) else (x, tot)
theorem rlS_stop {m : Nat} {P : Nat → Pip} {Y : Nat → Nat → Int} {C f : Nat} {x : Nat → Int} {tot st : Int} (h : ¬ (1 ≤ st ∧ tot < 5000)) : rlS m P Y C f x tot st = (x, tot) := by
  cases f with
  | zero => rfl
  | succ f => unfold rlS; rw [if_neg h]
theorem rlS_next {m : Nat} {P : Nat → Pip} {Y : Nat → Nat → Int} {C f : Nat} {x : Nat → Int} {tot st : Int} (h : 1 ≤ st ∧ tot < 5000) : rlS m P Y C (f + 1) x tot st = rlS m P Y C f (psS m P Y x st (5000 - tot) C).1 (tot + (psS m P Y x st (5000 - tot) C).2) (if (psS m P Y x st (5000 - tot) C).2 = 0 then st / 2 else st) := by
  show (if 1 ≤ st ∧ tot < 5000 then _ else _) = _
  rw [if_pos h]
/-- relaxing from a step -/
def rlx (m : Nat) (P : Nat → Pip) (Y : Nat → Nat → Int) (C : Nat) (x : Nat → Int) (st : Int) : (Nat → Int) × Int := rlS m P Y C (5000 + st.toNat) x 0 st
theorem rlS_rng {m : Nat} {P : Nat → Pip} {Y : Nat → Nat → Int} {C : Nat} : ∀ (f : Nat) {x : Nat → Int} {tot st : Int}, (∀ k, k < m → -30000 ≤ x k ∧ x k ≤ 30000) → ∀ k, k < m → -30000 ≤ (rlS m P Y C f x tot st).1 k ∧ (rlS m P Y C f x tot st).1 k ≤ 30000
  | 0, x, tot, st, hx, k, hk => hx k hk
  | f + 1, x, tot, st, hx, k, hk => by
    unfold rlS
    split
    · exact rlS_rng f (fun k hk => psS_rng hx C k hk) k hk
    · exact hx k hk


/-! What a pass and relaxing do -/
theorem psS_ind {m : Nat} {P : Nat → Pip} {Y : Nat → Nat → Int} {x : Nat → Int} {step left : Int} (Q : (Nat → Int) → Prop) : ∀ {C : Nat}, (∀ z j t, j < C → Q z → Q (fun k => z k + t * Y j k)) → Q x → Q (psS m P Y x step left C).1
  | 0, _, h => h
  | C + 1, g, h => by
    have ih := psS_ind (m := m) (P := P) (step := step) (left := left) Q (C := C) (fun z j t hj => g z j t (by omega)) h
    unfold psS psT
    split
    · split
      · exact g _ C _ (by omega) ih
      · split
        · exact g _ C _ (by omega) ih
        · exact ih
    · exact ih
theorem rlS_ind {m : Nat} {P : Nat → Pip} {Y : Nat → Nat → Int} {C : Nat} (Q : (Nat → Int) → Prop) (g : ∀ z j t, j < C → Q z → Q (fun k => z k + t * Y j k)) : ∀ (f : Nat) {x : Nat → Int} {tot st : Int}, Q x → Q (rlS m P Y C f x tot st).1
  | 0, x, tot, st, h => h
  | f + 1, x, tot, st, h => by
    unfold rlS
    split
    · exact rlS_ind Q g f (psS_ind Q g h)
    · exact h
theorem psS_egy {m : Nat} {P : Nat → Pip} {Y : Nat → Nat → Int} {x : Nat → Int} {step left : Int} : ∀ j : Nat, egS P (psS m P Y x step left j).1 m + (psS m P Y x step left j).2 ≤ egS P x m
  | 0 => by simp [psS]
  | j + 1 => by
    have ih := psS_egy (m := m) (P := P) (Y := Y) (x := x) (step := step) (left := left) j
    unfold psS psT
    split
    · split
      · next h => have := loB_lt h; dsimp only; omega
      · split
        · next h => have := loB_lt h; dsimp only; omega
        · exact ih
    · exact ih
theorem psS_none {m : Nat} {P : Nat → Pip} {Y : Nat → Nat → Int} {x : Nat → Int} {step left : Int} (hl : 0 < left) : ∀ {j : Nat}, (psS m P Y x step left j).2 = 0 → (psS m P Y x step left j).1 = x ∧ ∀ i, i < j → loB m P x (Y i) step = false ∧ loB m P x (Y i) (-step) = false
  | 0, _ => ⟨rfl, fun i hi => by omega⟩
  | j + 1, h => by
    have hc := psS_cnt (m := m) (P := P) (Y := Y) (x := x) (step := step) (show 0 ≤ left by omega) j
    have ih := psS_none (m := m) (P := P) (Y := Y) (x := x) (step := step) hl (j := j)
    unfold psS psT at h ⊢
    by_cases h0 : (psS m P Y x step left j).2 < left
    · rw [if_pos h0] at h ⊢
      by_cases h1 : loB m P (psS m P Y x step left j).1 (Y j) step = true
      · rw [if_pos h1] at h
        dsimp only at h
        omega
      · rw [if_neg h1] at h ⊢
        by_cases h2 : loB m P (psS m P Y x step left j).1 (Y j) (-step) = true
        · rw [if_pos h2] at h
          dsimp only at h
          omega
        · rw [if_neg h2] at h ⊢
          obtain ⟨e, ih⟩ := ih h
          rw [e] at h1 h2
          refine ⟨e, fun i hi => ?_⟩
          by_cases g : i = j
          · subst g
            exact ⟨by simpa using h1, by simpa using h2⟩
          · exact ih i (by omega)
    · rw [if_neg h0] at h
      omega
theorem rlS_cnt {m : Nat} {P : Nat → Pip} {Y : Nat → Nat → Int} {C : Nat} : ∀ (f : Nat) {x : Nat → Int} {tot st : Int}, 0 ≤ tot → tot ≤ 5000 → tot ≤ (rlS m P Y C f x tot st).2 ∧ (rlS m P Y C f x tot st).2 ≤ 5000
  | 0, x, tot, st, h0, h1 => ⟨Int.le_refl _, h1⟩
  | f + 1, x, tot, st, h0, h1 => by
    unfold rlS
    split
    · next h =>
      have hc := psS_cnt (m := m) (P := P) (Y := Y) (x := x) (step := st) (show 0 ≤ 5000 - tot by omega) C
      have ih := rlS_cnt (m := m) (P := P) (Y := Y) (C := C) f (x := (psS m P Y x st (5000 - tot) C).1) (tot := tot + (psS m P Y x st (5000 - tot) C).2) (st := if (psS m P Y x st (5000 - tot) C).2 = 0 then st / 2 else st) (by omega) (by omega)
      omega
    · omega
theorem rlS_egy {m : Nat} {P : Nat → Pip} {Y : Nat → Nat → Int} {C : Nat} : ∀ (f : Nat) {x : Nat → Int} {tot st : Int}, egS P (rlS m P Y C f x tot st).1 m + (rlS m P Y C f x tot st).2 ≤ egS P x m + tot
  | 0, x, tot, st => Int.le_refl _
  | f + 1, x, tot, st => by
    unfold rlS
    split
    · have ih := rlS_egy (m := m) (P := P) (Y := Y) (C := C) f (x := (psS m P Y x st (5000 - tot) C).1) (tot := tot + (psS m P Y x st (5000 - tot) C).2) (st := if (psS m P Y x st (5000 - tot) C).2 = 0 then st / 2 else st)
      have h1 := psS_egy (m := m) (P := P) (Y := Y) (x := x) (step := st) (left := 5000 - tot) C
      omega
    · exact Int.le_refl _
theorem rlS_same {m : Nat} {P : Nat → Pip} {Y : Nat → Nat → Int} {C : Nat} : ∀ (f : Nat) {x : Nat → Int} {tot st : Int}, 0 ≤ tot → tot ≤ 5000 → (rlS m P Y C f x tot st).2 = tot → (rlS m P Y C f x tot st).1 = x
  | 0, x, tot, st, _, _, _ => rfl
  | f + 1, x, tot, st, h0, h1, h => by
    unfold rlS at h ⊢
    by_cases g : 1 ≤ st ∧ tot < 5000
    · rw [if_pos g] at h ⊢
      have hc := psS_cnt (m := m) (P := P) (Y := Y) (x := x) (step := st) (show 0 ≤ 5000 - tot by omega) C
      have hr := (rlS_cnt (m := m) (P := P) (Y := Y) (C := C) f (x := (psS m P Y x st (5000 - tot) C).1) (tot := tot + (psS m P Y x st (5000 - tot) C).2) (st := if (psS m P Y x st (5000 - tot) C).2 = 0 then st / 2 else st) (by omega) (by omega)).1
      rw [h] at hr
      have hz : (psS m P Y x st (5000 - tot) C).2 = 0 := by omega
      rw [rlS_same f (by omega) (by omega) (by omega)]
      exact (psS_none (by omega) hz).1
    · rw [if_neg g]
/-- where not all moves have been made, no cycle lowers the energy any more -/
theorem rlS_done {m : Nat} {P : Nat → Pip} {Y : Nat → Nat → Int} {C : Nat} : ∀ (f : Nat) {x : Nat → Int} {tot st : Int}, 0 ≤ tot → tot ≤ 5000 → 1 ≤ st → 5000 - tot + st ≤ f → (rlS m P Y C f x tot st).2 < 5000 → ∀ j, j < C → loB m P (rlS m P Y C f x tot st).1 (Y j) 1 = false ∧ loB m P (rlS m P Y C f x tot st).1 (Y j) (-1) = false
  | 0, x, tot, st, h0, h1, h2, h3, _ => by omega
  | f + 1, x, tot, st, h0, h1, h2, h3, h => by
    unfold rlS at h ⊢
    by_cases g : 1 ≤ st ∧ tot < 5000
    · rw [if_pos g] at h ⊢
      have hc := psS_cnt (m := m) (P := P) (Y := Y) (x := x) (step := st) (show 0 ≤ 5000 - tot by omega) C
      by_cases hz : (psS m P Y x st (5000 - tot) C).2 = 0
      · obtain ⟨e, hn⟩ := psS_none (show 0 < 5000 - tot by omega) hz
        rw [if_pos hz, hz, e, Int.add_zero] at h ⊢
        by_cases h4 : st = 1
        · subst h4
          rw [rlS_stop (by omega)]
          exact hn
        · exact rlS_done f h0 h1 (by omega) (by omega) h
      · rw [if_neg hz] at h ⊢
        exact rlS_done f (by omega) (by omega) h2 (by omega) h
    · rw [if_neg g] at h
      dsimp only at h
      omega

/-! Steps -/
/-- a power of two, by halving -/
def p2N : Nat → Nat → Bool
  | 0, _ => false
  | f + 1, x => x == 1 || (x % 2 == 0 && p2N f (x / 2))
/-- a step -/
def stB (x : Int) : Bool := p2N 16 x.toNat && decide (0 < x)
theorem and_pred (x : Nat) (h : 2 ≤ x) : x &&& (x - 1) = if x % 2 = 0 then 2 * ((x / 2) &&& (x / 2 - 1)) else x - 1 := by
  apply Nat.eq_of_testBit_eq
  intro i
  rw [Nat.testBit_and]
  by_cases hp : x % 2 = 0
  · rw [if_pos hp]
    cases i with
    | zero =>
      simp only [Nat.testBit_zero]
      rw [show 2 * (x / 2 &&& x / 2 - 1) % 2 = 0 by omega]
      simp [hp]
    | succ i =>
      rw [Nat.testBit_succ, Nat.testBit_succ, Nat.testBit_succ, show (x - 1) / 2 = x / 2 - 1 by omega, Nat.mul_div_cancel_left _ (by omega : 0 < 2), Nat.testBit_and]
  · rw [if_neg hp]
    cases i with
    | zero =>
      simp only [Nat.testBit_zero]
      rw [show (x - 1) % 2 = 0 by omega]
      simp
    | succ i =>
      rw [Nat.testBit_succ, Nat.testBit_succ, show (x - 1) / 2 = x / 2 by omega, Bool.and_self]
theorem and_p2 : ∀ (f x : Nat), 1 ≤ x → x < 2 ^ f → ((x &&& (x - 1)) = 0 ↔ p2N f x = true)
  | 0, x, h0, h1 => by omega
  | f + 1, x, h0, h1 => by
    unfold p2N
    by_cases e : x = 1
    · subst e
      simp
    · rw [and_pred x (by omega), show (x == 1) = false by simpa using e, Bool.false_or]
      by_cases hp : x % 2 = 0
      · rw [if_pos hp]
        have h2 : x / 2 < 2 ^ f := by rw [Nat.pow_succ] at h1; omega
        have ih := and_p2 f (x / 2) (by omega) h2
        rw [Bool.and_eq_true, ← ih]
        simp only [beq_iff_eq]
        omega
      · rw [if_neg hp, show (x % 2 == 0) = false by simpa using hp, Bool.false_and]
        constructor
        · intro h; omega
        · intro h; exact absurd h (by simp)
theorem p2N_pow : ∀ (f x : Nat), p2N f x = true ↔ ∃ k, k < f ∧ x = 2 ^ k
  | 0, x => by
    constructor
    · intro h; exact absurd h (by simp [p2N])
    · rintro ⟨k, hk, _⟩; omega
  | f + 1, x => by
    unfold p2N
    rw [Bool.or_eq_true, Bool.and_eq_true, p2N_pow f, beq_iff_eq, beq_iff_eq]
    constructor
    · rintro (h | ⟨h1, k, hk, h2⟩)
      · exact ⟨0, by omega, by rw [h]; try rfl⟩
      · exact ⟨k + 1, by omega, by rw [Nat.pow_succ]; omega⟩
    · rintro ⟨k, hk, h⟩
      cases k with
      | zero => left; rw [h]; try rfl
      | succ k =>
        rw [Nat.pow_succ] at h
        exact .inr ⟨by omega, k, by omega, by omega⟩
theorem stB_rng {x : Int} (h : stB x = true) : 1 ≤ x ∧ x ≤ 32768 := by
  unfold stB at h
  rw [Bool.and_eq_true, decide_eq_true_iff, p2N_pow] at h
  obtain ⟨⟨k, hk, e⟩, h0⟩ := h
  have h1 : 2 ^ k ≤ 2 ^ 15 := Nat.pow_le_pow_right (by omega) (by omega)
  have h2 : (2 : Nat) ^ 15 = 32768 := by decide
  omega

/-! The best multiple of a cycle -/
/-- the energy after adding a cycle so many times -/
def egC (P : Nat → Pip) (x y : Nat → Int) (m : Nat) (t : Int) : Int := egS P (fun k => x k + t * y k) m
theorem cube_conv (x s : Int) (hs : s = 1 ∨ s = -1) : 2 * (((x + s).natAbs : Int) * ((x + s).natAbs : Int) * ((x + s).natAbs : Int)) + 1 ≤ (x.natAbs : Int) * (x.natAbs : Int) * (x.natAbs : Int) + ((x + s + s).natAbs : Int) * ((x + s + s).natAbs : Int) * ((x + s + s).natAbs : Int) := by
  have key : ∀ a b : Int, 0 ≤ a → (b = a + 1) → 2 * (b * b * b) + 1 ≤ a * a * a + (b + 1) * (b + 1) * (b + 1) := by
    intro a b ha hb
    subst hb
    have e : a * a * a + (a + 1 + 1) * (a + 1 + 1) * (a + 1 + 1) = 2 * ((a + 1) * (a + 1) * (a + 1)) + 6 * a + 6 := by grind
    omega
  rcases (by omega : ((x + s).natAbs : Int) = (x.natAbs : Int) + 1 ∧ ((x + s + s).natAbs : Int) = ((x + s).natAbs : Int) + 1 ∨ (x.natAbs : Int) = ((x + s).natAbs : Int) + 1 ∧ ((x + s).natAbs : Int) = ((x + s + s).natAbs : Int) + 1 ∨ ((x + s).natAbs : Int) = 0 ∧ (x.natAbs : Int) = 1 ∧ ((x + s + s).natAbs : Int) = 1) with ⟨h1, h2⟩ | ⟨h1, h2⟩ | ⟨h1, h2, h3⟩
  · rw [h2]
    exact key _ _ (by omega) h1
  · have := key ((x + s + s).natAbs : Int) ((x + s).natAbs : Int) (by omega) h2
    rw [h1]
    omega
  · rw [h1, h2, h3]
    omega
/-- how many elements are not 0 -/
def nzC (y : Nat → Int) : Nat → Int
  | 0 => 0
  | k + 1 => nzC y k + (if y k = 0 then 0 else 1)
theorem nzC_pos {y : Nat → Int} {j : Nat} (hj : y j ≠ 0) : ∀ {k : Nat}, j < k → 1 ≤ nzC y k ∧ 0 ≤ nzC y k
  | 0, h => by omega
  | k + 1, h => by
    have h0 : ∀ i, 0 ≤ nzC y i := fun i => by
      induction i with
      | zero => exact Int.le_refl _
      | succ i ih => unfold nzC; split <;> omega
    unfold nzC
    by_cases e : j = k
    · subst e
      rw [if_neg hj]
      have := h0 j
      omega
    · have := (nzC_pos hj (k := k) (by omega)).1
      split <;> omega
theorem egT_conv {P : Nat → Pip} {x y : Nat → Int} {t : Int} {k : Nat} (hk : 1 ≤ (P k).k) (hy : -1 ≤ y k ∧ y k ≤ 1) :
    2 * egT P (fun j => x j + (t + 1) * y j) k + (if y k = 0 then 0 else 1) ≤ egT P (fun j => x j + t * y j) k + egT P (fun j => x j + (t + 1 + 1) * y j) k := by
  unfold egT
  dsimp only
  by_cases h0 : y k = 0
  · rw [if_pos h0, h0, Int.mul_zero, Int.mul_zero, Int.mul_zero]
    omega
  · rw [if_neg h0]
    have hs : y k = 1 ∨ y k = -1 := by omega
    have h1 := cube_conv (x k + t * y k) (y k) hs
    rw [show x k + (t + 1) * y k = x k + t * y k + y k by grind, show x k + (t + 1 + 1) * y k = x k + t * y k + y k + y k by grind]
    generalize ((x k + t * y k).natAbs : Int) = a at h1 ⊢
    generalize ((x k + t * y k + y k).natAbs : Int) = b at h1 ⊢
    generalize ((x k + t * y k + y k + y k).natAbs : Int) = c at h1 ⊢
    have h2 := Int.mul_le_mul_of_nonneg_left h1 (show 0 ≤ (P k).k by omega)
    have e1 : (P k).k * (2 * (b * b * b) + 1) = 2 * ((P k).k * b * b * b) + (P k).k := by grind
    have e2 : (P k).k * (a * a * a + c * c * c) = (P k).k * a * a * a + (P k).k * c * c * c := by grind
    rw [e1, e2] at h2
    omega
theorem egS_conv {P : Nat → Pip} {x y : Nat → Int} {t : Int} : ∀ {k : Nat}, (∀ j, j < k → 1 ≤ (P j).k) → (∀ j, j < k → -1 ≤ y j ∧ y j ≤ 1) →
    2 * egC P x y k (t + 1) + nzC y k ≤ egC P x y k t + egC P x y k (t + 1 + 1)
  | 0, _, _ => by simp [egC, egS, nzC]
  | k + 1, h, g => by
    have h1 := egS_conv (k := k) (x := x) (t := t) (fun j hj => h j (by omega : j < k + 1)) (fun j hj => g j (by omega : j < k + 1))
    have h2 := egT_conv (x := x) (t := t) (h k (by omega)) (g k (by omega))
    unfold egC at h1 ⊢
    rw [show egS P (fun j => x j + (t + 1) * y j) (k + 1) = egS P (fun j => x j + (t + 1) * y j) k + egT P (fun j => x j + (t + 1) * y j) k from rfl, show egS P (fun j => x j + t * y j) (k + 1) = egS P (fun j => x j + t * y j) k + egT P (fun j => x j + t * y j) k from rfl, show egS P (fun j => x j + (t + 1 + 1) * y j) (k + 1) = egS P (fun j => x j + (t + 1 + 1) * y j) k + egT P (fun j => x j + (t + 1 + 1) * y j) k from rfl, show nzC y (k + 1) = nzC y k + (if y k = 0 then 0 else 1) from rfl]
    omega
/-- what a cycle is: its elements are -1, 0 and 1, one is not 0, and the resistances are positive -/
structure CyO (P : Nat → Pip) (y : Nat → Int) (m : Nat) : Prop where
  k1 : ∀ j, j < m → 1 ≤ (P j).k
  y1 : ∀ j, j < m → -1 ≤ y j ∧ y j ≤ 1
  nz : ∃ j, j < m ∧ y j ≠ 0
theorem CyO.step {P : Nat → Pip} {x y : Nat → Int} {m : Nat} (h : CyO P y m) (t : Int) : egC P x y m (t + 1) - egC P x y m t < egC P x y m (t + 1 + 1) - egC P x y m (t + 1) := by
  obtain ⟨j, hj, hn⟩ := h.nz
  have h1 := (nzC_pos hn hj).1
  have h2 := egS_conv (x := x) (t := t) h.k1 h.y1
  omega
theorem CyO.grow {P : Nat → Pip} {x y : Nat → Int} {m : Nat} (h : CyO P y m) (t : Int) : ∀ i : Nat, egC P x y m (t + 1) - egC P x y m t + i ≤ egC P x y m (t + i + 1) - egC P x y m (t + i)
  | 0 => by simp
  | i + 1 => by
    have h1 := h.grow (x := x) t i
    have h2 := h.step (x := x) (t + i)
    rw [show t + ((i + 1 : Nat) : Int) = t + (i : Int) + 1 by omega]
    omega
theorem CyO.lt {P : Nat → Pip} {x y : Nat → Int} {m : Nat} (h : CyO P y m) {t u : Int} (htu : t < u) : egC P x y m (t + 1) - egC P x y m t < egC P x y m (u + 1) - egC P x y m u := by
  have h1 := h.grow (x := x) t (u - t).toNat
  rw [show t + ((u - t).toNat : Int) = u by omega] at h1
  omega
/-- the multiple is enough -/
def bePr (P : Nat → Pip) (x y : Nat → Int) (m : Nat) (t : Int) : Prop := egC P x y m (t + 1) - egC P x y m t > 0 ∨ egC P x y m (t + 1) - egC P x y m t = 0 ∧ t ≥ 0
/-- from here on the energy does not fall -/
def bfPr (P : Nat → Pip) (x y : Nat → Int) (m : Nat) (t : Int) : Prop := egC P x y m t ≤ egC P x y m (t + 1)
theorem CyO.be_mono {P : Nat → Pip} {x y : Nat → Int} {m : Nat} (h : CyO P y m) {t u : Int} (htu : t ≤ u) (hp : bePr P x y m t) : bePr P x y m u := by
  unfold bePr at *
  rcases Int.lt_or_eq_of_le htu with g | g
  · have := h.lt (x := x) g
    omega
  · rw [← g]; exact hp
theorem CyO.bf_mono {P : Nat → Pip} {x y : Nat → Int} {m : Nat} (h : CyO P y m) {t u : Int} (htu : t ≤ u) (hp : bfPr P x y m t) : bfPr P x y m u := by
  unfold bfPr at *
  rcases Int.lt_or_eq_of_le htu with g | g
  · have := h.lt (x := x) g
    omega
  · rw [← g]; exact hp

/-- r is the least number from lo on that passes, or hi -/
structure Lst (p : Int → Prop) (lo hi r : Int) : Prop where
  ge : lo ≤ r
  le : r ≤ hi
  no : ∀ x, lo ≤ x → x < r → ¬ p x
  yes : r < hi → p r
theorem lst_ex (p : Int → Prop) (lo : Int) : ∀ (m : Nat) (hi : Int), hi = lo + m → ∃ r, Lst p lo hi r
  | 0, hi, h => ⟨lo, Int.le_refl _, by omega, fun x h1 h2 => by omega, fun h2 => by omega⟩
  | m + 1, hi, h => by
    obtain ⟨r, g⟩ := lst_ex p lo m (hi - 1) (by omega)
    by_cases e : r < hi - 1
    · exact ⟨r, g.ge, by have := g.le; omega, g.no, fun _ => g.yes e⟩
    · have er : r = hi - 1 := by have := g.le; omega
      rcases Classical.em (p r) with hp | hp
      · exact ⟨r, g.ge, by omega, g.no, fun _ => hp⟩
      · refine ⟨hi, by omega, Int.le_refl _, fun x h1 h2 => ?_, fun h2 => by omega⟩
        by_cases e2 : x < r
        · exact g.no x h1 e2
        · have : x = r := by omega
          rw [this]; exact hp
theorem Lst.uniq {p : Int → Prop} {lo hi r s : Int} (h : Lst p lo hi r) (g : Lst p lo hi s) : r = s := by
  rcases Int.lt_trichotomy r s with e | e | e
  · exact absurd (h.yes (by have := g.le; omega)) (g.no r h.ge e)
  · exact e
  · exact absurd (g.yes (by have := h.le; omega)) (h.no s g.ge e)
/-- what halving keeps -/
structure Hlv (p : Int → Prop) (lo hi l h : Int) : Prop where
  a : lo ≤ l
  b : l ≤ h
  c : h ≤ hi
  no : ∀ x, lo ≤ x → x < l → ¬ p x
  yes : h < hi → p h
theorem Hlv.start (p : Int → Prop) {lo hi : Int} (h : lo ≤ hi) : Hlv p lo hi lo hi := ⟨Int.le_refl _, h, Int.le_refl _, fun x h1 h2 => by omega, fun h2 => by omega⟩
theorem Hlv.done {p : Int → Prop} {lo hi l h : Int} (g : Hlv p lo hi l h) (e : ¬ l < h) : Lst p lo hi l := by
  have e2 : l = h := by have := g.b; omega
  subst e2
  exact ⟨g.a, g.c, g.no, g.yes⟩
theorem Hlv.up {p : Int → Prop} {lo hi l h m : Int} (hm : ∀ x y, x ≤ y → p x → p y) (g : Hlv p lo hi l h) (h1 : l ≤ m) (h2 : m < h) (hp : ¬ p m) : Hlv p lo hi (m + 1) h :=
  ⟨by have := g.a; omega, by omega, g.c, fun x a b hx => hp (hm x m (by omega) hx), g.yes⟩
theorem Hlv.down {p : Int → Prop} {lo hi l h m : Int} (g : Hlv p lo hi l h) (h1 : l ≤ m) (h2 : m < h) (hp : p m) : Hlv p lo hi l m :=
  ⟨g.a, h1, by have := g.c; omega, g.no, fun _ => hp⟩

/-- the least and the greatest number of times that the first elements allow -/
def alL (x y : Nat → Int) : Nat → Int
  | 0 => -60000
  | k + 1 => if y k = 0 then alL x y k else max (alL x y k) (-30000 - y k * x k)
def alH (x y : Nat → Int) : Nat → Int
  | 0 => 60000
  | k + 1 => if y k = 0 then alH x y k else min (alH x y k) (30000 - y k * x k)
theorem al_bnd {x y : Nat → Int} : ∀ {k : Nat}, (∀ j, j < k → -30000 ≤ x j ∧ x j ≤ 30000) → (∀ j, j < k → -1 ≤ y j ∧ y j ≤ 1) → (-60000 ≤ alL x y k ∧ alL x y k ≤ 0) ∧ 0 ≤ alH x y k ∧ alH x y k ≤ 60000
  | 0, _, _ => by simp [alL, alH]
  | k + 1, h, g => by
    have ih := al_bnd (k := k) (fun j hj => h j (by omega : j < k + 1)) (fun j hj => g j (by omega : j < k + 1))
    have h1 := h k (by omega)
    have g1 := g k (by omega)
    unfold alL alH
    split
    · exact ih
    · rcases (by omega : y k = 1 ∨ y k = -1) with e | e <;> rw [e] <;> omega
theorem al_in {x y : Nat → Int} {t : Int} : ∀ {k : Nat}, (∀ j, j < k → -30000 ≤ x j ∧ x j ≤ 30000) → (∀ j, j < k → -1 ≤ y j ∧ y j ≤ 1) → alL x y k ≤ t → t ≤ alH x y k → ∀ j, j < k → -30000 ≤ x j + t * y j ∧ x j + t * y j ≤ 30000
  | 0, _, _, _, _, j, hj => by omega
  | k + 1, h, g, h0, h1, j, hj => by
    rw [show alL x y (k + 1) = (if y k = 0 then alL x y k else max (alL x y k) (-30000 - y k * x k)) from rfl] at h0
    rw [show alH x y (k + 1) = (if y k = 0 then alH x y k else min (alH x y k) (30000 - y k * x k)) from rfl] at h1
    have hx := h k (by omega)
    by_cases e : y k = 0
    · rw [if_pos e] at h0 h1
      by_cases ej : j = k
      · subst ej
        rw [e, Int.mul_zero]
        omega
      · exact al_in (fun j hj => h j (by omega : j < k + 1)) (fun j hj => g j (by omega : j < k + 1)) h0 h1 j (by omega)
    · rw [if_neg e] at h0 h1
      by_cases ej : j = k
      · subst ej
        have g1 := g j (by omega)
        rcases (by omega : y j = 1 ∨ y j = -1) with e2 | e2 <;> rw [e2] at h0 h1 ⊢ <;> omega
      · exact al_in (fun j hj => h j (by omega : j < k + 1)) (fun j hj => g j (by omega : j < k + 1)) (Int.le_trans (Int.le_max_left _ _) h0) (Int.le_trans h1 (Int.min_le_left _ _)) j (by omega)
theorem al_of {x y : Nat → Int} {t : Int} (h60 : -60000 ≤ t ∧ t ≤ 60000) : ∀ {k : Nat}, (∀ j, j < k → -1 ≤ y j ∧ y j ≤ 1) → (∀ j, j < k → -30000 ≤ x j + t * y j ∧ x j + t * y j ≤ 30000) → alL x y k ≤ t ∧ t ≤ alH x y k
  | 0, _, _ => by unfold alL alH; omega
  | k + 1, g, h => by
    have ih := al_of h60 (k := k) (fun j hj => g j (by omega : j < k + 1)) (fun j hj => h j (by omega : j < k + 1))
    have h1 := h k (by omega)
    have g1 := g k (by omega)
    unfold alL alH
    split
    · exact ih
    · next e =>
      rcases (by omega : y k = 1 ∨ y k = -1) with e2 | e2 <;> rw [e2] at h1 ⊢ <;> omega
theorem al_ext {x y : Nat → Int} {m : Nat} (h : ∀ k, m ≤ k → y k = 0) : ∀ i, alL x y (m + i) = alL x y m ∧ alH x y (m + i) = alH x y m
  | 0 => ⟨rfl, rfl⟩
  | i + 1 => by
    have ih := al_ext (x := x) h i
    rw [show m + (i + 1) = (m + i) + 1 by omega, show alL x y (m + i + 1) = (if y (m + i) = 0 then alL x y (m + i) else max (alL x y (m + i)) (-30000 - y (m + i) * x (m + i))) from rfl, show alH x y (m + i + 1) = (if y (m + i) = 0 then alH x y (m + i) else min (alH x y (m + i)) (30000 - y (m + i) * x (m + i))) from rfl, if_pos (h _ (by omega)), if_pos (h _ (by omega))]
    exact ih
theorem al_congr {x y u : Nat → Int} : ∀ {k : Nat}, (∀ j, j < k → x j = u j) → alL x y k = alL u y k ∧ alH x y k = alH u y k
  | 0, _ => ⟨rfl, rfl⟩
  | k + 1, h => by
    have ih := al_congr (y := y) (k := k) (fun j hj => h j (by omega))
    unfold alL alH
    rw [ih.1, ih.2, h k (by omega)]
    exact ⟨rfl, rfl⟩
/-- the least number from lo on that passes -/
noncomputable def lstV (p : Int → Prop) (lo : Int) (m : Nat) : Int := (lst_ex p lo m (lo + m) rfl).choose
theorem lstV_is (p : Int → Prop) (lo : Int) (m : Nat) {hi : Int} (h : hi = lo + m) : Lst p lo hi (lstV p lo m) := by
  rw [h]
  exact (lst_ex p lo m (lo + m) rfl).choose_spec
/-- the best number of times -/
noncomputable def bstT (m : Nat) (P : Nat → Pip) (x y : Nat → Int) : Int := lstV (bePr P x y m) (alL x y m) (alH x y m - alL x y m).toNat
theorem bstT_is {m : Nat} {P : Nat → Pip} {x y : Nat → Int} (h : alL x y m ≤ alH x y m) : Lst (bePr P x y m) (alL x y m) (alH x y m) (bstT m P x y) := lstV_is _ _ _ (by omega)
theorem bstT_eq {m : Nat} {P : Nat → Pip} {x y : Nat → Int} {r : Int} (h : Lst (bePr P x y m) (alL x y m) (alH x y m) r) : r = bstT m P x y := h.uniq (bstT_is (by have := h.ge; have := h.le; omega))
/-- the specification's number: the first one from which on the energy does not fall, or the one behind it -/
theorem CyO.best {P : Nat → Pip} {x y : Nat → Int} {m : Nat} (h : CyO P y m) {lo hi f : Int} (g : Lst (bfPr P x y m) lo hi f) : Lst (bePr P x y m) lo hi (if f < hi ∧ egC P x y m (f + 1) = egC P x y m f ∧ f < 0 then f + 1 else f) := by
  have hge := g.ge
  have hle := g.le
  by_cases e : f < hi ∧ egC P x y m (f + 1) = egC P x y m f ∧ f < 0
  · rw [if_pos e]
    obtain ⟨e1, e2, e3⟩ := e
    refine ⟨by omega, by omega, fun z z0 z1 hz => ?_, fun _ => ?_⟩
    · have := h.be_mono (x := x) (show z ≤ f by omega) hz
      unfold bePr at this
      omega
    · have := h.step (x := x) f
      unfold bePr
      omega
  · rw [if_neg e]
    refine ⟨hge, hle, fun z z0 z1 hz => ?_, fun hf => ?_⟩
    · have := g.no z z0 z1
      unfold bfPr at this
      unfold bePr at hz
      omega
    · have := g.yes hf
      unfold bfPr at this
      unfold bePr
      omega
/-- no multiple of a cycle has a smaller energy -/
theorem CyO.least {P : Nat → Pip} {x y : Nat → Int} {m : Nat} (h : CyO P y m) {lo hi r : Int} (g : Lst (bePr P x y m) lo hi r) : ∀ t, lo ≤ t → t ≤ hi → egC P x y m r ≤ egC P x y m t := by
  have down : ∀ i : Nat, lo ≤ r - i → egC P x y m r ≤ egC P x y m (r - i) := by
    intro i
    induction i with
    | zero => intro _; rw [show r - ((0 : Nat) : Int) = r by omega]; exact Int.le_refl _
    | succ i ih =>
      intro hl
      have h1 := ih (by omega)
      have h2 := g.no (r - ((i + 1 : Nat) : Int)) hl (by omega)
      unfold bePr at h2
      rw [show r - ((i + 1 : Nat) : Int) + 1 = r - (i : Int) by omega] at h2
      omega
  have up : ∀ i : Nat, r + i ≤ hi → egC P x y m r ≤ egC P x y m (r + i) := by
    intro i
    induction i with
    | zero => intro _; rw [show r + ((0 : Nat) : Int) = r by omega]; exact Int.le_refl _
    | succ i ih =>
      intro hl
      have h1 := ih (by omega)
      have h2 := h.be_mono (x := x) (show r ≤ r + i by omega) (g.yes (by omega))
      unfold bePr at h2
      rw [show r + ((i + 1 : Nat) : Int) = r + (i : Int) + 1 by omega]
      omega
  intro t t0 t1
  by_cases e : t ≤ r
  · have := down (r - t).toNat (by omega)
    rwa [show r - ((r - t).toNat : Int) = t by omega] at this
  · have := up (t - r).toNat (by omega)
    rwa [show r + ((t - r).toNat : Int) = t by omega] at this

/-! What the program's loops keep -/
/-- the number of times that a move adds a cycle -/
def mvB (m : Nat) (P : Nat → Pip) (x y : Nat → Int) (st : Int) : Int := if loB m P x y st = true then st else if loB m P x y (-st) = true then -st else 0
theorem ps_move {m : Nat} {P : Nat → Pip} {Y : Nat → Nat → Int} {x x' : Nat → Int} {st left mo : Int} {k : Nat} (h : (x', mo) = psS m P Y x st left k) (hl : mo < left) (hn : mvB m P x' (Y k) st ≠ 0) : psS m P Y x st left (k + 1) = (fun a => x' a + mvB m P x' (Y k) st * Y k a, mo + 1) := by
  show psT m P (Y k) st left (psS m P Y x st left k) = _
  rw [← h]
  unfold psT mvB at *
  rw [if_pos hl]
  by_cases h1 : loB m P x' (Y k) st = true
  · rw [if_pos h1, if_pos h1]
  · rw [if_neg h1] at hn ⊢
    rw [if_neg h1]
    by_cases h2 : loB m P x' (Y k) (-st) = true
    · rw [if_pos h2, if_pos h2]
    · rw [if_neg h2] at hn
      exact absurd rfl hn
theorem ps_stay {m : Nat} {P : Nat → Pip} {Y : Nat → Nat → Int} {x x' : Nat → Int} {st left mo : Int} {k : Nat} (h : (x', mo) = psS m P Y x st left k) (hl : mo < left) (hs : st ≠ 0) (hn : mvB m P x' (Y k) st = 0) : psS m P Y x st left (k + 1) = (x', mo) := by
  show psT m P (Y k) st left (psS m P Y x st left k) = _
  rw [← h]
  unfold psT mvB at *
  rw [if_pos hl]
  by_cases h1 : loB m P x' (Y k) st = true
  · rw [if_pos h1] at hn
    exact absurd hn hs
  · rw [if_neg h1] at hn ⊢
    by_cases h2 : loB m P x' (Y k) (-st) = true
    · rw [if_pos h2] at hn
      omega
    · rw [if_neg h2]
theorem mvB_rng {m : Nat} {P : Nat → Pip} {x y : Nat → Int} {st : Int} (hs : 1 ≤ st ∧ st ≤ 32768) : -32768 ≤ mvB m P x y st ∧ mvB m P x y st ≤ 32768 := by
  unfold mvB
  split
  · omega
  · split <;> omega
theorem mvB_in {m : Nat} {P : Nat → Pip} {x y : Nat → Int} {st : Int} (hx : ∀ k, k < m → -30000 ≤ x k ∧ x k ≤ 30000) : ∀ k, k < m → -30000 ≤ x k + mvB m P x y st * y k ∧ x k + mvB m P x y st * y k ≤ 30000 := by
  intro k hk
  unfold mvB
  split
  · next h => exact loB_rng h k hk
  · split
    · next h => exact loB_rng h k hk
    · rw [Int.zero_mul, Int.add_zero]
      exact hx k hk
theorem rl_break {m : Nat} {P : Nat → Pip} {Y : Nat → Nat → Int} {C f k : Nat} {x x' : Nat → Int} {tot st mo : Int} (hs : 1 ≤ st) (ht : 0 ≤ tot ∧ tot ≤ 5000) (hk : k ≤ C) (h : (x', mo) = psS m P Y x st (5000 - tot) k) (hm : tot + mo = 5000) : rlS m P Y C (f + 1) x tot st = (x', 5000) := by
  have h0 : psS m P Y x st (5000 - tot) C = (x', mo) := by
    rw [psS_stop (i := k) (by rw [← h]; dsimp only; omega) hk]
    exact h.symm
  by_cases g : tot < 5000
  · rw [rlS_next ⟨hs, g⟩, h0]
    dsimp only
    rw [hm, rlS_stop (by omega)]
  · rw [rlS_stop (by omega)]
    have h1 : psS m P Y x st (5000 - tot) C = (x, 0) := by
      rw [psS_stop (i := 0) (by show ¬ (0 : Int) < 5000 - tot; omega) (Nat.zero_le _)]
      rfl
    rw [h0] at h1
    injection h1 with e1 e2
    rw [e1, show tot = 5000 by omega]
theorem rl_pass {m : Nat} {P : Nat → Pip} {Y : Nat → Nat → Int} {C f : Nat} {x x' : Nat → Int} {tot st mo : Int} (hs : 1 ≤ st) (ht : 0 ≤ tot ∧ tot ≤ 5000) (h : (x', mo) = psS m P Y x st (5000 - tot) C) : rlS m P Y C (f + 1) x tot st = rlS m P Y C f x' (tot + mo) (if mo = 0 then st / 2 else st) := by
  by_cases g : tot < 5000
  · rw [rlS_next ⟨hs, g⟩, ← h]
  · have h1 : psS m P Y x st (5000 - tot) C = (x, 0) := by
      rw [psS_stop (i := 0) (by show ¬ (0 : Int) < 5000 - tot; omega) (Nat.zero_le _)]
      rfl
    rw [h1] at h
    injection h with e1 e2
    rw [rlS_stop (by omega), rlS_stop (by omega), e1, e2, Int.add_zero]
end Go.Proofs.YtdbgcbkmcbgdiaaGreat.mem
