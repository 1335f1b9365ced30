/-
  Plain facts on merging by rotation. No condition.
-/
import Derived.Test.YtmjmamiokkkblabSortMath
namespace Go.Proofs.Ytmjmamiokkkblab.sort
open Go.RowKit Go.Proofs.Ytmjmamiokkkblab.mem
set_option linter.unusedVariables false

/-- in [a, m) stand smaller indices than in [m, b) -/
def Sep (c : Nat → Int) (a m b : Nat) : Prop := ∀ p q, a ≤ p → p < m → m ≤ q → q < b → c p < c q
theorem rot_lo (c : Nat → Int) {s m e k : Nat} (h : k < s) : rotR c s m e k = c k := by unfold rotR; rw [if_neg (by omega), if_neg (by omega)]
theorem rot_hi (c : Nat → Int) {s m e k : Nat} (h : e ≤ k) (hs : s ≤ m) (hm : m ≤ e) : rotR c s m e k = c k := by unfold rotR; rw [if_neg (by omega), if_neg (by omega)]
theorem rot_a (c : Nat → Int) {s m e k : Nat} (h : s ≤ k) (h2 : k < s + (e - m)) : rotR c s m e k = c (k + (m - s)) := by unfold rotR; rw [if_pos ⟨h, h2⟩]
theorem rot_b (c : Nat → Int) {s m e k : Nat} (h : s + (e - m) ≤ k) (h2 : k < e) : rotR c s m e k = c (k - (e - m)) := by unfold rotR; rw [if_neg (by omega), if_pos ⟨h, h2⟩]
theorem rot_triv (c : Nat → Int) {s m e : Nat} (h : s = m ∨ m = e) : rotR c s m e = c := by
  funext k
  unfold rotR
  rcases h with rfl | rfl
  · repeat' split
    all_goals first | rfl | (congr 1; omega)
  · repeat' split
    all_goals first | rfl | (exfalso; omega) | (congr 1; omega)

/-- what a merge has before it -/
structure Pre (rem c : Nat → Int) (a m b : Nat) : Prop where
  l : Sorted rem c a m
  r : Sorted rem c m b
  sep : Sep c a m b

/-- where the left part parts at s and the right part at e -/
structure Cut (rem c : Nat → Int) (a m b s e : Nat) : Prop where
  ha : a ≤ s
  sm : s ≤ m
  me : m ≤ e
  eb : e ≤ b
  h1 : a < s → e < b → lt rem (c (s - 1)) (c e)
  h2 : m < e → s < m → lt rem (c (e - 1)) (c s)

theorem Pre.le {rem c : Nat → Int} {a b p q : Nat} (h : Sorted rem c a b) (h1 : a ≤ p) (h2 : p ≤ q) (h3 : q < b) {z : Int} (hz : lt rem (c q) z) : lt rem (c p) z := by
  rcases Nat.lt_or_ge p q with g | g
  · exact lt_trans (h p q h1 g h3) hz
  · obtain rfl : p = q := by omega
    exact hz
theorem Pre.ge {rem c : Nat → Int} {a b p q : Nat} (h : Sorted rem c a b) (h1 : a ≤ p) (h2 : p ≤ q) (h3 : q < b) {z : Int} (hz : lt rem z (c p)) : lt rem z (c q) := by
  rcases Nat.lt_or_ge p q with g | g
  · exact lt_trans hz (h p q h1 g h3)
  · obtain rfl : p = q := by omega
    exact hz

theorem cut_left {rem c : Nat → Int} {a m b s e : Nat} (h : Pre rem c a m b) (k : Cut rem c a m b s e) : Pre rem (rotR c s m e) a s (s + (e - m)) := by
  obtain ⟨k1, k2, k3, k4, _, _⟩ := k
  refine ⟨fun p q h1 h2 h3 => ?_, fun p q h1 h2 h3 => ?_, fun p q h1 h2 h3 h4 => ?_⟩
  · rw [rot_lo c (by omega), rot_lo c (by omega)]; exact h.l p q h1 h2 (by omega)
  · rw [rot_a c h1 (by omega), rot_a c (by omega) h3]; exact h.r _ _ (by omega) (by omega) (by omega)
  · rw [rot_lo c h2, rot_a c h3 h4]; exact h.sep _ _ h1 (by omega) (by omega) (by omega)
theorem cut_right {rem c : Nat → Int} {a m b s e : Nat} (h : Pre rem c a m b) (k : Cut rem c a m b s e) : Pre rem (rotR c s m e) (s + (e - m)) e b := by
  obtain ⟨k1, k2, k3, k4, _, _⟩ := k
  refine ⟨fun p q h1 h2 h3 => ?_, fun p q h1 h2 h3 => ?_, fun p q h1 h2 h3 h4 => ?_⟩
  · rw [rot_b c h1 (by omega), rot_b c (by omega) h3]; exact h.l _ _ (by omega) (by omega) (by omega)
  · rw [rot_hi c h1 k2 k3, rot_hi c (by omega) k2 k3]; exact h.r p q (by omega) h2 h3
  · rw [rot_b c h1 h2, rot_hi c h3 k2 k3]; exact h.sep _ _ (by omega) (by omega) (by omega) h4
theorem cut_mid {rem c : Nat → Int} {a m b s e : Nat} (h : Pre rem c a m b) (k : Cut rem c a m b s e) : ∀ p q, a ≤ p → p < s + (e - m) → s + (e - m) ≤ q → q < b → lt rem (rotR c s m e p) (rotR c s m e q) := by
  obtain ⟨k1, k2, k3, k4, g1, g2⟩ := k
  intro p q h1 h2 h3 h4
  rcases Nat.lt_or_ge p s with hp | hp
  · rw [rot_lo c hp]
    rcases Nat.lt_or_ge q e with hq | hq
    · rw [rot_b c h3 hq]; exact h.l _ _ h1 (by omega) (by omega)
    · rw [rot_hi c hq k2 k3]
      exact Pre.le h.l h1 (by omega) (by omega) (Pre.ge h.r (by omega) hq h4 (g1 (by omega) (by omega)))
  · rw [rot_a c hp h2]
    rcases Nat.lt_or_ge q e with hq | hq
    · rw [rot_b c h3 hq]
      exact Pre.le h.r (by omega) (show p + (m - s) ≤ e - 1 by omega) (by omega) (Pre.ge h.l (by omega) (show s ≤ q - (e - m) by omega) (by omega) (g2 (by omega) (by omega)))
    · rw [rot_hi c hq k2 k3]; exact h.r _ _ (by omega) (by omega) h4
/-- both halves sorted, each of the first before each of the second -/
theorem halves {rem c d : Nat → Int} {a m b : Nat} (h1 : Sorted rem d a m) (h2 : Sorted rem d m b) (e1 : ∀ p, a ≤ p → p < m → ∃ j, a ≤ j ∧ j < m ∧ d p = c j) (e2 : ∀ q, m ≤ q → q < b → ∃ j, m ≤ j ∧ j < b ∧ d q = c j)
    (hm : ∀ p q, a ≤ p → p < m → m ≤ q → q < b → lt rem (c p) (c q)) : Sorted rem d a b := by
  intro p q g1 g2 g3
  rcases Nat.lt_or_ge q m with hq | hq
  · exact h1 p q g1 g2 hq
  · rcases Nat.lt_or_ge p m with hp | hp
    · obtain ⟨i, i1, i2, ei⟩ := e1 p g1 hp
      obtain ⟨j, j1, j2, ej⟩ := e2 q hq g3
      rw [ei, ej]; exact hm i j i1 i2 j1 j2
    · exact h2 p q hp g2 g3
/-- a merge of a part of one element: after the rotation all is sorted -/
theorem one_left {rem c : Nat → Int} {a b i : Nat} (h : Pre rem c a (a + 1) b) (h1 : a + 1 ≤ i) (h2 : i ≤ b) (g1 : a + 1 < i → lt rem (c (i - 1)) (c a)) (g2 : i < b → lt rem (c a) (c i)) : Sorted rem (rotR c a (a + 1) i) a b := by
  have k : Cut rem c a (a + 1) b a i := ⟨Nat.le_refl _, by omega, h1, h2, fun h => by omega, fun h _ => g1 h⟩
  have hl := cut_left h k
  have hm := cut_mid h k
  intro p q p1 p2 p3
  rcases Nat.lt_or_ge q (a + (i - (a + 1))) with hq | hq
  · exact hl.r p q p1 p2 hq
  · rcases Nat.lt_or_ge p (a + (i - (a + 1))) with hp | hp
    · exact hm p q p1 hp hq p3
    · rcases Nat.lt_or_ge p i with hpi | hpi
      · obtain rfl : p = i - 1 := by omega
        rw [rot_b c hp hpi, rot_hi c (by omega) (by omega) h1, show i - 1 - (i - (a + 1)) = a by omega]
        exact Pre.ge h.r h1 (by omega) p3 (g2 (by omega))
      · rw [rot_hi c hpi (by omega) h1, rot_hi c (by omega) (by omega) h1]
        exact h.r p q (by omega) p2 p3
theorem one_right {rem c : Nat → Int} {a m i : Nat} (h : Pre rem c a m (m + 1)) (h1 : a ≤ i) (h2 : i ≤ m) (g1 : a < i → lt rem (c (i - 1)) (c m)) (g2 : i < m → lt rem (c m) (c i)) : Sorted rem (rotR c i m (m + 1)) a (m + 1) := by
  intro p q p1 p2 p3
  rcases Nat.lt_or_ge q i with hq | hq
  · rw [rot_lo c (by omega), rot_lo c hq]; exact h.l p q p1 p2 (by omega)
  · rcases Nat.lt_or_ge p i with hp | hp
    · rw [rot_lo c hp]
      by_cases hqi : q = i
      · rw [hqi, rot_a c (Nat.le_refl _) (by omega), show i + (m - i) = m by omega]
        exact Pre.le h.l p1 (by omega) (by omega) (g1 (by omega))
      · rw [rot_b c (by omega) p3]; exact h.l _ _ p1 (by omega) (by omega)
    · by_cases hpi : p = i
      · rw [hpi, rot_a c (Nat.le_refl _) (by omega), show i + (m - i) = m by omega, rot_b c (by omega) p3]
        exact Pre.ge h.l h1 (by omega) (by omega) (g2 (by omega))
      · rw [rot_b c (by omega) (by omega), rot_b c (by omega) p3]; exact h.l _ _ (by omega) (by omega) (by omega)
/-- one swap moves the element on -/
theorem rot_up (c : Nat → Int) (a k : Nat) (h : a ≤ k) : swap (rotR c a (a + 1) (k + 1)) k (k + 1) = rotR c a (a + 1) (k + 2) := by
  funext x
  simp only [mem.swap, rotR]
  repeat' split
  all_goals first | rfl | (exfalso; omega) | (congr 1; omega)
theorem rot_down (c : Nat → Int) (m k : Nat) (h : k ≤ m) (hk : 0 < k) : swap (rotR c k m (m + 1)) k (k - 1) = rotR c (k - 1) m (m + 1) := by
  funext x
  simp only [mem.swap, rotR]
  repeat' split
  all_goals first | rfl | (exfalso; omega) | (congr 1; omega)
end Go.Proofs.Ytmjmamiokkkblab.sort
