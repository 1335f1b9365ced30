/-
  Plain facts on sorting indices by a key, greater keys first and smaller indices first among equal keys: what one step of an insertion does, and what a merge by rotation does. No condition.
-/
import Derived.Test.YtpgindeoiibgpaaRot
namespace Go.Proofs.Ytpgindeoiibgpaa.sort
open Go.RowKit Go.Proofs.Ytpgindeoiibgpaa.mem
set_option linter.unusedVariables false

/-- index x comes before index y -/
def lt (rem : Nat → Int) (x y : Int) : Prop := rem y.toNat < rem x.toNat ∨ (rem x.toNat = rem y.toNat ∧ x < y)
theorem lt_trans {rem : Nat → Int} {x y z : Int} (h : lt rem x y) (g : lt rem y z) : lt rem x z := by unfold lt at *; omega
theorem lt_tot {rem : Nat → Int} {x y : Int} (h : x ≠ y) : lt rem x y ∨ lt rem y x := by unfold lt; omega
theorem lt_asymm {rem : Nat → Int} {x y : Int} (h : lt rem x y) : ¬ lt rem y x := by unfold lt at *; omega
theorem lt_irr {rem : Nat → Int} {x : Int} : ¬ lt rem x x := by unfold lt; omega

def Sorted (rem : Nat → Int) (c : Nat → Int) (a b : Nat) : Prop := ∀ p q, a ≤ p → p < q → q < b → lt rem (c p) (c q)
def Vals (c : Nat → Int) (a b : Nat) (lo hi : Int) : Prop := ∀ k, a ≤ k → k < b → lo ≤ c k ∧ c k < hi
/-- c holds in [a, b) just what d holds there, and elsewhere the same -/
structure Same (c d : Nat → Int) (a b : Nat) : Prop where
  fwd : ∀ k, a ≤ k → k < b → ∃ j, a ≤ j ∧ j < b ∧ c j = d k
  bwd : ∀ k, a ≤ k → k < b → ∃ j, a ≤ j ∧ j < b ∧ c k = d j
  out : ∀ k, k < a ∨ b ≤ k → c k = d k
theorem Same.refl (d : Nat → Int) (a b : Nat) : Same d d a b := ⟨fun k h1 h2 => ⟨k, h1, h2, rfl⟩, fun k h1 h2 => ⟨k, h1, h2, rfl⟩, fun _ _ => rfl⟩
theorem Same.trans {c d e : Nat → Int} {a b : Nat} (h : Same c d a b) (g : Same d e a b) : Same c e a b := by
  refine ⟨fun k h1 h2 => ?_, fun k h1 h2 => ?_, fun k hk => (h.out k hk).trans (g.out k hk)⟩
  · obtain ⟨j, j1, j2, e1⟩ := g.fwd k h1 h2
    obtain ⟨i, i1, i2, e2⟩ := h.fwd j j1 j2
    exact ⟨i, i1, i2, e2.trans e1⟩
  · obtain ⟨j, j1, j2, e1⟩ := h.bwd k h1 h2
    obtain ⟨i, i1, i2, e2⟩ := g.bwd j j1 j2
    exact ⟨i, i1, i2, e1.trans e2⟩
theorem Same.mono {c d : Nat → Int} {a b a' b' : Nat} (h : Same c d a b) (ha : a' ≤ a) (hb : b ≤ b') : Same c d a' b' := by
  refine ⟨fun k h1 h2 => ?_, fun k h1 h2 => ?_, fun k hk => h.out k (by omega)⟩
  · by_cases hk : a ≤ k ∧ k < b
    · obtain ⟨j, j1, j2, e⟩ := h.fwd k hk.1 hk.2
      exact ⟨j, by omega, by omega, e⟩
    · exact ⟨k, h1, h2, h.out k (by omega)⟩
  · by_cases hk : a ≤ k ∧ k < b
    · obtain ⟨j, j1, j2, e⟩ := h.bwd k hk.1 hk.2
      exact ⟨j, by omega, by omega, e⟩
    · exact ⟨k, h1, h2, h.out k (by omega)⟩
theorem Same.swap (d : Nat → Int) (i j a b : Nat) (hi : a ≤ i ∧ i < b) (hj : a ≤ j ∧ j < b) : Same (swap d i j) d a b := by
  refine ⟨fun k h1 h2 => ?_, fun k h1 h2 => ?_, fun k hk => ?_⟩
  · by_cases e1 : k = i
    · refine ⟨j, hj.1, hj.2, ?_⟩
      unfold mem.swap
      by_cases e2 : j = i
      · rw [if_pos e2, e1, e2]
      · rw [if_neg e2, if_pos rfl, e1]
    · by_cases e2 : k = j
      · exact ⟨i, hi.1, hi.2, by unfold mem.swap; rw [if_pos rfl, e2]⟩
      · exact ⟨k, h1, h2, by unfold mem.swap; rw [if_neg e1, if_neg e2]⟩
  · unfold mem.swap
    by_cases e1 : k = i
    · rw [if_pos e1]; exact ⟨j, hj.1, hj.2, rfl⟩
    · rw [if_neg e1]
      by_cases e2 : k = j
      · rw [if_pos e2]; exact ⟨i, hi.1, hi.2, rfl⟩
      · rw [if_neg e2]; exact ⟨k, h1, h2, rfl⟩
  · unfold mem.swap
    rw [if_neg (by omega), if_neg (by omega)]
theorem Same.vals {c d : Nat → Int} {a b : Nat} {lo hi : Int} (h : Same c d a b) (g : Vals d a b lo hi) : Vals c a b lo hi := by
  intro k h1 h2
  obtain ⟨j, j1, j2, e⟩ := h.bwd k h1 h2
  rw [e]; exact g j j1 j2
theorem Same.rot (d : Nat → Int) (s m e a b : Nat) (h1 : a ≤ s) (h2 : s ≤ m) (h3 : m ≤ e) (h4 : e ≤ b) : Same (rotR d s m e) d a b := by
  refine ⟨fun k k1 k2 => ?_, fun k k1 k2 => ?_, fun k hk => ?_⟩
  · by_cases c1 : s ≤ k ∧ k < m
    · refine ⟨k + (e - m), by omega, by omega, ?_⟩
      unfold rotR
      rw [if_neg (by omega), if_pos (by omega)]
      congr 1; omega
    · by_cases c2 : m ≤ k ∧ k < e
      · refine ⟨k - (m - s), by omega, by omega, ?_⟩
        unfold rotR
        rw [if_pos (by omega)]
        congr 1; omega
      · refine ⟨k, k1, k2, ?_⟩
        unfold rotR
        rw [if_neg (by omega), if_neg (by omega)]
  · unfold rotR
    by_cases c1 : s ≤ k ∧ k < s + (e - m)
    · rw [if_pos c1]; exact ⟨_, by omega, by omega, rfl⟩
    · rw [if_neg c1]
      by_cases c2 : s + (e - m) ≤ k ∧ k < e
      · rw [if_pos c2]; exact ⟨_, by omega, by omega, rfl⟩
      · rw [if_neg c2]; exact ⟨k, k1, k2, rfl⟩
  · unfold rotR
    rw [if_neg (by omega), if_neg (by omega)]

/-- the state of the inner loop of an insertion: index i stands at j -/
structure Ins (rem : Nat → Int) (c : Nat → Int) (a i j : Nat) : Prop where
  at_ : c j = (i : Int)
  srt : ∀ p q, a ≤ p → p < q → q ≤ i → p ≠ j → q ≠ j → lt rem (c p) (c q)
  aft : ∀ q, j < q → q ≤ i → lt rem (i : Int) (c q)
  val : ∀ k, a ≤ k → k ≤ i → k ≠ j → c k < (i : Int)
theorem Ins.step {rem c : Nat → Int} {a i j : Nat} (h : Ins rem c a i j) (hj : a < j) (hi : j ≤ i) (hc : lt rem (i : Int) (c (j - 1))) : Ins rem (swap c j (j - 1)) a i (j - 1) := by
  have s1 : ∀ k, k ≠ j → k ≠ j - 1 → swap c j (j - 1) k = c k := fun k e1 e2 => by unfold mem.swap; rw [if_neg e1, if_neg e2]
  have s2 : swap c j (j - 1) j = c (j - 1) := by unfold mem.swap; rw [if_pos rfl]
  have s3 : swap c j (j - 1) (j - 1) = c j := by unfold mem.swap; rw [if_neg (by omega), if_pos rfl]
  refine ⟨s3.trans h.at_, fun p q h1 h2 h3 h4 h5 => ?_, fun q h1 h2 => ?_, fun k h1 h2 h3 => ?_⟩
  · by_cases e1 : p = j
    · subst e1
      rw [s2, s1 q (by omega) (by omega)]
      exact h.srt (p - 1) q (by omega) (by omega) h3 (by omega) (by omega)
    · by_cases e2 : q = j
      · subst e2
        rw [s2, s1 p (by omega) (by omega)]
        exact h.srt p (q - 1) h1 (by omega) (by omega) (by omega) (by omega)
      · rw [s1 p e1 h4, s1 q e2 h5]
        exact h.srt p q h1 h2 h3 e1 e2
  · by_cases e1 : q = j
    · subst e1; rw [s2]; exact hc
    · rw [s1 q e1 (by omega)]; exact h.aft q (by omega) h2
  · by_cases e1 : k = j
    · subst e1; rw [s2]; exact h.val (k - 1) (by omega) (by omega) (by omega)
    · rw [s1 k e1 h3]; exact h.val k h1 h2 e1
theorem Ins.done {rem c : Nat → Int} {a i j : Nat} (h : Ins rem c a i j) (ha : a ≤ j) (hi : j ≤ i) (hc : j = a ∨ lt rem (c (j - 1)) (i : Int)) : Sorted rem c a (i + 1) := by
  intro p q h1 h2 h3
  by_cases e1 : p = j
  · rw [e1, h.at_]; exact h.aft q (by omega) (by omega)
  · by_cases e2 : q = j
    · rw [e2, h.at_]
      rcases hc with hc | hc
      · omega
      · by_cases e3 : p = j - 1
        · rw [e3]; exact hc
        · exact lt_trans (h.srt p (j - 1) h1 (by omega) (by omega) e1 (by omega)) hc
    · exact h.srt p q h1 h2 (by omega) e1 e2
theorem Ins.start {rem c : Nat → Int} {a i : Nat} (hs : Sorted rem c a i) (hv : Vals c a i a i) (hc : c i = (i : Int)) : Ins rem c a i i :=
  ⟨hc, fun p q h1 h2 h3 h4 h5 => hs p q h1 h2 (by omega), fun q h1 h2 => by omega, fun k h1 h2 h3 => (hv k h1 (by omega)).2⟩
end Go.Proofs.Ytpgindeoiibgpaa.sort
