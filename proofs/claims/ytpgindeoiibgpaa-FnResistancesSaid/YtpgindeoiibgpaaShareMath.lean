/-
  Plain facts on shares: sums, how many units are left, which indices get them. No condition.
-/
import Derived.Test.YtpgindeoiibgpaaSortMath
import Derived.Test.YtpgindeoiibgpaaNumMath
namespace Go.Proofs.Ytpgindeoiibgpaa.share
open Go.RowKit Go.Proofs.Ytpgindeoiibgpaa.mem Go.Proofs.Ytpgindeoiibgpaa.sort
set_option linter.unusedVariables false

def tot (d : Nat → Int) : Nat → Int
  | 0 => 0
  | n + 1 => tot d n + d n
theorem tot_congr {d e : Nat → Int} {n : Nat} (h : ∀ k, k < n → d k = e k) : tot d n = tot e n := by
  induction n with
  | zero => rfl
  | succ n ih => simp only [tot]; rw [ih (fun k hk => h k (by omega)), h n (by omega)]
theorem tot_bd {d : Nat → Int} {n : Nat} {M : Int} (h : ∀ k, k < n → 0 ≤ d k ∧ d k ≤ M) : ∀ m, m ≤ n → 0 ≤ tot d m ∧ tot d m ≤ m * M := by
  intro m
  induction m with
  | zero => intro _; simp [tot]
  | succ m ih =>
    intro hm
    have h1 := ih (by omega)
    have h2 := h m (by omega)
    simp only [tot]
    have : ((m + 1 : Nat) : Int) * M = m * M + M := by rw [Int.natCast_succ, Int.add_mul, Int.one_mul]
    omega
theorem tot_add (d e : Nat → Int) (n : Nat) : tot (fun k => d k + e k) n = tot d n + tot e n := by
  induction n with
  | zero => rfl
  | succ n ih => simp only [tot]; omega
theorem tot_mul (c : Int) (d : Nat → Int) (n : Nat) : tot (fun k => c * d k) n = c * tot d n := by
  induction n with
  | zero => simp [tot]
  | succ n ih => simp only [tot]; rw [ih, Int.mul_add]

/-- the whole parts and the remainders -/
def quo (T : Int) (d : Nat → Int) (n : Nat) : Nat → Int := fun k => T * d k / tot d n
def rmd (T : Int) (d : Nat → Int) (n : Nat) : Nat → Int := fun k => T * d k % tot d n
theorem left_bd {T : Int} {d : Nat → Int} {n : Nat} (h : 0 < tot d n) : 0 ≤ T - tot (quo T d n) n ∧ T - tot (quo T d n) n ≤ n := by
  have e1 : tot (fun k => T * d k) n = T * tot d n := tot_mul T d n
  have e2 : tot (fun k => T * d k) n = tot d n * tot (quo T d n) n + tot (rmd T d n) n := by
    rw [← tot_mul, ← tot_add]
    exact tot_congr (fun k hk => (Int.mul_ediv_add_emod _ _).symm)
  have e3 := tot_bd (d := rmd T d n) (n := n) (M := tot d n) (fun k hk => ⟨Int.emod_nonneg _ (by omega), Int.le_of_lt (Int.emod_lt_of_pos _ h)⟩) n (Nat.le_refl _)
  have e4 : tot d n * (T - tot (quo T d n) n) = tot (rmd T d n) n := by
    rw [Int.mul_sub, Int.mul_comm (tot d n) T]
    omega
  constructor
  · rcases Int.lt_or_le (T - tot (quo T d n) n) 0 with g | g
    · have := Int.mul_neg_of_pos_of_neg h g
      omega
    · exact g
  · rcases Int.lt_or_le (n : Int) (T - tot (quo T d n) n) with g | g
    · have := Int.mul_lt_mul_of_pos_left g h
      rw [Int.mul_comm (tot d n) (n : Int)] at this
      omega
    · exact g

/-- how often index i is among the first m of o -/
def cnt (o : Nat → Int) : Nat → Nat → Int
  | 0, _ => 0
  | m + 1, i => cnt o m i + if o m = (i : Int) then 1 else 0
theorem cnt_congr {o c : Nat → Int} {m : Nat} (h : ∀ k, k < m → o k = c k) (i : Nat) : cnt o m i = cnt c m i := by
  induction m with
  | zero => rfl
  | succ m ih => simp only [cnt]; rw [ih (fun k hk => h k (by omega)), h m (by omega)]
theorem cnt_nonneg (o : Nat → Int) (m i : Nat) : 0 ≤ cnt o m i := by
  induction m with
  | zero => simp [cnt]
  | succ m ih => simp only [cnt]; split <;> omega
theorem cnt_le (o : Nat → Int) (m i : Nat) : cnt o m i ≤ m := by
  induction m with
  | zero => simp [cnt]
  | succ m ih => simp only [cnt]; split <;> omega
theorem cnt_zero {o : Nat → Int} {m i : Nat} : cnt o m i = 0 ↔ ∀ k, k < m → o k ≠ (i : Int) := by
  induction m with
  | zero => simp [cnt]
  | succ m ih =>
    simp only [cnt]
    have := cnt_nonneg o m i
    constructor
    · intro h k hk
      by_cases e : o m = (i : Int)
      · rw [if_pos e] at h; omega
      · rw [if_neg e] at h
        by_cases ek : k = m
        · subst ek; exact e
        · exact ih.1 (by omega) k (by omega)
    · intro h
      rw [if_neg (h m (by omega)), ih.2 (fun k hk => h k (by omega))]
      rfl

def ident : Nat → Int := fun k => (k : Int)
theorem ins_ex {rem : Nat → Int} {n : Nat} : ∀ j c, Ins rem c 0 n j → j ≤ n → Same c ident 0 (n + 1) → ∃ c', Sorted rem c' 0 (n + 1) ∧ Same c' ident 0 (n + 1) := by
  intro j
  induction j with
  | zero => intro c h hj hs; exact ⟨c, h.done (Nat.le_refl _) hj (.inl rfl), hs⟩
  | succ j ih =>
    intro c h hj hs
    have hv := h.val j (Nat.zero_le _) (by omega) (by omega)
    rcases lt_tot (rem := rem) (x := c j) (y := (n : Int)) (by omega) with g | g
    · exact ⟨c, h.done (Nat.zero_le _) hj (.inr g), hs⟩
    · exact ih _ (h.step (by omega) hj g) (by omega) ((Same.swap c (j + 1) j 0 (n + 1) ⟨by omega, by omega⟩ ⟨by omega, by omega⟩).trans hs)
theorem order_ex (rem : Nat → Int) : ∀ n, ∃ o, Sorted rem o 0 n ∧ Same o ident 0 n
  | 0 => ⟨ident, fun p q h1 h2 h3 => by omega, Same.refl _ _ _⟩
  | n + 1 => by
    obtain ⟨o, h1, h2⟩ := order_ex rem n
    have hv : Vals o 0 n 0 n := h2.vals (fun k k1 k2 => by unfold ident; omega)
    exact ins_ex n o (Ins.start h1 hv (h2.out n (.inr (Nat.le_refl _)))) (Nat.le_refl _) (h2.mono (Nat.le_refl _) (by omega))
theorem order_vals {o : Nat → Int} {n : Nat} (h : Same o ident 0 n) : Vals o 0 n 0 n := h.vals (fun k k1 k2 => by unfold ident; omega)
theorem order_has {o : Nat → Int} {n : Nat} (h : Same o ident 0 n) {v : Int} (h0 : 0 ≤ v) (h1 : v < n) : ∃ j, j < n ∧ o j = v := by
  obtain ⟨j, _, j2, e⟩ := h.fwd v.toNat (Nat.zero_le _) (by omega)
  exact ⟨j, j2, by rw [e]; unfold ident; omega⟩
theorem order_ne {rem o : Nat → Int} {n : Nat} (h : Sorted rem o 0 n) {p q : Nat} (hp : p < n) (hq : q < n) (hne : p ≠ q) : o p ≠ o q := by
  intro e
  rcases Nat.lt_or_gt_of_ne hne with g | g
  · have := h p q (Nat.zero_le _) g hq; rw [e] at this; exact lt_irr this
  · have := h q p (Nat.zero_le _) g hp; rw [e] at this; exact lt_irr this
theorem order_uniq {rem o c : Nat → Int} {n : Nat} (h : Sorted rem o 0 n) (hs : Same o ident 0 n) (g : Sorted rem c 0 n) (gs : Same c ident 0 n) : ∀ k, k < n → o k = c k := by
  intro k
  induction k using Nat.strongRecOn with
  | _ k ih =>
    intro hk
    have v1 := order_vals hs k (Nat.zero_le _) hk
    have v2 := order_vals gs k (Nat.zero_le _) hk
    obtain ⟨j, j1, j2⟩ := order_has gs v1.1 v1.2
    obtain ⟨i, i1, i2⟩ := order_has hs v2.1 v2.2
    rcases Nat.lt_trichotomy j k with e | e | e
    · exact absurd ((ih j e j1).trans j2) (order_ne h j1 hk (by omega))
    · rw [← j2, e]
    · rcases Nat.lt_trichotomy i k with e2 | e2 | e2
      · exact absurd ((ih i e2 i1).symm.trans i2) (order_ne g i1 hk (by omega))
      · rw [← i2, e2]
      · have a1 := h k i (Nat.zero_le _) e2 i1
        have a2 := g k j (Nat.zero_le _) e j1
        rw [i2, ← j2] at a1
        exact absurd a1 (lt_asymm a2)

/-- what is left to pick from when the first t of o are gone -/
def rest (rem o : Nat → Int) (t : Nat) : Nat → Int := fun i => if cnt o t i = 0 then rem i else -1
/-- the first greatest of what is left is the next of o -/
theorem pick {rem o : Nat → Int} {n t b : Nat} (h : Sorted rem o 0 n) (hs : Same o ident 0 n) (hr : ∀ k, k < n → 0 ≤ rem k) (ht : t < n) (hb : b < n) (h1 : ∀ i, i < n → rest rem o t i ≤ rest rem o t b) (h2 : ∀ i, i < b → rest rem o t i < rest rem o t b) : o t = (b : Int) := by
  have vt := order_vals hs t (Nat.zero_le _) ht
  obtain ⟨u, hu⟩ : ∃ u : Nat, o t = (u : Int) := ⟨(o t).toNat, by omega⟩
  have hun : u < n := by omega
  have cu : cnt o t u = 0 := cnt_zero.2 (fun k hk e => order_ne h (show k < n by omega) ht (by omega) (e.trans hu.symm))
  have ru : rest rem o t u = rem u := by unfold rest; rw [if_pos cu]
  have hu1 := h1 u hun
  have hu0 := hr u hun
  have cb : cnt o t b = 0 := by
    rcases Classical.em (cnt o t b = 0) with e | e
    · exact e
    · exfalso
      have : rest rem o t b = -1 := by unfold rest; rw [if_neg e]
      omega
  have rb : rest rem o t b = rem b := by unfold rest; rw [if_pos cb]
  obtain ⟨s, s1, s2⟩ := order_has hs (v := (b : Int)) (by omega) (by omega)
  rcases Nat.lt_trichotomy s t with e | e | e
  · exact absurd s2 (cnt_zero.1 cb s e)
  · rw [← s2, e]
  · have hl := h t s (Nat.zero_le _) e s1
    rw [hu, s2] at hl
    unfold lt at hl
    simp only [Int.toNat_natCast] at hl
    rcases hl with hl | ⟨hl, hl2⟩
    · omega
    · have := h2 u (by omega)
      omega
theorem rest_step {rem o : Nat → Int} {t b : Nat} (hb : o t = (b : Int)) : upd (rest rem o t) b (-1) = rest rem o (t + 1) := by
  funext i
  have h0 := cnt_nonneg o t i
  unfold upd rest
  by_cases e : i = b
  · subst e
    have hc : cnt o (t + 1) i = cnt o t i + 1 := by show cnt o t i + (if o t = (i : Int) then 1 else 0) = _; rw [if_pos hb]
    rw [if_pos rfl, if_neg (by omega)]
  · have hc : cnt o (t + 1) i = cnt o t i := by show cnt o t i + (if o t = (i : Int) then 1 else 0) = _; rw [if_neg (by omega)]; omega
    rw [if_neg e, hc]
/-- shares: the whole part, and a unit for those that are picked -/
def part (q o : Nat → Int) (t : Nat) : Nat → Int := fun i => q i + cnt o t i
theorem part_step {q o : Nat → Int} {t b : Nat} (hb : o t = (b : Int)) : upd (part q o t) b (part q o t b + 1) = part q o (t + 1) := by
  funext i
  unfold upd part
  simp only [cnt]
  by_cases e : i = b
  · subst e
    rw [if_pos rfl, if_pos hb]; omega
  · rw [if_neg e, if_neg (show ¬ o t = (i : Int) by omega)]; omega
end Go.Proofs.Ytpgindeoiibgpaa.share
