/-
  A pipe that is a bridge bears no circulation; in a tree each pipe is a bridge. No condition.
-/
import Derived.Test.YtpgcieefipjjfaaRows
import Derived.Test.YtpgcieefipjjfaaBrg
import Derived.Test.YtpgcieefipjjfaaCsy
namespace Go.Proofs.Ytpgcieefipjjfaa.mem
open Go.RowKit
set_option linter.unusedVariables false

def wsum (w : Nat → Bool) (d : Int → Int) : Nat → Int
  | 0 => 0
  | z + 1 => wsum w d z + (if w z = true then d ((z : Nat) : Int) else 0)
theorem wsum_zero {w : Nat → Bool} {d : Int → Int} : ∀ {n : Nat}, (∀ z : Nat, z < n → d ((z : Nat) : Int) = 0) → wsum w d n = 0
  | 0, _ => rfl
  | n + 1, h => by
    show wsum w d n + _ = 0
    rw [wsum_zero (fun z hz => h z (by omega)), h n (by omega), ite_self]
    rfl
theorem ind_succ (w : Nat → Bool) (f n : Nat) (c : Int) : (if f < n + 1 ∧ w f = true then c else 0) = (if f < n ∧ w f = true then c else 0) + (if ((f : Nat) : Int) = ((n : Nat) : Int) then (if w n = true then c else 0) else 0) := by
  by_cases e : f = n
  · subst e
    rw [if_neg (show ¬ (f < f ∧ w f = true) from fun h => by omega), if_pos rfl]
    by_cases h : w f = true
    · rw [if_pos ⟨by omega, h⟩, if_pos h]; omega
    · rw [if_neg (fun g => h g.2), if_neg h]; omega
  · rw [if_neg (show ¬ ((f : Nat) : Int) = ((n : Nat) : Int) by omega), Int.add_zero]
    by_cases h : f < n ∧ w f = true
    · rw [if_pos h, if_pos ⟨by omega, h.2⟩]
    · rw [if_neg h, if_neg (fun g => h ⟨by omega, g.2⟩)]
theorem wsum_step (w : Nat → Bool) (a : Int → Int) (f t : Nat) (c : Int) : ∀ n, wsum w (fun z => a z + (if ((f : Nat) : Int) = z then c else 0) - (if ((t : Nat) : Int) = z then c else 0)) n = wsum w a n + (if f < n ∧ w f = true then c else 0) - (if t < n ∧ w t = true then c else 0)
  | 0 => by
    rw [if_neg (fun h => by omega), if_neg (fun h => by omega)]
    rfl
  | n + 1 => by
    show wsum w _ n + (if w n = true then _ else 0) = (wsum w a n + (if w n = true then a ((n : Nat) : Int) else 0)) + _ - _
    rw [wsum_step w a f t c n, ind_succ w f n c, ind_succ w t n c]
    by_cases h : w n = true
    · simp only [if_pos h]
      omega
    · simp only [if_neg h, ite_self]
      omega
theorem wsum_dv {w : Nat → Bool} {P : Nat → Pip} {x : Nat → Int} {n m j : Nat} (hP : ∀ a, a < m → ∃ f t : Nat, (P a).f = ((f : Nat) : Int) ∧ (P a).t = ((t : Nat) : Int) ∧ f < n ∧ t < n ∧ (a ≠ j → w f = w t)) :
    ∀ k, k ≤ m → wsum w (dv P x k) n = if j < k then (if w (P j).f.toNat = true then x j else 0) - (if w (P j).t.toNat = true then x j else 0) else 0
  | 0, _ => by
    rw [if_neg (by omega)]
    exact wsum_zero (fun z _ => rfl)
  | k + 1, hk => by
    obtain ⟨f, t, hf, ht, hfn, htn, hw⟩ := hP k (by omega)
    show wsum w (fun z => dv P x k z + (if (P k).f = z then x k else 0) - (if (P k).t = z then x k else 0)) n = _
    rw [hf, ht]
    rw [wsum_step w (dv P x k) f t (x k) n, wsum_dv hP k (by omega)]
    have e1 : (if f < n ∧ w f = true then x k else 0) = if w f = true then x k else 0 := by
      by_cases h : w f = true
      · rw [if_pos ⟨hfn, h⟩, if_pos h]
      · rw [if_neg (fun g => h g.2), if_neg h]
    have e2 : (if t < n ∧ w t = true then x k else 0) = if w t = true then x k else 0 := by
      by_cases h : w t = true
      · rw [if_pos ⟨htn, h⟩, if_pos h]
      · rw [if_neg (fun g => h g.2), if_neg h]
    rw [e1, e2]
    by_cases e : k = j
    · subst e
      rw [if_neg (show ¬ k < k by omega), if_pos (show k < k + 1 by omega), hf, ht, Int.toNat_natCast, Int.toNat_natCast]
      omega
    · rw [hw e]
      by_cases h : j < k
      · rw [if_pos h, if_pos (show j < k + 1 by omega)]
        omega
      · rw [if_neg h, if_neg (show ¬ j < k + 1 by omega)]
        omega
theorem wp_has {P : Nat → Pip} {k m a : Nat} (ha : a < m) (hk : k < m) (hne : a ≠ k) : ∃ q, q < m - 1 ∧ wpP P k q = P a := by
  unfold wpP
  by_cases h : a < k
  · exact ⟨a, by omega, by rw [if_pos h]⟩
  · exact ⟨a - 1, by omega, by rw [if_neg (by omega)]; congr 1; omega⟩
theorem wp_at {P : Nat → Pip} {k m q : Nat} (hq : q < m - 1) (hk : k < m) : ∃ a, a < m ∧ a ≠ k ∧ wpP P k q = P a := by
  unfold wpP
  by_cases h : q < k
  · exact ⟨q, by omega, by omega, by rw [if_pos h]⟩
  · exact ⟨q + 1, by omega, by omega, by rw [if_neg h]⟩
theorem vtrans {n : Nat} {N : Nat → Nod} {P : Nat → Pip} {m : Nat} (hN : netB n N m P = true) {a b c : Nat} (ha : a < n) (hb : b < n) (hc : c < n) (h : vhas (vis n P m (a : Nat)) (b : Nat) = true) (g : vhas (vis n P m (b : Nat)) (c : Nat) = true) : vhas (vis n P m (a : Nat)) (c : Nat) = true := by
  obtain ⟨i, v, hv, hvn⟩ := vhas_get (vis_sym hN hb hc g)
  exact vis_meet (x := ((a : Nat) : Int)) (y := ((c : Nat) : Int)) hN (by omega) (by omega) i v hv (by rw [hvn]; exact h)
theorem root_le {n : Nat} {N : Nat → Nod} {P : Nat → Pip} {m : Nat} (hN : netB n N m P = true) {k : Nat} (hk : k < n) : ∃ r, r ≤ k ∧ rts n P m r = true ∧ vhas (vis n P m (r : Nat)) (k : Nat) = true := by
  have h1 : cmp n P m (k + 1) ((k : Nat) : Int) ≠ -1 := by
    by_cases e : cmp n P m k k = -1
    · rw [cmp_take e, if_pos (vis_self n P m _)]
      omega
    · rw [cmp_skip e]
      exact e
  obtain ⟨r, h2, h3⟩ := cmp_some hN (k + 1) (by omega) _ h1
  exact ⟨r, by omega, h3⟩
theorem fl_mono {p q : Nat → Bool} : ∀ {k : Nat}, (∀ i, i < k → p i = true → q i = true) → (fl p k).length ≤ (fl q k).length
  | 0, _ => Nat.le_refl _
  | k + 1, h => by
    have ih := fl_mono (k := k) (fun i hi => h i (by omega))
    cases hp : p k
    · rw [fl_no hp]
      cases hq : q k
      · rw [fl_no hq]; exact ih
      · rw [fl_yes hq, List.length_append]; omega
    · rw [fl_yes hp, fl_yes (h k (by omega) hp), List.length_append, List.length_append]
      exact Nat.add_le_add_right ih _
theorem fl_all {p : Nat → Bool} : ∀ {k : Nat}, (∀ i, i < k → p i = true) → (fl p k).length = k
  | 0, _ => rfl
  | k + 1, h => by
    rw [fl_yes (h k (by omega)), List.length_append, fl_all (fun i hi => h i (by omega))]
    rfl
/-- where the ends of pipe k hang together without it, what hangs together does so without it -/
theorem vis_wp {n : Nat} {N : Nat → Nod} {P : Nat → Pip} {m k : Nat} (hN : netB n N m P = true) (hk : k < m) {f t : Nat} (hf : (P k).f = ((f : Nat) : Int)) (ht : (P k).t = ((t : Nat) : Int)) (hfn : f < n) (htn : t < n) (hft : vhas (vis n (wpP P k) (m - 1) (f : Nat)) (t : Nat) = true)
    {r : Nat} (hr : r < n) {y : Int} (hy : vhas (vis n P m (r : Nat)) y = true) : vhas (vis n (wpP P k) (m - 1) (r : Nat)) y = true := by
  have hN' := net_without hN hk
  have ok := vis_ok (P := P) (m := m) (x := ((r : Nat) : Int)) hN (by omega)
  obtain ⟨i, v, hv, rfl⟩ := vhas_get hy
  clear hy
  induction i using Nat.strongRecOn generalizing v with
  | _ i ih =>
    rcases Nat.eq_zero_or_pos i with rfl | h0
    · have := ok.fst
      rw [hv] at this
      injection this with this
      rw [this]
      exact vis_self n _ _ _
    · obtain ⟨j, u, a, hj, hu, ha, _, he, hn, _⟩ := ok.par i v h0 hv
      have h1 := ih j hj u hu
      rw [hn]
      by_cases e : a = k
      · subst e
        unfold endB at he
        rw [Bool.or_eq_true, beq_iff_eq, beq_iff_eq] at he
        unfold othV
        by_cases e2 : (P a).f = u.nd
        · rw [if_pos e2, ht]
          rw [← e2, hf] at h1
          exact vtrans hN' hr hfn htn h1 hft
        · rw [if_neg e2, hf]
          have e3 := he.resolve_left e2
          rw [← e3, ht] at h1
          exact vtrans hN' hr htn hfn h1 (vis_sym hN' hfn htn hft)
      · obtain ⟨q, hq, e3⟩ := wp_has (P := P) ha hk e
        rw [← e3] at he ⊢
        exact vis_closed hN' (by omega) h1 hq he
/-- then taking it away parts nothing -/
theorem br_no {n : Nat} {N : Nat → Nod} {P : Nat → Pip} {m k : Nat} (hN : netB n N m P = true) (hk : k < m) {f t : Nat} (hf : (P k).f = ((f : Nat) : Int)) (ht : (P k).t = ((t : Nat) : Int)) (hfn : f < n) (htn : t < n) (hft : vhas (vis n (wpP P k) (m - 1) (f : Nat)) (t : Nat) = true) : brP n P m k = false := by
  have hN' := net_without hN hk
  have key : cnt n (wpP P k) (m - 1) ≤ cnt n P m := by
    unfold cnt
    refine fl_mono fun r hr hroot => ?_
    obtain ⟨r0, h0, g0, v0⟩ := root_le hN hr
    obtain ⟨r1, h1, g1, v1⟩ := root_le hN' (k := r0) (by omega)
    have h2 := vtrans hN' (a := r1) (b := r0) (c := r) (by omega) (by omega) hr v1 (vis_wp hN hk hf ht hfn htn hft (by omega) v0)
    by_cases e : r1 = r
    · have : r0 = r := by omega
      rw [← this]
      exact g0
    · exfalso
      rw [rts_apart hN' hr (show r1 < r by omega) g1 hroot] at h2
      cases h2
  unfold brP
  rw [decide_eq_false_iff_not]
  omega
theorem bridge_zero {n : Nat} {N : Nat → Nod} {P : Nat → Pip} {m k : Nat} {x : Nat → Int} (hN : netB n N m P = true) (hk : k < m) (hb : brP n P m k = true) (hx : ∀ z : Nat, z < n → dv P x m ((z : Nat) : Int) = 0) : x k = 0 := by
  have hN' := net_without hN hk
  have ends : ∀ a, a < m → ∃ f t : Nat, (P a).f = ((f : Nat) : Int) ∧ (P a).t = ((t : Nat) : Int) ∧ f < n ∧ t < n := fun a ha => by
    obtain ⟨h1, h2, _⟩ := pip_end (net_pip hN ha)
    exact ⟨(P a).f.toNat, (P a).t.toNat, by omega, by omega, by omega, by omega⟩
  obtain ⟨f, t, hf, ht, hfn, htn⟩ := ends k hk
  cases hft : vhas (vis n (wpP P k) (m - 1) (f : Nat)) (t : Nat)
  · have h := wsum_dv (w := fun z => vhas (vis n (wpP P k) (m - 1) (f : Nat)) (z : Nat)) (P := P) (x := x) (n := n) (m := m) (j := k) (fun a ha => by
      obtain ⟨f', t', e1, e2, e3, e4⟩ := ends a ha
      refine ⟨f', t', e1, e2, e3, e4, fun hne => ?_⟩
      obtain ⟨q, hq, e⟩ := wp_has (P := P) ha hk hne
      show vhas (vis n (wpP P k) (m - 1) (f : Nat)) (f' : Nat) = vhas (vis n (wpP P k) (m - 1) (f : Nat)) (t' : Nat)
      rw [Bool.eq_iff_iff]
      constructor
      · intro h
        have := vis_closed hN' (by omega) h hq (by rw [e]; unfold endB; rw [e1]; simp)
        rw [e] at this
        unfold othV at this
        rw [if_pos e1, e2] at this
        exact this
      · intro h
        have := vis_closed hN' (by omega) h hq (by rw [e]; unfold endB; rw [e2]; simp)
        rw [e] at this
        unfold othV at this
        rw [e1, e2] at this
        split at this
        · next h9 => rw [h9]; exact this
        · exact this) m (Nat.le_refl _)
    rw [wsum_zero hx, if_pos hk, hf, ht, Int.toNat_natCast, Int.toNat_natCast] at h
    rw [if_pos (vis_self n _ _ _), if_neg (by rw [hft]; simp)] at h
    omega
  · rw [br_no hN hk hf ht hfn htn hft] at hb
    cases hb
theorem tree_br {n : Nat} {N : Nat → Nod} {P : Nat → Pip} {m : Nat} (h : treeB n N m P = true) : brN n N m P = m := by
  unfold treeB conB at h
  rw [Bool.and_eq_true, Bool.and_eq_true, decide_eq_true_eq, decide_eq_true_eq] at h
  obtain ⟨⟨hN, h1⟩, h2⟩ := h
  unfold brN
  rw [hN, if_pos (show cmC true = 0 from rfl)]
  refine fl_all fun k hk => ?_
  unfold brP
  rw [decide_eq_true_eq, h1]
  have h3 := forest_cnt (net_without hN hk)
  have h4 := forest_le n (wpP P k) (m - 1)
  omega
end Go.Proofs.Ytpgcieefipjjfaa.mem
