/-
  The search from a node, as a list of visits. Pure. Conditions: as each states.
-/
import Derived.Test.YtkgekaedpdgmdaaRows
import Derived.Test.YtkgekaedpdgmdaaNetO
import Derived.Test.YtkgekaedpdgmdaaColl
namespace Go.Proofs.Ytkgekaedpdgmdaa.mem
open Go.RowKit
set_option linter.unusedVariables false

/-- a visit: the node, its entry, its distance -/
structure Vs where
  nd : Int
  en : Int
  ds : Int
def vhas (fs : List Vs) (y : Int) : Bool := fs.any (fun v => v.nd == y)
def vadd (P : Nat → Pip) (v : Vs) (fs : List Vs) (k : Nat) : List Vs :=
  if endB (P k) v.nd && !(vhas fs (othV (P k) v.nd)) then fs ++ [⟨othV (P k) v.nd, k, v.ds + 1⟩] else fs
def vrow (P : Nat → Pip) (v : Vs) (k : Nat) (fs : List Vs) : List Vs := (List.range k).foldl (vadd P v) fs
def vup (P : Nat → Pip) (m : Nat) (x : Int) : Nat → List Vs
  | 0 => [⟨x, -1, 0⟩]
  | i + 1 => match (vup P m x i)[i]? with
    | some v => vrow P v m (vup P m x i)
    | none => vup P m x i
/-- all visits of the search from x -/
def vis (n : Nat) (P : Nat → Pip) (m : Nat) (x : Int) : List Vs := vup P m x n

theorem vrow_zero (P : Nat → Pip) (v : Vs) (fs : List Vs) : vrow P v 0 fs = fs := rfl
theorem vrow_succ (P : Nat → Pip) (v : Vs) (k : Nat) (fs : List Vs) : vrow P v (k + 1) fs = vadd P v (vrow P v k fs) k := by
  unfold vrow
  rw [List.range_succ, List.foldl_append]
  rfl
theorem vup_succ {P : Nat → Pip} {m : Nat} {x : Int} {i : Nat} {v : Vs} (h : (vup P m x i)[i]? = some v) : vup P m x (i + 1) = vrow P v m (vup P m x i) := by
  show (match (vup P m x i)[i]? with | some v => vrow P v m (vup P m x i) | none => vup P m x i) = _
  rw [h]
theorem vup_stop {P : Nat → Pip} {m : Nat} {x : Int} {i : Nat} (h : (vup P m x i).length ≤ i) : vup P m x (i + 1) = vup P m x i := by
  show (match (vup P m x i)[i]? with | some v => vrow P v m (vup P m x i) | none => vup P m x i) = _
  rw [List.getElem?_eq_none h]
theorem vhas_app (fs : List Vs) (w : Vs) (y : Int) : vhas (fs ++ [w]) y = (vhas fs y || (w.nd == y)) := by simp [vhas]
theorem vhas_iff {fs : List Vs} {y : Int} : vhas fs y = true ↔ ∃ v ∈ fs, v.nd = y := by simp [vhas]
theorem vadd_pre (P : Nat → Pip) (v : Vs) (fs : List Vs) (k : Nat) : fs <+: vadd P v fs k := by
  unfold vadd
  split
  · exact List.prefix_append _ _
  · exact List.prefix_refl _
theorem vrow_pre (P : Nat → Pip) (v : Vs) (fs : List Vs) : ∀ k, fs <+: vrow P v k fs
  | 0 => List.prefix_refl _
  | k + 1 => by rw [vrow_succ]; exact (vrow_pre P v fs k).trans (vadd_pre P v _ k)
theorem vup_pre1 (P : Nat → Pip) (m : Nat) (x : Int) (i : Nat) : vup P m x i <+: vup P m x (i + 1) := by
  cases h : (vup P m x i)[i]? with
  | none => rw [vup_stop (by simpa using h)]; exact List.prefix_refl _
  | some v => rw [vup_succ h]; exact vrow_pre P v _ m
theorem vup_pre (P : Nat → Pip) (m : Nat) (x : Int) (i : Nat) : ∀ j, vup P m x i <+: vup P m x (i + j)
  | 0 => List.prefix_refl _
  | j + 1 => (vup_pre P m x i j).trans (vup_pre1 P m x (i + j))
theorem vup_stay {P : Nat → Pip} {m : Nat} {x : Int} {i : Nat} (h : (vup P m x i).length ≤ i) : ∀ j, vup P m x (i + j) = vup P m x i
  | 0 => rfl
  | j + 1 => by
    have := vup_stay h j
    show vup P m x (i + j + 1) = _
    rw [vup_stop (by rw [this]; omega), this]
theorem pre_get {α : Type} {a b : List α} (h : a <+: b) {i : Nat} {v : α} (hv : a[i]? = some v) : b[i]? = some v := by
  obtain ⟨t, rfl⟩ := h
  have : i < a.length := by
    rcases Nat.lt_or_ge i a.length with h | h
    · exact h
    · rw [List.getElem?_eq_none h] at hv; cases hv
  rw [List.getElem?_append_left this]
  exact hv

/-- visits of nodes of a network of n nodes, each node once; each but the first comes of an earlier one by its entry -/
structure Vok (n : Nat) (P : Nat → Pip) (m : Nat) (x : Int) (fs : List Vs) : Prop where
  rng : ∀ v ∈ fs, 0 ≤ v.nd ∧ v.nd ≤ (n : Int) - 1
  dis : fs.Pairwise (fun a b => a.nd ≠ b.nd)
  fst : fs[0]? = some ⟨x, -1, 0⟩
  par : ∀ i v, 0 < i → fs[i]? = some v → ∃ j u k, j < i ∧ fs[j]? = some u ∧ k < m ∧ v.en = ((k : Nat) : Int) ∧ endB (P k) u.nd = true ∧ v.nd = othV (P k) u.nd ∧ v.ds = u.ds + 1
theorem Vok.app {n : Nat} {P : Nat → Pip} {m : Nat} {x : Int} {fs : List Vs} (h : Vok n P m x fs) {j k : Nat} {u : Vs} (hu : fs[j]? = some u) (hk : k < m) (he : endB (P k) u.nd = true) (hn : vhas fs (othV (P k) u.nd) = false)
    (hr : 0 ≤ othV (P k) u.nd ∧ othV (P k) u.nd ≤ (n : Int) - 1) : Vok n P m x (fs ++ [⟨othV (P k) u.nd, k, u.ds + 1⟩]) := by
  have hj : j < fs.length := by
    rcases Nat.lt_or_ge j fs.length with h | h
    · exact h
    · rw [List.getElem?_eq_none h] at hu; cases hu
  refine ⟨fun v hv => ?_, ?_, ?_, fun i v hi hv => ?_⟩
  · rcases List.mem_append.1 hv with hv | hv
    · exact h.rng v hv
    · obtain rfl := List.mem_singleton.1 hv
      exact hr
  · rw [List.pairwise_append]
    refine ⟨h.dis, List.pairwise_singleton _ _, fun a ha b hb => ?_⟩
    obtain rfl := List.mem_singleton.1 hb
    intro e
    have : vhas fs (othV (P k) u.nd) = true := vhas_iff.2 ⟨a, ha, e⟩
    rw [hn] at this
    cases this
  · exact pre_get (List.prefix_append _ _) h.fst
  · by_cases hl : i < fs.length
    · rw [List.getElem?_append_left hl] at hv
      obtain ⟨j', u', k', h1, h2, h3⟩ := h.par i v hi hv
      exact ⟨j', u', k', h1, pre_get (List.prefix_append _ _) h2, h3⟩
    · have hi2 : i = fs.length := by
        rcases Nat.lt_or_ge i (fs.length + 1) with h | h
        · omega
        · rw [List.getElem?_eq_none (by simp; omega)] at hv; cases hv
      subst hi2
      rw [List.getElem?_append_right (Nat.le_refl _), Nat.sub_self] at hv
      simp only [List.getElem?_cons_zero, Option.some.injEq] at hv
      subst hv
      exact ⟨j, u, k, hj, pre_get (List.prefix_append _ _) hu, hk, rfl, he, rfl, rfl⟩
theorem oth_rng {n : Int} {q : Pip} {y : Int} (h : pipB n q = true) : 0 ≤ othV q y ∧ othV q y ≤ n - 1 := by
  have := pipB_parts h
  unfold othV
  split
  · exact this.2.1
  · exact this.1
theorem oth_oth {n : Int} {q : Pip} {y : Int} (h : pipB n q = true) (he : endB q y = true) : othV q (othV q y) = y ∧ endB q (othV q y) = true ∧ othV q y ≠ y := by
  have h3 := (pipB_parts h).2.2
  unfold endB at he
  simp only [Bool.or_eq_true, beq_iff_eq] at he
  unfold othV endB
  simp only [Bool.or_eq_true, beq_iff_eq]
  by_cases e : q.f = y
  · subst e
    rw [if_pos rfl, if_neg h3]
    exact ⟨rfl, .inr rfl, fun e => h3 e.symm⟩
  · have e2 : q.t = y := by rcases he with e1 | e1; exact absurd e1 e; exact e1
    subst e2
    rw [if_neg e, if_pos rfl]
    exact ⟨rfl, .inl rfl, e⟩
theorem Vok.row {n : Nat} {N : Nat → Nod} {P : Nat → Pip} {m : Nat} {x : Int} {fs : List Vs} {j : Nat} {u : Vs} (hN : netB n N m P = true) (h : Vok n P m x fs) (hu : fs[j]? = some u) : ∀ k, k ≤ m → Vok n P m x (vrow P u k fs)
  | 0, _ => h
  | k + 1, hk => by
    have ih := Vok.row hN h hu k (by omega)
    rw [vrow_succ]
    unfold vadd
    split
    · next hc =>
      simp only [Bool.and_eq_true, Bool.not_eq_true'] at hc
      exact ih.app (pre_get (vrow_pre P u fs k) hu) (by omega) hc.1 hc.2 (oth_rng (net_pip hN (by omega)))
    · exact ih
theorem vup_ok {n : Nat} {N : Nat → Nod} {P : Nat → Pip} {m : Nat} {x : Int} (hN : netB n N m P = true) (hx : 0 ≤ x ∧ x ≤ (n : Int) - 1) : ∀ i, Vok n P m x (vup P m x i)
  | 0 => by
    refine ⟨fun v hv => ?_, List.pairwise_singleton _ _, rfl, fun i v hi hv => ?_⟩
    · obtain rfl := List.mem_singleton.1 hv
      exact hx
    · have : [(⟨x, -1, 0⟩ : Vs)][i]? = none := List.getElem?_eq_none (by simp; omega)
      rw [show vup P m x 0 = [⟨x, -1, 0⟩] from rfl, this] at hv
      cases hv
  | i + 1 => by
    have ih := vup_ok hN hx i
    cases h : (vup P m x i)[i]? with
    | none => rw [vup_stop (by simpa using h)]; exact ih
    | some v => rw [vup_succ h]; exact ih.row hN h m (Nat.le_refl _)
/-- different numbers from 0 to n - 1 are at most n -/
theorem nodup_le : ∀ (n : Nat) (l : List Int), (∀ y ∈ l, 0 ≤ y ∧ y ≤ (n : Int) - 1) → l.Pairwise (· ≠ ·) → l.length ≤ n
  | 0, l, h, _ => by
    cases l with
    | nil => exact Nat.le_refl _
    | cons a l => have := h a (by simp); omega
  | n + 1, l, h, hd => by
    by_cases hm : (n : Int) ∈ l
    · have := nodup_le n (l.filter (fun y => decide (y ≠ (n : Int)))) (fun y hy => by
        simp only [List.mem_filter, decide_eq_true_eq] at hy
        have := h y hy.1
        omega) (hd.filter _)
      have h2 : l.length = (l.filter (fun y => decide (y ≠ (n : Int)))).length + (l.filter (fun y => !decide (y ≠ (n : Int)))).length := by
        clear hd hm this h
        induction l with
        | nil => rfl
        | cons a l ih => by_cases e : a = (n : Int) <;> simp [e] <;> simp at ih <;> omega
      have h3 : (l.filter (fun y => !decide (y ≠ (n : Int)))).length ≤ 1 := by
        have hp : (l.filter (fun y => !decide (y ≠ (n : Int)))).Pairwise (· ≠ ·) := hd.filter _
        have ha : ∀ y ∈ l.filter (fun y => !decide (y ≠ (n : Int))), y = (n : Int) := fun y hy => by simp at hy; exact hy.2
        generalize l.filter (fun y => !decide (y ≠ (n : Int))) = q at hp ha
        match q with
        | [] => exact Nat.zero_le _
        | [a] => exact Nat.le_refl _
        | a :: b :: r =>
          have e1 := ha a (by simp)
          have e2 := ha b (by simp)
          simp only [List.pairwise_cons] at hp
          exact absurd (e1.trans e2.symm) (hp.1 b (by simp))
      omega
    · have := nodup_le n l (fun y hy => by
        have h1 := h y hy
        have : y ≠ (n : Int) := fun e => hm (e ▸ hy)
        omega) hd
      omega
theorem Vok.len {n : Nat} {P : Nat → Pip} {m : Nat} {x : Int} {fs : List Vs} (h : Vok n P m x fs) : fs.length ≤ n := by
  have := nodup_le n (fs.map (·.nd)) (fun y hy => by
    obtain ⟨v, hv, rfl⟩ := List.mem_map.1 hy
    exact h.rng v hv) (List.pairwise_map.2 h.dis)
  simpa using this
/-- where the rounds stop, all visits are there -/
theorem vup_end {n : Nat} {N : Nat → Nod} {P : Nat → Pip} {m : Nat} {x : Int} (hN : netB n N m P = true) (hx : 0 ≤ x ∧ x ≤ (n : Int) - 1) {i : Nat} (h : (vup P m x i).length ≤ i) (hi : i ≤ n) : vup P m x i = vis n P m x := by
  unfold vis
  obtain ⟨j, rfl⟩ : ∃ j, n = i + j := ⟨n - i, by omega⟩
  exact (vup_stay h j).symm
theorem vup_vis {n : Nat} {N : Nat → Nod} {P : Nat → Pip} {m : Nat} {x : Int} (hN : netB n N m P = true) (hx : 0 ≤ x ∧ x ≤ (n : Int) - 1) {i : Nat} : vup P m x i <+: vis n P m x := by
  by_cases hi : i ≤ n
  · unfold vis
    obtain ⟨j, rfl⟩ : ∃ j, n = i + j := ⟨n - i, by omega⟩
    exact vup_pre P m x i j
  · obtain ⟨j, rfl⟩ : ∃ j, i = n + j := ⟨i - n, by omega⟩
    rw [vup_stay (vup_ok hN hx n).len j]
    exact List.prefix_refl _
theorem vis_ok {n : Nat} {N : Nat → Nod} {P : Nat → Pip} {m : Nat} {x : Int} (hN : netB n N m P = true) (hx : 0 ≤ x ∧ x ≤ (n : Int) - 1) : Vok n P m x (vis n P m x) := vup_ok hN hx n
theorem take_pre {α : Type} {a b : List α} (h : a <+: b) {i : Nat} (hi : i ≤ a.length) : a.take i = b.take i := by
  obtain ⟨t, rfl⟩ := h
  rw [List.take_append_of_le_length hi]
/-- one more visit has come -/
theorem take_one {α : Type} {a : List α} {i : Nat} {v : α} (h : a[i]? = some v) : a.take (i + 1) = a.take i ++ [v] := by
  rw [List.take_add_one, h]
  rfl

/-- what a table says of a node behind visits -/
def vval (f : Vs → Int) (fs : List Vs) (y : Int) : Int := match fs.find? (fun v => v.nd == y) with
  | some v => f v
  | none => -1
theorem vval_app {f : Vs → Int} {fs : List Vs} {w : Vs} (h : vhas fs w.nd = false) (y : Int) : vval f (fs ++ [w]) y = if y = w.nd then f w else vval f fs y := by
  unfold vval
  rw [List.find?_append]
  by_cases e : y = w.nd
  · subst e
    have : fs.find? (fun v => v.nd == w.nd) = none := by
      rw [List.find?_eq_none]
      intro v hv hq
      have : vhas fs w.nd = true := vhas_iff.2 ⟨v, hv, by simpa using hq⟩
      rw [h] at this
      cases this
    simp [this]
  · rw [if_neg e]
    have e2 : ¬ w.nd = y := fun q => e q.symm
    cases hq : fs.find? (fun v => v.nd == y) <;> simp [e2]
theorem vval_nil (f : Vs → Int) (y : Int) : vval f [] y = -1 := rfl
theorem Vok.has_take {n : Nat} {P : Nat → Pip} {m : Nat} {x : Int} {fs : List Vs} (h : Vok n P m x fs) {i : Nat} {v : Vs} (hv : fs[i]? = some v) : vhas (fs.take i) v.nd = false := by
  rw [Bool.eq_false_iff]
  intro hh
  obtain ⟨u, hu, e⟩ := vhas_iff.1 hh
  obtain ⟨j, hj, rfl⟩ := List.mem_iff_getElem.1 hu
  have hi : i < fs.length := by
    rcases Nat.lt_or_ge i fs.length with h | h
    · exact h
    · rw [List.getElem?_eq_none h] at hv; cases hv
  simp only [List.length_take] at hj
  have := List.pairwise_iff_getElem.1 h.dis j i (by omega) hi (by omega)
  rw [List.getElem?_eq_getElem hi] at hv
  injection hv with hv
  subst hv
  apply this
  simpa using e
theorem Vok.val {n : Nat} {P : Nat → Pip} {m : Nat} {x : Int} {fs : List Vs} (h : Vok n P m x fs) (f : Vs → Int) {i : Nat} {v : Vs} (hv : fs[i]? = some v) : vval f fs v.nd = f v := by
  unfold vval
  have hi : i < fs.length := by
    rcases Nat.lt_or_ge i fs.length with h | h
    · exact h
    · rw [List.getElem?_eq_none h] at hv; cases hv
  have : fs.find? (fun u => u.nd == v.nd) = some v := by
    rw [List.find?_eq_some_iff_getElem]
    rw [List.getElem?_eq_getElem hi] at hv
    injection hv with hv
    refine ⟨by simp, i, hi, hv, fun j hj => ?_⟩
    have := List.pairwise_iff_getElem.1 h.dis j i (by omega) hi hj
    rw [hv] at this
    simpa using this
  rw [this]
end Go.Proofs.Ytkgekaedpdgmdaa.mem
