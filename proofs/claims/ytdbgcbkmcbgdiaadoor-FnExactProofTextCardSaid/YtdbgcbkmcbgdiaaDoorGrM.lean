/-
  Several texts in one: Vis, VisB, VisC, Rng, Rep, VisI, VisF, Ent, Dst, Src, Srd, Dss, Dsd.
-/
import Derived.Test.YtdbgcbkmcbgdiaaDoorRows
import Derived.Test.YtdbgcbkmcbgdiaaDoorNetO
import Derived.Test.YtdbgcbkmcbgdiaaDoorColl
import Derived.Test.YtdbgcbkmcbgdiaaDoorCs
import Derived.RangeFuncNested
import Derived.RangeFuncLeaves
import Derived.RangeFuncCalls
import Derived.Test.YtdbgcbkmcbgdiaaDoorMake
import Derived.WalkKit
import Derived.ProofKit
import Derived.Outline
import Derived.OwnWalk
import Derived.Lib.Hide
import Derived.Laws.CopyOwn
import Derived.Deep.Cut
import Derived.Deep.RegionLaw
import Derived.Test.YtdbgcbkmcbgdiaaDoorNetX
import Derived.LoopIn
import Derived.TacticsIn
import Derived.RegionIn
import Derived.Test.YtdbgcbkmcbgdiaaDoorNetPA
import Derived.Deep.RegionHeldLaw
namespace Go.Proofs.YtdbgcbkmcbgdiaaDoor.mem
open Go.RowKit
set_option linter.unusedVariables false

/-- a visit: the node, its entry, its distance -/
structure Vs where
  nd : Int
  en : Int
  ds : Int
def vhas (fs : List Vs) (y : Int) : Bool := fs.any (fun v => v.nd == y)
def vadd (P : Nat → Pip) (v : Vs) (fs : List Vs) (k : Nat) : List Vs :=
  if endB (P k) v.nd && !(vhas fs (othV (P k) v.nd)) then fs ++ [⟨othV (P k) v.nd, k, v.ds + 1⟩] else fs
def vrow (P : Nat → Pip) (v : Vs) (k : Nat) (fs : List Vs) : List Vs := (List.range k).foldl (vadd P v) fs
def vup (P : Nat → Pip) (m : Nat) (x : Int) : Nat → List Vs
  | 0 => [⟨x, -1, 0⟩]
  | i + 1 => match (vup P m x i)[i]? with
    | some v => vrow P v m (vup P m x i)
    | none => vup P m x i
/-- all visits of the search from x -/
def vis (n : Nat) (P : Nat → Pip) (m : Nat) (x : Int) : List Vs := vup P m x n

theorem vrow_zero (P : Nat → Pip) (v : Vs) (fs : List Vs) : vrow P v 0 fs = fs := rfl
theorem vrow_succ (P : Nat → Pip) (v : Vs) (k : Nat) (fs : List Vs) : vrow P v (k + 1) fs = vadd P v (vrow P v k fs) k := by
  unfold vrow
  rw [List.range_succ, List.foldl_append]
  rfl
theorem vup_succ {P : Nat → Pip} {m : Nat} {x : Int} {i : Nat} {v : Vs} (h : (vup P m x i)[i]? = some v) : vup P m x (i + 1) = vrow P v m (vup P m x i) := by
  show (match (vup P m x i)[i]? with | some v => vrow P v m (vup P m x i) | none => vup P m x i) = _
  rw [h]
theorem vup_stop {P : Nat → Pip} {m : Nat} {x : Int} {i : Nat} (h : (vup P m x i).length ≤ i) : vup P m x (i + 1) = vup P m x i := by
  show (match (vup P m x i)[i]? with | some v => vrow P v m (vup P m x i) | none => vup P m x i) = _
  rw [List.getElem?_eq_none h]
theorem vhas_app (fs : List Vs) (w : Vs) (y : Int) : vhas (fs ++ [w]) y = (vhas fs y || (w.nd == y)) := by simp [vhas]
theorem vhas_iff {fs : List Vs} {y : Int} : vhas fs y = true ↔ ∃ v ∈ fs, v.nd = y := by simp [vhas]
theorem vadd_pre (P : Nat → Pip) (v : Vs) (fs : List Vs) (k : Nat) : fs <+: vadd P v fs k := by
  unfold vadd
  split
  · exact List.prefix_append _ _
  · exact List.prefix_refl _
theorem vrow_pre (P : Nat → Pip) (v : Vs) (fs : List Vs) : ∀ k, fs <+: vrow P v k fs
  | 0 => List.prefix_refl _
  | k + 1 => by rw [vrow_succ]; exact (vrow_pre P v fs k).trans (vadd_pre P v _ k)
theorem vup_pre1 (P : Nat → Pip) (m : Nat) (x : Int) (i : Nat) : vup P m x i <+: vup P m x (i + 1) := by
  cases h : (vup P m x i)[i]? with
  | none => rw [vup_stop (by simpa using h)]; exact List.prefix_refl _
  | some v => rw [vup_succ h]; exact vrow_pre P v _ m
theorem vup_pre (P : Nat → Pip) (m : Nat) (x : Int) (i : Nat) : ∀ j, vup P m x i <+: vup P m x (i + j)
  | 0 => List.prefix_refl _
  | j + 1 => (vup_pre P m x i j).trans (vup_pre1 P m x (i + j))
theorem vup_stay {P : Nat → Pip} {m : Nat} {x : Int} {i : Nat} (h : (vup P m x i).length ≤ i) : ∀ j, vup P m x (i + j) = vup P m x i
  | 0 => rfl
  | j + 1 => by
    have := vup_stay h j
    show vup P m x (i + j + 1) = _
    rw [vup_stop (by rw [this]; omega), this]
theorem pre_get {α : Type} {a b : List α} (h : a <+: b) {i : Nat} {v : α} (hv : a[i]? = some v) : b[i]? = some v := by
  obtain ⟨t, rfl⟩ := h
  have : i < a.length := by
    rcases Nat.lt_or_ge i a.length with h | h
    · exact h
    · rw [List.getElem?_eq_none h] at hv; cases hv
  rw [List.getElem?_append_left this]
  exact hv

/-- visits of nodes of a network of n nodes, each node once; each but the first comes of an earlier one by its entry -/
structure Vok (n : Nat) (P : Nat → Pip) (m : Nat) (x : Int) (fs : List Vs) : Prop where
  rng : ∀ v ∈ fs, 0 ≤ v.nd ∧ v.nd ≤ (n : Int) - 1
  dis : fs.Pairwise (fun a b => a.nd ≠ b.nd)
  fst : fs[0]? = some ⟨x, -1, 0⟩
  par : ∀ i v, 0 < i → fs[i]? = some v → ∃ j u k, j < i ∧ fs[j]? = some u ∧ k < m ∧ v.en = ((k : Nat) : Int) ∧ endB (P k) u.nd = true ∧ v.nd = othV (P k) u.nd ∧ v.ds = u.ds + 1
theorem Vok.app {n : Nat} {P : Nat → Pip} {m : Nat} {x : Int} {fs : List Vs} (h : Vok n P m x fs) {j k : Nat} {u : Vs} (hu : fs[j]? = some u) (hk : k < m) (he : endB (P k) u.nd = true) (hn : vhas fs (othV (P k) u.nd) = false)
    (hr : 0 ≤ othV (P k) u.nd ∧ othV (P k) u.nd ≤ (n : Int) - 1) : Vok n P m x (fs ++ [⟨othV (P k) u.nd, k, u.ds + 1⟩]) := by
  have hj : j < fs.length := by
    rcases Nat.lt_or_ge j fs.length with h | h
    · exact h
    · rw [List.getElem?_eq_none h] at hu; cases hu
  refine ⟨fun v hv => ?_, ?_, ?_, fun i v hi hv => ?_⟩
  · rcases List.mem_append.1 hv with hv | hv
    · exact h.rng v hv
    · obtain rfl := List.mem_singleton.1 hv
      exact hr
  · rw [List.pairwise_append]
    refine ⟨h.dis, List.pairwise_singleton _ _, fun a ha b hb => ?_⟩
    obtain rfl := List.mem_singleton.1 hb
    intro e
    have : vhas fs (othV (P k) u.nd) = true := vhas_iff.2 ⟨a, ha, e⟩
    rw [hn] at this
    cases this
  · exact pre_get (List.prefix_append _ _) h.fst
  · by_cases hl : i < fs.length
    · rw [List.getElem?_append_left hl] at hv
      obtain ⟨j', u', k', h1, h2, h3⟩ := h.par i v hi hv
      exact ⟨j', u', k', h1, pre_get (List.prefix_append _ _) h2, h3⟩
    · have hi2 : i = fs.length := by
        rcases Nat.lt_or_ge i (fs.length + 1) with h | h
        · omega
        · rw [List.getElem?_eq_none (by simp; omega)] at hv; cases hv
      subst hi2
      rw [List.getElem?_append_right (Nat.le_refl _), Nat.sub_self] at hv
      simp only [List.getElem?_cons_zero, Option.some.injEq] at hv
      subst hv
      exact ⟨j, u, k, hj, pre_get (List.prefix_append _ _) hu, hk, rfl, he, rfl, rfl⟩
theorem oth_rng {n : Int} {q : Pip} {y : Int} (h : pipB n q = true) : 0 ≤ othV q y ∧ othV q y ≤ n - 1 := by
  have := pipB_parts h
  unfold othV
  split
  · exact this.2.1
  · exact this.1
theorem oth_oth {n : Int} {q : Pip} {y : Int} (h : pipB n q = true) (he : endB q y = true) : othV q (othV q y) = y ∧ endB q (othV q y) = true ∧ othV q y ≠ y := by
  have h3 := (pipB_parts h).2.2
  unfold endB at he
  simp only [Bool.or_eq_true, beq_iff_eq] at he
  unfold othV endB
  simp only [Bool.or_eq_true, beq_iff_eq]
  by_cases e : q.f = y
  · subst e
    rw [if_pos rfl, if_neg h3]
    exact ⟨rfl, .inr rfl, fun e => h3 e.symm⟩
  · have e2 : q.t = y := by rcases he with e1 | e1; exact absurd e1 e; exact e1
    subst e2
    rw [if_neg e, if_pos rfl]
    exact ⟨rfl, .inl rfl, e⟩
theorem Vok.row {n : Nat} {N : Nat → Nod} {P : Nat → Pip} {m : Nat} {x : Int} {fs : List Vs} {j : Nat} {u : Vs} (hN : netB n N m P = true) (h : Vok n P m x fs) (hu : fs[j]? = some u) : ∀ k, k ≤ m → Vok n P m x (vrow P u k fs)
  | 0, _ => h
  | k + 1, hk => by
    have ih := Vok.row hN h hu k (by omega)
    rw [vrow_succ]
    unfold vadd
    split
    · next hc =>
      simp only [Bool.and_eq_true, Bool.not_eq_true'] at hc
      exact ih.app (pre_get (vrow_pre P u fs k) hu) (by omega) hc.1 hc.2 (oth_rng (net_pip hN (by omega)))
    · exact ih
theorem vup_ok {n : Nat} {N : Nat → Nod} {P : Nat → Pip} {m : Nat} {x : Int} (hN : netB n N m P = true) (hx : 0 ≤ x ∧ x ≤ (n : Int) - 1) : ∀ i, Vok n P m x (vup P m x i)
  | 0 => by
    refine ⟨fun v hv => ?_, List.pairwise_singleton _ _, rfl, fun i v hi hv => ?_⟩
    · obtain rfl := List.mem_singleton.1 hv
      exact hx
    · have : [(⟨x, -1, 0⟩ : Vs)][i]? = none := List.getElem?_eq_none (by simp; omega)
      rw [show vup P m x 0 = [⟨x, -1, 0⟩] from rfl, this] at hv
      cases hv
  | i + 1 => by
    have ih := vup_ok hN hx i
    cases h : (vup P m x i)[i]? with
    | none => rw [vup_stop (by simpa using h)]; exact ih
    | some v => rw [vup_succ h]; exact ih.row hN h m (Nat.le_refl _)
/-- different numbers from 0 to n - 1 are at most n -/
theorem nodup_le : ∀ (n : Nat) (l : List Int), (∀ y ∈ l, 0 ≤ y ∧ y ≤ (n : Int) - 1) → l.Pairwise (· ≠ ·) → l.length ≤ n
  | 0, l, h, _ => by
    cases l with
    | nil => exact Nat.le_refl _
    | cons a l => have := h a (by simp); omega
  | n + 1, l, h, hd => by
    by_cases hm : (n : Int) ∈ l
    · have := nodup_le n (l.filter (fun y => decide (y ≠ (n : Int)))) (fun y hy => by
        simp only [List.mem_filter, decide_eq_true_eq] at hy
        have := h y hy.1
        omega) (hd.filter _)
      have h2 : l.length = (l.filter (fun y => decide (y ≠ (n : Int)))).length + (l.filter (fun y => !decide (y ≠ (n : Int)))).length := by
        clear hd hm this h
        induction l with
        | nil => rfl
        | cons a l ih => by_cases e : a = (n : Int) <;> simp [e] <;> simp at ih <;> omega
      have h3 : (l.filter (fun y => !decide (y ≠ (n : Int)))).length ≤ 1 := by
        have hp : (l.filter (fun y => !decide (y ≠ (n : Int)))).Pairwise (· ≠ ·) := hd.filter _
        have ha : ∀ y ∈ l.filter (fun y => !decide (y ≠ (n : Int))), y = (n : Int) := fun y hy => by simp at hy; exact hy.2
        generalize l.filter (fun y => !decide (y ≠ (n : Int))) = q at hp ha
        match q with
        | [] => exact Nat.zero_le _
        | [a] => exact Nat.le_refl _
        | a :: b :: r =>
          have e1 := ha a (by simp)
          have e2 := ha b (by simp)
          simp only [List.pairwise_cons] at hp
          exact absurd (e1.trans e2.symm) (hp.1 b (by simp))
      omega
    · have := nodup_le n l (fun y hy => by
        have h1 := h y hy
        have : y ≠ (n : Int) := fun e => hm (e ▸ hy)
        omega) hd
      omega
theorem Vok.len {n : Nat} {P : Nat → Pip} {m : Nat} {x : Int} {fs : List Vs} (h : Vok n P m x fs) : fs.length ≤ n := by
  have := nodup_le n (fs.map (·.nd)) (fun y hy => by
    obtain ⟨v, hv, rfl⟩ := List.mem_map.1 hy
    exact h.rng v hv) (List.pairwise_map.2 h.dis)
  simpa using this
/-- where the rounds stop, all visits are there -/
theorem vup_end {n : Nat} {N : Nat → Nod} {P : Nat → Pip} {m : Nat} {x : Int} (hN : netB n N m P = true) (hx : 0 ≤ x ∧ x ≤ (n : Int) - 1) {i : Nat} (h : (vup P m x i).length ≤ i) (hi : i ≤ n) : vup P m x i = vis n P m x := by
  unfold vis
  obtain ⟨j, rfl⟩ : ∃ j, n = i + j := ⟨n - i, by omega⟩
  exact (vup_stay h j).symm
theorem vup_vis {n : Nat} {N : Nat → Nod} {P : Nat → Pip} {m : Nat} {x : Int} (hN : netB n N m P = true) (hx : 0 ≤ x ∧ x ≤ (n : Int) - 1) {i : Nat} : vup P m x i <+: vis n P m x := by
  by_cases hi : i ≤ n
  · unfold vis
    obtain ⟨j, rfl⟩ : ∃ j, n = i + j := ⟨n - i, by omega⟩
    exact vup_pre P m x i j
  · obtain ⟨j, rfl⟩ : ∃ j, i = n + j := ⟨i - n, by omega⟩
    rw [vup_stay (vup_ok hN hx n).len j]
    exact List.prefix_refl _
theorem vis_ok {n : Nat} {N : Nat → Nod} {P : Nat → Pip} {m : Nat} {x : Int} (hN : netB n N m P = true) (hx : 0 ≤ x ∧ x ≤ (n : Int) - 1) : Vok n P m x (vis n P m x) := vup_ok hN hx n
theorem take_pre {α : Type} {a b : List α} (h : a <+: b) {i : Nat} (hi : i ≤ a.length) : a.take i = b.take i := by
  obtain ⟨t, rfl⟩ := h
  rw [List.take_append_of_le_length hi]
/-- one more visit has come -/
theorem take_one {α : Type} {a : List α} {i : Nat} {v : α} (h : a[i]? = some v) : a.take (i + 1) = a.take i ++ [v] := by
  rw [List.take_add_one, h]
  rfl

/-- what a table says of a node behind visits -/
def vval (f : Vs → Int) (fs : List Vs) (y : Int) : Int := match fs.find? (fun v => v.nd == y) with
  | some v => f v
  | none => -1
theorem vval_app {f : Vs → Int} {fs : List Vs} {w : Vs} (h : vhas fs w.nd = false) (y : Int) : vval f (fs ++ [w]) y = if y = w.nd then f w else vval f fs y := by
  unfold vval
  rw [List.find?_append]
  by_cases e : y = w.nd
  · subst e
    have : fs.find? (fun v => v.nd == w.nd) = none := by
      rw [List.find?_eq_none]
      intro v hv hq
      have : vhas fs w.nd = true := vhas_iff.2 ⟨v, hv, by simpa using hq⟩
      rw [h] at this
      cases this
    simp [this]
  · rw [if_neg e]
    have e2 : ¬ w.nd = y := fun q => e q.symm
    cases hq : fs.find? (fun v => v.nd == y) <;> simp [e2]
theorem vval_nil (f : Vs → Int) (y : Int) : vval f [] y = -1 := rfl
theorem Vok.has_take {n : Nat} {P : Nat → Pip} {m : Nat} {x : Int} {fs : List Vs} (h : Vok n P m x fs) {i : Nat} {v : Vs} (hv : fs[i]? = some v) : vhas (fs.take i) v.nd = false := by
  rw [Bool.eq_false_iff]
  intro hh
  obtain ⟨u, hu, e⟩ := vhas_iff.1 hh
  obtain ⟨j, hj, rfl⟩ := List.mem_iff_getElem.1 hu
  have hi : i < fs.length := by
    rcases Nat.lt_or_ge i fs.length with h | h
    · exact h
    · rw [List.getElem?_eq_none h] at hv; cases hv
  simp only [List.length_take] at hj
  have := List.pairwise_iff_getElem.1 h.dis j i (by omega) hi (by omega)
  rw [List.getElem?_eq_getElem hi] at hv
  injection hv with hv
  subst hv
  apply this
  simpa using e
theorem Vok.val {n : Nat} {P : Nat → Pip} {m : Nat} {x : Int} {fs : List Vs} (h : Vok n P m x fs) (f : Vs → Int) {i : Nat} {v : Vs} (hv : fs[i]? = some v) : vval f fs v.nd = f v := by
  unfold vval
  have hi : i < fs.length := by
    rcases Nat.lt_or_ge i fs.length with h | h
    · exact h
    · rw [List.getElem?_eq_none h] at hv; cases hv
  have : fs.find? (fun u => u.nd == v.nd) = some v := by
    rw [List.find?_eq_some_iff_getElem]
    rw [List.getElem?_eq_getElem hi] at hv
    injection hv with hv
    refine ⟨by simp, i, hi, hv, fun j hj => ?_⟩
    have := List.pairwise_iff_getElem.1 h.dis j i (by omega) hi hj
    rw [hv] at this
    simpa using this
  rw [this]
end Go.Proofs.YtdbgcbkmcbgdiaaDoor.mem

namespace Go.Proofs.YtdbgcbkmcbgdiaaDoor.mem
open Go.RowKit
set_option linter.unusedVariables false

theorem get_lt {α : Type} {fs : List α} {i : Nat} {v : α} (h : fs[i]? = some v) : i < fs.length := by
  rcases Nat.lt_or_ge i fs.length with g | g
  · exact g
  · rw [List.getElem?_eq_none g] at h; cases h
theorem Vok.ds0 {n : Nat} {P : Nat → Pip} {m : Nat} {x : Int} {fs : List Vs} (h : Vok n P m x fs) : ∀ (i : Nat) (v : Vs), fs[i]? = some v → 0 ≤ v.ds := by
  intro i
  induction i using Nat.strongRecOn with
  | _ i ih =>
    intro v hv
    rcases Nat.eq_zero_or_pos i with rfl | hi
    · rw [h.fst] at hv
      injection hv with hv
      subst hv
      exact Int.le_refl _
    · obtain ⟨j, u, k, hj, hu, _, _, _, _, hd⟩ := h.par i v hi hv
      have := ih j hj u hu
      omega
theorem Vok.inj {n : Nat} {P : Nat → Pip} {m : Nat} {x : Int} {fs : List Vs} (h : Vok n P m x fs) {i j : Nat} {u v : Vs} (hu : fs[i]? = some u) (hv : fs[j]? = some v) (e : u.nd = v.nd) : i = j := by
  have hi := get_lt hu
  have hj := get_lt hv
  rw [List.getElem?_eq_getElem hi] at hu
  rw [List.getElem?_eq_getElem hj] at hv
  injection hu with hu
  injection hv with hv
  subst hu hv
  rcases Nat.lt_trichotomy i j with g | g | g
  · exact absurd e (List.pairwise_iff_getElem.1 h.dis i j hi hj g)
  · exact g
  · exact absurd e.symm (List.pairwise_iff_getElem.1 h.dis j i hj hi g)
/-- a node that has been visited stands somewhere -/
theorem vhas_get {fs : List Vs} {y : Int} (h : vhas fs y = true) : ∃ (i : Nat) (v : Vs), fs[i]? = some v ∧ v.nd = y := by
  obtain ⟨v, hv, e⟩ := vhas_iff.1 h
  obtain ⟨i, hi, rfl⟩ := List.mem_iff_getElem.1 hv
  exact ⟨i, _, List.getElem?_eq_getElem hi, e⟩
theorem get_vhas {fs : List Vs} {i : Nat} {v : Vs} (h : fs[i]? = some v) : vhas fs v.nd = true := vhas_iff.2 ⟨v, List.mem_of_getElem? h, rfl⟩
theorem vval_no {f : Vs → Int} {fs : List Vs} {y : Int} (h : vhas fs y = false) : vval f fs y = -1 := by
  unfold vval
  have : fs.find? (fun v => v.nd == y) = none := by
    rw [List.find?_eq_none]
    intro v hv hq
    have : vhas fs y = true := vhas_iff.2 ⟨v, hv, by simpa using hq⟩
    rw [h] at this
    cases this
  rw [this]
/-- a node is not visited exactly where its distance is less than 0, and where it has no entry and isn't the first -/
theorem Vok.dist_no {n : Nat} {P : Nat → Pip} {m : Nat} {x : Int} {fs : List Vs} (h : Vok n P m x fs) (y : Int) : decide (vval (·.ds) fs y < 0) = !(vhas fs y) := by
  cases hv : vhas fs y
  · rw [vval_no hv]; rfl
  · obtain ⟨i, v, hi, rfl⟩ := vhas_get hv
    have := h.ds0 i v hi
    rw [h.val (·.ds) hi]
    simpa using this
theorem Vok.entry_no {n : Nat} {P : Nat → Pip} {m : Nat} {x : Int} {fs : List Vs} (h : Vok n P m x fs) {y : Int} (hy : x ≠ y) : (vval (·.en) fs y == -1) = !(vhas fs y) := by
  cases hv : vhas fs y
  · rw [vval_no hv]; rfl
  · obtain ⟨i, v, hi, rfl⟩ := vhas_get hv
    rw [h.val (·.en) hi]
    rcases Nat.eq_zero_or_pos i with rfl | h0
    · rw [h.fst] at hi
      injection hi with hi
      subst hi
      exact absurd rfl hy
    · obtain ⟨j, u, k, _, _, _, hk, _⟩ := h.par i v h0 hi
      rw [hk]
      simp only [Bool.not_true, beq_eq_false_iff_ne]
      omega

/-- the pipes back to the first node, with fuel -/
def pth (P : Nat → Pip) (fs : List Vs) (a : Int) : Nat → Int → List Int
  | 0, _ => []
  | f + 1, b => if b = a then [] else vval (·.en) fs b :: pth P fs a f (othV (P (vval (·.en) fs b).toNat) b)
theorem Vok.pth_fuel {n : Nat} {N : Nat → Nod} {P : Nat → Pip} {m : Nat} {x : Int} {fs : List Vs} (hN : netB n N m P = true) (h : Vok n P m x fs) : ∀ (i : Nat) (v : Vs), fs[i]? = some v → ∀ f, i ≤ f → pth P fs x f v.nd = pth P fs x i v.nd := by
  intro i
  induction i using Nat.strongRecOn with
  | _ i ih =>
    intro v hv f hf
    rcases Nat.eq_zero_or_pos i with rfl | hi
    · rw [h.fst] at hv
      injection hv with hv
      subst hv
      cases f <;> simp [pth]
    · obtain ⟨j, u, k, hj, hu, hk, he, hb, hn, hd⟩ := h.par i v hi hv
      obtain ⟨f', rfl⟩ : ∃ f', f = f' + 1 := ⟨f - 1, by omega⟩
      obtain ⟨i', rfl⟩ : ∃ i', i = i' + 1 := ⟨i - 1, by omega⟩
      have hne : v.nd ≠ x := by
        intro e
        have := h.inj hv h.fst e
        omega
      have ho := (oth_oth (net_pip hN hk) hb).1
      rw [← hn] at ho
      have hvv : vval (·.en) fs v.nd = (k : Nat) := (h.val (·.en) hv).trans he
      simp only [pth, if_neg hne, hvv, Int.toNat_natCast, ho]
      rw [ih j hj u hu f' (by omega), ih j hj u hu i' (by omega)]
/-- one step back -/
theorem Vok.back {n : Nat} {N : Nat → Nod} {P : Nat → Pip} {m : Nat} {x : Int} {fs : List Vs} (hN : netB n N m P = true) (h : Vok n P m x fs) {i : Nat} {v : Vs} (hv : fs[i]? = some v) (hne : v.nd ≠ x) :
    ∃ (j : Nat) (u : Vs) (k : Nat), j < i ∧ fs[j]? = some u ∧ k < m ∧ vval (·.en) fs v.nd = (k : Nat) ∧ endB (P k) v.nd = true ∧ othV (P k) v.nd = u.nd ∧ pth P fs x n v.nd = (k : Int) :: pth P fs x n u.nd := by
  have hi : 0 < i := by
    rcases Nat.eq_zero_or_pos i with rfl | hi
    · rw [h.fst] at hv
      injection hv with hv
      subst hv
      exact absurd rfl hne
    · exact hi
  obtain ⟨j, u, k, hj, hu, hk, he, hb, hn, hd⟩ := h.par i v hi hv
  have ho := oth_oth (net_pip hN hk) hb
  rw [← hn] at ho
  have hvv : vval (·.en) fs v.nd = (k : Nat) := (h.val (·.en) hv).trans he
  refine ⟨j, u, k, hj, hu, hk, hvv, ho.2.1, ho.1, ?_⟩
  have hl := get_lt hv
  have hl2 := h.len
  obtain ⟨n', e⟩ : ∃ n', n = n' + 1 := ⟨n - 1, by omega⟩
  rw [h.pth_fuel hN j u hu n (by omega), ← h.pth_fuel hN j u hu n' (by omega), e]
  simp only [pth, if_neg hne, hvv, Int.toNat_natCast, ho.1]
theorem pth_self {P : Nat → Pip} {fs : List Vs} {a : Int} : ∀ f, pth P fs a f a = []
  | 0 => rfl
  | f + 1 => by simp [pth]
theorem Vok.pth_len {n : Nat} {N : Nat → Nod} {P : Nat → Pip} {m : Nat} {x : Int} {fs : List Vs} (hN : netB n N m P = true) (h : Vok n P m x fs) : ∀ (i : Nat) (v : Vs), fs[i]? = some v → (pth P fs x n v.nd).length ≤ i := by
  intro i
  induction i using Nat.strongRecOn with
  | _ i ih =>
    intro v hv
    by_cases e : v.nd = x
    · rw [e, pth_self]; exact Nat.zero_le _
    · obtain ⟨j, u, k, hj, hu, _, _, _, _, hp⟩ := h.back hN hv e
      have := ih j hj u hu
      rw [hp]
      simp only [List.length_cons]
      omega

/-- the least node of a node's component, the first k nodes being done -/
def cmp (n : Nat) (P : Nat → Pip) (m : Nat) : Nat → Int → Int
  | 0, _ => -1
  | k + 1, y => if cmp n P m k k = -1 ∧ vhas (vis n P m k) y = true then k else cmp n P m k y
theorem cmp_skip {n : Nat} {P : Nat → Pip} {m k : Nat} (h : cmp n P m k k ≠ -1) : cmp n P m (k + 1) = cmp n P m k := by
  funext y
  simp [cmp, h]
theorem cmp_take {n : Nat} {P : Nat → Pip} {m k : Nat} (h : cmp n P m k k = -1) (y : Int) : cmp n P m (k + 1) y = if vhas (vis n P m k) y = true then (k : Int) else cmp n P m k y := by
  simp [cmp, h]
theorem cmp_rng (n : Nat) (P : Nat → Pip) (m : Nat) : ∀ (k : Nat) (y : Int), -1 ≤ cmp n P m k y ∧ cmp n P m k y < k
  | 0, y => by simp [cmp]
  | k + 1, y => by
    have := cmp_rng n P m k y
    unfold cmp
    split <;> omega
/-- the roots: the least nodes of the components -/
def rts (n : Nat) (P : Nat → Pip) (m : Nat) (i : Nat) : Bool := decide (cmp n P m n i = i)
def cnt (n : Nat) (P : Nat → Pip) (m : Nat) : Nat := (fl (rts n P m) n).length
/-- while the visits from k come -/
def cmpV (n : Nat) (P : Nat → Pip) (m k : Nat) (fs : List Vs) (y : Int) : Int := if vhas fs y = true then (k : Int) else cmp n P m k y
theorem cmpV_nil (n : Nat) (P : Nat → Pip) (m k : Nat) : cmpV n P m k [] = cmp n P m k := by
  funext y
  simp [cmpV, vhas]
theorem cmpV_app (n : Nat) (P : Nat → Pip) (m k : Nat) (fs : List Vs) (v : Vs) (y : Int) : cmpV n P m k (fs ++ [v]) y = if y = v.nd then (k : Int) else cmpV n P m k fs y := by
  unfold cmpV
  rw [vhas_app]
  by_cases e : y = v.nd
  · subst e; simp
  · have e2 : (v.nd == y) = false := by simpa using fun q => e q.symm
    rw [if_neg e, e2, Bool.or_false]
theorem cmpV_all {n : Nat} {P : Nat → Pip} {m k : Nat} (h : cmp n P m k k = -1) : cmpV n P m k (vis n P m k) = cmp n P m (k + 1) := by
  funext y
  rw [cmp_take h]
  rfl
end Go.Proofs.YtdbgcbkmcbgdiaaDoor.mem

namespace Go.Proofs.YtdbgcbkmcbgdiaaDoor.mem
open Go.RowKit
set_option linter.unusedVariables false

/-- the entries of visits, but the first one's -/
def ens (fs : List Vs) : List Int := (fs.filter (fun v => v.en != -1)).map (·.en)
theorem ens_app (fs : List Vs) (v : Vs) : ens (fs ++ [v]) = if v.en = -1 then ens fs else ens fs ++ [v.en] := by
  unfold ens
  by_cases e : v.en = -1 <;> simp [e]
theorem ens_mem {fs : List Vs} {q : Int} : q ∈ ens fs ↔ ∃ v ∈ fs, v.en = q ∧ q ≠ -1 := by
  unfold ens
  constructor
  · intro h
    obtain ⟨v, hv, rfl⟩ := List.mem_map.1 h
    simp only [List.mem_filter, bne_iff_ne] at hv
    exact ⟨v, hv.1, rfl, hv.2⟩
  · rintro ⟨v, hv, rfl, h⟩
    exact List.mem_map.2 ⟨v, by simp only [List.mem_filter, bne_iff_ne]; exact ⟨hv, h⟩, rfl⟩
theorem Vok.ens_rng {n : Nat} {P : Nat → Pip} {m : Nat} {x : Int} {fs : List Vs} (h : Vok n P m x fs) {q : Int} (hq : q ∈ ens fs) : ∃ (i j : Nat) (v u : Vs) (k : Nat), j < i ∧ fs[i]? = some v ∧ fs[j]? = some u ∧ k < m ∧ v.en = ((k : Nat) : Int) ∧ q = (k : Nat) ∧ endB (P k) u.nd = true ∧ v.nd = othV (P k) u.nd := by
  obtain ⟨v, hv, rfl, hne⟩ := ens_mem.1 hq
  obtain ⟨i, hi, rfl⟩ := List.mem_iff_getElem.1 hv
  have hg : fs[i]? = some fs[i] := List.getElem?_eq_getElem hi
  have h0 : 0 < i := by
    rcases Nat.eq_zero_or_pos i with e | e
    · have hf := h.fst
      rw [← e, hg] at hf
      injection hf with hf
      rw [hf] at hne
      exact absurd rfl hne
    · exact e
  obtain ⟨j, u, k, hj, hu, hk, he, hb, hn, _⟩ := h.par i _ h0 hg
  exact ⟨i, j, fs[i], u, k, hj, hg, hu, hk, he, he, hb, hn⟩
theorem end_two {q : Pip} {a b : Int} {n : Int} (hp : pipB n q = true) (ha : endB q a = true) (hb : endB q b = true) : b = a ∨ b = othV q a := by
  unfold endB at ha hb
  simp only [Bool.or_eq_true, beq_iff_eq] at ha hb
  unfold othV
  split <;> omega
theorem Vok.ens_nodup {n : Nat} {N : Nat → Nod} {P : Nat → Pip} {m : Nat} {x : Int} {fs : List Vs} (hN : netB n N m P = true) (h : Vok n P m x fs) : (ens fs).Pairwise (· ≠ ·) := by
  unfold ens
  rw [List.pairwise_map, List.pairwise_filter, List.pairwise_iff_getElem]
  intro i j hi hj hij hei hej hq
  simp only [bne_iff_ne] at hei hej
  have gi : fs[i]? = some fs[i] := List.getElem?_eq_getElem hi
  have gj : fs[j]? = some fs[j] := List.getElem?_eq_getElem hj
  have i0 : 0 < i := by
    rcases Nat.eq_zero_or_pos i with e | e
    · have hf := h.fst
      rw [← e, gi] at hf
      injection hf with hf
      rw [hf] at hei
      exact absurd rfl hei
    · exact e
  obtain ⟨a, u, k, ha, hu, hk, he, hb, hn, _⟩ := h.par i _ i0 gi
  obtain ⟨b, u', k', hb', hu', hk', he', hbb, hn', _⟩ := h.par j _ (by omega) gj
  have ek : k = k' := by have : ((k : Nat) : Int) = (k' : Nat) := by rw [← he, ← he', hq]
                         omega
  subst ek
  have o1 := oth_oth (net_pip hN hk) hb
  have o2 := oth_oth (net_pip hN hk) hbb
  rw [← hn] at o1
  rw [← hn'] at o2
  rcases end_two (net_pip hN hk) hb o2.2.1 with e | e
  · have := h.inj gj hu e; omega
  · have := h.inj gj gi (e.trans hn.symm); omega
/-- what has been visited holds the other ends of its pipes -/
theorem vrow_has {P : Nat → Pip} {v : Vs} {fs : List Vs} : ∀ (k q : Nat), q < k → endB (P q) v.nd = true → vhas (vrow P v k fs) (othV (P q) v.nd) = true
  | 0, q, h, _ => by omega
  | k + 1, q, h, he => by
    rw [vrow_succ]
    by_cases e : q = k
    · subst e
      unfold vadd
      cases hh : vhas (vrow P v q fs) (othV (P q) v.nd)
      · simp [he, vhas_app]
      · simp [hh]
    · have := vrow_has (P := P) (v := v) (fs := fs) k q (by omega) he
      unfold vadd
      split
      · rw [vhas_app, this]; rfl
      · exact this
theorem vhas_pre {a b : List Vs} {y : Int} (h : a <+: b) (hy : vhas a y = true) : vhas b y = true := by
  obtain ⟨t, rfl⟩ := h
  obtain ⟨v, hv, e⟩ := vhas_iff.1 hy
  exact vhas_iff.2 ⟨v, List.mem_append.2 (.inl hv), e⟩
theorem vup_len {P : Nat → Pip} {m : Nat} {x : Int} : ∀ (i : Nat), i + 1 ≤ (vup P m x i).length ∨ ∀ j, vup P m x (i + j) = vup P m x i
  | 0 => .inl (Nat.le_refl _)
  | i + 1 => by
    rcases Nat.lt_or_ge (i + 1) (vup P m x (i + 1)).length with h | h
    · exact .inl h
    · exact .inr (vup_stay h)
theorem vis_closed {n : Nat} {N : Nat → Nod} {P : Nat → Pip} {m : Nat} {x : Int} (hN : netB n N m P = true) (hx : 0 ≤ x ∧ x ≤ (n : Int) - 1) {y : Int} (hy : vhas (vis n P m x) y = true) {q : Nat} (hq : q < m) (he : endB (P q) y = true) :
    vhas (vis n P m x) (othV (P q) y) = true := by
  obtain ⟨i, v, hv, rfl⟩ := vhas_get hy
  have hl := get_lt hv
  have hl2 := (vis_ok (P := P) (m := m) hN hx).len
  have hi : (vup P m x i)[i]? = some v := by
    rcases Nat.lt_or_ge i (vup P m x i).length with h | h
    · have hp := vup_vis (P := P) (m := m) hN hx (i := i)
      rw [List.getElem?_eq_getElem h] 
      have := pre_get hp (List.getElem?_eq_getElem h)
      rw [hv] at this
      exact this.symm
    · have := vup_end (P := P) (m := m) hN hx h (by omega)
      rw [this] at h
      omega
  have h1 := vup_vis (P := P) (m := m) hN hx (i := i + 1)
  rw [vup_succ hi] at h1
  exact vhas_pre h1 (vrow_has m q hq he)
/-- a node that two searches visit: the one's first node is visited by the other -/
theorem vis_meet {n : Nat} {N : Nat → Nod} {P : Nat → Pip} {m : Nat} {x y : Int} (hN : netB n N m P = true) (hx : 0 ≤ x ∧ x ≤ (n : Int) - 1) (hy : 0 ≤ y ∧ y ≤ (n : Int) - 1) :
    ∀ (i : Nat) (v : Vs), (vis n P m y)[i]? = some v → vhas (vis n P m x) v.nd = true → vhas (vis n P m x) y = true := by
  intro i
  induction i using Nat.strongRecOn with
  | _ i ih =>
    intro v hv hh
    by_cases e : v.nd = y
    · rw [← e]; exact hh
    · obtain ⟨j, u, k, hj, hu, hk, _, he, ho, _⟩ := (vis_ok (P := P) (m := m) hN hy).back hN hv e
      exact ih j hj u hu (by rw [← ho]; exact vis_closed hN hx hh hk he)
theorem cmp_succ (n : Nat) (P : Nat → Pip) (m k : Nat) (y : Int) : cmp n P m (k + 1) y = if cmp n P m k k = -1 ∧ vhas (vis n P m k) y = true then (k : Int) else cmp n P m k y := rfl
theorem vis_self (n : Nat) (P : Nat → Pip) (m : Nat) (x : Int) : vhas (vis n P m x) x = true := by
  have : (vis n P m x)[0]? = some ⟨x, -1, 0⟩ := by
    have h := vup_pre P m x 0 n
    rw [Nat.zero_add] at h
    exact pre_get h rfl
  exact get_vhas this
/-- a root's search visits no later root, and its round was done -/
theorem rts_open {n : Nat} {N : Nat → Nod} {P : Nat → Pip} {m : Nat} (hN : netB n N m P = true) {r : Nat} (hr : r < n) (h : rts n P m r = true) : cmp n P m r r = -1 := by
  by_cases e : cmp n P m r r = -1
  · exact e
  · exfalso
    have h1 := cmp_rng n P m r r
    have hstep : ∀ j, cmp n P m (r + j) r = cmp n P m r r ∨ ∃ q, r < q ∧ cmp n P m (r + j) r = (q : Nat) := by
      intro j
      induction j with
      | zero => exact .inl rfl
      | succ j ih =>
        rw [← Nat.add_assoc, cmp_succ]
        split
        · next hc =>
          right
          refine ⟨r + j, ?_, rfl⟩
          rcases Nat.eq_zero_or_pos j with rfl | hj
          · exact absurd hc.1 e
          · omega
        · exact ih
    unfold rts at h
    simp only [decide_eq_true_eq] at h
    rcases hstep (n - r) with g | ⟨q, hq, g⟩
    · rw [show r + (n - r) = n by omega, h] at g; omega
    · rw [show r + (n - r) = n by omega, h] at g; omega
theorem rts_apart {n : Nat} {N : Nat → Nod} {P : Nat → Pip} {m : Nat} (hN : netB n N m P = true) {r s : Nat} (hs : s < n) (hrs : r < s) (h1 : rts n P m r = true) (h2 : rts n P m s = true) : vhas (vis n P m r) s = false := by
  rw [Bool.eq_false_iff]
  intro hh
  have o1 := rts_open hN (by omega) h1
  have o2 := rts_open hN hs h2
  have : cmp n P m (r + 1) s = r := by
    rw [cmp_take o1, if_pos hh]
  have hstep : ∀ j, cmp n P m (r + 1 + j) s ≠ -1 := by
    intro j
    induction j with
    | zero => show cmp n P m (r + 1) s ≠ -1; omega
    | succ j ih =>
      rw [← Nat.add_assoc, cmp_succ]
      split
      · omega
      · exact ih
  have := hstep (s - (r + 1))
  rw [show r + 1 + (s - (r + 1)) = s by omega] at this
  exact this o2
/-- the forest as the program collects it: root by root -/
def fcol (n : Nat) (P : Nat → Pip) (m : Nat) (rs : List Nat) : List Int := rs.flatMap (fun r => ens (vis n P m (r : Nat)))
theorem fl_lt {p : Nat → Bool} {k i : Nat} (h : i ∈ fl p k) : i < k ∧ p i = true := by
  unfold fl at h
  simp only [List.mem_filter, List.mem_range] at h
  exact h
theorem fl_mem {p : Nat → Bool} {k i : Nat} (h : i < k) (g : p i = true) : i ∈ fl p k := by
  unfold fl
  simp only [List.mem_filter, List.mem_range]
  exact ⟨h, g⟩
theorem fl_sorted (p : Nat → Bool) (k : Nat) : (fl p k).Pairwise (· < ·) := by
  unfold fl
  exact List.Pairwise.filter _ List.pairwise_lt_range
theorem fcol_nodup {n : Nat} {N : Nat → Nod} {P : Nat → Pip} {m : Nat} (hN : netB n N m P = true) : (fcol n P m (fl (rts n P m) n)).Pairwise (· ≠ ·) := by
  unfold fcol
  rw [List.pairwise_flatMap]
  refine ⟨fun r hr => ?_, ?_⟩
  · have := (fl_lt hr).1
    exact (vis_ok (P := P) (m := m) hN (by omega)).ens_nodup hN
  · refine List.Pairwise.imp_of_mem (R := (· < ·)) ?_ (fl_sorted _ _)
    intro r s hr hs hrs a ha b hb e
    subst e
    have h1 := fl_lt hr
    have h2 := fl_lt hs
    obtain ⟨i, j, v, u, k, hj, hv, hu, hk, he, hq, hb1, hn1⟩ := (vis_ok (P := P) (m := m) hN (x := (r : Nat)) (by omega)).ens_rng ha
    obtain ⟨i', j', v', u', k', hj', hv', hu', hk', he', hq', hb2, hn2⟩ := (vis_ok (P := P) (m := m) hN (x := (s : Nat)) (by omega)).ens_rng hb
    have ek : k = k' := by have : ((k : Nat) : Int) = (k' : Nat) := by rw [← hq, ← hq']
                           omega
    subst ek
    have hx : vhas (vis n P m (r : Nat)) u'.nd = true := by
      rcases end_two (net_pip hN hk) hb1 hb2 with e | e
      · rw [e]; exact get_vhas hu
      · rw [e, ← hn1]; exact get_vhas hv
    have := vis_meet hN (by omega) (by omega) j' u' hu' hx
    rw [rts_apart hN h2.1 hrs h1.2 h2.2] at this
    cases this
theorem fcol_rng {n : Nat} {N : Nat → Nod} {P : Nat → Pip} {m : Nat} (hN : netB n N m P = true) {rs : List Nat} (hr : ∀ r ∈ rs, r < n) {q : Int} (hq : q ∈ fcol n P m rs) : ∃ k, k < m ∧ q = ((k : Nat) : Int) := by
  unfold fcol at hq
  obtain ⟨r, hr1, hq⟩ := List.mem_flatMap.1 hq
  have := hr r hr1
  obtain ⟨i, j, v, u, k, hj, hv, hu, hk, he, hq, _⟩ := (vis_ok (P := P) (m := m) hN (x := (r : Nat)) (by omega)).ens_rng hq
  exact ⟨k, hk, hq⟩
/-- two rising lists with the same members are one -/
theorem rising_eq : ∀ (a b : List Int), a.Pairwise (· < ·) → b.Pairwise (· < ·) → (∀ x, x ∈ a ↔ x ∈ b) → a = b
  | [], [], _, _, _ => rfl
  | [], y :: b, _, _, h => absurd ((h y).2 (by simp)) (by simp)
  | x :: a, [], _, _, h => absurd ((h x).1 (by simp)) (by simp)
  | x :: a, y :: b, ha, hb, h => by
    rw [List.pairwise_cons] at ha hb
    have e : x = y := by
      rcases List.mem_cons.1 ((h x).1 (by simp)) with e | e
      · exact e
      · rcases List.mem_cons.1 ((h y).2 (by simp)) with g | g
        · exact g.symm
        · have := hb.1 x e
          have := ha.1 y g
          omega
    subst e
    rw [rising_eq a b ha.2 hb.2 fun z => ?_]
    have := h z
    simp only [List.mem_cons] at this
    constructor
    · intro hz
      have := ha.1 z hz
      rcases (h z).1 (List.mem_cons.2 (.inr hz)) |> List.mem_cons.1 with e | e
      · omega
      · exact e
    · intro hz
      have := hb.1 z hz
      rcases (h z).2 (List.mem_cons.2 (.inr hz)) |> List.mem_cons.1 with e | e
      · omega
      · exact e
theorem rising_of {a : List Int} (h : a.Pairwise (· ≤ ·)) (hn : a.Pairwise (· ≠ ·)) : a.Pairwise (· < ·) := by
  have := h.and hn
  exact this.imp (fun ⟨h1, h2⟩ => by omega)
/-- which pipes are in the forest -/
def inF (n : Nat) (P : Nat → Pip) (m : Nat) (rs : List Nat) (k : Nat) : Bool := (fcol n P m rs).contains ((k : Nat) : Int)
def forest (n : Nat) (P : Nat → Pip) (m : Nat) : List Int := (fl (inF n P m (fl (rts n P m) n)) m).map (fun k => ((k : Nat) : Int))
/-- what the program has collected, sorted, is the forest -/
theorem forest_eq {n : Nat} {N : Nat → Nod} {P : Nat → Pip} {m : Nat} (hN : netB n N m P = true) {l : List Int} (hp : l.Perm (fcol n P m (fl (rts n P m) n))) (hs : l.Pairwise (· ≤ ·)) : l = forest n P m := by
  refine rising_eq _ _ (rising_of hs ?_) ?_ fun x => ?_
  · exact hp.symm.pairwise (fcol_nodup hN) (fun h e => h e.symm)
  · unfold forest
    rw [List.pairwise_map]
    exact (fl_sorted _ _).imp (fun h => by omega)
  · rw [hp.mem_iff]
    unfold forest
    constructor
    · intro hx
      obtain ⟨k, hk, rfl⟩ := fcol_rng hN (fun r hr => (fl_lt hr).1) hx
      exact List.mem_map.2 ⟨k, fl_mem hk (by unfold inF; simpa using hx), rfl⟩
    · intro hx
      obtain ⟨k, hk, rfl⟩ := List.mem_map.1 hx
      have := (fl_lt hk).2
      unfold inF at this
      simpa using this
end Go.Proofs.YtdbgcbkmcbgdiaaDoor.mem

namespace Go.Proofs.YtdbgcbkmcbgdiaaDoor.mem
open Go.RowKit
set_option linter.unusedVariables false

theorem Upd.alloc (X : Nat → Prop) (w : World) (o : Obj) : Upd X w (w.alloc o) := Upd.of_below (below_new w o)
theorem Upd.putObj (X : Nat → Prop) (w : World) (l : Nat) (o : Obj) (h : X l) : Upd X w (w.putObj l o) :=
  ⟨rfl, rfl, rfl, by simp, fun k _ hx => World.putObj_heap_other (fun e => hx (by rw [e]; exact h))⟩

theorem Upd.more {X : Nat → Prop} {w1 w2 w3 : World} (h : Upd X w1 w2) (k : Upd (fun b => X b ∨ w1.heap.size ≤ b) w2 w3) : Upd X w1 w3 :=
  ⟨k.os.trans h.os, k.tape.trans h.tape, k.output.trans h.output, Nat.le_trans h.size k.size, fun i hi hx => (k.block i (Nat.lt_of_lt_of_le hi h.size) (by rintro (e | e); exact hx e; omega)).trans (h.block i hi hx)⟩

/-- the contract of an iterator value: it reads the blocks R and lays two own blocks; a round may write into Y, and hands on a Y of these and of what is new -/
def SeqV {α : Type} (F : Fence) (n : Nat) (P : Program) (gf : Nat) (lb : Array Value) (encs : α → Array Value) (xs : List α) (R : Nat → Prop) (W0 : World) : Prop :=
  ∀ (l : Nat) (Y0 : Nat → Prop) (J : List α → (Nat → Prop) → World → Prop) (W : World),
    Upd (fun b => ¬ R b) W0 W →
    (∀ b, Y0 b → b < W.heap.size ∧ ¬ R b) →
    (∀ pre Y A B, J pre Y A → Upd (fun b => b = W.heap.size ∨ b = W.heap.size + 1) A B → J pre Y B) →
    (∀ pre x post Y A, xs = pre ++ x :: post → J pre Y A → W.heap.size + 2 ≤ A.heap.size → (∀ b, Y b → b < A.heap.size ∧ b ≠ W.heap.size ∧ b ≠ W.heap.size + 1) →
      YieldAt F (n - 1) P l (encs x) A fun e B => e = .returned (.bool true) ∧ ∃ Y', J (pre ++ [x]) Y' B ∧ Upd Y A B ∧ ∀ b, Y' b → Y b ∨ (A.heap.size ≤ b ∧ b < B.heap.size)) →
    J [] Y0 W →
    CallsIn F n P gf (#[.func (.yield l) #[] #[]] ++ lb) W fun e B => (∃ v, e = .returned v) ∧ ∃ Y', J xs Y' B

/-- how a round is left: off its end -/
def postV {α : Type} (Y : Nat → Prop) (I : List α → (Nat → Prop) → World → Prop) (s : Nat) (xs : List α) (W : World) : Exit → Act → World → Prop
  | .normal, _, W' => ∃ Y', Upd (fun b => Y b ∨ s ≤ b) W W' ∧ I xs Y' W' ∧ ∀ b, Y' b → Y b ∨ (s ≤ b ∧ b < W'.heap.size)
  | _, _, _ => False

theorem wpIn_range_vis {F : Fence} {n : Nat} {P : Program} {α : Type} {g : Operand} {ps : Array Tmp} {assign body : Code} {Q : Exit → Act → World → Prop} {a : Act} {w : World}
    (hro : F.round = none) (h1 : 1 ≤ n) {gf : Nat} {lb : Array Value} (hg : a.eval g = .func (.func gf) #[] lb) (hFg : F.fn gf) (eg : ∀ args w, (callFunc gf args).run P w = .ok (.enter gf args) w)
    {encs : α → Array Value} {xs : List α} {R : Nat → Prop} {w0 : World} (hseq : SeqV F (n - 1) P gf lb encs xs R w0) (hb0 : Upd (fun b => ¬ R b) w0 w) (hR : ∀ b, R b → b < w.heap.size)
    (hps : ∀ x, (encs x).size = ps.size) (Y0 : Nat → Prop) (hY0 : ∀ b, Y0 b → b < w.heap.size ∧ ¬ R b)
    (I : List α → (Nat → Prop) → World → Prop) (hI : ∀ pre Y A B, I pre Y A → Upd (fun b => w.heap.size ≤ b ∧ b < w.heap.size + 4) A B → I pre Y B) (h0 : I [] Y0 w)
    (hround : ∀ (l : Nat) (pre : List α) (x : α) (post : List α) (Y : Nat → Prop) (W : World), xs = pre ++ x :: post → I pre Y W → w.heap.size + 4 ≤ W.heap.size →
      (∀ b, Y b → b < W.heap.size ∧ ¬ (w.heap.size ≤ b ∧ b < w.heap.size + 4)) →
      assign.wpIn (F.inRound l) (n - 1 - 1) P (Exit.then (fun a₁ w₁ => Upd Y W w₁ ∧
        ∀ Wb, Upd (fun b => w.heap.size ≤ b ∧ b < w.heap.size + 4) w₁ Wb → body.wpIn (F.inRound l) (n - 1 - 1) P (postV Y I W.heap.size (pre ++ [x]) Wb) a₁ Wb) (fun _ _ _ => False))
        { tmps := (ps.zip (encs x)).foldl (fun t (p, v) => t.setIfInBounds p v) a.tmps, defers := [] } W)
    (hdone : ∀ (Y : Nat → Prop) (W : World), I xs Y W → W.heap[w.heap.size]? = some (.deferred (some [])) → Q .normal { a with defers := { target := .collected w.heap.size, args := #[] } :: a.defers } W) :
    (Code.rangeFunc g ps assign body).wpIn F n P Q a w := by
  refine wpIn_rangeFunc ?_
  intro fn hfn
  rw [hro]
  obtain ⟨rec, hrec⟩ : ∃ rec : LoopState → Option Code → Loop, rec = fun st pe => { state := st, pending := pe, fn, tmps := a.tmps, params := ps, assign, body, defers := w.heap.size } := ⟨_, rfl⟩
  obtain ⟨W1, hW1⟩ : ∃ W1, (w.alloc (.deferred (some []))).alloc (.loop (rec .ready none)) = W1 := ⟨_, rfl⟩
  have hs1 : W1.heap.size = w.heap.size + 2 := by rw [← hW1]; simp
  have hL1 : W1.heap[w.heap.size + 1]? = some (.loop (rec .ready none)) := by
    rw [← hW1]; have := World.alloc_heap_new (w.alloc (.deferred (some []))) (.loop (rec .ready none)); rwa [World.size_alloc] at this
  have hK1 : W1.heap[w.heap.size]? = some (.deferred (some [])) := by
    rw [← hW1]; exact (Below.heap_alloc _ _ _ (by simp)).trans (World.alloc_heap_new w _)
  have hU1 : ∀ Y, Upd Y w W1 := fun Y => by rw [← hW1]; exact (Upd.alloc Y _ _).trans (Upd.alloc Y _ _)
  have hI1 : I [] Y0 W1 := hI _ _ _ _ h0 (hU1 _)
  refine ⟨w.heap.size + 1, [{ target := .collected w.heap.size, args := #[] }], W1, { target := .fn (.func gf) lb, args := #[.func (.yield (w.heap.size + 1)) #[] #[]] }, W1, gf,
    #[.func (.yield (w.heap.size + 1)) #[] #[]] ++ lb, W1, ?_, ?_, ?_, ?_, fun _ => h1, ?_⟩
  · rw [← hW1, hrec]; exact run_enterLoop_outer _ _ _ _ _
  · simp only [resolve, hg]
    simp [go_sem]
  · intro f' hf'; simp [Target.leads] at hf'; subst hf'; exact hFg
  · simp [invoke, go_sem, eg]
  · clear hW1
    refine (hseq (w.heap.size + 1) (fun b => Y0 b ∨ b = w.heap.size + 1)
      (fun pre Y W => ∃ Z, I pre Z W ∧ (∀ b, Y b ↔ Z b ∨ b = w.heap.size + 1) ∧ (∀ b, Z b → ¬ (w.heap.size ≤ b ∧ b < w.heap.size + 4)) ∧ W.heap[w.heap.size + 1]? = some (.loop (rec .ready none)) ∧ W.heap[w.heap.size]? = some (.deferred (some []))) W1 (hb0.trans (hU1 _)) ?_ ?_ ?_
      ⟨Y0, hI1, fun _ => Iff.rfl, fun b hb => by have := (hY0 b hb).1; omega, hL1, hK1⟩).mono ?_
    · rintro b (h | rfl)
      · exact ⟨by have := (hY0 b h).1; omega, (hY0 b h).2⟩
      · exact ⟨by omega, fun h => by have := hR _ h; omega⟩
    · rintro pre Y A B ⟨Z, hi, hZ, hz, hl, hk⟩ hu
      have l1 := (Array.getElem?_eq_some_iff.1 hl).1
      exact ⟨Z, hI _ _ _ _ hi (hu.mono fun k _ e => by omega), hZ, hz, (hu.block _ l1 (by omega)).trans hl, (hu.block _ (by omega) (by omega)).trans hk⟩
    · rintro pre x post Y W hx ⟨Z, hi, hZ, hz, hl, hk⟩ hsz hY
      have hy := run_yield (P := P) (args := encs x) hl (by rw [hrec]; exact hps x)
      rw [hrec] at hy
      refine ⟨fn, _, assign, body, hy, roundIn_of_wpIn hfn (wpIn_mono (hround _ pre x post Z W hx hi (by omega) (fun b hb => ⟨(hY b ((hZ b).2 (.inl hb))).1, hz b hb⟩)) ?_)⟩
      clear hy
      rintro e a1 w1 hp
      cases e with
      | normal =>
        obtain ⟨hu1, hb1⟩ := hp
        have nZ : ¬ Z (w.heap.size + 1) := fun h => hz _ h (by omega)
        have nZ0 : ¬ Z w.heap.size := fun h => hz _ h (by omega)
        have hl1 := (hu1.block _ (by omega) nZ).trans hl
        have hk1 := (hu1.block _ (by omega) nZ0).trans hk
        have hz1 := hu1.size
        obtain ⟨W2, hW2⟩ : ∃ W2, w1.putObj (w.heap.size + 1) (.loop { rec .ready none with state := .busy }) = W2 := ⟨_, rfl⟩
        have hl2 : W2.heap[w.heap.size + 1]? = some (.loop { rec .ready none with state := .busy }) := by rw [← hW2]; exact World.putObj_heap_same (by omega)
        have hk2 : W2.heap[w.heap.size]? = some (.deferred (some [])) := by rw [← hW2]; exact (World.putObj_heap_other (by omega)).trans hk1
        have hu2 : ∀ Y : Nat → Prop, Y (w.heap.size + 1) → Upd Y w1 W2 := fun Y hY => by rw [← hW2]; exact Upd.putObj _ _ _ _ hY
        refine ⟨W2, by rw [← hW2]; exact run_beginRound hl1 (by rw [hrec]), ?_⟩
        refine wpIn_mono (hb1 W2 (hu2 _ (by omega))) ?_
        rintro e a3 W3 hp
        cases e with
        | normal =>
          obtain ⟨Z', hu3, hi3, hZ'⟩ := hp
          have hz2 := (hu2 (fun _ => True) trivial).size
          have hz3 := hu3.size
          have hl3 := (hu3.block _ (by omega) (by rintro (h | h); exact nZ h; omega)).trans hl2
          have hk3 := (hu3.block _ (by omega) (by rintro (h | h); exact nZ0 h; omega)).trans hk2
          have hr := run_endRound (P := P) none hl3
          rw [hrec] at hr hl3
          obtain ⟨W4, hW4⟩ : ∃ W4, W3.putObj (w.heap.size + 1) (.loop (rec .ready none)) = W4 := ⟨_, rfl⟩
          have hu4 : ∀ Y : Nat → Prop, Y (w.heap.size + 1) → Upd Y W3 W4 := fun Y hY => by rw [← hW4]; exact Upd.putObj _ _ _ _ hY
          have hs4 : W4.heap.size = W3.heap.size := by rw [← hW4]; simp
          refine ⟨_, W4, by rw [← hW4, hrec]; exact hr, rfl, fun b => Z' b ∨ b = w.heap.size + 1, ⟨Z', hI _ _ _ _ hi3 (hu4 _ (by omega)), fun _ => Iff.rfl, fun b hb => ?_, by rw [← hW4]; exact World.putObj_heap_same (by omega), by rw [← hW4]; exact (World.putObj_heap_other (by omega)).trans hk3⟩, ?_, ?_⟩
          · rcases hZ' b hb with h | h
            · exact hz b h
            · omega
          · refine Upd.trans (Upd.more (Upd.trans (hu1.mono fun b _ h => (hZ b).2 (.inl h)) (hu2 _ ((hZ _).2 (.inr rfl)))) (hu3.mono ?_)) (hu4 _ ((hZ _).2 (.inr rfl)))
            rintro b _ (h | h)
            · exact .inl ((hZ b).2 (.inl h))
            · exact .inr h
          · rintro b (h | rfl)
            · rcases hZ' b h with h | h
              · exact .inl ((hZ b).2 (.inl h))
              · exact .inr (by omega)
            · exact .inl ((hZ _).2 (.inr rfl))
        | _ => exact hp.elim
      | _ => exact hp.elim
    · rintro e W2 ⟨⟨v, rfl⟩, Y, Z, hi, hZ, hz, hl, hk⟩
      have hl2 := (Array.getElem?_eq_some_iff.1 hl).1
      have he := run_endLoop (P := P) hl (by rw [hrec]; simp)
      rw [hrec] at he
      exact ⟨none, _, he, hdone _ _ (hI _ _ _ _ hi (Upd.putObj _ _ _ _ (by omega))) ((World.putObj_heap_other (by omega)).trans hk)⟩
end Go.Proofs.YtdbgcbkmcbgdiaaDoor.mem

namespace Go.Proofs.YtdbgcbkmcbgdiaaDoor.mem
open Go.RowKit
set_option linter.unusedVariables false

def rowv (k n : Nat) : List Value := List.replicate k (.int .i64 (-1)) ++ List.replicate (n - k) (.int .i64 0)
theorem rowv_len {k n : Nat} (h : k ≤ n) : (rowv k n).length = n := by simp [rowv]; omega
theorem rowv_get {k n j : Nat} (h : k ≤ n) (hj : j < n) : (rowv k n)[j]? = some (.int .i64 (if j < k then -1 else 0)) := by
  unfold rowv
  rcases Nat.lt_or_ge j k with hk | hk
  · rw [List.getElem?_append_left (by simpa using hk), List.getElem?_replicate, if_pos hk, if_pos hk]
  · rw [List.getElem?_append_right (by simpa using hk), List.getElem?_replicate, List.length_replicate, if_pos (by omega), if_neg (by omega)]
theorem rowv_splice {k m n : Nat} (h : k + m ≤ n) : splice (rowv k n) k (List.replicate m (.int .i64 (-1))) = rowv (k + m) n := by
  refine List.ext_getElem? fun j => ?_
  unfold splice
  rcases Nat.lt_or_ge j n with hj | hj
  · rw [rowv_get h hj]
    rcases Nat.lt_or_ge j k with hk | hk
    · rw [List.getElem?_append_left (by simp [rowv_len (by omega : k ≤ n)]; omega), List.getElem?_take, if_pos hk, rowv_get (by omega) hj, if_pos hk, if_pos (by omega)]
    · rw [List.getElem?_append_right (by simp [rowv_len (by omega : k ≤ n)]; omega)]
      have e : (List.take k (rowv k n)).length = k := by simp [rowv_len (by omega : k ≤ n)]; omega
      rw [e]
      rcases Nat.lt_or_ge j (k + m) with hm | hm
      · rw [List.getElem?_append_left (by simp; omega), List.getElem?_replicate, if_pos (by omega), if_pos hm]
      · rw [List.getElem?_append_right (by simp; omega), List.getElem?_drop, List.length_replicate, rowv_get (by omega) (by omega), if_neg (by omega), if_neg (by omega)]
  · have e := rowv_len (show k ≤ n by omega)
    rw [List.getElem?_eq_none (l := rowv (k + m) n) (by rw [rowv_len h]; exact hj), List.getElem?_eq_none]
    simp [e]
    omega
theorem rowv_one {n : Nat} (h : 1 ≤ n) : splice (zeros n).toList 0 [.int .i64 (-1)] = rowv 1 n := by
  have e : (zeros n).toList = rowv 0 n := by
    refine List.ext_getElem? fun j => ?_
    rcases Nat.lt_or_ge j n with hj | hj
    · rw [rowv_get (Nat.zero_le _) hj, if_neg (by omega), Array.getElem?_toList, zeros_get n j hj]
    · rw [List.getElem?_eq_none (l := rowv 0 n) (by rw [rowv_len (Nat.zero_le _)]; exact hj), List.getElem?_eq_none]
      simpa [zeros, madeCells] using hj
  rw [e]
  exact rowv_splice (k := 0) (m := 1) (by omega)
theorem info_size_int64 : (Tryd.prog.info? 2).map (·.size) = some 1 := by kernel_rfl

theorem get_lt1 {α : Type} {fs : List α} {i : Nat} {v : α} (h : fs[i]? = some v) : i < fs.length := by
  rcases Nat.lt_or_ge i fs.length with h1 | h1
  · exact h1
  · rw [List.getElem?_eq_none h1] at h
    cases h
end Go.Proofs.YtdbgcbkmcbgdiaaDoor.mem

namespace Go.Proofs.YtdbgcbkmcbgdiaaDoor.mem
open Go.RowKit
set_option linter.unusedVariables false
attribute [local go_sem] Oper.semAt_some

def encV (v : Vs) : Array Value := #[.agg #[.int .i64 v.nd, .int .i64 v.en, .int .i64 v.ds]]
/-- the table of the visits so far lies in block b -/
structure Fnd (w : World) (b : Nat) (fs : List Vs) : Prop where
  ex : ∃ d, Ob w b 72 d ∧ ∀ i v, fs[i]? = some v → d (i * 3) = .int .i64 v.nd ∧ d (i * 3 + 1) = .int .i64 v.en ∧ d (i * 3 + 2) = .int .i64 v.ds
theorem Fnd.keep {w w' : World} {b : Nat} {fs : List Vs} (h : Fnd w b fs) (e : w'.heap[b]? = w.heap[b]?) : Fnd w' b fs := by
  obtain ⟨d, h1, h2⟩ := h.ex
  exact ⟨d, h1.keep e, h2⟩
theorem Fnd.lt {w : World} {b : Nat} {fs : List Vs} (h : Fnd w b fs) : b < w.heap.size := by
  obtain ⟨d, h1, h2⟩ := h.ex
  exact h1.lt
theorem Fnd.cell {w : World} {b : Nat} {fs : List Vs} (h : Fnd w b fs) {i : Nat} {v : Vs} (hv : fs[i]? = some v) (hi : i < 24) :
    w.cell? ⟨b, i * 3, none⟩ = some (.int .i64 v.nd) ∧ w.cell? ⟨b, i * 3 + 1, none⟩ = some (.int .i64 v.en) ∧ w.cell? ⟨b, i * 3 + 2, none⟩ = some (.int .i64 v.ds) := by
  obtain ⟨d, h1, h2⟩ := h.ex
  obtain ⟨e0, e1, e2⟩ := h2 i v hv
  rw [← e0, ← e1, ← e2]
  exact ⟨h1.cell _ (by omega), h1.cell _ (by omega), h1.cell _ (by omega)⟩
theorem Fnd.free {w : World} {b : Nat} {fs : List Vs} (h : Fnd w b fs) (k : Nat) : w.frozen? ⟨b, k, none⟩ = false := by
  obtain ⟨d, h1, h2⟩ := h.ex
  exact h1.free k
theorem Fnd.has {w : World} {b : Nat} {fs : List Vs} (h : Fnd w b fs) (k : Nat) (hk : k < 72) : ∃ v, w.cell? ⟨b, k, none⟩ = some v := by
  obtain ⟨d, h1, h2⟩ := h.ex
  exact ⟨_, h1.cell k hk⟩
theorem Fnd.more {w : World} {b : Nat} {fs : List Vs} (h : Fnd w b fs) (v : Vs) (hl : fs.length < 24) :
    Fnd (((w.setCell ⟨b, fs.length * 3, none⟩ (.int .i64 v.nd)).setCell ⟨b, fs.length * 3 + 1, none⟩ (.int .i64 v.en)).setCell ⟨b, fs.length * 3 + 2, none⟩ (.int .i64 v.ds)) b (fs ++ [v]) := by
  obtain ⟨d, h1, h2⟩ := h.ex
  refine ⟨_, ((h1.set _ _ (by omega)).set _ _ (by omega)).set _ _ (by omega), fun i u hu => ?_⟩
  unfold updV
  rcases Nat.lt_or_ge i fs.length with hi | hi
  · rw [List.getElem?_append_left hi] at hu
    obtain ⟨e0, e1, e2⟩ := h2 i u hu
    refine ⟨?_, ?_, ?_⟩
    · rw [if_neg (by omega), if_neg (by omega), if_neg (by omega), e0]
    · rw [if_neg (by omega), if_neg (by omega), if_neg (by omega), e1]
    · rw [if_neg (by omega), if_neg (by omega), if_neg (by omega), e2]
  · have hil := get_lt hu
    simp only [List.length_append, List.length_cons, List.length_nil] at hil
    obtain rfl : i = fs.length := by omega
    simp only [List.getElem?_append_right (Nat.le_refl _), Nat.sub_self, List.getElem?_cons_zero, Option.some.injEq] at hu
    subst hu
    refine ⟨?_, ?_, ?_⟩
    · rw [if_neg (by omega), if_neg (by omega), if_pos rfl]
    · rw [if_neg (by omega), if_pos rfl]
    · rw [if_pos rfl]
theorem Fnd.nil {w : World} {b : Nat} {d : Nat → Value} (h : Ob w b 72 d) : Fnd w b [] := ⟨d, h, fun i v hv => by simp at hv⟩
def vsC (v : Vs) : Nat → Value := fun k => if k = 0 then .int .i64 v.nd else if k = 1 then .int .i64 v.en else .int .i64 v.ds
theorem boxedV (w : World) (v : Vs) (t : TypeId) : Ob (w.alloc (.cells #[.int .i64 v.nd, .int .i64 v.en, .int .i64 v.ds] t)) w.heap.size 3 (vsC v) :=
  Ob.new w _ _ 3 _ rfl (by intro k hk; rcases (by omega : k = 0 ∨ k = 1 ∨ k = 2) with rfl | rfl | rfl <;> rfl)
/-- which nodes have been visited, block b -/
def flagC (fs : List Vs) : Nat → Value := fun k => .bool (vhas fs ((k : Nat) : Int))
theorem flag_more {w : World} {b : Nat} {fs : List Vs} (h : Ob w b 24 (flagC fs)) (v : Vs) (k : Nat) (hk : k < 24) (e : v.nd = (k : Int)) : Ob (w.setCell ⟨b, k, none⟩ (.bool true)) b 24 (flagC (fs ++ [v])) := by
  refine (h.set k (.bool true) hk).congr fun j hj => ?_
  unfold updV flagC
  rw [vhas_app, e]
  by_cases hjk : j = k
  · subst hjk
    simp
  · rw [if_neg hjk]
    have : (((k : Nat) : Int) == ((j : Nat) : Int)) = false := by rw [beq_eq_false_iff_ne]; omega
    rw [this, Bool.or_false]

theorem start_flags (W : World) (X0 : Nat) (hX : X0 < 24) (t : TypeId) (l : List Value) (hl : l.length = 24) (h0 : ∀ k, k < 24 → l[k]? = some (.bool false)) (v : Vs) (hv : v.nd = (X0 : Int)) :
    Ob (W.alloc (.cells (l.set X0 (.bool true)).toArray t)) W.heap.size 24 (flagC [v]) := by
  refine Ob.new _ _ _ _ _ (by simp [hl]) fun k hk => ?_
  simp only [List.getElem?_toArray, List.getElem?_set, h0 k hk, hl]
  unfold flagC
  have e : vhas [v] ((k : Nat) : Int) = (v.nd == ((k : Nat) : Int)) := by simp [vhas]
  rw [e, hv]
  by_cases hk0 : X0 = k
  · subst hk0
    simp [hX]
  · have : (((X0 : Nat) : Int) == ((k : Nat) : Int)) = false := by rw [beq_eq_false_iff_ne]; omega
    simp [hk0, this]
theorem start_fnd (W : World) (cur : Array Value) (t : TypeId) (hs : cur.size = 72) (v : Vs) (e0 : cur[0]? = some (.int .i64 v.nd)) (e1 : cur[1]? = some (.int .i64 v.en)) (e2 : cur[2]? = some (.int .i64 v.ds)) :
    Fnd (W.alloc (.cells cur t)) W.heap.size [v] := by
  refine ⟨fun k => (cur[k]?).getD default, Ob.new _ _ _ _ _ hs fun k hk => ?_, fun i u hu => ?_⟩
  · rw [Array.getElem?_eq_getElem (by omega)]
    rfl
  · have := get_lt hu
    simp only [List.length_cons, List.length_nil] at this
    obtain rfl : i = 0 := by omega
    simp only [List.getElem?_cons_zero, Option.some.injEq] at hu
    subst hu
    simp only [Nat.zero_mul, Nat.zero_add]
    rw [e0, e1, e2]
    exact ⟨rfl, rfl, rfl⟩

theorem Vok.dsle {n : Nat} {P : Nat → Pip} {m : Nat} {x : Int} {fs : List Vs} (h : Vok n P m x fs) : ∀ (i : Nat) (v : Vs), fs[i]? = some v → v.ds ≤ i := by
  intro i
  induction i using Nat.strongRecOn with
  | _ i ih =>
    intro v hv
    rcases Nat.eq_zero_or_pos i with rfl | hi
    · rw [h.fst] at hv
      injection hv with hv
      subst hv
      exact Int.le_refl _
    · obtain ⟨j, u, k, hj, hu, _, _, _, _, hd⟩ := h.par i v hi hv
      have := ih j hj u hu
      omega
/-- between two rounds: k visits have been handed out -/
def VRel (R : Nat → Prop) (B : Nat) (w : World) (P : Nat → Pip) (m : Nat) (x : Int) (J : List Vs → (Nat → Prop) → World → Prop) (cnt i : Value) (wr : World) : Prop :=
  ∃ (k : Nat) (fs : List Vs) (Y : Nat → Prop), i = .int .i64 k ∧ cnt = .int .i64 fs.length ∧ fs = vup P m x k ∧ k ≤ fs.length ∧ J (fs.take k) Y wr ∧ Upd (fun b => ¬ R b) w wr ∧ B + 2 ≤ wr.heap.size ∧
    Ob wr B 24 (flagC fs) ∧ Fnd wr (B + 1) fs ∧ ∀ b, Y b → b < wr.heap.size ∧ b ≠ B ∧ b ≠ B + 1 ∧ ¬ R b
/-- between two pipes: the first q pipes of visit v have been looked at, which lies in block bv -/
def VRel2 (R : Nat → Prop) (B bv : Nat) (w : World) (P : Nat → Pip) (m : Nat) (v : Vs) (fs : List Vs) (J : (Nat → Prop) → World → Prop) (cnt i : Value) (wr : World) : Prop :=
  ∃ (q : Nat) (gs : List Vs) (Y : Nat → Prop), i = .int .i64 q ∧ q ≤ m ∧ cnt = .int .i64 gs.length ∧ gs = vrow P v q fs ∧ J Y wr ∧ Upd (fun b => ¬ R b) w wr ∧ B + 2 ≤ wr.heap.size ∧
    Ob wr B 24 (flagC gs) ∧ Fnd wr (B + 1) gs ∧ Ob wr bv 3 (vsC v) ∧ ∀ b, Y b → b < wr.heap.size ∧ b ≠ B ∧ b ≠ B + 1 ∧ b ≠ bv ∧ ¬ R b

end Go.Proofs.YtdbgcbkmcbgdiaaDoor.mem

namespace Go.Proofs.YtdbgcbkmcbgdiaaDoor.mem
open Go.RowKit
set_option linter.unusedVariables false
attribute [local go_sem] Oper.semAt_some

theorem NetAt.parts {w : World} {v : Value} {n : Nat} {N : Nat → Nod} {m : Nat} {P : Nat → Pip} {lo hi : Nat} (h : NetAt w v n N m P lo hi) :
    ∃ p0 c0 p1 c1, v = .agg #[.slice p0 n c0, .slice p1 m c1] ∧ n ≤ 9223372036854775807 ∧ m ≤ 9223372036854775807 := by
  obtain ⟨v0, v1, rfl, g0, g1⟩ := h.ex
  obtain ⟨p0, c0, rfl, h1, h2, _⟩ := g0.ex
  obtain ⟨p1, c1, rfl, h3, h4, _⟩ := g1.ex
  exact ⟨p0, c0, p1, c1, rfl, by omega, by omega⟩

theorem one_new (w : World) (x : Int) (t : TypeId) : (w.alloc (.cells #[.int .i64 x] t)).cell? ⟨w.heap.size, 0, none⟩ = some (.int .i64 x) := by
  simp only [World.cell?, heap_alloc_new w (.cells #[.int .i64 x] t)]
  rfl

end Go.Proofs.YtdbgcbkmcbgdiaaDoor.mem

namespace Go.Proofs.YtdbgcbkmcbgdiaaDoor.mem
open Go.RowKit
set_option linter.unusedVariables false
attribute [local go_sem] Oper.semAt_some

/-- a variable's box -/
theorem Ob.one (w : World) (v : Value) (t : TypeId) : Ob (w.alloc (.cells #[v] t)) w.heap.size 1 (fun _ => v) := Ob.new w _ _ 1 _ rfl (by intro k hk; have : k = 0 := (by omega); subst this; rfl)
/-- a table over the nodes -/
def tabC (f : Int → Int) : Nat → Value := fun k => .int .i64 (f ((k : Nat) : Int))
/-- the invariant of a loop that fills a table in block g, which lies in the box be -/
def TabI (f : List Vs → Int → Int) (g be n : Nat) (v : Value) (w : World) (pre : List Vs) (Y : Nat → Prop) (A : World) : Prop :=
  Y = (fun b => b = g) ∧ Ob A g n (tabC (f pre)) ∧ Ob A be 1 (fun _ => v) ∧ Below w.heap.size w A

theorem TabI.upd {f : List Vs → Int → Int} {g be n : Nat} {v : Value} {w : World} {pre : List Vs} {Y X : Nat → Prop} {A B : World} (h : TabI f g be n v w pre Y A) (u : Upd X A B) (hg : ¬ X g) (hb : ¬ X be) (hX : ∀ k, X k → w.heap.size ≤ k) : TabI f g be n v w pre Y B := by
  obtain ⟨h1, h2, h3, h4⟩ := h
  exact ⟨h1, h2.keep (u.block _ h2.lt hg), h3.keep (u.block _ h3.lt hb), h4.trans (u.below h4.size (fun k _ hk => hX k hk))⟩
/-- the visit that a round gets: not yet visited, a node -/
theorem Vok.round {n : Nat} {P : Nat → Pip} {m : Nat} {x : Int} {fs pre post : List Vs} {u : Vs} (h : Vok n P m x fs) (e : fs = pre ++ u :: post) : vhas pre u.nd = false ∧ ∃ Z : Nat, u.nd = ((Z : Nat) : Int) ∧ Z < n := by
  have hg : fs[pre.length]? = some u := by rw [e]; simp
  have h1 := h.has_take hg
  rw [show fs.take pre.length = pre by rw [e]; simp] at h1
  obtain ⟨h2, h3⟩ := h.rng u (List.mem_of_getElem? hg)
  obtain ⟨Z, hZ⟩ := Int.eq_ofNat_of_zero_le h2
  exact ⟨h1, Z, hZ, by omega⟩
theorem tab_step {A : World} {g n : Nat} {f : Vs → Int} {pre : List Vs} {u : Vs} {Z : Nat} (h : Ob A g n (tabC (vval f pre))) (h1 : vhas pre u.nd = false) (hZ : u.nd = ((Z : Nat) : Int)) (hn : Z < n) :
    Ob (A.setCell ⟨g, Z, none⟩ (.int .i64 (f u))) g n (tabC (vval f (pre ++ [u]))) := by
  refine (h.set Z _ hn).congr fun k hk => ?_
  unfold updV tabC
  rw [vval_app h1, hZ]
  by_cases hkz : k = Z
  · subst hkz
    rw [if_pos rfl, if_pos rfl]
  · rw [if_neg hkz, if_neg (by omega)]

end Go.Proofs.YtdbgcbkmcbgdiaaDoor.mem

namespace Go.Proofs.YtdbgcbkmcbgdiaaDoor.mem
open Go.RowKit
set_option linter.unusedVariables false
attribute [local go_sem] Oper.semAt_some

/-- the code of an argument that is a node -/
noncomputable def ndC (n : Nat) (N : Nat → Nod) (m : Nat) (P : Nat → Pip) (x : Int) : Int := codeB (netB n N m P) (inR x 0 (n - 1))
noncomputable def ndN (n : Nat) (N : Nat → Nod) (m : Nat) (P : Nat → Pip) (x : Int) : Nat := if ndC n N m P x = 0 then n else 0
theorem Ob.ownT {w : World} {g n : Nat} {f : Int → Int} (h : Ob w g n (tabC f)) (hn : n ≤ 24) : OwnS w (.slice (some ⟨g, 0, none⟩) n n) n 1 (fun i _ => .int .i64 (f ((i : Nat) : Int))) g := by
  refine ⟨_, n, rfl, Nat.le_refl _, by omega, .inr ⟨rfl, ⟨n, tabC f, by omega, h, fun i j hi hj => ?_⟩⟩⟩
  obtain rfl : j = 0 := by omega
  rw [Nat.mul_one, Nat.add_zero]
  rfl
theorem li_tab {w w' : World} {cnt g n : Nat} {f : Int → Int} {c : Int} {e : Ending} (h0 : n = cnt) (hc : 0 = c) (he : e = .returned (.tuple #[.slice (some ⟨g, 0, none⟩) n n, .int .i64 0])) (h : Ob w' g n (tabC f)) (hn : n ≤ 24) (hg : w.heap.size ≤ g) (hb : Below w.heap.size w w') : LIPost w cnt (fun k => f ((k : Nat) : Int)) c e w' := by
  subst h0 hc
  exact ⟨_, g, he, h.ownT hn, hg, hb⟩
theorem ndC_zero {n : Nat} {N : Nat → Nod} {m : Nat} {P : Nat → Pip} {x : Int} (h : ndC n N m P x = 0) : netB n N m P = true ∧ ∃ X0 : Nat, x = ((X0 : Nat) : Int) ∧ X0 < n := by
  obtain ⟨h1, h2⟩ := codeB_zero h
  obtain ⟨h3, h4⟩ := inR_iff.1 h2
  obtain ⟨X0, hX⟩ := Int.eq_ofNat_of_zero_le h3
  have := (net_sz h1).1
  exact ⟨h1, X0, hX, by omega⟩

end Go.Proofs.YtdbgcbkmcbgdiaaDoor.mem

namespace Go.Proofs.YtdbgcbkmcbgdiaaDoor.mem
open Go.RowKit
set_option linter.unusedVariables false

theorem fl_getS {p : Nat → Bool} {m i : Nat} (hi : i < (fl p m).length) : ((fl p m)[i]?).getD 0 < m ∧ p (((fl p m)[i]?).getD 0) = true := by
  rw [List.getElem?_eq_getElem hi, Option.getD_some]
  have := List.getElem_mem hi
  exact fl_lt this
/-- the pipes at a visit's node, looked at one after the other -/
def vls (P : Nat → Pip) (v : Vs) (l : List Nat) (fs : List Vs) : List Vs := l.foldl (vadd P v) fs
theorem vls_all (P : Nat → Pip) (v : Vs) (fs : List Vs) : ∀ m, vls P v (fl (paP P v.nd) m) fs = vrow P v m fs
  | 0 => rfl
  | m + 1 => by
    have ih := vls_all P v fs m
    rw [vrow_succ]
    cases h : paP P v.nd m
    · rw [fl_no h, ih]
      have h' : endB (P m) v.nd = false := h
      unfold vadd
      rw [h']
      rfl
    · rw [fl_yes h]
      unfold vls at ih ⊢
      rw [List.foldl_append, ih]
      rfl
theorem vls_one {P : Nat → Pip} {v : Vs} {l : List Nat} {i a : Nat} {fs : List Vs} (h : l[i]? = some a) : vls P v (l.take (i + 1)) fs = vadd P v (vls P v (l.take i) fs) a := by
  unfold vls
  rw [take_one h, List.foldl_append]
  rfl
theorem vls_pre (P : Nat → Pip) (v : Vs) : ∀ (l : List Nat) (fs : List Vs), fs <+: vls P v l fs
  | [], fs => List.prefix_refl _
  | a :: l, fs => (vadd_pre P v fs a).trans (vls_pre P v l (vadd P v fs a))
theorem Vok.ls {n : Nat} {N : Nat → Nod} {P : Nat → Pip} {m : Nat} {x : Int} {j : Nat} {u : Vs} (hN : netB n N m P = true) : ∀ (l : List Nat) (fs : List Vs), Vok n P m x fs → fs[j]? = some u → (∀ a ∈ l, a < m) → Vok n P m x (vls P u l fs)
  | [], _, h, _, _ => h
  | a :: l, fs, h, hu, hl => by
    refine Vok.ls hN l (vadd P u fs a) ?_ (pre_get (vadd_pre P u fs a) hu) (fun b hb => hl b (by simp [hb]))
    unfold vadd
    split
    · next hc =>
      simp only [Bool.and_eq_true, Bool.not_eq_true'] at hc
      exact h.app hu (hl a (by simp)) hc.1 hc.2 (oth_rng (net_pip hN (hl a (by simp))))
    · exact h
/-- the nodes of visits -/
def ordD (fs : List Vs) : Nat → Int := fun j => match fs[j]? with
  | some v => v.nd
  | none => 0
theorem ordD_some {fs : List Vs} {j : Nat} {v : Vs} (h : fs[j]? = some v) : ordD fs j = v.nd := by unfold ordD; rw [h]
theorem ordD_pre {a b : List Vs} (h : a <+: b) {j : Nat} (hj : j < a.length) : ordD b j = ordD a j := by
  have e := List.getElem?_eq_getElem hj
  rw [ordD_some e, ordD_some (pre_get h e)]
theorem ordD_last (fs : List Vs) (v : Vs) : ordD (fs ++ [v]) fs.length = v.nd := ordD_some (by simp)
theorem tab_more {A : World} {g n : Nat} {f : Vs → Int} {pre : List Vs} {u : Vs} {Z : Nat} (h : Ob A g n (tabC (vval f pre))) (h1 : vhas pre u.nd = false) (hZ : u.nd = ((Z : Nat) : Int)) (hn : Z < n) :
    Ob (A.setCell ⟨g, Z, none⟩ (.int .i64 (f u))) g n (tabC (vval f (pre ++ [u]))) := tab_step h h1 hZ hn
theorem flag_set {w : World} {b n : Nat} {fs : List Vs} (h : Ob w b n (flagC fs)) (v : Vs) (k : Nat) (hk : k < n) (e : v.nd = (k : Int)) : Ob (w.setCell ⟨b, k, none⟩ (.bool true)) b n (flagC (fs ++ [v])) := by
  refine (h.set k (.bool true) hk).congr fun j hj => ?_
  unfold updV flagC
  rw [vhas_app, e]
  by_cases hjk : j = k
  · subst hjk
    simp
  · rw [if_neg hjk]
    have : (((k : Nat) : Int) == ((j : Nat) : Int)) = false := by rw [beq_eq_false_iff_ne]; omega
    rw [this, Bool.or_false]
theorem info_make_bool : (Tryd.prog.info? 4).map (fun i => (i.zero, i.size, i.bytes)) = some (some (.bool false), 1, 1) := by kernel_rfl
def falses (n : Nat) : Array Value := madeCells #[.bool false] n
theorem falses_get (n k : Nat) (h : k < n) : (falses n)[k]? = some (.bool false) := by
  unfold falses madeCells
  have : k % 1 = 0 := Nat.mod_one k
  simp [h, this]
theorem size_falses (n : Nat) : (falses n).size = n := by simp [falses, madeCells]
theorem size_zeros (n : Nat) : (zeros n).size = n := by simp [zeros, madeCells]
theorem ob_zeros (w : World) (n : Nat) (t : TypeId) : Ob (w.alloc (.cells (zeros n) t)) w.heap.size n (fun _ => .int .i64 0) := Ob.new w _ _ n _ (size_zeros n) (fun k hk => zeros_get n k hk)
theorem ob_falses (w : World) (n : Nat) (t : TypeId) : Ob (w.alloc (.cells (falses n) t)) w.heap.size n (flagC []) := Ob.new w _ _ n _ (size_falses n) (fun k hk => falses_get n k hk)
/-- the first k cells are -1 -/
def fillC (k : Nat) : Nat → Value := fun j => .int .i64 (if j < k then -1 else 0)
theorem fill_set {w : World} {g n k : Nat} (h : Ob w g n (fillC k)) (hk : k < n) : Ob (w.setCell ⟨g, k, none⟩ (.int .i64 (-1))) g n (fillC (k + 1)) := by
  refine (h.set k _ hk).congr fun j hj => ?_
  unfold updV fillC
  by_cases e : j = k
  · subst e
    rw [if_pos rfl, if_pos (by omega)]
  · rw [if_neg e]
    by_cases h1 : j < k
    · rw [if_pos h1, if_pos (by omega)]
    · rw [if_neg h1, if_neg (by omega)]
end Go.Proofs.YtdbgcbkmcbgdiaaDoor.mem

namespace Go.Proofs.YtdbgcbkmcbgdiaaDoor.mem
open Go.RowKit
set_option linter.unusedVariables false

theorem Own.one (w : World) (x : Int) : Own (w.alloc (.cells #[.int .i64 x] 2)) (.slice (some ⟨w.heap.size, 0, none⟩) 1 1) 1 (fun _ => x) w.heap.size :=
  ⟨1, _, rfl, heap_alloc_new w _, Nat.le_refl _, by simp [maxLen], rfl, fun k hk => by have : k = 0 := (by omega); subst this; rfl⟩
/-- what lies in the search's own blocks: the box, the entries, the flags -/
structure SrM (w : World) (v0 v1 : Value) (n : Nat) (fs : List Vs) (wr : World) : Prop where
  box : Ob wr w.heap.size 2 (bx v0 v1)
  ent : Ob wr (w.heap.size + 1) n (tabC (vval (·.en) fs))
  flg : Ob wr (w.heap.size + 2) n (flagC fs)
  bel : Below w.heap.size w wr
theorem SrM.keep {w : World} {v0 v1 : Value} {n : Nat} {fs : List Vs} {wr w' : World} (h : SrM w v0 v1 n fs wr) (b : Below (w.heap.size + 3) wr w') : SrM w v0 v1 n fs w' :=
  ⟨h.box.below b (by omega), h.ent.below b (by omega), h.flg.below b (by omega), h.bel.trans (b.mono (by omega))⟩
/-- between two nodes -/
def SRel (w : World) (v0 v1 : Value) (n : Nat) (P : Nat → Pip) (m : Nat) (x : Int) (ov kv : Value) (wr : World) : Prop :=
  ∃ (k : Nat) (fs : List Vs) (go : Nat), kv = .int .i64 k ∧ fs = vup P m x k ∧ k ≤ fs.length ∧ Own wr ov fs.length (ordD fs) go ∧ w.heap.size + 3 ≤ go ∧ SrM w v0 v1 n fs wr
/-- between two pipes at a node -/
def SRel2 (w : World) (v0 v1 : Value) (n : Nat) (P : Nat → Pip) (v : Vs) (l : List Nat) (d : Nat → Int) (fs : List Vs) (av : Value) (ga : Nat) (ov iv : Value) (wr : World) : Prop :=
  ∃ (i : Nat) (gs : List Vs) (go : Nat), iv = .int .i64 i ∧ i ≤ l.length ∧ gs = vls P v (l.take i) fs ∧ Own wr ov gs.length (ordD gs) go ∧ w.heap.size + 3 ≤ go ∧ Own wr av l.length d ga ∧ ga ≠ go ∧ SrM w v0 v1 n gs wr

end Go.Proofs.YtdbgcbkmcbgdiaaDoor.mem

namespace Go.Proofs.YtdbgcbkmcbgdiaaDoor.mem
open Go.RowKit
set_option linter.unusedVariables false

theorem ndN_le (n : Nat) (N : Nat → Nod) (m : Nat) (P : Nat → Pip) (x : Int) (hn : n ≤ 2000000) : ndN n N m P x ≤ 2000000 := by
  unfold ndN
  split <;> omega
end Go.Proofs.YtdbgcbkmcbgdiaaDoor.mem

namespace Go.Proofs.YtdbgcbkmcbgdiaaDoor.mem
open Go.RowKit
set_option linter.unusedVariables false

/-- a visit behind the first one: where it came from -/
theorem Vok.from {n : Nat} {N : Nat → Nod} {P : Nat → Pip} {m : Nat} {x : Int} {fs : List Vs} (hN : netB n N m P = true) (h : Vok n P m x fs) {k : Nat} {v : Vs} (hk : 0 < k) (hv : fs[k]? = some v) :
    ∃ (a Y Z : Nat), a < m ∧ pipB n (P a) = true ∧ v.nd = (Z : Int) ∧ Z < n ∧ Y < n ∧ Y ≠ Z ∧ vval (·.en) fs (Z : Int) = (a : Int) ∧ (P a).f + (P a).t - (Z : Int) = (Y : Int) ∧ vval (·.ds) (fs.take k) (Y : Int) = v.ds - 1 ∧ 1 ≤ v.ds ∧ v.ds ≤ k := by
  obtain ⟨j, u, a, hj, hu, ha, hen, he, hnd, hds⟩ := h.par k v hk hv
  have hp := net_pip hN ha
  have hoo := oth_oth hp he
  obtain ⟨hz0, hz1⟩ := h.rng v (List.mem_of_getElem? hv)
  obtain ⟨Z, hZ⟩ := Int.eq_ofNat_of_zero_le hz0
  obtain ⟨hy0, hy1⟩ := h.rng u (List.mem_of_getElem? hu)
  obtain ⟨Y, hY⟩ := Int.eq_ofNat_of_zero_le hy0
  have d0 := h.ds0 j u hu
  have d1 := h.dsle k v hv
  have hval : vval (·.en) fs v.nd = (a : Int) := by rw [h.val (·.en) hv]; exact hen
  have hoth : (P a).f + (P a).t - v.nd = u.nd := by
    rw [hnd, sum_other hp hoo.2.1]
    exact hoo.1
  have hne : u.nd ≠ v.nd := by rw [hnd]; exact fun e => hoo.2.2 e.symm
  have hut : (fs.take k)[j]? = some u := by rw [List.getElem?_take_of_lt hj]; exact hu
  have okt : vval (·.ds) (fs.take k) u.nd = u.ds := by
    unfold vval
    have hjl := get_lt hut
    have : (fs.take k).find? (fun w => w.nd == u.nd) = some u := by
      rw [List.find?_eq_some_iff_getElem]
      have hg : (fs.take k)[j] = u := by
        rw [List.getElem?_eq_getElem hjl] at hut
        injection hut
      refine ⟨by simp, j, hjl, hg, fun i hi => ?_⟩
      have hil : i < fs.length := by simp at hjl; omega
      have hjl2 : j < fs.length := by simp at hjl; omega
      have := List.pairwise_iff_getElem.1 h.dis i j hil hjl2 hi
      have hg2 : fs[j] = u := by rw [List.getElem_take] at hg; exact hg
      rw [hg2] at this
      simpa using this
    rw [this]
  refine ⟨a, Y, Z, ha, hp, hZ, by omega, by omega, by omega, by rw [← hZ]; exact hval, by rw [← hZ, ← hY]; exact hoth, by rw [← hY, okt]; omega, by omega, d1⟩

theorem keep5 {W : World} {b g g2 ge k Y Z : Nat} {v0 v1 v2 v3 v4 q : Value} (h : W.cell? ⟨b, 0, none⟩ = some v0 ∧ W.cell? ⟨b, 1, none⟩ = some v1 ∧ W.cell? ⟨g2, k, none⟩ = some v2 ∧ W.cell? ⟨ge, Z, none⟩ = some v3 ∧ W.cell? ⟨g, Y, none⟩ = some v4)
    (h1 : b ≠ g) (h2 : g2 ≠ g) (h3 : ge ≠ g) (h4 : Y ≠ Z) : (W.setCell ⟨g, Z, none⟩ q).cell? ⟨b, 0, none⟩ = some v0 ∧ (W.setCell ⟨g, Z, none⟩ q).cell? ⟨b, 1, none⟩ = some v1 ∧ (W.setCell ⟨g, Z, none⟩ q).cell? ⟨g2, k, none⟩ = some v2 ∧ (W.setCell ⟨g, Z, none⟩ q).cell? ⟨ge, Z, none⟩ = some v3 ∧ (W.setCell ⟨g, Z, none⟩ q).cell? ⟨g, Y, none⟩ = some v4 :=
  ⟨(World.cell?_setCell_other _ _ _ _ (by intro e; injection e; omega)).trans h.1, (World.cell?_setCell_other _ _ _ _ (by intro e; injection e; omega)).trans h.2.1, (World.cell?_setCell_other _ _ _ _ (by intro e; injection e; omega)).trans h.2.2.1, (World.cell?_setCell_other _ _ _ _ (by intro e; injection e; omega)).trans h.2.2.2.1, (World.cell?_setCell_other _ _ _ _ (by intro e; injection e; omega)).trans h.2.2.2.2⟩
end Go.Proofs.YtdbgcbkmcbgdiaaDoor.mem
