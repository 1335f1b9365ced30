/-
  The search: paths back, components, roots. Pure. Conditions: as each states.
-/
import Derived.Test.YtkgekaedpdgmdaaRows
import Derived.Test.YtkgekaedpdgmdaaVis
namespace Go.Proofs.Ytkgekaedpdgmdaa.mem
open Go.RowKit
set_option linter.unusedVariables false

theorem get_lt {α : Type} {fs : List α} {i : Nat} {v : α} (h : fs[i]? = some v) : i < fs.length := by
  rcases Nat.lt_or_ge i fs.length with g | g
  · exact g
  · rw [List.getElem?_eq_none g] at h; cases h
theorem Vok.ds0 {n : Nat} {P : Nat → Pip} {m : Nat} {x : Int} {fs : List Vs} (h : Vok n P m x fs) : ∀ (i : Nat) (v : Vs), fs[i]? = some v → 0 ≤ v.ds := by
  intro i
  induction i using Nat.strongRecOn with
  | _ i ih =>
    intro v hv
    rcases Nat.eq_zero_or_pos i with rfl | hi
    · rw [h.fst] at hv
      injection hv with hv
      subst hv
      exact Int.le_refl _
    · obtain ⟨j, u, k, hj, hu, _, _, _, _, hd⟩ := h.par i v hi hv
      have := ih j hj u hu
      omega
theorem Vok.inj {n : Nat} {P : Nat → Pip} {m : Nat} {x : Int} {fs : List Vs} (h : Vok n P m x fs) {i j : Nat} {u v : Vs} (hu : fs[i]? = some u) (hv : fs[j]? = some v) (e : u.nd = v.nd) : i = j := by
  have hi := get_lt hu
  have hj := get_lt hv
  rw [List.getElem?_eq_getElem hi] at hu
  rw [List.getElem?_eq_getElem hj] at hv
  injection hu with hu
  injection hv with hv
  subst hu hv
  rcases Nat.lt_trichotomy i j with g | g | g
  · exact absurd e (List.pairwise_iff_getElem.1 h.dis i j hi hj g)
  · exact g
  · exact absurd e.symm (List.pairwise_iff_getElem.1 h.dis j i hj hi g)
/-- a node that has been visited stands somewhere -/
theorem vhas_get {fs : List Vs} {y : Int} (h : vhas fs y = true) : ∃ (i : Nat) (v : Vs), fs[i]? = some v ∧ v.nd = y := by
  obtain ⟨v, hv, e⟩ := vhas_iff.1 h
  obtain ⟨i, hi, rfl⟩ := List.mem_iff_getElem.1 hv
  exact ⟨i, _, List.getElem?_eq_getElem hi, e⟩
theorem get_vhas {fs : List Vs} {i : Nat} {v : Vs} (h : fs[i]? = some v) : vhas fs v.nd = true := vhas_iff.2 ⟨v, List.mem_of_getElem? h, rfl⟩
theorem vval_no {f : Vs → Int} {fs : List Vs} {y : Int} (h : vhas fs y = false) : vval f fs y = -1 := by
  unfold vval
  have : fs.find? (fun v => v.nd == y) = none := by
    rw [List.find?_eq_none]
    intro v hv hq
    have : vhas fs y = true := vhas_iff.2 ⟨v, hv, by simpa using hq⟩
    rw [h] at this
    cases this
  rw [this]
/-- a node is not visited exactly where its distance is less than 0, and where it has no entry and isn't the first -/
theorem Vok.dist_no {n : Nat} {P : Nat → Pip} {m : Nat} {x : Int} {fs : List Vs} (h : Vok n P m x fs) (y : Int) : decide (vval (·.ds) fs y < 0) = !(vhas fs y) := by
  cases hv : vhas fs y
  · rw [vval_no hv]; rfl
  · obtain ⟨i, v, hi, rfl⟩ := vhas_get hv
    have := h.ds0 i v hi
    rw [h.val (·.ds) hi]
    simpa using this
theorem Vok.entry_no {n : Nat} {P : Nat → Pip} {m : Nat} {x : Int} {fs : List Vs} (h : Vok n P m x fs) {y : Int} (hy : x ≠ y) : (vval (·.en) fs y == -1) = !(vhas fs y) := by
  cases hv : vhas fs y
  · rw [vval_no hv]; rfl
  · obtain ⟨i, v, hi, rfl⟩ := vhas_get hv
    rw [h.val (·.en) hi]
    rcases Nat.eq_zero_or_pos i with rfl | h0
    · rw [h.fst] at hi
      injection hi with hi
      subst hi
      exact absurd rfl hy
    · obtain ⟨j, u, k, _, _, _, hk, _⟩ := h.par i v h0 hi
      rw [hk]
      simp only [Bool.not_true, beq_eq_false_iff_ne]
      omega

/-- the pipes back to the first node, with fuel -/
def pth (P : Nat → Pip) (fs : List Vs) (a : Int) : Nat → Int → List Int
  | 0, _ => []
  | f + 1, b => if b = a then [] else vval (·.en) fs b :: pth P fs a f (othV (P (vval (·.en) fs b).toNat) b)
theorem Vok.pth_fuel {n : Nat} {N : Nat → Nod} {P : Nat → Pip} {m : Nat} {x : Int} {fs : List Vs} (hN : netB n N m P = true) (h : Vok n P m x fs) : ∀ (i : Nat) (v : Vs), fs[i]? = some v → ∀ f, i ≤ f → pth P fs x f v.nd = pth P fs x i v.nd := by
  intro i
  induction i using Nat.strongRecOn with
  | _ i ih =>
    intro v hv f hf
    rcases Nat.eq_zero_or_pos i with rfl | hi
    · rw [h.fst] at hv
      injection hv with hv
      subst hv
      cases f <;> simp [pth]
    · obtain ⟨j, u, k, hj, hu, hk, he, hb, hn, hd⟩ := h.par i v hi hv
      obtain ⟨f', rfl⟩ : ∃ f', f = f' + 1 := ⟨f - 1, by omega⟩
      obtain ⟨i', rfl⟩ : ∃ i', i = i' + 1 := ⟨i - 1, by omega⟩
      have hne : v.nd ≠ x := by
        intro e
        have := h.inj hv h.fst e
        omega
      have ho := (oth_oth (net_pip hN hk) hb).1
      rw [← hn] at ho
      have hvv : vval (·.en) fs v.nd = (k : Nat) := (h.val (·.en) hv).trans he
      simp only [pth, if_neg hne, hvv, Int.toNat_natCast, ho]
      rw [ih j hj u hu f' (by omega), ih j hj u hu i' (by omega)]
/-- one step back -/
theorem Vok.back {n : Nat} {N : Nat → Nod} {P : Nat → Pip} {m : Nat} {x : Int} {fs : List Vs} (hN : netB n N m P = true) (h : Vok n P m x fs) {i : Nat} {v : Vs} (hv : fs[i]? = some v) (hne : v.nd ≠ x) :
    ∃ (j : Nat) (u : Vs) (k : Nat), j < i ∧ fs[j]? = some u ∧ k < m ∧ vval (·.en) fs v.nd = (k : Nat) ∧ endB (P k) v.nd = true ∧ othV (P k) v.nd = u.nd ∧ pth P fs x n v.nd = (k : Int) :: pth P fs x n u.nd := by
  have hi : 0 < i := by
    rcases Nat.eq_zero_or_pos i with rfl | hi
    · rw [h.fst] at hv
      injection hv with hv
      subst hv
      exact absurd rfl hne
    · exact hi
  obtain ⟨j, u, k, hj, hu, hk, he, hb, hn, hd⟩ := h.par i v hi hv
  have ho := oth_oth (net_pip hN hk) hb
  rw [← hn] at ho
  have hvv : vval (·.en) fs v.nd = (k : Nat) := (h.val (·.en) hv).trans he
  refine ⟨j, u, k, hj, hu, hk, hvv, ho.2.1, ho.1, ?_⟩
  have hl := get_lt hv
  have hl2 := h.len
  obtain ⟨n', e⟩ : ∃ n', n = n' + 1 := ⟨n - 1, by omega⟩
  rw [h.pth_fuel hN j u hu n (by omega), ← h.pth_fuel hN j u hu n' (by omega), e]
  simp only [pth, if_neg hne, hvv, Int.toNat_natCast, ho.1]
theorem pth_self {P : Nat → Pip} {fs : List Vs} {a : Int} : ∀ f, pth P fs a f a = []
  | 0 => rfl
  | f + 1 => by simp [pth]
theorem Vok.pth_len {n : Nat} {N : Nat → Nod} {P : Nat → Pip} {m : Nat} {x : Int} {fs : List Vs} (hN : netB n N m P = true) (h : Vok n P m x fs) : ∀ (i : Nat) (v : Vs), fs[i]? = some v → (pth P fs x n v.nd).length ≤ i := by
  intro i
  induction i using Nat.strongRecOn with
  | _ i ih =>
    intro v hv
    by_cases e : v.nd = x
    · rw [e, pth_self]; exact Nat.zero_le _
    · obtain ⟨j, u, k, hj, hu, _, _, _, _, hp⟩ := h.back hN hv e
      have := ih j hj u hu
      rw [hp]
      simp only [List.length_cons]
      omega

/-- the least node of a node's component, the first k nodes being done -/
def cmp (n : Nat) (P : Nat → Pip) (m : Nat) : Nat → Int → Int
  | 0, _ => -1
  | k + 1, y => if cmp n P m k k = -1 ∧ vhas (vis n P m k) y = true then k else cmp n P m k y
theorem cmp_skip {n : Nat} {P : Nat → Pip} {m k : Nat} (h : cmp n P m k k ≠ -1) : cmp n P m (k + 1) = cmp n P m k := by
  funext y
  simp [cmp, h]
theorem cmp_take {n : Nat} {P : Nat → Pip} {m k : Nat} (h : cmp n P m k k = -1) (y : Int) : cmp n P m (k + 1) y = if vhas (vis n P m k) y = true then (k : Int) else cmp n P m k y := by
  simp [cmp, h]
theorem cmp_rng (n : Nat) (P : Nat → Pip) (m : Nat) : ∀ (k : Nat) (y : Int), -1 ≤ cmp n P m k y ∧ cmp n P m k y < k
  | 0, y => by simp [cmp]
  | k + 1, y => by
    have := cmp_rng n P m k y
    unfold cmp
    split <;> omega
/-- the roots: the least nodes of the components -/
def rts (n : Nat) (P : Nat → Pip) (m : Nat) (i : Nat) : Bool := decide (cmp n P m n i = i)
def cnt (n : Nat) (P : Nat → Pip) (m : Nat) : Nat := (fl (rts n P m) n).length
/-- while the visits from k come -/
def cmpV (n : Nat) (P : Nat → Pip) (m k : Nat) (fs : List Vs) (y : Int) : Int := if vhas fs y = true then (k : Int) else cmp n P m k y
theorem cmpV_nil (n : Nat) (P : Nat → Pip) (m k : Nat) : cmpV n P m k [] = cmp n P m k := by
  funext y
  simp [cmpV, vhas]
theorem cmpV_app (n : Nat) (P : Nat → Pip) (m k : Nat) (fs : List Vs) (v : Vs) (y : Int) : cmpV n P m k (fs ++ [v]) y = if y = v.nd then (k : Int) else cmpV n P m k fs y := by
  unfold cmpV
  rw [vhas_app]
  by_cases e : y = v.nd
  · subst e; simp
  · have e2 : (v.nd == y) = false := by simpa using fun q => e q.symm
    rw [if_neg e, e2, Bool.or_false]
theorem cmpV_all {n : Nat} {P : Nat → Pip} {m k : Nat} (h : cmp n P m k k = -1) : cmpV n P m k (vis n P m k) = cmp n P m (k + 1) := by
  funext y
  rw [cmp_take h]
  rfl
end Go.Proofs.Ytkgekaedpdgmdaa.mem
