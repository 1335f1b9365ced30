/-
  Several texts in one: Anc, Sgn, Cya, Cyb, Cyd, Fen, Fsi.
-/
import Derived.Test.YtdbgcbkmcbgdiaaDoorRows
import Derived.Test.YtdbgcbkmcbgdiaaDoorPth
import Derived.Test.YtdbgcbkmcbgdiaaDoorToN
import Derived.Test.YtdbgcbkmcbgdiaaDoorFoM
import Derived.OwnWalkIn
namespace Go.Proofs.YtdbgcbkmcbgdiaaDoor.mem
open Go.RowKit
set_option linter.unusedVariables false

/-- the node that lies j pipes ahead of b on the way to it -/
def anc (P : Nat → Pip) (fs : List Vs) (b : Int) : Nat → Int
  | 0 => b
  | j + 1 => othV (P (vval (·.en) fs (anc P fs b j)).toNat) (anc P fs b j)
theorem Vok.step2 {n : Nat} {N : Nat → Nod} {P : Nat → Pip} {m : Nat} {x : Int} {fs : List Vs} (hN : netB n N m P = true) (h : Vok n P m x fs) {y : Int} (hy : vhas fs y = true) (hne : y ≠ x) :
    ∃ (a : Nat) (u : Int), a < m ∧ vval (·.en) fs y = (a : Int) ∧ endB (P a) y = true ∧ othV (P a) y = u ∧ vhas fs u = true ∧ pth P fs x n y = (a : Int) :: pth P fs x n u := by
  obtain ⟨i, v, hv, rfl⟩ := vhas_get hy
  obtain ⟨j, u, a, hj, hu, ha, hen, he, ho, hp⟩ := h.back hN hv hne
  exact ⟨a, u.nd, ha, hen, he, ho, get_vhas hu, hp⟩
theorem Vok.anc_ok {n : Nat} {N : Nat → Nod} {P : Nat → Pip} {m : Nat} {x : Int} {fs : List Vs} (hN : netB n N m P = true) (h : Vok n P m x fs) {b : Int} (hb : vhas fs b = true) :
    ∀ j, j ≤ (pth P fs x n b).length → vhas fs (anc P fs b j) = true ∧ (pth P fs x n b).drop j = pth P fs x n (anc P fs b j)
  | 0, _ => ⟨hb, rfl⟩
  | j + 1, hj => by
    obtain ⟨h1, h2⟩ := Vok.anc_ok hN h hb j (by omega)
    have hne : anc P fs b j ≠ x := by
      intro e
      rw [e, pth_self] at h2
      have := congrArg List.length h2
      simp only [List.length_drop, List.length_nil] at this
      omega
    obtain ⟨a, u, ha, hen, he, ho, hu, hp⟩ := h.step2 hN h1 hne
    have e : anc P fs b (j + 1) = u := by
      show othV (P (vval (·.en) fs (anc P fs b j)).toNat) (anc P fs b j) = u
      rw [hen, Int.toNat_natCast, ho]
    rw [e]
    refine ⟨hu, ?_⟩
    rw [← List.drop_drop, h2, hp]
    rfl
theorem Vok.anc_end {n : Nat} {N : Nat → Nod} {P : Nat → Pip} {m : Nat} {x : Int} {fs : List Vs} (hN : netB n N m P = true) (h : Vok n P m x fs) {b : Int} (hb : vhas fs b = true) :
    anc P fs b (pth P fs x n b).length = x := by
  obtain ⟨h1, h2⟩ := h.anc_ok hN hb _ (Nat.le_refl _)
  rw [List.drop_length] at h2
  by_cases e : anc P fs b (pth P fs x n b).length = x
  · exact e
  · obtain ⟨a, u, _, _, _, _, _, hp⟩ := h.step2 hN h1 e
    rw [hp] at h2
    cases h2
/-- one step along the path -/
theorem sp_walk {n : Nat} {N : Nat → Nod} {P : Nat → Pip} {m : Nat} {x y : Int} (hN : netB n N m P = true) (hx : 0 ≤ x ∧ x ≤ (n : Int) - 1) (hy : vhas (vis n P m x) y = true) {k : Nat} (hk : k < (spL n P m x y).length) :
    ∃ (a Z : Nat), spD n P m x y k = (a : Int) ∧ a < m ∧ anc P (vis n P m x) y ((spL n P m x y).length - k) = (Z : Int) ∧ Z < n ∧ endB (P a) (Z : Int) = true ∧ othV (P a) (Z : Int) = anc P (vis n P m x) y ((spL n P m x y).length - (k + 1)) := by
  have ok := vis_ok (P := P) (m := m) hN hx
  unfold spL at hk ⊢
  obtain ⟨h1, h2⟩ := ok.anc_ok hN hy ((pth P (vis n P m x) x n y).length - (k + 1)) (by omega)
  obtain ⟨h3, h4⟩ := ok.anc_ok hN hy ((pth P (vis n P m x) x n y).length - k) (by omega)
  have hne : anc P (vis n P m x) y ((pth P (vis n P m x) x n y).length - (k + 1)) ≠ x := by
    intro e
    rw [e, pth_self] at h2
    have := congrArg List.length h2
    simp only [List.length_drop, List.length_nil] at this
    omega
  obtain ⟨a, u, ha, hen, he, ho, hu, hp⟩ := ok.step2 hN h1 hne
  have hsucc : (pth P (vis n P m x) x n y).length - k = ((pth P (vis n P m x) x n y).length - (k + 1)) + 1 := by omega
  have e : anc P (vis n P m x) y ((pth P (vis n P m x) x n y).length - k) = u := by
    rw [hsucc]
    show othV (P (vval (·.en) (vis n P m x) (anc P (vis n P m x) y ((pth P (vis n P m x) x n y).length - (k + 1)))).toNat) _ = u
    rw [hen, Int.toNat_natCast, ho]
  obtain ⟨i, v, hv, hvn⟩ := vhas_get h3
  obtain ⟨r0, r1⟩ := ok.rng v (List.mem_of_getElem? hv)
  rw [hvn] at r0 r1
  obtain ⟨Z, hZ⟩ := Int.eq_ofNat_of_zero_le r0
  have hb := oth_oth (net_pip hN ha) he
  rw [ho, ← e, hZ] at hb
  refine ⟨a, Z, ?_, ha, hZ, by omega, hb.2.1, hb.1⟩
  unfold spD spL
  rw [List.getElem?_reverse hk]
  have h5 : (pth P (vis n P m x) x n y)[(pth P (vis n P m x) x n y).length - 1 - k]? = some (a : Int) := by
    have h6 := congrArg (fun l => l[0]?) (h2.trans hp)
    simp only [List.getElem?_drop, List.getElem?_cons_zero] at h6
    rw [show (pth P (vis n P m x) x n y).length - 1 - k = (pth P (vis n P m x) x n y).length - (k + 1) + 0 by omega]
    exact h6
  rw [h5]
  rfl

/-- distances rise along the visits, and by 1 at most -/
def Mon (i : Nat) (fs : List Vs) : Prop := fs.Pairwise (fun a b => a.ds ≤ b.ds) ∧ ∀ u, fs[i]? = some u → ∀ v ∈ fs, v.ds ≤ u.ds + 1
theorem vrow_mem (P : Nat → Pip) (u : Vs) (fs : List Vs) : ∀ k v, v ∈ vrow P u k fs → v ∈ fs ∨ v.ds = u.ds + 1
  | 0, v, h => .inl h
  | k + 1, v, h => by
    rw [vrow_succ] at h
    unfold vadd at h
    split at h
    · rcases List.mem_append.1 h with h | h
      · exact vrow_mem P u fs k v h
      · obtain rfl := List.mem_singleton.1 h
        exact .inr rfl
    · exact vrow_mem P u fs k v h
theorem vrow_mon {P : Nat → Pip} {u : Vs} {fs : List Vs} (h1 : fs.Pairwise (fun a b => a.ds ≤ b.ds)) (h2 : ∀ v ∈ fs, v.ds ≤ u.ds + 1) : ∀ k, (vrow P u k fs).Pairwise (fun a b => a.ds ≤ b.ds)
  | 0 => h1
  | k + 1 => by
    have ih := vrow_mon (P := P) h1 h2 k
    rw [vrow_succ]
    unfold vadd
    split
    · rw [List.pairwise_append]
      refine ⟨ih, List.pairwise_singleton _ _, fun a ha b hb => ?_⟩
      obtain rfl := List.mem_singleton.1 hb
      rcases vrow_mem P u fs k a ha with h | h
      · exact h2 a h
      · exact Int.le_of_eq h
    · exact ih
theorem vup_mon (P : Nat → Pip) (m : Nat) (x : Int) : ∀ i, i ≤ (vup P m x i).length → Mon i (vup P m x i)
  | 0, _ => ⟨List.pairwise_singleton _ _, fun u hu v hv => by
      have h1 := List.mem_singleton.1 hv
      have h2 : (⟨x, -1, 0⟩ : Vs) = u := by simpa [vup] using hu
      rw [h1, ← h2]
      show (0 : Int) ≤ 0 + 1
      omega⟩
  | i + 1, hi => by
    cases hg : (vup P m x i)[i]? with
    | none =>
      have hl : (vup P m x i).length ≤ i := by simpa using hg
      rw [vup_stop hl] at hi
      omega
    | some u =>
      have hil := get_lt hg
      obtain ⟨h1, h2⟩ := vup_mon P m x i (by omega)
      have h3 := h2 u hg
      rw [vup_succ hg]
      have hm := vrow_mon (P := P) h1 h3 m
      refine ⟨hm, fun u' hu' v hv => ?_⟩
      have hui : (vrow P u m (vup P m x i))[i]? = some u := pre_get (vrow_pre P u _ m) hg
      have hl' := get_lt hu'
      have hle : u.ds ≤ u'.ds := by
        rw [List.getElem?_eq_getElem (by omega)] at hui hu'
        injection hui with hui
        injection hu' with hu'
        have := List.pairwise_iff_getElem.1 hm i (i + 1) (by omega) hl' (by omega)
        rw [hui, hu'] at this
        exact this
      rcases vrow_mem P u _ m v hv with h | h
      · have := h3 v h
        omega
      · omega
/-- a pipe's other end is at most one further away -/
theorem dist_next {n : Nat} {N : Nat → Nod} {P : Nat → Pip} {m : Nat} {x : Int} (hN : netB n N m P = true) (hx : 0 ≤ x ∧ x ≤ (n : Int) - 1) {y : Int} (hy : vhas (vis n P m x) y = true) {q : Nat} (hq : q < m) (he : endB (P q) y = true) :
    vhas (vis n P m x) (othV (P q) y) = true ∧ vval (·.ds) (vis n P m x) (othV (P q) y) ≤ vval (·.ds) (vis n P m x) y + 1 := by
  have ok := vis_ok (P := P) (m := m) hN hx
  refine ⟨vis_closed hN hx hy hq he, ?_⟩
  obtain ⟨i, v, hv, rfl⟩ := vhas_get hy
  have hl := get_lt hv
  have hl2 := ok.len
  have hi : (vup P m x i)[i]? = some v := by
    rcases Nat.lt_or_ge i (vup P m x i).length with h | h
    · have := pre_get (vup_vis (P := P) (m := m) hN hx (i := i)) (List.getElem?_eq_getElem h)
      rw [List.getElem?_eq_getElem h]
      rw [hv] at this
      exact this.symm
    · have := vup_end (P := P) (m := m) hN hx h (by omega)
      rw [this] at h
      omega
  have hm := (vup_mon P m x i (by have := get_lt hi; omega)).2 v hi
  have h1 := vup_vis (P := P) (m := m) hN hx (i := i + 1)
  rw [vup_succ hi] at h1
  obtain ⟨j, w, hw, hwn⟩ := vhas_get (vrow_has (fs := vup P m x i) m q hq he)
  have hvw : vval (·.ds) (vis n P m x) w.nd = w.ds := ok.val (·.ds) (pre_get h1 hw)
  rw [← hwn, hvw, ok.val (·.ds) hv]
  rcases vrow_mem P v _ m w (List.mem_of_getElem? hw) with h | h
  · exact hm w h
  · exact Int.le_of_eq h
/-- the path has as many pipes as the distance says -/
theorem Vok.pth_ds {n : Nat} {N : Nat → Nod} {P : Nat → Pip} {m : Nat} {x : Int} {fs : List Vs} (hN : netB n N m P = true) (h : Vok n P m x fs) : ∀ (i : Nat) (v : Vs), fs[i]? = some v → (((pth P fs x n v.nd).length : Nat) : Int) = v.ds := by
  intro i
  induction i using Nat.strongRecOn with
  | _ i ih =>
    intro v hv
    rcases Nat.eq_zero_or_pos i with rfl | hi
    · rw [h.fst] at hv
      injection hv with hv
      subst hv
      rw [pth_self]
      rfl
    · have hne : v.nd ≠ x := by
        intro e
        have := h.inj hv h.fst e
        omega
      obtain ⟨j, u, k, hj, hu, hk, hen, he, hnd, hds⟩ := h.par i v hi hv
      obtain ⟨a, u', ha, hen', he', ho', hu', hp'⟩ := h.step2 hN (get_vhas hv) hne
      have hak : a = k := by
        have := h.val (·.en) hv
        rw [hen'] at this
        have h2 : ((a : Nat) : Int) = (k : Nat) := by rw [this]; exact hen
        omega
      subst hak
      have hu2 : u' = u.nd := by
        have := (oth_oth (net_pip hN ha) he).1
        rw [← hnd, ho'] at this
        exact this
      rw [hp', hu2, List.length_cons]
      have := ih j hj u hu
      omega
end Go.Proofs.YtdbgcbkmcbgdiaaDoor.mem

namespace Go.Proofs.YtdbgcbkmcbgdiaaDoor.mem
/-- the flow of 1 that leaves this end of the pipe -/
def sgn (q : Pip) (z : Int) : Int := if q.f = z then 1 else -1
end Go.Proofs.YtdbgcbkmcbgdiaaDoor.mem

namespace Go.Proofs.YtdbgcbkmcbgdiaaDoor.mem
open Go.RowKit
set_option linter.unusedVariables false

/-- what flows out of a node through the first k pipes, less what flows into it -/
def dv (P : Nat → Pip) (x : Nat → Int) : Nat → Int → Int
  | 0, _ => 0
  | k + 1, z => dv P x k z + (if (P k).f = z then x k else 0) - (if (P k).t = z then x k else 0)
theorem dv_congr {P : Nat → Pip} {x y : Nat → Int} {z : Int} : ∀ {k : Nat}, (∀ i, i < k → x i = y i) → dv P x k z = dv P y k z
  | 0, _ => rfl
  | k + 1, h => by
    unfold dv
    rw [dv_congr (k := k) (fun i hi => h i (by omega)), h k (by omega)]
theorem dv_add (P : Nat → Pip) (x y : Nat → Int) (z : Int) : ∀ (k : Nat), dv P (fun a => x a + y a) k z = dv P x k z + dv P y k z
  | 0 => rfl
  | k + 1 => by
    unfold dv
    rw [dv_add P x y z k]
    split <;> split <;> omega
theorem dv_sub (P : Nat → Pip) (x y : Nat → Int) (z : Int) : ∀ (k : Nat), dv P (fun a => x a - y a) k z = dv P x k z - dv P y k z
  | 0 => rfl
  | k + 1 => by
    unfold dv
    rw [dv_sub P x y z k]
    split <;> split <;> omega
theorem dv_mul (P : Nat → Pip) (c : Int) (x : Nat → Int) (z : Int) : ∀ (k : Nat), dv P (fun a => c * x a) k z = c * dv P x k z
  | 0 => by unfold dv; rw [Int.mul_zero]
  | k + 1 => by
    unfold dv
    rw [dv_mul P c x z k]
    split <;> split <;> simp only [Int.mul_add, Int.mul_sub, Int.mul_zero]
theorem dv_zero (P : Nat → Pip) (z : Int) : ∀ (k : Nat), dv P (fun _ => 0) k z = 0
  | 0 => rfl
  | k + 1 => by
    unfold dv
    rw [dv_zero P z k]
    split <;> split <;> rfl
/-- only one pipe at the node carries a flow -/
theorem dv_only {P : Nat → Pip} {x : Nat → Int} {a : Nat} {z : Int} : ∀ (k : Nat), (∀ b, b < k → b ≠ a → endB (P b) z = true → x b = 0) →
    dv P x k z = if a < k then (if (P a).f = z then x a else 0) - (if (P a).t = z then x a else 0) else 0
  | 0, _ => by rw [if_neg (by omega)]; rfl
  | k + 1, h => by
    have ih := dv_only (P := P) (x := x) (a := a) (z := z) k (fun b hb => h b (by omega))
    unfold dv
    rw [ih]
    by_cases e : k = a
    · subst e
      rw [if_neg (Nat.lt_irrefl k), if_pos (Nat.lt_succ_self k), Int.zero_add]
    · have hk := h k (by omega) e
      have h0 : ∀ c : Int, (P k).f = c → c = z → x k = 0 := fun c h1 h2 => hk (by unfold endB; simp [h1, h2])
      have h1 : ∀ c : Int, (P k).t = c → c = z → x k = 0 := fun c h1 h2 => hk (by unfold endB; simp [h1, h2])
      have e1 : (if (P k).f = z then x k else 0) = 0 := by split <;> first | rfl | exact h0 _ rfl ‹_›
      have e2 : (if (P k).t = z then x k else 0) = 0 := by split <;> first | rfl | exact h1 _ rfl ‹_›
      rw [e1, e2]
      by_cases hl : a < k
      · rw [if_pos hl, if_pos (show a < k + 1 by omega), Int.add_zero, Int.sub_zero]
      · rw [if_neg hl, if_neg (show ¬ a < k + 1 by omega)]; rfl
/-- the flow of 1 through one pipe -/
def one1 (c : Nat) (a : Nat) : Int := if a = c then 1 else 0
theorem dv_one {P : Nat → Pip} {c : Nat} {z : Int} {k : Nat} (h : c < k) : dv P (one1 c) k z = (if (P c).f = z then 1 else 0) - (if (P c).t = z then 1 else 0) := by
  rw [dv_only (a := c) k (fun b _ hb _ => by unfold one1; rw [if_neg hb]), if_pos h]
  unfold one1
  rw [if_pos rfl]

/-- each node but the first ones has the pipe it was come to by, and lies one further away than that pipe's other end -/
structure Fo (n : Nat) (P : Nat → Pip) (m : Nat) (E D : Int → Int) : Prop where
  pip : ∀ a, a < m → pipB n (P a) = true
  par : ∀ z : Int, 0 ≤ z → z < n → E z = -1 ∨ ∃ a : Nat, a < m ∧ E z = (a : Int) ∧ endB (P a) z = true ∧ D z = D (othV (P a) z) + 1
  bnd : ∀ z : Int, 0 ≤ z → z < n → 0 ≤ D z ∧ D z ≤ n
theorem Fo.oth {n : Nat} {P : Nat → Pip} {m : Nat} {E D : Int → Int} (h : Fo n P m E D) {a : Nat} (ha : a < m) (z : Int) : 0 ≤ othV (P a) z ∧ othV (P a) z < n := by
  have := oth_rng (y := z) (h.pip a ha)
  omega
theorem Fo.uniq {n : Nat} {P : Nat → Pip} {m : Nat} {E D : Int → Int} (h : Fo n P m E D) {y z : Int} {a : Nat} (hy : 0 ≤ y ∧ y < n) (hz : 0 ≤ z ∧ z < n) (ey : E y = (a : Int)) (ez : E z = (a : Int)) : y = z := by
  rcases h.par y hy.1 hy.2 with e | ⟨b, hb, e, by1, dy⟩
  · omega
  rcases h.par z hz.1 hz.2 with e2 | ⟨c, hc, e2, bz, dz⟩
  · omega
  obtain rfl : b = a := by omega
  obtain rfl : c = b := by omega
  rcases end_two (h.pip c hc) by1 bz with e3 | e3
  · exact e3.symm
  · have h1 := (oth_oth (h.pip c hc) by1).1
    rw [← e3] at dy h1
    rw [h1] at dz
    omega
/-- a flow through the forest alone that balances nothing is 0 -/
theorem Fo.zero {n : Nat} {P : Nat → Pip} {m : Nat} {E D : Int → Int} (h : Fo n P m E D) {x : Nat → Int} (hs : ∀ a, a < m → x a ≠ 0 → ∃ z : Int, 0 ≤ z ∧ z < n ∧ E z = (a : Int)) (hd : ∀ z : Int, 0 ≤ z → z < n → dv P x m z = 0) : ∀ a, a < m → x a = 0 := by
  have key : ∀ (j : Nat) (z : Int), 0 ≤ z → z < n → (n : Int) - D z < j → ∀ a : Nat, a < m → E z = (a : Int) → x a = 0 := by
    intro j
    induction j with
    | zero => intro z h0 h1 hj; have := h.bnd z h0 h1; omega
    | succ j ih =>
      intro z h0 h1 hj a ha he
      rcases h.par z h0 h1 with e | ⟨b, hb, e, bz, dz⟩
      · omega
      obtain rfl : b = a := by omega
      have h2 := dv_only (P := P) (x := x) (a := b) (z := z) m (fun c hc hne hcz => by
        by_cases hx : x c = 0
        · exact hx
        · obtain ⟨y, y0, y1, ey⟩ := hs c hc hx
          rcases h.par y y0 y1 with e3 | ⟨d, hd', e3, byd, dy⟩
          · omega
          obtain rfl : d = c := by omega
          rcases end_two (h.pip d hd') hcz byd with e4 | e4
          · subst e4; omega
          · have h5 := (oth_oth (h.pip d hd') hcz).1
            rw [← e4] at h5
            rw [h5] at dy
            exact ih y y0 y1 (by omega) d hd' ey)
      rw [hd z h0 h1, if_pos hb] at h2
      have hp := h.pip b hb
      unfold pipB at hp
      simp only [Bool.and_eq_true, bne_iff_ne] at hp
      unfold endB at bz
      simp only [Bool.or_eq_true, beq_iff_eq] at bz
      rcases bz with e5 | e5
      · rw [if_pos e5, if_neg (by omega)] at h2; omega
      · rw [if_neg (by omega), if_pos e5] at h2; omega
  intro a ha
  by_cases hx : x a = 0
  · exact hx
  · obtain ⟨z, h0, h1, he⟩ := hs a ha hx
    exact key (n + 1) z h0 h1 (by have := h.bnd z h0 h1; omega) a ha he


def ascF (P : Nat → Pip) (E : Int → Int) : Nat → Int → Nat → Int
  | 0, _, _ => 0
  | f + 1, z, a => if E z = -1 then 0 else (if ((a : Nat) : Int) = E z then sgn (P a) z else 0) + ascF P E f (othV (P (E z).toNat) z) a
/-- the flow of 1 from a node up to the first one -/
def asc (P : Nat → Pip) (E D : Int → Int) (z : Int) (a : Nat) : Int := ascF P E (D z).toNat z a
theorem Fo.asc_top {n : Nat} {P : Nat → Pip} {m : Nat} {E D : Int → Int} (h : Fo n P m E D) {z : Int} (e : E z = -1) (a : Nat) : asc P E D z a = 0 := by
  unfold asc
  cases (D z).toNat with
  | zero => rfl
  | succ k => unfold ascF; rw [if_pos e]
theorem Fo.asc_up {n : Nat} {P : Nat → Pip} {m : Nat} {E D : Int → Int} (h : Fo n P m E D) {z : Int} (hz : 0 ≤ z ∧ z < n) {c : Nat} (hc : c < m) (e : E z = (c : Int)) (a : Nat) : asc P E D z a = (if a = c then sgn (P c) z else 0) + asc P E D (othV (P c) z) a := by
  rcases h.par z hz.1 hz.2 with e3 | ⟨d, hd, e3, _, dz⟩
  · omega
  obtain rfl : d = c := by omega
  have ho := h.oth hd z
  have hb := h.bnd _ ho.1 ho.2
  unfold asc
  rw [show (D z).toNat = (D (othV (P d) z)).toNat + 1 by omega]
  rw [ascF, if_neg (by omega), e, Int.toNat_natCast]
  congr 1
  by_cases h1 : a = d
  · subst h1; rw [if_pos rfl, if_pos rfl]
  · rw [if_neg (by omega), if_neg h1]
/-- induction along the way up -/
theorem Fo.ind {n : Nat} {P : Nat → Pip} {m : Nat} {E D : Int → Int} (h : Fo n P m E D) {Q : Int → Prop} (h0 : ∀ z : Int, 0 ≤ z ∧ z < n → E z = -1 → Q z)
    (h1 : ∀ z : Int, 0 ≤ z ∧ z < n → ∀ c : Nat, c < m → E z = (c : Int) → endB (P c) z = true → D z = D (othV (P c) z) + 1 → Q (othV (P c) z) → Q z) (z : Int) (hz : 0 ≤ z ∧ z < n) : Q z := by
  have key : ∀ (j : Nat) (z : Int), 0 ≤ z ∧ z < n → D z < j → Q z := by
    intro j
    induction j with
    | zero => intro z hz hj; have := h.bnd z hz.1 hz.2; omega
    | succ j ih =>
      intro z hz hj
      rcases h.par z hz.1 hz.2 with e | ⟨c, hc, e, b, d⟩
      · exact h0 z hz e
      · exact h1 z hz c hc e b d (ih _ (h.oth hc z) (by omega))
  have := h.bnd z hz.1 hz.2
  exact key ((D z).toNat + 1) z hz (by omega)
/-- the way up goes through entries of nodes that lie no further away -/
theorem Fo.asc_sup {n : Nat} {P : Nat → Pip} {m : Nat} {E D : Int → Int} (h : Fo n P m E D) {z : Int} (hz : 0 ≤ z ∧ z < n) : ∀ a : Nat, asc P E D z a ≠ 0 → ∃ y : Int, 0 ≤ y ∧ y < n ∧ E y = (a : Int) ∧ D y ≤ D z := by
  refine h.ind (Q := fun z => ∀ a : Nat, asc P E D z a ≠ 0 → ∃ y : Int, 0 ≤ y ∧ y < n ∧ E y = (a : Int) ∧ D y ≤ D z) ?_ ?_ z hz
  · intro z _ e a ha
    exact absurd (h.asc_top e a) ha
  · intro z hz c hc e b d ih a ha
    by_cases hac : a = c
    · subst hac
      exact ⟨z, hz.1, hz.2, e, Int.le_refl _⟩
    · rw [h.asc_up hz hc e, if_neg hac, Int.zero_add] at ha
      obtain ⟨y, y0, y1, y2, y3⟩ := ih a ha
      exact ⟨y, y0, y1, y2, by omega⟩
theorem Fo.asc_own {n : Nat} {P : Nat → Pip} {m : Nat} {E D : Int → Int} (h : Fo n P m E D) {z : Int} (hz : 0 ≤ z ∧ z < n) {c : Nat} (hc : c < m) (e : E z = (c : Int)) : asc P E D (othV (P c) z) c = 0 := by
  by_cases hx : asc P E D (othV (P c) z) c = 0
  · exact hx
  · obtain ⟨y, y0, y1, y2, y3⟩ := h.asc_sup (h.oth hc z) c hx
    have := h.uniq ⟨y0, y1⟩ hz y2 e
    subst this
    rcases h.par y hz.1 hz.2 with e3 | ⟨d, hd, e3, _, dz⟩
    · omega
    obtain rfl : d = c := by omega
    omega
theorem sgn_rng (q : Pip) (z : Int) : sgn q z = 1 ∨ sgn q z = -1 := by
  unfold sgn
  split <;> simp
theorem Fo.asc_rng {n : Nat} {P : Nat → Pip} {m : Nat} {E D : Int → Int} (h : Fo n P m E D) {z : Int} (hz : 0 ≤ z ∧ z < n) : ∀ a : Nat, -1 ≤ asc P E D z a ∧ asc P E D z a ≤ 1 := by
  refine h.ind (Q := fun z => ∀ a : Nat, -1 ≤ asc P E D z a ∧ asc P E D z a ≤ 1) ?_ ?_ z hz
  · intro z _ e a
    rw [h.asc_top e a]
    omega
  · intro z hz c hc e b d ih a
    rw [h.asc_up hz hc e]
    by_cases hac : a = c
    · subst hac
      rw [if_pos rfl, h.asc_own hz hc e]
      have := sgn_rng (P a) z
      omega
    · rw [if_neg hac, Int.zero_add]
      exact ih a
/-- it starts at the node and ends at the first one -/
theorem Fo.asc_dv {n : Nat} {P : Nat → Pip} {m : Nat} {E D R : Int → Int} (h : Fo n P m E D) (r0 : ∀ z : Int, 0 ≤ z ∧ z < n → E z = -1 → R z = z) (r1 : ∀ z : Int, 0 ≤ z ∧ z < n → ∀ c : Nat, c < m → E z = (c : Int) → R (othV (P c) z) = R z) {z : Int} (hz : 0 ≤ z ∧ z < n) :
    ∀ y, dv P (asc P E D z) m y = (if z = y then 1 else 0) - (if R z = y then 1 else 0) := by
  refine h.ind (Q := fun z => ∀ y, dv P (asc P E D z) m y = (if z = y then 1 else 0) - (if R z = y then 1 else 0)) ?_ ?_ z hz
  · intro z hz e y
    rw [dv_congr (y := fun _ => 0) (fun a _ => h.asc_top e a), dv_zero, r0 z hz e]
    omega
  · intro z hz c hc e b d ih y
    rw [dv_congr (y := fun a => sgn (P c) z * one1 c a + asc P E D (othV (P c) z) a) (fun a _ => by
      rw [h.asc_up hz hc e]
      unfold one1
      split <;> simp), dv_add, dv_mul, dv_one hc, ih y, r1 z hz c hc e]
    have hp := h.pip c hc
    unfold pipB at hp
    simp only [Bool.and_eq_true, bne_iff_ne] at hp
    unfold endB at b
    simp only [Bool.or_eq_true, beq_iff_eq] at b
    unfold sgn othV
    by_cases hf : (P c).f = z
    · rw [if_pos hf, if_pos hf, hf]
      omega
    · have ht : (P c).t = z := b.resolve_left hf
      rw [if_neg hf, if_neg hf, ht]
      omega

/-- the cycle of a pipe outside of the forest -/
def cyc (P : Nat → Pip) (E D : Int → Int) (c a : Nat) : Int := one1 c a + asc P E D (P c).t a - asc P E D (P c).f a
theorem pip_end {n : Nat} {q : Pip} (h : pipB n q = true) : (0 ≤ q.f ∧ q.f < n) ∧ (0 ≤ q.t ∧ q.t < n) ∧ q.f ≠ q.t := by
  unfold pipB at h
  simp only [Bool.and_eq_true, bne_iff_ne, inR_iff] at h
  omega
theorem Fo.cyc_dv {n : Nat} {P : Nat → Pip} {m : Nat} {E D R : Int → Int} (h : Fo n P m E D) (r0 : ∀ z : Int, 0 ≤ z ∧ z < n → E z = -1 → R z = z) (r1 : ∀ z : Int, 0 ≤ z ∧ z < n → ∀ c : Nat, c < m → E z = (c : Int) → R (othV (P c) z) = R z) {c : Nat} (hc : c < m) (rc : R (P c).f = R (P c).t) (y : Int) : dv P (cyc P E D c) m y = 0 := by
  obtain ⟨h1, h2, _⟩ := pip_end (h.pip c hc)
  have e : cyc P E D c = fun a => (one1 c a + asc P E D (P c).t a) - asc P E D (P c).f a := rfl
  rw [e, dv_sub, dv_add, dv_one hc, h.asc_dv r0 r1 h2, h.asc_dv r0 r1 h1, rc]
  omega
/-- on the pipes outside of the forest it is 1 on its own one alone -/
theorem Fo.cyc_chord {n : Nat} {P : Nat → Pip} {m : Nat} {E D : Int → Int} (h : Fo n P m E D) {c : Nat} (hc : c < m) {a : Nat} (ha : ∀ z : Int, 0 ≤ z → z < n → E z ≠ (a : Int)) : cyc P E D c a = one1 c a := by
  obtain ⟨h1, h2, _⟩ := pip_end (h.pip c hc)
  have e : ∀ z : Int, 0 ≤ z ∧ z < n → asc P E D z a = 0 := fun z hz => by
    by_cases hx : asc P E D z a = 0
    · exact hx
    · obtain ⟨y, y0, y1, y2, _⟩ := h.asc_sup hz a hx
      exact absurd y2 (ha y y0 y1)
  unfold cyc
  rw [e _ h1, e _ h2]
  omega
theorem Fo.cyc_rng {n : Nat} {P : Nat → Pip} {m : Nat} {E D : Int → Int} (h : Fo n P m E D) {c : Nat} (hc : c < m) (a : Nat) : -3 ≤ cyc P E D c a ∧ cyc P E D c a ≤ 3 := by
  obtain ⟨h1, h2, _⟩ := pip_end (h.pip c hc)
  have e1 := h.asc_rng h1 a
  have e2 := h.asc_rng h2 a
  unfold cyc one1
  split <;> omega
end Go.Proofs.YtdbgcbkmcbgdiaaDoor.mem

namespace Go.Proofs.YtdbgcbkmcbgdiaaDoor.mem
open Go.RowKit
set_option linter.unusedVariables false

/-- a node of a root's search: its component is the root's -/
theorem cmp_root {n : Nat} {N : Nat → Nod} {P : Nat → Pip} {m : Nat} (hN : netB n N m P = true) {r : Nat} (hr : r < n) (hroot : rts n P m r = true) {y : Int} (hy : vhas (vis n P m (r : Nat)) y = true) : cmp n P m n y = (r : Nat) := by
  have key : ∀ j, r + 1 + j ≤ n → cmp n P m (r + 1 + j) y = (r : Nat) := by
    intro j
    induction j with
    | zero => intro _; show cmp n P m (r + 1) y = _; rw [cmp_take (rts_open hN hr hroot), if_pos hy]
    | succ j ih =>
      intro hj
      rw [← Nat.add_assoc, cmp_succ]
      split
      · next hc =>
        exfalso
        have hk := open_rts hN (by omega) hc.1
        obtain ⟨i, v, hv, hvn⟩ := vhas_get hc.2
        have h1 := vis_meet (x := ((r : Nat) : Int)) (y := ((r + 1 + j : Nat) : Int)) hN (by omega) (by omega) i v hv (by rw [hvn]; exact hy)
        rw [rts_apart hN (by omega) (by omega) hroot hk] at h1
        cases h1
      · exact ih (by omega)
  have := key (n - (r + 1)) (by omega)
  rwa [show r + 1 + (n - (r + 1)) = n by omega] at this
theorem node_root {n : Nat} {N : Nat → Nod} {P : Nat → Pip} {m : Nat} (hN : netB n N m P = true) {z : Int} (hz : 0 ≤ z ∧ z < n) : ∃ r : Nat, r < n ∧ rts n P m r = true ∧ vhas (vis n P m (r : Nat)) z = true ∧ cmp n P m n z = (r : Nat) := by
  obtain ⟨k, rfl⟩ := Int.eq_ofNat_of_zero_le hz.1
  obtain ⟨r, h1, h2, h3⟩ := root_of (P := P) (m := m) hN (k := k) (by omega)
  exact ⟨r, h1, h2, h3, cmp_root hN h1 h2 h3⟩
def fE (n : Nat) (P : Nat → Pip) (m : Nat) (z : Int) : Int := vval (·.en) (vis n P m (cmp n P m n z)) z
def fD (n : Nat) (P : Nat → Pip) (m : Nat) (z : Int) : Int := vval (·.ds) (vis n P m (cmp n P m n z)) z
/-- a visited node: the first one, or one come to from another that lies one less far -/
theorem vis_step {n : Nat} {N : Nat → Nod} {P : Nat → Pip} {m : Nat} {x : Int} (hN : netB n N m P = true) (hx : 0 ≤ x ∧ x < n) {z : Int} (hz : vhas (vis n P m x) z = true) :
    (z = x ∧ vval (·.en) (vis n P m x) z = -1 ∧ vval (·.ds) (vis n P m x) z = 0) ∨
    ∃ a : Nat, a < m ∧ vval (·.en) (vis n P m x) z = (a : Int) ∧ endB (P a) z = true ∧ vhas (vis n P m x) (othV (P a) z) = true ∧ vval (·.ds) (vis n P m x) z = vval (·.ds) (vis n P m x) (othV (P a) z) + 1 := by
  have ok := vis_ok (P := P) (m := m) (x := x) hN (by omega)
  obtain ⟨i, v, hv, rfl⟩ := vhas_get hz
  rcases Nat.eq_zero_or_pos i with rfl | h0
  · have h1 := ok.fst
    rw [hv] at h1
    injection h1 with h1
    subst h1
    exact .inl ⟨rfl, ok.val (·.en) hv, ok.val (·.ds) hv⟩
  · obtain ⟨j, u, k, hj, hu, hk, hen, he, hn, hd⟩ := ok.par i v h0 hv
    obtain ⟨o1, o2, _⟩ := oth_oth (net_pip hN hk) he
    refine .inr ⟨k, hk, by rw [ok.val (·.en) hv]; exact hen, by rw [hn]; exact o2, ?_, ?_⟩
    · rw [hn, o1]; exact get_vhas hu
    · rw [ok.val (·.ds) hv, hn, o1, ok.val (·.ds) hu]; exact hd
theorem vis_bnd {n : Nat} {N : Nat → Nod} {P : Nat → Pip} {m : Nat} {x : Int} (hN : netB n N m P = true) (hx : 0 ≤ x ∧ x < n) {z : Int} (hz : vhas (vis n P m x) z = true) : 0 ≤ vval (·.ds) (vis n P m x) z ∧ vval (·.ds) (vis n P m x) z ≤ n := by
  have ok := vis_ok (P := P) (m := m) (x := x) hN (by omega)
  obtain ⟨i, v, hv, rfl⟩ := vhas_get hz
  rw [ok.val (·.ds) hv]
  have h1 := ok.ds0 i v hv
  have h2 := ok.pth_ds hN i v hv
  have h3 := ok.pth_len hN i v hv
  have h4 := get_lt hv
  have h5 := ok.len
  exact ⟨h1, by omega⟩
theorem fE_at {n : Nat} {P : Nat → Pip} {m r : Nat} {z : Int} (h : cmp n P m n z = (r : Nat)) : fE n P m z = vval (·.en) (vis n P m (r : Nat)) z ∧ fD n P m z = vval (·.ds) (vis n P m (r : Nat)) z := by
  unfold fE fD
  rw [h]
  exact ⟨rfl, rfl⟩
theorem fo_net {n : Nat} {N : Nat → Nod} {P : Nat → Pip} {m : Nat} (hN : netB n N m P = true) : Fo n P m (fE n P m) (fD n P m) where
  pip := fun a ha => net_pip hN ha
  par := fun z h0 h1 => by
    obtain ⟨r, hr, hroot, hv, hc⟩ := node_root (P := P) (m := m) hN ⟨h0, h1⟩
    obtain ⟨e1, e2⟩ := fE_at hc
    rcases vis_step (P := P) (m := m) (x := ((r : Nat) : Int)) hN (by omega) hv with ⟨_, h, _⟩ | ⟨a, ha, h3, h4, h5, h6⟩
    · exact .inl (by rw [e1]; exact h)
    · refine .inr ⟨a, ha, by rw [e1]; exact h3, h4, ?_⟩
      rw [e2, (fE_at (cmp_root hN hr hroot h5)).2]
      exact h6
  bnd := fun z h0 h1 => by
    obtain ⟨r, hr, hroot, hv, hc⟩ := node_root (P := P) (m := m) hN ⟨h0, h1⟩
    rw [(fE_at hc).2]
    exact vis_bnd hN (by omega) hv
theorem fo_r0 {n : Nat} {N : Nat → Nod} {P : Nat → Pip} {m : Nat} (hN : netB n N m P = true) : ∀ z : Int, 0 ≤ z ∧ z < n → fE n P m z = -1 → cmp n P m n z = z := by
  intro z hz e
  obtain ⟨r, hr, hroot, hv, hc⟩ := node_root (P := P) (m := m) hN hz
  rw [(fE_at hc).1] at e
  rcases vis_step (P := P) (m := m) (x := ((r : Nat) : Int)) hN (by omega) hv with ⟨h, _, _⟩ | ⟨a, ha, h3, _⟩
  · rw [hc, h]
  · omega
theorem fo_r1 {n : Nat} {N : Nat → Nod} {P : Nat → Pip} {m : Nat} (hN : netB n N m P = true) : ∀ a : Nat, a < m → cmp n P m n (P a).f = cmp n P m n (P a).t := by
  intro a ha
  obtain ⟨h1, _, h3⟩ := pip_end (net_pip hN ha)
  obtain ⟨r, hr, hroot, hv, hc⟩ := node_root (P := P) (m := m) hN h1
  have h4 := vis_closed (P := P) (m := m) (x := ((r : Nat) : Int)) hN (by omega) hv ha (by unfold endB; simp)
  rw [show othV (P a) (P a).f = (P a).t by unfold othV; rw [if_pos rfl]] at h4
  rw [hc, cmp_root hN hr hroot h4]
theorem fo_r2 {n : Nat} {N : Nat → Nod} {P : Nat → Pip} {m : Nat} (hN : netB n N m P = true) : ∀ z : Int, 0 ≤ z ∧ z < n → ∀ c : Nat, c < m → fE n P m z = (c : Int) → cmp n P m n (othV (P c) z) = cmp n P m n z := by
  intro z hz c hc e
  obtain ⟨r, hr, hroot, hv, hr2⟩ := node_root (P := P) (m := m) hN hz
  rw [(fE_at hr2).1] at e
  rcases vis_step (P := P) (m := m) (x := ((r : Nat) : Int)) hN (by omega) hv with ⟨_, h, _⟩ | ⟨a, ha, h3, _, h5, _⟩
  · omega
  · obtain rfl : a = c := by omega
    rw [hr2, cmp_root hN hr hroot h5]
/-- the pipes of the forest are the entries -/
theorem inF_fE {n : Nat} {N : Nat → Nod} {P : Nat → Pip} {m : Nat} (hN : netB n N m P = true) (a : Nat) : inF n P m (fl (rts n P m) n) a = true ↔ ∃ z : Int, 0 ≤ z ∧ z < n ∧ fE n P m z = (a : Int) := by
  have e : inF n P m (fl (rts n P m) n) a = true ↔ ((a : Nat) : Int) ∈ fcol n P m (fl (rts n P m) n) := by unfold inF; simp
  rw [e]
  unfold fcol
  rw [List.mem_flatMap]
  constructor
  · rintro ⟨r, hr, h⟩
    obtain ⟨v, hv, h1, h2⟩ := ens_mem.1 h
    obtain ⟨hr1, hr2⟩ := fl_lt hr
    have ok := vis_ok (P := P) (m := m) (x := ((r : Nat) : Int)) hN (by omega)
    obtain ⟨i, hi, rfl⟩ := List.mem_iff_getElem.1 hv
    have hg := List.getElem?_eq_getElem hi
    have hrng := ok.rng _ hv
    refine ⟨_, hrng.1, by omega, ?_⟩
    rw [(fE_at (cmp_root hN hr1 hr2 (get_vhas hg))).1, ok.val (·.en) hg]
    exact h1
  · rintro ⟨z, h0, h1, h2⟩
    obtain ⟨r, hr, hroot, hv, hc⟩ := node_root (P := P) (m := m) hN ⟨h0, h1⟩
    refine ⟨r, fl_mem hr hroot, ?_⟩
    rw [(fE_at hc).1] at h2
    have ok := vis_ok (P := P) (m := m) (x := ((r : Nat) : Int)) hN (by omega)
    obtain ⟨i, v, hg, rfl⟩ := vhas_get hv
    rw [ok.val (·.en) hg] at h2
    exact ens_mem.2 ⟨v, List.mem_of_getElem? hg, h2, by omega⟩

/-- the program's table of entries: root by root, the last one first -/
def enT (n : Nat) (P : Nat → Pip) (m : Nat) : List Nat → Int → Int
  | [], _ => -1
  | r :: rs, y => if vhas (vis n P m (r : Nat)) y = true then vval (·.en) (vis n P m (r : Nat)) y else enT n P m rs y
theorem enT_eq {n : Nat} {N : Nat → Nod} {P : Nat → Pip} {m : Nat} (hN : netB n N m P = true) {z : Int} : ∀ (rs : List Nat), (∀ s ∈ rs, s < n ∧ rts n P m s = true) → (∃ r ∈ rs, vhas (vis n P m (r : Nat)) z = true) → enT n P m rs z = fE n P m z
  | [], _, ⟨_, h, _⟩ => by cases h
  | s :: rs, h1, ⟨r, hr, h2⟩ => by
    unfold enT
    split
    · next hs =>
      have := h1 s (by simp)
      exact ((fE_at (cmp_root hN this.1 this.2 hs)).1).symm
    · next hs =>
      refine enT_eq hN rs (fun q hq => h1 q (by simp [hq])) ⟨r, ?_, h2⟩
      rcases List.mem_cons.1 hr with e | e
      · subst e; exact absurd h2 hs
      · exact e
theorem enT_all {n : Nat} {N : Nat → Nod} {P : Nat → Pip} {m : Nat} (hN : netB n N m P = true) {z : Int} (hz : 0 ≤ z ∧ z < n) : enT n P m (fl (rts n P m) n).reverse z = fE n P m z := by
  obtain ⟨r, hr, hroot, hv, _⟩ := node_root (P := P) (m := m) hN hz
  exact enT_eq hN _ (fun s hs => fl_lt (List.mem_reverse.1 hs)) ⟨r, List.mem_reverse.2 (fl_mem hr hroot), hv⟩
/-- while a root's visits come -/
def enV (n : Nat) (P : Nat → Pip) (m : Nat) (rs : List Nat) (pre : List Vs) (y : Int) : Int := if vhas pre y = true then vval (·.en) pre y else enT n P m rs y
theorem enV_nil (n : Nat) (P : Nat → Pip) (m : Nat) (rs : List Nat) : enV n P m rs [] = enT n P m rs := by
  funext y
  unfold enV
  rw [if_neg (by simp [vhas])]
theorem enV_all (n : Nat) (P : Nat → Pip) (m : Nat) (rs : List Nat) (r : Nat) : enV n P m rs (vis n P m (r : Nat)) = enT n P m (r :: rs) := by
  funext y
  unfold enV
  rw [enT]
theorem enV_app (n : Nat) (P : Nat → Pip) (m : Nat) (rs : List Nat) {pre : List Vs} {u : Vs} (h : vhas pre u.nd = false) (y : Int) : enV n P m rs (pre ++ [u]) y = if y = u.nd then u.en else enV n P m rs pre y := by
  unfold enV
  rw [vhas_app, vval_app h]
  by_cases e : y = u.nd
  · subst e
    simp
  · have : (u.nd == y) = false := by simpa using fun e2 => e e2.symm
    rw [this, Bool.or_false, if_neg e, if_neg e]

/-- the entries of the first nodes, without the marks -/
def feL (n : Nat) (P : Nat → Pip) (m : Nat) (k : Nat) : List Int := ((List.range k).map (fun z => fE n P m ((z : Nat) : Int))).filter (fun e => e != -1)
theorem feL_succ (n : Nat) (P : Nat → Pip) (m : Nat) (k : Nat) : feL n P m (k + 1) = if fE n P m ((k : Nat) : Int) = -1 then feL n P m k else feL n P m k ++ [fE n P m ((k : Nat) : Int)] := by
  unfold feL
  rw [List.range_succ, List.map_append, List.filter_append]
  split
  · next h => simp [h]
  · next h => simp [h]
theorem feL_le (n : Nat) (P : Nat → Pip) (m k : Nat) : (feL n P m k).length ≤ k := by
  unfold feL
  refine Nat.le_trans (List.length_filter_le _ _) ?_
  simp
theorem feL_nodup {n : Nat} {N : Nat → Nod} {P : Nat → Pip} {m : Nat} (hN : netB n N m P = true) : ∀ k, k ≤ n → (feL n P m k).Pairwise (· ≠ ·)
  | 0, _ => List.Pairwise.nil
  | k + 1, hk => by
    have ih := feL_nodup hN k (by omega)
    rw [feL_succ]
    split
    · exact ih
    · next hne =>
      rw [List.pairwise_append]
      refine ⟨ih, List.pairwise_singleton _ _, fun a ha b hb => ?_⟩
      obtain rfl := List.mem_singleton.1 hb
      intro e
      subst e
      unfold feL at ha
      obtain ⟨h1, h2⟩ := List.mem_filter.1 ha
      obtain ⟨z, hz, e⟩ := List.mem_map.1 h1
      have hz := List.mem_range.1 hz
      rcases (fo_net (P := P) (m := m) hN).par (k : Nat) (by omega) (by omega) with g | ⟨c, _, g, _⟩
      · exact hne g
      · have := (fo_net (P := P) (m := m) hN).uniq (y := ((z : Nat) : Int)) (z := ((k : Nat) : Int)) (a := c) (by omega) (by omega) (by rw [e]; exact g) g
        omega
theorem forest_eq2 {n : Nat} {N : Nat → Nod} {P : Nat → Pip} {m : Nat} (hN : netB n N m P = true) {l : List Int} (hp : l.Perm (feL n P m n)) (hs : l.Pairwise (· ≤ ·)) : l = forest n P m := by
  refine rising_eq _ _ (rising_of hs ?_) ?_ fun x => ?_
  · exact hp.symm.pairwise (feL_nodup hN n (Nat.le_refl _)) (fun h e => h e.symm)
  · unfold forest
    rw [List.pairwise_map]
    exact (fl_sorted _ _).imp (fun h => by omega)
  · rw [hp.mem_iff]
    unfold forest
    constructor
    · intro hx
      unfold feL at hx
      obtain ⟨h1, h2⟩ := List.mem_filter.1 hx
      obtain ⟨z, hz, e⟩ := List.mem_map.1 h1
      have hz := List.mem_range.1 hz
      rcases (fo_net (P := P) (m := m) hN).par (z : Nat) (by omega) (by omega) with g | ⟨c, hc, g, _⟩
      · rw [← e, g] at h2; simp at h2
      · exact List.mem_map.2 ⟨c, fl_mem hc ((inF_fE hN c).2 ⟨(z : Nat), by omega, by omega, g⟩), by rw [← g]; exact e⟩
    · intro hx
      obtain ⟨k, hk, rfl⟩ := List.mem_map.1 hx
      obtain ⟨z, z0, z1, z2⟩ := (inF_fE hN k).1 (fl_lt hk).2
      obtain ⟨y, rfl⟩ := Int.eq_ofNat_of_zero_le z0
      unfold feL
      exact List.mem_filter.2 ⟨List.mem_map.2 ⟨y, List.mem_range.2 (by omega), z2⟩, by simp⟩

/-- the search from a node of a network -/
def sD (n : Nat) (P : Nat → Pip) (m : Nat) (x : Int) (z : Int) : Int := if vhas (vis n P m x) z = true then vval (·.ds) (vis n P m x) z else 0
def sE (n : Nat) (P : Nat → Pip) (m : Nat) (x : Int) (z : Int) : Int := vval (·.en) (vis n P m x) z
def sR (n : Nat) (P : Nat → Pip) (m : Nat) (x : Int) (z : Int) : Int := if vhas (vis n P m x) z = true then x else z
theorem fo_vis {n : Nat} {N : Nat → Nod} {P : Nat → Pip} {m : Nat} (hN : netB n N m P = true) {x : Int} (hx : 0 ≤ x ∧ x < n) : Fo n P m (sE n P m x) (sD n P m x) where
  pip := fun a ha => net_pip hN ha
  par := fun z h0 h1 => by
    cases hv : vhas (vis n P m x) z
    · exact .inl (vval_no hv)
    · rcases vis_step hN hx hv with ⟨_, h, _⟩ | ⟨a, ha, h3, h4, h5, h6⟩
      · exact .inl h
      · refine .inr ⟨a, ha, h3, h4, ?_⟩
        unfold sD
        rw [if_pos hv, if_pos h5]
        exact h6
  bnd := fun z h0 h1 => by
    unfold sD
    split
    · exact vis_bnd hN hx ‹_›
    · omega
theorem sR0 {n : Nat} {N : Nat → Nod} {P : Nat → Pip} {m : Nat} (hN : netB n N m P = true) {x : Int} (hx : 0 ≤ x ∧ x < n) : ∀ z : Int, 0 ≤ z ∧ z < n → sE n P m x z = -1 → sR n P m x z = z := by
  intro z hz e
  unfold sR
  split
  · next hv =>
    rcases vis_step hN hx hv with ⟨h, _, _⟩ | ⟨a, ha, h3, _⟩
    · exact h.symm
    · unfold sE at e; omega
  · rfl
theorem sR1 {n : Nat} {N : Nat → Nod} {P : Nat → Pip} {m : Nat} (hN : netB n N m P = true) {x : Int} (hx : 0 ≤ x ∧ x < n) : ∀ z : Int, 0 ≤ z ∧ z < n → ∀ c : Nat, c < m → sE n P m x z = (c : Int) → sR n P m x (othV (P c) z) = sR n P m x z := by
  intro z hz c hc e
  cases hv : vhas (vis n P m x) z
  · unfold sE at e
    rw [vval_no hv] at e
    omega
  · rcases vis_step hN hx hv with ⟨_, h, _⟩ | ⟨a, ha, h3, _, h5, _⟩
    · unfold sE at e; omega
    · obtain rfl : a = c := by unfold sE at e; omega
      unfold sR
      rw [if_pos hv, if_pos h5]
end Go.Proofs.YtdbgcbkmcbgdiaaDoor.mem

namespace Go.Proofs.YtdbgcbkmcbgdiaaDoor.mem
open Go.RowKit
set_option linter.unusedVariables false

/-- a flow over some of the pipes, as one over all -/
def lft (p : Nat → Bool) (x : Nat → Int) (a : Nat) : Int := if p a = true then x (fl p a).length else 0
theorem dv_lft {P T : Nat → Pip} {p : Nat → Bool} {m : Nat} {x : Nat → Int} {z : Int} (hT : ∀ a, a < m → p a = true → T (fl p a).length = P a) : ∀ k, k ≤ m → dv T x (fl p k).length z = dv P (lft p x) k z
  | 0, _ => rfl
  | k + 1, hk => by
    have ih := dv_lft (x := x) (z := z) hT k (by omega)
    cases hp : p k
    · rw [fl_no hp, ih]
      have e : lft p x k = 0 := by unfold lft; rw [if_neg (by rw [hp]; simp)]
      rw [dv.eq_def P (lft p x) (k + 1) z]
      dsimp only
      rw [e]
      split <;> split <;> omega
    · have e : lft p x k = x (fl p k).length := by unfold lft; rw [if_pos hp]
      rw [fl_yes hp, List.length_append, List.length_singleton]
      unfold dv
      rw [ih, hT k (by omega) hp, e]
theorem fl_idx {p : Nat → Bool} : ∀ {m a : Nat}, a < m → p a = true → (fl p m)[(fl p a).length]? = some a
  | 0, a, ha, _ => by omega
  | m + 1, a, ha, h => by
    by_cases e : a = m
    · subst e
      rw [fl_yes h, List.getElem?_append_right (Nat.le_refl _)]
      simp
    · have ih := fl_idx (p := p) (m := m) (a := a) (by omega) h
      cases hp : p m
      · rw [fl_no hp]; exact ih
      · rw [fl_yes hp, List.getElem?_append_left (get_lt ih)]; exact ih
/-- the place of a pipe in the forest -/
theorem forest_idx {n : Nat} {P : Nat → Pip} {m a : Nat} (ha : a < m) (h : inF n P m (fl (rts n P m) n) a = true) : (fl (inF n P m (fl (rts n P m) n)) a).length < (forest n P m).length ∧ lD (forest n P m) (fl (inF n P m (fl (rts n P m) n)) a).length = ((a : Nat) : Int) := by
  have h1 := fl_idx ha h
  have h2 := get_lt h1
  refine ⟨by rw [forest_len]; exact h2, ?_⟩
  rw [← forest_lD n P m _ h2]
  unfold fd
  rw [h1]
  rfl
theorem forest_frP {n : Nat} {P : Nat → Pip} {m a : Nat} (ha : a < m) (h : inF n P m (fl (rts n P m) n) a = true) : frP n P m (fl (inF n P m (fl (rts n P m) n)) a).length = P a := by
  unfold frP
  rw [(forest_idx ha h).2, Int.toNat_natCast]
theorem forest_at {n : Nat} {P : Nat → Pip} {m j : Nat} (hj : j < (forest n P m).length) : ∃ a, a < m ∧ inF n P m (fl (rts n P m) n) a = true ∧ lD (forest n P m) j = ((a : Nat) : Int) ∧ (fl (inF n P m (fl (rts n P m) n)) a).length = j ∧ frP n P m j = P a := by
  have h1 := forest_len n P m
  have h2 := forest_lD n P m j (by omega)
  obtain ⟨h3, h4⟩ := fl_getS (p := inF n P m (fl (rts n P m) n)) (m := m) (i := j) (by omega)
  have hs := fl_sorted (inF n P m (fl (rts n P m) n)) m
  obtain ⟨a, ha⟩ : ∃ a, (fl (inF n P m (fl (rts n P m) n)) m)[j]? = some a := ⟨_, List.getElem?_eq_getElem (by omega)⟩
  have hm := fl_lt (List.mem_of_getElem? ha)
  have hi := fl_idx hm.1 hm.2
  have e : (fl (inF n P m (fl (rts n P m) n)) a).length = j := by
    have l1 := get_lt hi
    have l2 := get_lt ha
    rw [List.getElem?_eq_getElem l1] at hi
    rw [List.getElem?_eq_getElem l2] at ha
    injection hi with hi
    injection ha with ha
    rcases Nat.lt_trichotomy (fl (inF n P m (fl (rts n P m) n)) a).length j with g | g | g
    · have := List.pairwise_iff_getElem.1 hs _ _ l1 l2 g
      omega
    · exact g
    · have := List.pairwise_iff_getElem.1 hs _ _ l2 l1 g
      omega
  refine ⟨a, hm.1, hm.2, ?_, e, ?_⟩
  · rw [← e]; exact (forest_idx hm.1 hm.2).2
  · rw [← e]; exact forest_frP hm.1 hm.2
/-- the forest alone joins the ends of each pipe -/
theorem tree_has {n : Nat} {N : Nat → Nod} {P : Nat → Pip} {m : Nat} (hN : netB n N m P = true) {c : Nat} (hc : c < m) : vhas (vis n (frP n P m) (forest n P m).length (P c).t) (P c).f = true := by
  have hT := net_forest hN
  obtain ⟨h1, h2, _⟩ := pip_end (net_pip hN hc)
  obtain ⟨r, hr, hroot, hv, e1⟩ := node_root (P := frP n P m) (m := (forest n P m).length) hT h1
  obtain ⟨s, hs, sroot, sv, e2⟩ := node_root (P := frP n P m) (m := (forest n P m).length) hT h2
  rw [cmp_forest hN n (Nat.le_refl _)] at e1 e2
  have := fo_r1 hN c hc
  obtain rfl : r = s := by omega
  obtain ⟨f, hf⟩ := Int.eq_ofNat_of_zero_le h1.1
  obtain ⟨t, ht⟩ := Int.eq_ofNat_of_zero_le h2.1
  rw [hf] at hv h1 ⊢
  rw [ht] at sv h2 ⊢
  have v1 := vis_sym hT hr (by omega) hv
  have v2 := vis_sym hT hr (by omega) sv
  obtain ⟨i, v, hv2, hvn⟩ := vhas_get v1
  exact vis_meet (x := ((t : Nat) : Int)) (y := ((f : Nat) : Int)) hT (by omega) (by omega) i v hv2 (by rw [hvn]; exact v2)
/-- the cycle as far as the way back has come -/
def scy (n : Nat) (P : Nat → Pip) (m c : Nat) (z : Int) (a : Nat) : Int :=
  one1 c a - lft (inF n P m (fl (rts n P m) n)) (asc (frP n P m) (sE n (frP n P m) (forest n P m).length (P c).t) (sD n (frP n P m) (forest n P m).length (P c).t) z) a
theorem scy_end {n : Nat} {N : Nat → Nod} {P : Nat → Pip} {m : Nat} (hN : netB n N m P = true) {c : Nat} (hc : c < m) (hch : inF n P m (fl (rts n P m) n) c = false) : ∀ a, a < m → scy n P m c (P c).f a = cyc P (fE n P m) (fD n P m) c a := by
  have hT := net_forest hN
  have fo := fo_net (P := P) (m := m) hN
  obtain ⟨h1, h2, _⟩ := pip_end (net_pip hN hc)
  have ft := fo_vis hT h2
  have key : ∀ a, a < m → (fun a => scy n P m c (P c).f a - cyc P (fE n P m) (fD n P m) c a) a = 0 := by
    refine fo.zero (fun a ha hx => ?_) (fun z z0 z1 => ?_)
    · refine (inF_fE hN a).1 ?_
      cases hp : inF n P m (fl (rts n P m) n) a
      · exfalso
        apply hx
        rw [fo.cyc_chord hc (fun z z0 z1 e => by
          have := (inF_fE hN a).2 ⟨z, z0, z1, e⟩
          rw [hp] at this
          cases this)]
        unfold scy lft
        rw [if_neg (by rw [hp]; simp)]
        omega
      · rfl
    · rw [dv_sub, fo.cyc_dv (fo_r0 hN) (fo_r2 hN) hc (fo_r1 hN c hc)]
      unfold scy
      rw [dv_sub, dv_one hc, ← dv_lft (T := frP n P m) (fun a ha hp => forest_frP ha hp) m (Nat.le_refl _), ← forest_len, ft.asc_dv (sR0 hT h2) (sR1 hT h2) h1]
      unfold sR
      rw [if_pos (tree_has hN hc)]
      omega
  intro a ha
  have := key a ha
  dsimp only at this
  omega
theorem scy_start {n : Nat} {N : Nat → Nod} {P : Nat → Pip} {m : Nat} (hN : netB n N m P = true) {c : Nat} (hc : c < m) (a : Nat) : scy n P m c (P c).t a = one1 c a := by
  have hT := net_forest hN
  obtain ⟨h1, h2, _⟩ := pip_end (net_pip hN hc)
  have ft := fo_vis hT h2
  have e : sE n (frP n P m) (forest n P m).length (P c).t (P c).t = -1 := by
    rcases vis_step hT h2 (vis_self n (frP n P m) (forest n P m).length (P c).t) with ⟨_, h, _⟩ | ⟨b, hb, g1, _, _, g2⟩
    · exact h
    · have ok := vis_ok (P := frP n P m) (m := (forest n P m).length) (x := (P c).t) hT (by omega)
      exact ok.val (·.en) ok.fst
  unfold scy lft
  rw [ft.asc_top e]
  split <;> omega
/-- one pipe further on the way back -/
theorem scy_next {n : Nat} {N : Nat → Nod} {P : Nat → Pip} {m : Nat} (hN : netB n N m P = true) {c : Nat} (hc : c < m) (hch : inF n P m (fl (rts n P m) n) c = false) {y z : Int} {j b : Nat} (hy : 0 ≤ y ∧ y < n) (hj : j < (forest n P m).length) (hb : lD (forest n P m) j = ((b : Nat) : Int))
    (he : vval (·.en) (vis n (frP n P m) (forest n P m).length (P c).t) y = ((j : Nat) : Int)) (ho : othV (frP n P m j) y = z) (hbz : endB (frP n P m j) y = true) (a : Nat) : scy n P m c y a = if a = b then sgn (frP n P m j) z else scy n P m c z a := by
  have hT := net_forest hN
  obtain ⟨h1, h2, _⟩ := pip_end (net_pip hN hc)
  have ft := fo_vis hT h2
  obtain ⟨b', hb1, hb2, hb3, hb4, hb5⟩ := forest_at hj
  obtain rfl : b' = b := by omega
  obtain ⟨o1, o2, o3⟩ := oth_oth (net_pip hT hj) hbz
  have hs : sgn (frP n P m j) y = - sgn (frP n P m j) z := by
    unfold endB at hbz
    simp only [Bool.or_eq_true, beq_iff_eq] at hbz
    have hp := (pip_end (net_pip hT hj)).2.2
    unfold othV at ho
    unfold sgn
    by_cases hf : (frP n P m j).f = y
    · rw [if_pos hf] at ho
      rw [if_pos hf, if_neg (by omega)]
      rfl
    · rw [if_neg hf] at ho
      rw [if_neg hf, if_pos ho]
  have hown := ft.asc_own hy hj he
  rw [ho] at hown
  unfold scy lft
  rw [ft.asc_up hy hj he, ho]
  by_cases ea : a = b'
  · subst ea
    rw [if_pos hb2, if_pos rfl, hb4, if_pos rfl, hown, hs]
    unfold one1
    rw [if_neg (fun e => by subst e; rw [hch] at hb2; cases hb2)]
    omega
  · rw [if_neg ea]
    cases hp : inF n P m (fl (rts n P m) n) a
    · simp
    · by_cases ham : a < m
      · have hne : (fl (inF n P m (fl (rts n P m) n)) a).length ≠ j := by
          intro e
          have := (forest_idx ham hp).2
          rw [e, hb3] at this
          omega
        rw [if_neg hne, Int.zero_add]
      · have hne : (fl (inF n P m (fl (rts n P m) n)) a).length ≠ j := by
          intro e
          have h3 := fl_idx (p := inF n P m (fl (rts n P m) n)) (m := a + 1) (a := a) (by omega) hp
          have h4 := fl_idx (p := inF n P m (fl (rts n P m) n)) (m := a + 1) (a := b') (by omega) hb2
          rw [e] at h3
          rw [hb4, h3] at h4
          injection h4 with h4
          omega
        rw [if_neg hne, Int.zero_add]
/-- one step along the path, with the entry -/
theorem sp_walk2 {n : Nat} {N : Nat → Nod} {P : Nat → Pip} {m : Nat} {x y : Int} (hN : netB n N m P = true) (hx : 0 ≤ x ∧ x ≤ (n : Int) - 1) (hy : vhas (vis n P m x) y = true) {k : Nat} (hk : k < (spL n P m x y).length) :
    ∃ (a Z Y : Nat), spD n P m x y k = (a : Int) ∧ a < m ∧ anc P (vis n P m x) y ((spL n P m x y).length - k) = (Z : Int) ∧ Z < n ∧ anc P (vis n P m x) y ((spL n P m x y).length - (k + 1)) = (Y : Int) ∧ Y < n ∧ endB (P a) (Z : Int) = true ∧ othV (P a) (Z : Int) = (Y : Int) ∧
      vval (·.en) (vis n P m x) (Y : Int) = (a : Int) ∧ endB (P a) (Y : Int) = true ∧ othV (P a) (Y : Int) = (Z : Int) := by
  obtain ⟨a, Z, h1, h2, h3, h4, h5, h6⟩ := sp_walk hN hx hy hk
  have ok := vis_ok (P := P) (m := m) hN hx
  obtain ⟨g1, g2⟩ := ok.anc_ok hN hy ((pth P (vis n P m x) x n y).length - (k + 1)) (by omega)
  have hb := oth_oth (net_pip hN h2) h5
  have hr := oth_rng (y := ((Z : Nat) : Int)) (net_pip hN h2)
  obtain ⟨Y, hY⟩ := Int.eq_ofNat_of_zero_le hr.1
  have hY2 : anc P (vis n P m x) y ((spL n P m x y).length - (k + 1)) = (Y : Int) := by rw [← h6, hY]
  unfold spL at hk hY2
  rw [hY2] at g1 g2
  have hne : ((Y : Nat) : Int) ≠ x := by
    intro e
    rw [e, pth_self] at g2
    have := congrArg List.length g2
    simp only [List.length_drop, List.length_nil] at this
    omega
  obtain ⟨a', u, ha', hen, he', ho', hu, hp⟩ := ok.step2 hN g1 hne
  have hsp : spD n P m x y k = (a' : Int) := by
    unfold spD spL
    rw [List.getElem?_reverse hk]
    have h7 := congrArg (fun l => l[0]?) (g2.trans hp)
    simp only [List.getElem?_drop, List.getElem?_cons_zero] at h7
    rw [show (pth P (vis n P m x) x n y).length - 1 - k = (pth P (vis n P m x) x n y).length - (k + 1) + 0 by omega, h7]
    rfl
  obtain rfl : a' = a := by omega
  rw [hY] at hb
  exact ⟨a', Z, Y, h1, h2, h3, h4, hY2, by omega, h5, hY, hen, he', hb.1⟩

/-- what the cycles of the first pipes outside of the forest add up to -/
def tot (P : Nat → Pip) (E D : Int → Int) (cs : Nat → Nat) (am : Nat → Int) : Nat → Nat → Int
  | 0, _ => 0
  | k + 1, a => tot P E D cs am k a + am k * cyc P E D (cs k) a
theorem Fo.tot_dv {n : Nat} {P : Nat → Pip} {m : Nat} {E D R : Int → Int} (h : Fo n P m E D) (r0 : ∀ z : Int, 0 ≤ z ∧ z < n → E z = -1 → R z = z) (r1 : ∀ z : Int, 0 ≤ z ∧ z < n → ∀ c : Nat, c < m → E z = (c : Int) → R (othV (P c) z) = R z) {cs : Nat → Nat} {am : Nat → Int} (y : Int) (rc : ∀ a : Nat, a < m → R (P a).f = R (P a).t) :
    ∀ k, (∀ i, i < k → cs i < m) → dv P (tot P E D cs am k) m y = 0
  | 0, _ => dv_zero P y m
  | k + 1, hc => by
    have ih := h.tot_dv r0 r1 (cs := cs) (am := am) y rc k (fun i hi => hc i (by omega))
    have e : tot P E D cs am (k + 1) = fun a => tot P E D cs am k a + (fun b => am k * cyc P E D (cs k) b) a := rfl
    rw [e, dv_add, ih, dv_mul, h.cyc_dv r0 r1 (hc k (by omega)) (rc _ (hc k (by omega))), Int.mul_zero]
    rfl
/-- on the pipes outside of the forest it is what is given -/
theorem Fo.tot_chord {n : Nat} {P : Nat → Pip} {m : Nat} {E D : Int → Int} (h : Fo n P m E D) {cs : Nat → Nat} {am : Nat → Int} {i : Nat} (hi : ∀ z : Int, 0 ≤ z → z < n → E z ≠ ((cs i : Nat) : Int)) :
    ∀ k, (∀ i, i < k → cs i < m) → (∀ j, j < k → j ≠ i → cs j ≠ cs i) → tot P E D cs am k (cs i) = if i < k then am i else 0
  | 0, _, _ => rfl
  | k + 1, hc, h2 => by
    have ih := h.tot_chord (cs := cs) (am := am) hi k (fun i hi => hc i (by omega)) (fun j hj hne => h2 j (by omega) hne)
    unfold tot
    rw [ih, h.cyc_chord (hc k (by omega)) hi]
    unfold one1
    by_cases e : k = i
    · subst e
      rw [if_neg (by omega), if_pos rfl, if_pos (by omega)]
      omega
    · rw [if_neg (show ¬ cs i = cs k from fun g => h2 k (by omega) e g.symm), Int.mul_zero]
      by_cases g : i < k
      · rw [if_pos g, if_pos (by omega)]; omega
      · rw [if_neg g, if_neg (by omega)]; rfl

/-- the pipes outside of the forest -/
def chP (n : Nat) (P : Nat → Pip) (m : Nat) (a : Nat) : Bool := !(inF n P m (fl (rts n P m) n) a)
def chN (n : Nat) (P : Nat → Pip) (m : Nat) : Nat := (fl (chP n P m) m).length
def chS (n : Nat) (P : Nat → Pip) (m j : Nat) : Nat := ((fl (chP n P m) m)[j]?).getD 0
theorem chS_fd (n : Nat) (P : Nat → Pip) (m j : Nat) : fd (chP n P m) m j = ((chS n P m j : Nat) : Int) := rfl
theorem chN_le (n : Nat) (P : Nat → Pip) (m : Nat) : chN n P m ≤ m := fl_le _ _
theorem chS_at {n : Nat} {P : Nat → Pip} {m j : Nat} (hj : j < chN n P m) : chS n P m j < m ∧ chP n P m (chS n P m j) = true := by
  unfold chN at hj
  unfold chS
  rw [List.getElem?_eq_getElem hj]
  exact fl_lt (List.getElem_mem hj)
theorem chS_inj {n : Nat} {P : Nat → Pip} {m i j : Nat} (hi : i < chN n P m) (hj : j < chN n P m) (hne : j ≠ i) : chS n P m j ≠ chS n P m i := by
  unfold chN at hi hj
  unfold chS
  rw [List.getElem?_eq_getElem hi, List.getElem?_eq_getElem hj]
  have hs := fl_sorted (chP n P m) m
  intro e
  simp only [Option.getD_some] at e
  rcases Nat.lt_or_gt_of_ne hne with g | g
  · have := List.pairwise_iff_getElem.1 hs _ _ hj hi g
    omega
  · have := List.pairwise_iff_getElem.1 hs _ _ hi hj g
    omega
theorem chS_of {n : Nat} {P : Nat → Pip} {m a : Nat} (ha : a < m) (h : chP n P m a = true) : ∃ j, j < chN n P m ∧ chS n P m j = a := by
  have h1 := fl_idx ha h
  refine ⟨(fl (chP n P m) a).length, get_lt h1, ?_⟩
  unfold chS
  rw [h1]
  rfl
theorem chP_no {n : Nat} {N : Nat → Nod} {P : Nat → Pip} {m : Nat} (hN : netB n N m P = true) {a : Nat} (h : chP n P m a = true) : ∀ z : Int, 0 ≤ z → z < n → fE n P m z ≠ ((a : Nat) : Int) := by
  intro z z0 z1 e
  have := (inF_fE hN a).2 ⟨z, z0, z1, e⟩
  unfold chP at h
  rw [this] at h
  cases h
/-- what the cycles add up to with these amounts -/
def flo (n : Nat) (P : Nat → Pip) (m : Nat) (am : Nat → Int) (k a : Nat) : Int := tot P (fE n P m) (fD n P m) (chS n P m) am k a
theorem flo_chord {n : Nat} {N : Nat → Nod} {P : Nat → Pip} {m : Nat} (hN : netB n N m P = true) {am : Nat → Int} {j : Nat} (hj : j < chN n P m) : flo n P m am (chN n P m) (chS n P m j) = am j := by
  have h := (fo_net hN).tot_chord (am := am) (cs := chS n P m) (i := j) (chP_no hN (chS_at hj).2) (chN n P m) (fun i hi => (chS_at hi).1) (fun i hi hne => chS_inj hj hi hne)
  rw [if_pos hj] at h
  exact h
theorem flo_dv {n : Nat} {N : Nat → Nod} {P : Nat → Pip} {m : Nat} (hN : netB n N m P = true) (am : Nat → Int) (z : Int) : dv P (flo n P m am (chN n P m)) m z = 0 :=
  (fo_net hN).tot_dv (fo_r0 hN) (fo_r2 hN) z (fo_r1 hN) _ (fun i hi => (chS_at hi).1)
/-- a flow is what its flows through the chords give, if and only if it balances nothing -/
theorem circ_iff {n : Nat} {N : Nat → Nod} {P : Nat → Pip} {m : Nat} (hN : netB n N m P = true) (x : Nat → Int) :
    (∀ a, a < m → flo n P m (fun j => x (chS n P m j)) (chN n P m) a = x a) ↔ ∀ z : Int, 0 ≤ z → z < n → dv P x m z = 0 := by
  constructor
  · intro h z _ _
    rw [← dv_congr h]
    exact flo_dv hN _ z
  · intro h a ha
    have key := (fo_net hN).zero (x := fun a => flo n P m (fun j => x (chS n P m j)) (chN n P m) a - x a) (fun b hb hx => by
      refine (inF_fE hN b).1 ?_
      cases hp : inF n P m (fl (rts n P m) n) b
      · exfalso
        apply hx
        obtain ⟨j, hj, rfl⟩ := chS_of (n := n) (P := P) hb (by unfold chP; rw [hp]; rfl)
        rw [flo_chord hN hj]
        omega
      · rfl) (fun z z0 z1 => by
        rw [dv_sub, h z z0 z1]
        have := flo_dv hN (fun j => x (chS n P m j)) z
        omega) a ha
    omega
end Go.Proofs.YtdbgcbkmcbgdiaaDoor.mem

namespace Go.Proofs.YtdbgcbkmcbgdiaaDoor.mem
open Go.RowKit
set_option linter.unusedVariables false
attribute [local go_sem] Oper.semAt_some

/-- while the visits from a root come -/
def EnI (n : Nat) (P : Nat → Pip) (m : Nat) (rs : List Nat) (g be gr : Nat) (v vr : Value) (nr : Nat) (dr : Nat → Int) (v0 v1 : Value) (bs : List Nat) (w : World) (pre : List Vs) (Y : Nat → Prop) (A : World) : Prop :=
  Y = (fun b => b = g) ∧ Ob A g n (tabC (enV n P m rs pre)) ∧ Ob A be 1 (fun _ => v) ∧ Own A vr nr dr gr ∧ Ob A w.heap.size 2 (bx v0 v1) ∧ (∀ b, b ∈ bs → A.heap[b]? = some (.deferred (some []))) ∧ Below w.heap.size w A
theorem EnI.upd {n : Nat} {P : Nat → Pip} {m : Nat} {rs : List Nat} {g be gr : Nat} {v vr : Value} {nr : Nat} {dr : Nat → Int} {v0 v1 : Value} {bs : List Nat} {w : World} {pre : List Vs} {Y X : Nat → Prop} {A B : World} (h : EnI n P m rs g be gr v vr nr dr v0 v1 bs w pre Y A) (u : Upd X A B)
    (hg : ¬ X g) (hb : ¬ X be) (hr : ¬ X gr) (h0 : ¬ X w.heap.size) (hbs : ∀ b, b ∈ bs → ¬ X b) (hX : ∀ k, X k → w.heap.size ≤ k) : EnI n P m rs g be gr v vr nr dr v0 v1 bs w pre Y B := by
  obtain ⟨h1, h2, h3, h4, h5, h6, h7⟩ := h
  refine ⟨h1, h2.keep (u.block _ h2.lt hg), h3.keep (u.block _ h3.lt hb), h4.keep (u.block _ h4.lt hr), h5.keep (u.block _ h5.lt h0), fun b hb2 => ?_, h7.trans (u.below h7.size (fun k _ hk => hX k hk))⟩
  have := h6 b hb2
  exact (u.block b (Array.getElem?_eq_some_iff.1 this).1 (hbs b hb2)).trans this
theorem en_step {A : World} {g n : Nat} {P : Nat → Pip} {m : Nat} {rs : List Nat} {pre : List Vs} {u : Vs} {Z : Nat} (h : Ob A g n (tabC (enV n P m rs pre))) (h1 : vhas pre u.nd = false) (hZ : u.nd = ((Z : Nat) : Int)) (hn : Z < n) :
    Ob (A.setCell ⟨g, Z, none⟩ (.int .i64 u.en)) g n (tabC (enV n P m rs (pre ++ [u]))) := by
  refine (h.set Z _ hn).congr fun j hj => ?_
  unfold updV tabC
  rw [enV_app n P m rs h1, hZ]
  by_cases e : j = Z
  · subst e; simp
  · rw [if_neg e, if_neg (by omega)]

end Go.Proofs.YtdbgcbkmcbgdiaaDoor.mem

namespace Go.Proofs.YtdbgcbkmcbgdiaaDoor.mem
open Go.RowKit
set_option linter.unusedVariables false

/-- one number behind a list -/
theorem appL (wr : World) (v : Value) (l : List Int) (g : Nat) (e : Int) (h : Own wr v l.length (lD l) g) (hn : l.length ≤ 1000000) :
    ∃ w7 g7 c7, Sem.run Tryd.prog (Builtin.append_ #[26, 26] 26 #[v, .slice (some ⟨wr.heap.size, 0, none⟩) 1 1]) (wr.alloc (.cells #[.int .i64 e] 2)) = .ok (.slice (some ⟨g7, 0, none⟩) (l.length + 1) c7) w7 ∧
      Own w7 (.slice (some ⟨g7, 0, none⟩) (l ++ [e]).length c7) (l ++ [e]).length (lD (l ++ [e])) g7 ∧ (∀ B, B ≤ g → B ≤ wr.heap.size → Below B wr w7 ∧ B ≤ g7) ∧ (∀ c, c ≠ g → c < wr.heap.size → w7.heap[c]? = wr.heap[c]? ∧ c ≠ g7) := by
  obtain ⟨v7, w7, g7, hr, ap⟩ := app_run (wr.alloc (.cells #[.int .i64 e] 2)) v l.length _ g e wr.heap.size (h.alloc _) (cell_new1 wr _) hn
  obtain ⟨c7, rfl⟩ := ap.own.shape
  have O7 := ap.own.congr (e := lD (l ++ [e])) (fun k hk => by rw [lD_app, if_pos hk])
  have hl : (l ++ [e]).length = l.length + 1 := by simp
  refine ⟨w7, g7, c7, hr, by rw [hl]; exact O7, fun B h1 h2 => ?_, fun c h1 h2 => ?_⟩
  · have := ap.below (B := B) h1 (by rw [szal]; have := h.lt; omega)
    exact ⟨((below_new wr _).mono h2).trans this.1, this.2⟩
  · have := ap.other h1 (by rw [szal]; omega)
    exact ⟨this.1.trans (Below.heap_alloc _ _ _ h2), this.2⟩

end Go.Proofs.YtdbgcbkmcbgdiaaDoor.mem
