/-
  Several texts in one: Bap, Brr, Bal, Bam, Ban, Bao, Baq.
-/
import Derived.Test.YtdbgcbkmcbgdiaaGreatRows
import Derived.Test.YtdbgcbkmcbgdiaaGreatCyM
import Derived.Test.YtdbgcbkmcbgdiaaGreatCiM
import Derived.Laws.StructEq
import Derived.StillTailTactics
import Derived.BigQuiet
import Derived.IntWalk
namespace Go.Proofs.YtdbgcbkmcbgdiaaGreat.mem
open Go.RowKit
set_option linter.unusedVariables false

/-- what the first k numbers add up to whose mark is z -/
def csm (R : Nat → Int) (s : Nat → Int) : Nat → Int → Int
  | 0, _ => 0
  | k + 1, z => csm R s k z + (if R k = z then s k else 0)
theorem csm_congr {R s t : Nat → Int} {z : Int} : ∀ {k : Nat}, (∀ i, i < k → s i = t i) → csm R s k z = csm R t k z
  | 0, _ => rfl
  | k + 1, h => by
    unfold csm
    rw [csm_congr (k := k) (fun i hi => h i (by omega)), h k (by omega)]
theorem csm_add (R s t : Nat → Int) (z : Int) : ∀ k, csm R (fun i => s i + t i) k z = csm R s k z + csm R t k z
  | 0 => rfl
  | k + 1 => by
    unfold csm
    rw [csm_add R s t z k]
    split <;> omega
theorem csm_sub (R s t : Nat → Int) (z : Int) : ∀ k, csm R (fun i => s i - t i) k z = csm R s k z - csm R t k z
  | 0 => rfl
  | k + 1 => by
    unfold csm
    rw [csm_sub R s t z k]
    split <;> omega
theorem csm_zero (R : Nat → Int) (z : Int) : ∀ k, csm R (fun _ => 0) k z = 0
  | 0 => rfl
  | k + 1 => by
    unfold csm
    rw [csm_zero R z k]
    split <;> rfl
theorem csm_only {R s : Nat → Int} {z : Int} {r : Nat} : ∀ k, (∀ i, i < k → R i = z → i ≠ r → s i = 0) → csm R s k z = if r < k ∧ R r = z then s r else 0
  | 0, _ => by rw [if_neg (by omega)]; rfl
  | k + 1, h => by
    unfold csm
    rw [csm_only (r := r) k (fun i hi => h i (by omega))]
    by_cases e : k = r
    · subst e
      rw [if_neg (by omega), Int.zero_add]
      by_cases g : R k = z
      · rw [if_pos g, if_pos ⟨by omega, g⟩]
      · rw [if_neg g, if_neg (fun q => g q.2)]
    · have hk : (if R k = z then s k else 0) = 0 := by
        split
        · next g => exact h k (by omega) g e
        · rfl
      rw [hk, Int.add_zero]
      by_cases g : r < k ∧ R r = z
      · rw [if_pos g, if_pos ⟨by omega, g.2⟩]
      · rw [if_neg g, if_neg (fun q => g ⟨by omega, q.2⟩)]
theorem csm_at (R : Nat → Int) (z c y : Int) (n : Nat) (hy : 0 ≤ y ∧ y < n) : csm R (fun i => if y = ((i : Nat) : Int) then c else 0) n z = if R y.toNat = z then c else 0 := by
  rw [csm_only (r := y.toNat) n (fun i _ _ hne => if_neg (by omega))]
  have e : y = ((y.toNat : Nat) : Int) := by omega
  rw [if_pos e]
  by_cases g : R y.toNat = z
  · rw [if_pos g, if_pos ⟨by omega, g⟩]
  · rw [if_neg g, if_neg (fun q => g q.2)]
/-- what a flow balances adds up to 0 over the nodes of one mark, if no pipe leads to another mark -/
theorem csm_dv {P : Nat → Pip} {x R : Nat → Int} {n : Nat} {z : Int} : ∀ k, (∀ a, a < k → (0 ≤ (P a).f ∧ (P a).f < n) ∧ (0 ≤ (P a).t ∧ (P a).t < n) ∧ R (P a).f.toNat = R (P a).t.toNat) → csm R (fun i => dv P x k ((i : Nat) : Int)) n z = 0
  | 0, _ => csm_zero R z n
  | k + 1, h => by
    obtain ⟨h1, h2, h3⟩ := h k (by omega)
    have e : (fun i : Nat => dv P x (k + 1) ((i : Nat) : Int)) = fun i => (dv P x k ((i : Nat) : Int) + (if (P k).f = ((i : Nat) : Int) then x k else 0)) - (if (P k).t = ((i : Nat) : Int) then x k else 0) := rfl
    rw [e, csm_sub, csm_add, csm_dv k (fun a ha => h a (by omega)), csm_at R z _ _ n h1, csm_at R z _ _ n h2, h3]
    omega

/-- what the ways up carry together -/
def ffl (P : Nat → Pip) (E D : Int → Int) (s : Nat → Int) : Nat → Nat → Int
  | 0, _ => 0
  | k + 1, a => ffl P E D s k a + asc P E D ((k : Nat) : Int) a * s k
theorem Fo.ffl_dv {n : Nat} {P : Nat → Pip} {m : Nat} {E D R : Int → Int} (h : Fo n P m E D) (r0 : ∀ z : Int, 0 ≤ z ∧ z < n → E z = -1 → R z = z) (r1 : ∀ z : Int, 0 ≤ z ∧ z < n → ∀ c : Nat, c < m → E z = (c : Int) → R (othV (P c) z) = R z) {s : Nat → Int} (y : Nat) :
    ∀ k, k ≤ n → dv P (ffl P E D s k) m ((y : Nat) : Int) = (if y < k then s y else 0) - csm (fun i => R ((i : Nat) : Int)) s k ((y : Nat) : Int)
  | 0, _ => by
    rw [if_neg (by omega)]
    exact dv_zero P _ m
  | k + 1, hk => by
    have e : ffl P E D s (k + 1) = fun a => ffl P E D s k a + (fun b => s k * asc P E D ((k : Nat) : Int) b) a := by
      funext a
      show _ + _ = _ + _
      rw [Int.mul_comm]
    rw [e, dv_add, h.ffl_dv r0 r1 y k (by omega), dv_mul, h.asc_dv r0 r1 (z := ((k : Nat) : Int)) ⟨by omega, by omega⟩]
    show _ = _ - (csm _ s k _ + (if R ((k : Nat) : Int) = ((y : Nat) : Int) then s k else 0))
    by_cases e1 : k = y
    · subst e1
      rw [if_neg (Nat.lt_irrefl k), if_pos (Nat.lt_succ_self k), if_pos rfl]
      by_cases g : R ((k : Nat) : Int) = ((k : Nat) : Int)
      · rw [if_pos g, if_pos g]; omega
      · rw [if_neg g, if_neg g]; omega
    · rw [if_neg (show ¬ ((k : Nat) : Int) = ((y : Nat) : Int) by omega)]
      have e2 : (if y < k then s y else 0) = if y < k + 1 then s y else 0 := by
        by_cases g : y < k
        · rw [if_pos g, if_pos (by omega)]
        · rw [if_neg g, if_neg (by omega)]
      rw [← e2]
      by_cases g : R ((k : Nat) : Int) = ((y : Nat) : Int)
      · rw [if_pos g, if_pos g]; omega
      · rw [if_neg g, if_neg g]; omega
theorem Fo.ffl_sup {n : Nat} {P : Nat → Pip} {m : Nat} {E D : Int → Int} (h : Fo n P m E D) {s : Nat → Int} {a : Nat} : ∀ k, k ≤ n → ffl P E D s k a ≠ 0 → ∃ z : Int, 0 ≤ z ∧ z < n ∧ E z = (a : Int)
  | 0, _, hx => absurd rfl hx
  | k + 1, hk, hx => by
    by_cases e : ffl P E D s k a = 0
    · by_cases g : asc P E D ((k : Nat) : Int) a = 0
      · exact absurd (show ffl P E D s k a + asc P E D ((k : Nat) : Int) a * s k = 0 by rw [e, g, Int.zero_mul]; rfl) hx
      · obtain ⟨z, z0, z1, z2, _⟩ := h.asc_sup (z := ((k : Nat) : Int)) ⟨by omega, by omega⟩ a g
        exact ⟨z, z0, z1, z2⟩
    · exact h.ffl_sup k (by omega) e
theorem mul1 {x c : Int} (hx : -30000 ≤ x ∧ x ≤ 30000) (hc : -1 ≤ c ∧ c ≤ 1) : -30000 ≤ c * x ∧ c * x ≤ 30000 := by
  rcases (by omega : c = -1 ∨ c = 0 ∨ c = 1) with rfl | rfl | rfl <;> omega
theorem Fo.ffl_bd {n : Nat} {P : Nat → Pip} {m : Nat} {E D : Int → Int} (h : Fo n P m E D) {s : Nat → Int} (a : Nat) : ∀ k, k ≤ n → (∀ i, i < k → -30000 ≤ s i ∧ s i ≤ 30000) → -30000 * (k : Int) ≤ ffl P E D s k a ∧ ffl P E D s k a ≤ 30000 * (k : Int)
  | 0, _, _ => by show _ ≤ (0 : Int) ∧ (0 : Int) ≤ _; omega
  | k + 1, hk, hs => by
    have ih := h.ffl_bd (s := s) a k (by omega) (fun i hi => hs i (by omega))
    have h1 := mul1 (hs k (by omega)) (h.asc_rng (z := ((k : Nat) : Int)) ⟨by omega, by omega⟩ a)
    show _ ≤ ffl P E D s k a + asc P E D ((k : Nat) : Int) a * s k ∧ ffl P E D s k a + asc P E D ((k : Nat) : Int) a * s k ≤ _
    omega
/-- the marks: the least nodes of the components -/
def cmpN (n : Nat) (P : Nat → Pip) (m : Nat) (i : Nat) : Int := cmp n P m n ((i : Nat) : Int)
/-- are supplies even? -/
def evB (n : Nat) (P : Nat → Pip) (m : Nat) (s : Nat → Int) : Bool := (List.range n).all (fun z => csm (cmpN n P m) s n ((z : Nat) : Int) == 0)
theorem evB_iff {n : Nat} {P : Nat → Pip} {m : Nat} {s : Nat → Int} : evB n P m s = true ↔ ∀ z, z < n → csm (cmpN n P m) s n ((z : Nat) : Int) = 0 := by
  unfold evB
  rw [List.all_eq_true]
  constructor
  · intro h k hk
    simpa using h k (List.mem_range.2 hk)
  · intro h k hk
    simpa using h k (List.mem_range.1 hk)
def fflN (n : Nat) (P : Nat → Pip) (m : Nat) (s : Nat → Int) (a : Nat) : Int := ffl P (fE n P m) (fD n P m) s n a
theorem fflN_bal {n : Nat} {N : Nat → Nod} {P : Nat → Pip} {m : Nat} (hN : netB n N m P = true) {s : Nat → Int} (he : evB n P m s = true) (y : Nat) (hy : y < n) : dv P (fflN n P m s) m ((y : Nat) : Int) = s y := by
  have h1 := (fo_net hN).ffl_dv (fo_r0 hN) (fo_r2 hN) (s := s) y n (Nat.le_refl n)
  have h2 := evB_iff.1 he y hy
  rw [if_pos hy] at h1
  unfold cmpN at h2
  rw [h2, Int.sub_zero] at h1
  exact h1
theorem fflN_uniq {n : Nat} {N : Nat → Nod} {P : Nat → Pip} {m : Nat} (hN : netB n N m P = true) {s x : Nat → Int} (he : evB n P m s = true) (hs : ∀ a, a < m → x a ≠ 0 → ∃ z : Int, 0 ≤ z ∧ z < n ∧ fE n P m z = (a : Int)) (hx : ∀ y, y < n → dv P x m ((y : Nat) : Int) = s y) : ∀ a, a < m → x a = fflN n P m s a := by
  intro a ha
  have key := (fo_net hN).zero (x := fun a => x a - fflN n P m s a) (fun b hb hne => by
    by_cases g : x b = 0
    · exact (fo_net hN).ffl_sup (s := s) n (Nat.le_refl n) (fun q => hne (by show x b - ffl _ _ _ s n b = 0; rw [g, q]; rfl))
    · exact hs b hb g) (fun z z0 z1 => by
    obtain ⟨y, rfl⟩ := Int.eq_ofNat_of_zero_le z0
    rw [dv_sub, hx y (by omega), fflN_bal hN he y (by omega)]
    omega) a ha
  have e : x a - fflN n P m s a = 0 := key
  omega
theorem fflN_off {n : Nat} {N : Nat → Nod} {P : Nat → Pip} {m : Nat} (hN : netB n N m P = true) (s : Nat → Int) {a : Nat} (ha : m ≤ a) : fflN n P m s a = 0 := by
  by_cases g : fflN n P m s a = 0
  · exact g
  · obtain ⟨z, z0, z1, e⟩ := (fo_net hN).ffl_sup (s := s) (a := a) n (Nat.le_refl n) g
    rcases (fo_net (P := P) (m := m) hN).par z z0 z1 with q | ⟨b, hb, q, _⟩ <;> omega

/-- the sum without signs -/
def sab (l : Nat → Int) : Nat → Int
  | 0 => 0
  | k + 1 => sab l k + ((l k).natAbs : Int)
theorem sab_pos (l : Nat → Int) : ∀ k, 0 ≤ sab l k
  | 0 => by show (0 : Int) ≤ 0; omega
  | k + 1 => by have := sab_pos l k; show (0 : Int) ≤ sab l k + _; omega
theorem sab_ge (l : Nat → Int) {i : Nat} : ∀ k, i < k → -(sab l k) ≤ l i ∧ l i ≤ sab l k
  | 0, h => by omega
  | k + 1, h => by
    have p := sab_pos l k
    show -(sab l k + _) ≤ l i ∧ l i ≤ sab l k + _
    by_cases e : i = k
    · subst e; omega
    · have := sab_ge l k (show i < k by omega); omega
theorem sab_upd (l : Nat → Int) (i : Nat) (y : Int) : ∀ k, sab (upd l i y) k = sab l k + (if i < k then (y.natAbs : Int) - ((l i).natAbs : Int) else 0)
  | 0 => by rw [if_neg (by omega)]; rfl
  | k + 1 => by
    show sab (upd l i y) k + _ = sab l k + _ + _
    rw [sab_upd l i y k]
    unfold upd
    by_cases e : k = i
    · subst e
      rw [if_neg (Nat.lt_irrefl k), if_pos rfl, if_pos (Nat.lt_succ_self k)]
      omega
    · rw [if_neg e]
      by_cases g : i < k
      · rw [if_pos g, if_pos (by omega)]; omega
      · rw [if_neg g, if_neg (by omega)]; omega
theorem sab_le (s : Nat → Int) : ∀ k, (∀ i, i < k → -30000 ≤ s i ∧ s i ≤ 30000) → sab s k ≤ 30000 * (k : Int)
  | 0, _ => by show (0 : Int) ≤ _; omega
  | k + 1, h => by
    have := sab_le s k (fun i hi => h i (by omega))
    have h1 := h k (by omega)
    show sab s k + _ ≤ _
    omega

/-- the flow that leaves an end -/
def sgv (q : Pip) (z y : Int) : Int := if q.f = z then y else -y
/-- flows and what is left at the nodes, when some nodes are done -/
structure St (n : Nat) (P : Nat → Pip) (m : Nat) (E : Int → Int) (s : Nat → Int) (Dn : Nat → Prop) (x l : Nat → Int) : Prop where
  bal : ∀ z, z < n → dv P x m ((z : Nat) : Int) + l z = s z
  sup : ∀ a, a < m → x a ≠ 0 → ∃ z, z < n ∧ Dn z ∧ E ((z : Nat) : Int) = ((a : Nat) : Int)
  don : ∀ z, z < n → Dn z → l z = 0
  sum : sab l n ≤ sab s n
theorem St.same {n : Nat} {P : Nat → Pip} {m : Nat} {E : Int → Int} {s x l : Nat → Int} {Dn De : Nat → Prop} (h : St n P m E s Dn x l) (e : ∀ z, Dn z ↔ De z) : St n P m E s De x l :=
  ⟨h.bal, fun a ha hx => by obtain ⟨z, z0, z1, z2⟩ := h.sup a ha hx; exact ⟨z, z0, (e z).1 z1, z2⟩, fun z hz d => h.don z hz ((e z).2 d), h.sum⟩
theorem St.start {n : Nat} {P : Nat → Pip} {m : Nat} {E : Int → Int} {s : Nat → Int} {Dn : Nat → Prop} (h : ∀ z, ¬ Dn z) : St n P m E s Dn (fun _ => 0) s :=
  ⟨fun z _ => by rw [dv_zero]; omega, fun _ _ g => absurd rfl g, fun z _ d => absurd d (h z), Int.le_refl _⟩
theorem St.bd {n : Nat} {P : Nat → Pip} {m : Nat} {E : Int → Int} {s x l : Nat → Int} {Dn : Nat → Prop} (h : St n P m E s Dn x l) (hs : ∀ i, i < n → -30000 ≤ s i ∧ s i ≤ 30000) (hn : n ≤ 24) {z : Nat} (hz : z < n) : -720000 ≤ l z ∧ l z ≤ 720000 := by
  have h1 := sab_le s n hs
  have h2 := sab_ge l n hz
  have h3 := h.sum
  omega
theorem St.step {n : Nat} {P : Nat → Pip} {m : Nat} {E D : Int → Int} {s x l : Nat → Int} {Dn : Nat → Prop} (fo : Fo n P m E D) (h : St n P m E s Dn x l) {v a u : Nat} (hv : v < n) (ha : a < m) (he : E ((v : Nat) : Int) = ((a : Nat) : Int)) (hu : othV (P a) ((v : Nat) : Int) = ((u : Nat) : Int)) (hun : u < n) (nv : ¬ Dn v) (nu : ¬ Dn u) :
    St n P m E s (fun z => Dn z ∨ z = v) (upd x a (sgv (P a) ((v : Nat) : Int) (l v))) (upd (upd l u (l u + l v)) v 0) := by
  have x0 : x a = 0 := by
    by_cases g : x a = 0
    · exact g
    · obtain ⟨z, z0, z1, z2⟩ := h.sup a ha g
      have := fo.uniq (y := ((z : Nat) : Int)) (z := ((v : Nat) : Int)) ⟨by omega, by omega⟩ ⟨by omega, by omega⟩ z2 he
      have e : z = v := by omega
      subst e
      exact absurd z1 nv
  have hend : endB (P a) ((v : Nat) : Int) = true := by
    rcases fo.par ((v : Nat) : Int) (by omega) (by omega) with e | ⟨b, hb, e, g, _⟩
    · omega
    · obtain rfl : b = a := by omega
      exact g
  obtain ⟨_, _, hft⟩ := pip_end (fo.pip a ha)
  have huv : u ≠ v := by
    intro e
    have := (oth_oth (fo.pip a ha) hend).2.2
    rw [hu, e] at this
    exact this rfl
  unfold endB at hend
  simp only [Bool.or_eq_true, beq_iff_eq] at hend
  refine ⟨fun z hz => ?_, fun b hb hx => ?_, fun z hz d => ?_, ?_⟩
  · have e : upd x a (sgv (P a) ((v : Nat) : Int) (l v)) = fun b => x b + (fun c => sgv (P a) ((v : Nat) : Int) (l v) * one1 a c) b := by
      funext b
      unfold upd one1
      by_cases g : b = a
      · subst g
        rw [if_pos rfl]
        show _ = x b + _ * (if b = b then 1 else 0)
        rw [if_pos rfl, x0]
        omega
      · rw [if_neg g]
        show _ = x b + _ * (if b = a then 1 else 0)
        rw [if_neg g]
        omega
    rw [e, dv_add, dv_mul, dv_one ha]
    have hb := h.bal z hz
    have e2 : sgv (P a) ((v : Nat) : Int) (l v) * ((if (P a).f = ((z : Nat) : Int) then 1 else 0) - (if (P a).t = ((z : Nat) : Int) then 1 else 0)) = (if z = v then l v else 0) - (if z = u then l v else 0) := by
      unfold sgv
      unfold othV at hu
      by_cases hf : (P a).f = ((v : Nat) : Int)
      · rw [if_pos hf] at hu ⊢
        rw [hu, hf]
        by_cases g : z = v
        · subst g
          rw [if_pos rfl, if_neg (by omega), if_pos rfl, if_neg (by omega)]
          omega
        · rw [if_neg (show ¬ ((v : Nat) : Int) = ((z : Nat) : Int) by omega), if_neg g]
          by_cases g2 : z = u
          · subst g2
            rw [if_pos rfl, if_pos rfl]
            omega
          · rw [if_neg (show ¬ ((u : Nat) : Int) = ((z : Nat) : Int) by omega), if_neg g2]
            omega
      · have ht : (P a).t = ((v : Nat) : Int) := hend.resolve_left hf
        rw [if_neg hf] at hu ⊢
        rw [ht, hu]
        by_cases g : z = v
        · subst g
          rw [if_pos rfl, if_neg (by omega), if_pos rfl, if_neg (by omega)]
          omega
        · rw [if_neg (show ¬ ((v : Nat) : Int) = ((z : Nat) : Int) by omega), if_neg g]
          by_cases g2 : z = u
          · subst g2
            rw [if_pos rfl, if_pos rfl]
            omega
          · rw [if_neg (show ¬ ((u : Nat) : Int) = ((z : Nat) : Int) by omega), if_neg g2]
            omega
    rw [e2]
    unfold upd
    by_cases g : z = v
    · subst g
      rw [if_pos rfl, if_neg (fun q => huv q.symm), if_pos rfl]
      omega
    · rw [if_neg g, if_neg g]
      by_cases g2 : z = u
      · subst g2
        rw [if_pos rfl, if_pos rfl]
        omega
      · rw [if_neg g2, if_neg g2]
        omega
  · by_cases g : b = a
    · subst g
      exact ⟨v, hv, .inr rfl, he⟩
    · unfold upd at hx
      rw [if_neg g] at hx
      obtain ⟨z, z0, z1, z2⟩ := h.sup b hb hx
      exact ⟨z, z0, .inl z1, z2⟩
  · unfold upd
    by_cases g : z = v
    · rw [if_pos g]
    · rw [if_neg g]
      rcases d with d | d
      · rw [if_neg (show ¬ z = u from fun q => nu (q ▸ d))]
        exact h.don z hz d
      · exact absurd d g
  · rw [sab_upd, if_pos hv, sab_upd, if_pos hun]
    have e : upd l u (l u + l v) v = l v := by unfold upd; rw [if_neg (fun q => huv q.symm)]
    rw [e]
    have := h.sum
    omega
/-- when all but the first nodes are done, the flow is the one in the forest -/
theorem St.fin {n : Nat} {N : Nat → Nod} {P : Nat → Pip} {m : Nat} {s x l : Nat → Int} {Dn : Nat → Prop} (hN : netB n N m P = true) (he : evB n P m s = true) (h : St n P m (fE n P m) s Dn x l) (hd : ∀ z, z < n → fE n P m ((z : Nat) : Int) ≠ -1 → Dn z) : ∀ a, a < m → x a = fflN n P m s a := by
  have hl : ∀ z, z < n → l z = 0 := by
    intro z hz
    by_cases e : fE n P m ((z : Nat) : Int) = -1
    · have r0 := fo_r0 hN ((z : Nat) : Int) ⟨by omega, by omega⟩ e
      have h1 : csm (cmpN n P m) (fun i => s i - dv P x m ((i : Nat) : Int)) n ((z : Nat) : Int) = csm (cmpN n P m) l n ((z : Nat) : Int) := csm_congr (fun i hi => by have := h.bal i hi; omega)
      rw [csm_sub, evB_iff.1 he z hz, csm_dv m (fun a ha => by
        obtain ⟨p1, p2, _⟩ := pip_end (net_pip hN ha)
        refine ⟨p1, p2, ?_⟩
        unfold cmpN
        rw [Int.toNat_of_nonneg p1.1, Int.toNat_of_nonneg p2.1]
        exact fo_r1 hN a ha), csm_only (r := z) n (fun i hi hr hne => by
        by_cases e2 : fE n P m ((i : Nat) : Int) = -1
        · have := fo_r0 hN ((i : Nat) : Int) ⟨by omega, by omega⟩ e2
          unfold cmpN at hr
          omega
        · exact h.don i hi (hd i hi e2)), if_pos ⟨hz, r0⟩] at h1
      omega
    · exact h.don z hz (hd z hz e)
  exact fflN_uniq hN he (fun a ha hx => by
    obtain ⟨z, z0, _, z2⟩ := h.sup a ha hx
    exact ⟨((z : Nat) : Int), by omega, by omega, z2⟩) (fun y hy => by have := h.bal y hy; have := hl y hy; omega)

/-- done: the nodes but the first one of the components of the first k nodes -/
def DnR (n : Nat) (P : Nat → Pip) (m k z : Nat) : Prop := ∃ r, r < k ∧ rts n P m r = true ∧ vhas (vis n P m ((r : Nat) : Int)) ((z : Nat) : Int) = true ∧ z ≠ r
/-- and of those visited from k the ones from place j on -/
def DnI (n : Nat) (P : Nat → Pip) (m k j z : Nat) : Prop := DnR n P m k z ∨ ∃ i v, j ≤ i ∧ 0 < i ∧ (vis n P m ((k : Nat) : Int))[i]? = some v ∧ v.nd = ((z : Nat) : Int)
theorem DnR_zero (n : Nat) (P : Nat → Pip) (m z : Nat) : ¬ DnR n P m 0 z := fun ⟨r, h, _⟩ => by omega
theorem DnR_skip {n : Nat} {P : Nat → Pip} {m k : Nat} (h : rts n P m k = false) (z : Nat) : DnR n P m k z ↔ DnR n P m (k + 1) z := by
  constructor
  · rintro ⟨r, h1, h2⟩
    exact ⟨r, by omega, h2⟩
  · rintro ⟨r, h1, h2, h3⟩
    have : r ≠ k := fun e => by rw [e, h] at h2; cases h2
    exact ⟨r, by omega, h2, h3⟩
theorem DnI_top {n : Nat} {P : Nat → Pip} {m k j : Nat} (h : (vis n P m ((k : Nat) : Int)).length ≤ j) (z : Nat) : DnR n P m k z ↔ DnI n P m k j z := by
  constructor
  · exact .inl
  · rintro (g | ⟨i, v, h1, _, h2, _⟩)
    · exact g
    · have := get_lt h2
      omega
theorem DnI_step {n : Nat} {P : Nat → Pip} {m k j V : Nat} {v : Vs} (h : (vis n P m ((k : Nat) : Int))[j]? = some v) (h0 : 0 < j) (hv : v.nd = ((V : Nat) : Int)) (z : Nat) : (DnI n P m k (j + 1) z ∨ z = V) ↔ DnI n P m k j z := by
  constructor
  · rintro ((g | ⟨i, u, h1, h2, h3, h4⟩) | rfl)
    · exact .inl g
    · exact .inr ⟨i, u, by omega, h2, h3, h4⟩
    · exact .inr ⟨j, v, Nat.le_refl _, h0, h, hv⟩
  · rintro (g | ⟨i, u, h1, h2, h3, h4⟩)
    · exact .inl (.inl g)
    · by_cases e : i = j
      · subst e
        rw [h] at h3
        injection h3 with h3
        subst h3
        exact .inr (by omega)
      · exact .inl (.inr ⟨i, u, by omega, h2, h3, h4⟩)
theorem DnI_end {n : Nat} {N : Nat → Nod} {P : Nat → Pip} {m k : Nat} (hN : netB n N m P = true) (hk : k < n) (h : rts n P m k = true) (z : Nat) : DnI n P m k 1 z ↔ DnR n P m (k + 1) z := by
  have ok := vis_ok (P := P) (m := m) (x := ((k : Nat) : Int)) hN (by omega)
  constructor
  · rintro (⟨r, h1, h2⟩ | ⟨i, v, h1, h2, h3, h4⟩)
    · exact ⟨r, by omega, h2⟩
    · refine ⟨k, by omega, h, by rw [← h4]; exact get_vhas h3, fun e => ?_⟩
      have := ok.inj h3 ok.fst (by rw [h4, e])
      omega
  · rintro ⟨r, h1, h2, h3, h4⟩
    by_cases e : r = k
    · subst e
      obtain ⟨i, v, g1, g2⟩ := vhas_get h3
      refine .inr ⟨i, v, ?_, ?_, g1, g2⟩ <;>
      · rcases Nat.eq_zero_or_pos i with rfl | q
        · rw [ok.fst] at g1
          injection g1 with g1
          subst g1
          exact absurd (show z = r by have : ((r : Nat) : Int) = ((z : Nat) : Int) := g2; omega) h4
        · exact q
    · exact .inl ⟨r, by omega, h2, h3, h4⟩
theorem DnI_not {n : Nat} {N : Nat → Nod} {P : Nat → Pip} {m k i j V : Nat} {v : Vs} (hN : netB n N m P = true) (hk : k < n) (h : rts n P m k = true) (hv : (vis n P m ((k : Nat) : Int))[i]? = some v) (hV : v.nd = ((V : Nat) : Int)) (hi : i < j) : ¬ DnI n P m k j V := by
  have ok := vis_ok (P := P) (m := m) (x := ((k : Nat) : Int)) hN (by omega)
  rintro (⟨r, h1, h2, h3, h4⟩ | ⟨i', u, h1, h2, h3, h4⟩)
  · have e1 := cmp_root hN (by omega) h2 h3
    have e2 := cmp_root hN hk h (get_vhas hv)
    rw [hV] at e2
    omega
  · have := ok.inj h3 hv (by rw [h4, hV])
    omega
theorem DnR_all {n : Nat} {N : Nat → Nod} {P : Nat → Pip} {m : Nat} (hN : netB n N m P = true) (z : Nat) (hz : z < n) (h : fE n P m ((z : Nat) : Int) ≠ -1) : DnR n P m n z := by
  obtain ⟨r, h1, h2, h3, h4⟩ := node_root (P := P) (m := m) hN (z := ((z : Nat) : Int)) ⟨by omega, by omega⟩
  refine ⟨r, h1, h2, h3, fun e => ?_⟩
  subst e
  have ok := vis_ok (P := P) (m := m) (x := ((z : Nat) : Int)) hN (by omega)
  apply h
  rw [(fE_at h4).1]
  exact ok.val (·.en) ok.fst
/-- the entry of a visited node, and where it was come from -/
theorem vis_en {n : Nat} {N : Nat → Nod} {P : Nat → Pip} {m k j : Nat} {v : Vs} (hN : netB n N m P = true) (hk : k < n) (h : rts n P m k = true) (hv : (vis n P m ((k : Nat) : Int))[j]? = some v) (h0 : 0 < j) :
    ∃ V a U i u : _, v.nd = ((V : Nat) : Int) ∧ V < n ∧ a < m ∧ v.en = ((a : Nat) : Int) ∧ fE n P m ((V : Nat) : Int) = ((a : Nat) : Int) ∧ othV (P a) ((V : Nat) : Int) = ((U : Nat) : Int) ∧ U < n ∧ i < j ∧ (vis n P m ((k : Nat) : Int))[i]? = some u ∧ u.nd = ((U : Nat) : Int) ∧ vval (·.en) (vis n P m ((k : Nat) : Int)) ((V : Nat) : Int) = ((a : Nat) : Int) := by
  have ok := vis_ok (P := P) (m := m) (x := ((k : Nat) : Int)) hN (by omega)
  obtain ⟨i, u, a, h1, h2, h3, h4, h5, h6, h7⟩ := ok.par j v h0 hv
  obtain ⟨v1, v2⟩ := ok.rng v (List.mem_of_getElem? hv)
  obtain ⟨u1, u2⟩ := ok.rng u (List.mem_of_getElem? h2)
  obtain ⟨V, hV⟩ := Int.eq_ofNat_of_zero_le v1
  obtain ⟨U, hU⟩ := Int.eq_ofNat_of_zero_le u1
  have hval := ok.val (·.en) hv
  refine ⟨V, a, U, i, u, hV, by omega, h3, h4, ?_, ?_, by omega, h1, h2, hU, ?_⟩
  · have e := cmp_root hN hk h (get_vhas hv)
    rw [hV] at e
    rw [(fE_at e).1, ← hV]
    exact hval.trans h4
  · rw [← hV, h6, (oth_oth (net_pip hN h3) h5).1, hU]
  · rw [← hV]
    exact hval.trans h4
end Go.Proofs.YtdbgcbkmcbgdiaaGreat.mem

namespace Go.Proofs.YtdbgcbkmcbgdiaaGreat.mem
open Go.RowKit
set_option linter.unusedVariables false

def brrL (x : Nat → Int) : List Value := (List.range 24).map (ia x)
def brr (x : Nat → Int) : Array Value := List.toArray (brrL x)
theorem brr_size (x : Nat → Int) : (brr x).size = 24 := by unfold brr brrL; simp
theorem brr_get (x : Nat → Int) (k : Nat) (hk : k < 24) : (brr x)[k]? = some (ia x k) := by unfold brr brrL; simp [hk]
theorem brr_eq {cur : Array Value} {x : Nat → Int} (h1 : cur.size = 24) (h2 : ∀ k, k < 24 → cur[k]? = some (ia x k)) : cur = brr x := by
  apply Array.ext_getElem?
  intro k
  by_cases h : k < 24
  · rw [h2 k h, brr_get x k h]
  · rw [Array.getElem?_eq_none (by omega), Array.getElem?_eq_none (by rw [brr_size]; omega)]
theorem brr_congr {x y : Nat → Int} (h : ∀ k, k < 24 → x k = y k) : brr x = brr y := by
  refine brr_eq (brr_size x) fun k hk => ?_
  rw [brr_get x k hk]
  unfold ia
  rw [h k hk]
theorem brr_one (x : Nat → Int) : (brr x).all (·.oneCell') = true := by
  rw [Array.all_eq_true_iff_forall_mem]
  intro v hv
  unfold brr brrL at hv
  simp only [List.mem_toArray, List.mem_map] at hv
  obtain ⟨i, _, rfl⟩ := hv
  rfl
theorem zeros24 (k : Nat) (hk : k < 24) : (#[Value.int IntKind.i64 0, Value.int IntKind.i64 0, Value.int IntKind.i64 0, Value.int IntKind.i64 0, Value.int IntKind.i64 0, Value.int IntKind.i64 0, Value.int IntKind.i64 0, Value.int IntKind.i64 0, Value.int IntKind.i64 0, Value.int IntKind.i64 0, Value.int IntKind.i64 0, Value.int IntKind.i64 0, Value.int IntKind.i64 0, Value.int IntKind.i64 0, Value.int IntKind.i64 0, Value.int IntKind.i64 0, Value.int IntKind.i64 0, Value.int IntKind.i64 0, Value.int IntKind.i64 0, Value.int IntKind.i64 0, Value.int IntKind.i64 0, Value.int IntKind.i64 0, Value.int IntKind.i64 0, Value.int IntKind.i64 0] : Array Value)[k]? = some (ia (fun _ => 0) k) := by
  rcases (by omega : k = 0 ∨ k = 1 ∨ k = 2 ∨ k = 3 ∨ k = 4 ∨ k = 5 ∨ k = 6 ∨ k = 7 ∨ k = 8 ∨ k = 9 ∨ k = 10 ∨ k = 11 ∨ k = 12 ∨ k = 13 ∨ k = 14 ∨ k = 15 ∨ k = 16 ∨ k = 17 ∨ k = 18 ∨ k = 19 ∨ k = 20 ∨ k = 21 ∨ k = 22 ∨ k = 23) with rfl | rfl | rfl | rfl | rfl | rfl | rfl | rfl | rfl | rfl | rfl | rfl | rfl | rfl | rfl | rfl | rfl | rfl | rfl | rfl | rfl | rfl | rfl | rfl <;> rfl
/-- the whole array out of an own block -/
theorem Ob.row4 {w : World} {b : Nat} {x : Nat → Int} (h : Ob w b 24 (ia x)) : ∃ t, w.heap[b]? = some (.cells (brr x) t (0, 0)) := by
  obtain ⟨cur, t, h1, h2, h3⟩ := h.ex
  rw [brr_eq h2 h3] at h1
  exact ⟨t, h1⟩
theorem sums_info : (Tryz.prog.info? 83).map (·.size) = some 24 := by kernel_rfl
theorem Ob.load4 {w : World} {b : Nat} {x : Nat → Int} (h : Ob w b 24 (ia x)) : (loadVar 83 ⟨b, 0, none⟩).run Tryz.prog w = .ok (.agg (brr x)) w := by
  obtain ⟨t, h1⟩ := h.row4
  exact run_loadVar_row w b t _ (brr x) (0, 0) _ h1 Tryz.underlying83 rfl (by rw [brr_size]; exact sums_info)
theorem Ob.newA4 (w : World) (x : Nat → Int) (t : TypeId) : Ob (w.alloc (.cells (brr x) t)) w.heap.size 24 (ia x) := Ob.new w _ t 24 _ (brr_size x) (fun k hk => brr_get x k hk)
theorem Ob.new04 (w : World) (t : TypeId) : Ob (w.alloc (.cells #[Value.int IntKind.i64 0, Value.int IntKind.i64 0, Value.int IntKind.i64 0, Value.int IntKind.i64 0, Value.int IntKind.i64 0, Value.int IntKind.i64 0, Value.int IntKind.i64 0, Value.int IntKind.i64 0, Value.int IntKind.i64 0, Value.int IntKind.i64 0, Value.int IntKind.i64 0, Value.int IntKind.i64 0, Value.int IntKind.i64 0, Value.int IntKind.i64 0, Value.int IntKind.i64 0, Value.int IntKind.i64 0, Value.int IntKind.i64 0, Value.int IntKind.i64 0, Value.int IntKind.i64 0, Value.int IntKind.i64 0, Value.int IntKind.i64 0, Value.int IntKind.i64 0, Value.int IntKind.i64 0, Value.int IntKind.i64 0] t)) w.heap.size 24 (ia (fun _ => 0)) := Ob.new w _ t 24 _ rfl (fun k hk => zeros24 k hk)
theorem Ob.setI4 {w : World} {b : Nat} {x : Nat → Int} (h : Ob w b 24 (ia x)) (i : Nat) (v : Int) (hi : i < 24) : Ob (w.setCell ⟨b, i, none⟩ (.int .i64 v)) b 24 (ia (upd x i v)) := by
  refine (h.set i (.int .i64 v) hi).congr fun k _ => ?_
  unfold updV ia upd
  split <;> rfl
theorem Ob.setRow4 {w : World} {b : Nat} {d : Nat → Value} (h : Ob w b 24 d) (x : Nat → Int) : Ob (w.setRow b (brr x)) b 24 (ia x) := by
  obtain ⟨cur, t, h1, h2, h3⟩ := h.ex
  refine ⟨brr x, t, ?_, brr_size x, fun k hk => brr_get x k hk⟩
  simp [World.setRow, Array.getElem?_modify, h1]
theorem results_brr {fn : Func} {p : Tmp} {tmps : Array Value} {w : World} {b : Nat} {x : Nat → Int} (h : fn.results = #[.cell p 83]) (hp : tmps.getD p undef = .pointer (some ⟨b, 0, none⟩)) (ho : Ob w b 24 (ia x)) : (results fn tmps).run Tryz.prog w = .ok (.agg (brr x)) w := by
  obtain ⟨t, h1⟩ := ho.row4
  exact results_cell_row h tmps w b t (brr x) (0, 0) _ hp h1 Tryz.underlying83 rfl (by rw [brr_size]; exact sums_info)
theorem pad_splice4 {n : Nat} {d : Nat → Int} (hn : n ≤ 24) : (splice (brr (fun _ => 0)).toList 0 (intL n d)).toArray = brr (pad n d) := by
  have hs : (brr (fun _ => 0)).toList.length = 24 := by rw [Array.length_toList, brr_size]
  refine brr_eq ?_ fun k hk => ?_
  · rw [List.size_toArray, length_splice _ _ _ (by rw [hs, intL_len]; omega), hs]
  · rw [List.getElem?_toArray]
    unfold splice
    rw [List.take_zero, List.nil_append, Nat.zero_add]
    by_cases h : k < n
    · rw [List.getElem?_append_left (by rw [intL_len]; exact h), intL_get d h]
      unfold ia pad
      rw [if_pos h]
    · rw [List.getElem?_append_right (by rw [intL_len]; omega), intL_len, List.getElem?_drop, show n + (k - n) = k by omega, Array.getElem?_toList, brr_get _ _ hk]
      unfold ia pad
      rw [if_neg h]
set_option maxRecDepth 100000 in
set_option maxHeartbeats 4000000 in
theorem sumsOf_any (w : World) (v : Value) (n : Nat) (d : Nat → Int) (lo hi : Nat) (h : Sl w v n d lo hi) (hhi : hi ≤ w.heap.size) (hn : n ≤ 24) :
    Calls Tryz.prog 57 #[v] w fun e w' => e = .returned (.agg (brr (pad n d))) ∧ Below w.heap.size w w' := by
  have a0 := (Ob.new04 w 83).keep (Below.heap_alloc _ (.cells #[Value.int IntKind.i64 0, Value.int IntKind.i64 0, Value.int IntKind.i64 0, Value.int IntKind.i64 0, Value.int IntKind.i64 0, Value.int IntKind.i64 0, Value.int IntKind.i64 0, Value.int IntKind.i64 0, Value.int IntKind.i64 0, Value.int IntKind.i64 0, Value.int IntKind.i64 0, Value.int IntKind.i64 0, Value.int IntKind.i64 0, Value.int IntKind.i64 0, Value.int IntKind.i64 0, Value.int IntKind.i64 0, Value.int IntKind.i64 0, Value.int IntKind.i64 0, Value.int IntKind.i64 0, Value.int IntKind.i64 0, Value.int IntKind.i64 0, Value.int IntKind.i64 0, Value.int IntKind.i64 0, Value.int IntKind.i64 0] 83) _ (by rw [szal]; omega))
  have a1 := Ob.new04 (w.alloc (.cells #[Value.int IntKind.i64 0, Value.int IntKind.i64 0, Value.int IntKind.i64 0, Value.int IntKind.i64 0, Value.int IntKind.i64 0, Value.int IntKind.i64 0, Value.int IntKind.i64 0, Value.int IntKind.i64 0, Value.int IntKind.i64 0, Value.int IntKind.i64 0, Value.int IntKind.i64 0, Value.int IntKind.i64 0, Value.int IntKind.i64 0, Value.int IntKind.i64 0, Value.int IntKind.i64 0, Value.int IntKind.i64 0, Value.int IntKind.i64 0, Value.int IntKind.i64 0, Value.int IntKind.i64 0, Value.int IntKind.i64 0, Value.int IntKind.i64 0, Value.int IntKind.i64 0, Value.int IntKind.i64 0, Value.int IntKind.i64 0] 83)) 83
  simp only [World.size_alloc] at a1
  have b0 := below_new w (.cells #[Value.int IntKind.i64 0, Value.int IntKind.i64 0, Value.int IntKind.i64 0, Value.int IntKind.i64 0, Value.int IntKind.i64 0, Value.int IntKind.i64 0, Value.int IntKind.i64 0, Value.int IntKind.i64 0, Value.int IntKind.i64 0, Value.int IntKind.i64 0, Value.int IntKind.i64 0, Value.int IntKind.i64 0, Value.int IntKind.i64 0, Value.int IntKind.i64 0, Value.int IntKind.i64 0, Value.int IntKind.i64 0, Value.int IntKind.i64 0, Value.int IntKind.i64 0, Value.int IntKind.i64 0, Value.int IntKind.i64 0, Value.int IntKind.i64 0, Value.int IntKind.i64 0, Value.int IntKind.i64 0, Value.int IntKind.i64 0] 83)
  have b1 := b0.trans ((below_new _ (.cells #[Value.int IntKind.i64 0, Value.int IntKind.i64 0, Value.int IntKind.i64 0, Value.int IntKind.i64 0, Value.int IntKind.i64 0, Value.int IntKind.i64 0, Value.int IntKind.i64 0, Value.int IntKind.i64 0, Value.int IntKind.i64 0, Value.int IntKind.i64 0, Value.int IntKind.i64 0, Value.int IntKind.i64 0, Value.int IntKind.i64 0, Value.int IntKind.i64 0, Value.int IntKind.i64 0, Value.int IntKind.i64 0, Value.int IntKind.i64 0, Value.int IntKind.i64 0, Value.int IntKind.i64 0, Value.int IntKind.i64 0, Value.int IntKind.i64 0, Value.int IntKind.i64 0, Value.int IntKind.i64 0, Value.int IntKind.i64 0] 83)).mono (by rw [szal]; omega))
  have hs0 : ((w.alloc (.cells #[Value.int IntKind.i64 0, Value.int IntKind.i64 0, Value.int IntKind.i64 0, Value.int IntKind.i64 0, Value.int IntKind.i64 0, Value.int IntKind.i64 0, Value.int IntKind.i64 0, Value.int IntKind.i64 0, Value.int IntKind.i64 0, Value.int IntKind.i64 0, Value.int IntKind.i64 0, Value.int IntKind.i64 0, Value.int IntKind.i64 0, Value.int IntKind.i64 0, Value.int IntKind.i64 0, Value.int IntKind.i64 0, Value.int IntKind.i64 0, Value.int IntKind.i64 0, Value.int IntKind.i64 0, Value.int IntKind.i64 0, Value.int IntKind.i64 0, Value.int IntKind.i64 0, Value.int IntKind.i64 0, Value.int IntKind.i64 0] 83)).alloc (.cells #[Value.int IntKind.i64 0, Value.int IntKind.i64 0, Value.int IntKind.i64 0, Value.int IntKind.i64 0, Value.int IntKind.i64 0, Value.int IntKind.i64 0, Value.int IntKind.i64 0, Value.int IntKind.i64 0, Value.int IntKind.i64 0, Value.int IntKind.i64 0, Value.int IntKind.i64 0, Value.int IntKind.i64 0, Value.int IntKind.i64 0, Value.int IntKind.i64 0, Value.int IntKind.i64 0, Value.int IntKind.i64 0, Value.int IntKind.i64 0, Value.int IntKind.i64 0, Value.int IntKind.i64 0, Value.int IntKind.i64 0, Value.int IntKind.i64 0, Value.int IntKind.i64 0, Value.int IntKind.i64 0, Value.int IntKind.i64 0] 83)).heap.size = w.heap.size + 1 + 1 := by simp
  have h1 := h.below b1 hhi
  obtain ⟨p, cap, rfl, hc⟩ := h1
  have hpos : 0 < (intL n d).length → some (⟨w.heap.size + 1, 0, none⟩ : Addr) = some ⟨w.heap.size + 1, 0, none⟩ ∧ ∃ ad, p = some ad ∧ ∀ j u, (intL n d)[j]? = some u → ((w.alloc (.cells #[Value.int IntKind.i64 0, Value.int IntKind.i64 0, Value.int IntKind.i64 0, Value.int IntKind.i64 0, Value.int IntKind.i64 0, Value.int IntKind.i64 0, Value.int IntKind.i64 0, Value.int IntKind.i64 0, Value.int IntKind.i64 0, Value.int IntKind.i64 0, Value.int IntKind.i64 0, Value.int IntKind.i64 0, Value.int IntKind.i64 0, Value.int IntKind.i64 0, Value.int IntKind.i64 0, Value.int IntKind.i64 0, Value.int IntKind.i64 0, Value.int IntKind.i64 0, Value.int IntKind.i64 0, Value.int IntKind.i64 0, Value.int IntKind.i64 0, Value.int IntKind.i64 0, Value.int IntKind.i64 0, Value.int IntKind.i64 0] 83)).alloc (.cells #[Value.int IntKind.i64 0, Value.int IntKind.i64 0, Value.int IntKind.i64 0, Value.int IntKind.i64 0, Value.int IntKind.i64 0, Value.int IntKind.i64 0, Value.int IntKind.i64 0, Value.int IntKind.i64 0, Value.int IntKind.i64 0, Value.int IntKind.i64 0, Value.int IntKind.i64 0, Value.int IntKind.i64 0, Value.int IntKind.i64 0, Value.int IntKind.i64 0, Value.int IntKind.i64 0, Value.int IntKind.i64 0, Value.int IntKind.i64 0, Value.int IntKind.i64 0, Value.int IntKind.i64 0, Value.int IntKind.i64 0, Value.int IntKind.i64 0, Value.int IntKind.i64 0, Value.int IntKind.i64 0, Value.int IntKind.i64 0] 83)).cell? (ad.add j) = some u := by
    intro h0
    rw [intL_len] at h0
    refine ⟨rfl, ?_⟩
    rcases hc with e | ⟨b, o, rfl, _, _, hx⟩
    · omega
    · refine ⟨_, rfl, fun j u hu => ?_⟩
      have hj : j < n := by
        rcases Nat.lt_or_ge j n with g | g
        · exact g
        · rw [List.getElem?_eq_none (by rw [intL_len]; omega)] at hu; cases hu
      rw [intL_get d hj] at hu
      injection hu with hu
      subst hu
      have hadd : (⟨b, o, none⟩ : Addr).add j = ⟨b, o + j, none⟩ := by unfold Addr.add; split <;> simp_all
      rw [hadd]
      exact hx j hj
  have hmin : (intL n d).length = Nat.min n 24 := by rw [intL_len]; exact (Nat.min_eq_left hn).symm
  have hfit : 0 + (intL n d).length ≤ (brr (fun _ => 0)).toList.length := by rw [intL_len, Array.length_toList, brr_size]; omega
  obtain ⟨t0, g0⟩ := a0.row4
  obtain ⟨t1, g1⟩ := a1.row4
  have g1' : ((w.alloc (.cells #[Value.int IntKind.i64 0, Value.int IntKind.i64 0, Value.int IntKind.i64 0, Value.int IntKind.i64 0, Value.int IntKind.i64 0, Value.int IntKind.i64 0, Value.int IntKind.i64 0, Value.int IntKind.i64 0, Value.int IntKind.i64 0, Value.int IntKind.i64 0, Value.int IntKind.i64 0, Value.int IntKind.i64 0, Value.int IntKind.i64 0, Value.int IntKind.i64 0, Value.int IntKind.i64 0, Value.int IntKind.i64 0, Value.int IntKind.i64 0, Value.int IntKind.i64 0, Value.int IntKind.i64 0, Value.int IntKind.i64 0, Value.int IntKind.i64 0, Value.int IntKind.i64 0, Value.int IntKind.i64 0, Value.int IntKind.i64 0] 83)).alloc (.cells #[Value.int IntKind.i64 0, Value.int IntKind.i64 0, Value.int IntKind.i64 0, Value.int IntKind.i64 0, Value.int IntKind.i64 0, Value.int IntKind.i64 0, Value.int IntKind.i64 0, Value.int IntKind.i64 0, Value.int IntKind.i64 0, Value.int IntKind.i64 0, Value.int IntKind.i64 0, Value.int IntKind.i64 0, Value.int IntKind.i64 0, Value.int IntKind.i64 0, Value.int IntKind.i64 0, Value.int IntKind.i64 0, Value.int IntKind.i64 0, Value.int IntKind.i64 0, Value.int IntKind.i64 0, Value.int IntKind.i64 0, Value.int IntKind.i64 0, Value.int IntKind.i64 0, Value.int IntKind.i64 0, Value.int IntKind.i64 0] 83)).heap[w.heap.size + 1]? = some (.cells (brr (fun _ => 0)).toList.toArray t1 (0, 0)) := by rw [Array.toArray_toList]; exact g1
  have HP := Lib.hid hpos
  have H0 := Lib.hid g0
  have HA0 := Lib.hid a0
  have H1 := Lib.hid g1'
  have HM := Lib.hid hmin
  have HF := Lib.hid hfit
  have HB := Lib.hid b1
  have HPS := Lib.hid (pad_splice4 (d := d) hn)
  have HS := Lib.hid hs0
  clear hpos g0 g1 g1' hmin hfit b0 b1 a0 a1 hc h hs0
  go_enter Tryz.func57, Tryz.ntmps57
  go_wp2_with (first
    | (refine wpList_copy_splice rfl (.tmp 4) (.tmp 5) 28 28 rfl 2 Tryz.underlying28 int64_size (some ⟨w.heap.size + 1, 0, none⟩) p 24 24 n cap rfl rfl (w.heap.size + 1) 0 (brr (fun _ => 0)).toList t1 H1.out (intL n d) HM.out HP.out HF.out (intL_one n d) (w.heap.size + 1) _ (Below.refl _ _) (Nat.le_refl _) ?_; intro w4 hg4 hb4)
    | (refine wpList_load_row rfl 83 _ rfl (w.heap.size + 1) rfl t1 _ (0, 0) _ (by have := hg4.out; rw [HPS.out] at this; exact this) Tryz.underlying83 rfl (by rw [brr_size]; exact sums_info) ?_)
    | (refine wpList_store_row rfl 83 _ _ rfl w.heap.size _ rfl rfl t0 _ ((hb4.block w.heap.size (by omega)).trans H0.out) (by rw [brr_size]; exact sums_info) (by rw [brr_size, brr_size]) (brr_one _) ?_))
  have a4 := HA0.out.below hb4 (by omega)
  refine bodyPost_ret (v := .agg (brr (pad n d))) ?_ rfl ⟨rfl, (HB.out.trans (hb4.mono (by omega))).trans (((Only.refl w.heap.size w4).setRow (brr (pad n d))).below (Nat.le_refl _))⟩
  exact results_brr rfl rfl (a4.setRow4 (pad n d))
theorem eql_brr (x y : Nat → Int) (w : World) : (binOp .eql 83 (.agg (brr x)) (.agg (brr y))).run Tryz.prog w = .ok (.bool (eqL x y (List.range' 0 24 1))) w := by
  rw [run_eql_struct]
  have key : (Op.equalIn 10000 83 (.agg (brr x)) (.agg (brr y))).run Tryz.prog w = .ok (eqL x y (List.range' 0 24 1)) w := by
    rw [Op.equalIn]
    have hsz : ∀ w, (sizeOf 2).run Tryz.prog w = .ok 1 w := Tryz.sizeOf2
    simp only [Sem.run_bind, run_underlying Tryz.underlying83, Result.andThen_ok, hsz, Std.Legacy.Range.forIn_eq_forIn_range', Std.Legacy.Range.size, Nat.sub_zero, Nat.add_sub_cancel, Nat.div_one]
    have hl : ∀ i ∈ List.range' 0 24 1, i < 24 := fun i hi => by simpa using (List.mem_range'_1.1 hi).2
    generalize List.range' 0 24 1 = l at hl ⊢
    induction l with
    | nil => simp [eqL]
    | cons i l ih =>
      have hi : i < 24 := hl i (by simp)
      have px : ∀ z : Nat → Int, (part 2 (brr z) (i * 1)).run Tryz.prog w = .ok (.int .i64 (z i)) w := fun z => by
        simp [part, isAgg, run_underlying Tryz.underlying2, brr_get z i hi, ia]
      have pe : (Op.equalIn 9999 2 (.int .i64 (x i)) (.int .i64 (y i))).run Tryz.prog w = .ok (x i == y i) w := run_equalIn_int w 9998 2 .i64 .i64 _ _ Tryz.underlying2
      simp only [List.forIn_cons, Sem.run_bind, px, pe, Result.andThen_ok, eqL]
      cases hb : (x i == y i)
      · simp
      · simp only [Bool.not_true, Bool.false_eq_true, if_false, Sem.run_pure, Result.andThen_ok, Bool.true_and]
        exact ih fun j hj => hl j (by simp [hj])
  rw [key]
  rfl

theorem only_drw {g : Nat} {w w' : World} (h : Only g w w') : Only g w w'.drew := ⟨h.os, h.tape, h.output, h.size, h.block⟩
/-- what has become of the array of sums -/
def AddPost (w : World) (b : Nat) (x : Nat → Int) (i : Nat) (y : Int) (e : Ending) (w' : World) : Prop := e = .returned (.tuple #[]) ∧ Ob w' b 24 (ia (upd x i (x i + y))) ∧ Only b w w'
set_option maxHeartbeats 4000000 in
theorem add_any (w : World) (b : Nat) (x : Nat → Int) (i : Nat) (y : Int) (h : Ob w b 24 (ia x)) (hi : i < 24) (hb : -4611686018427387904 ≤ x i + y ∧ x i + y ≤ 4611686018427387904) :
    Calls Tryz.prog 107 #[.pointer (some ⟨b, 0, none⟩), .int .i64 (i : Nat), .int .i64 y] w (AddPost w b x i y) := by
  have k0 : (0 : Int) ≤ (i : Int) := Int.natCast_nonneg _
  have k1 : (i : Int) < 24 := by omega
  have y0 : w.cell? ⟨b, i, none⟩ = some (.int .i64 (x i)) := h.cell i hi
  have y2 := h.free i
  have l0 := h.lt
  have HO := Lib.hid h
  clear h
  go_enter Tryz.func107, Tryz.ntmps107
  go_wp2_with fail
  go_region
  go_wp2_with fail
  go_end0
  exact ⟨rfl, (HO.out.setI4 i (x i + y) hi).keep rfl, only_drw ((Only.refl b w).setCell i _)⟩
end Go.Proofs.YtdbgcbkmcbgdiaaGreat.mem

namespace Go.Proofs.YtdbgcbkmcbgdiaaGreat.mem
open Go.RowKit
set_option linter.unusedVariables false

theorem dv_bd2 {P : Nat → Pip} {x : Nat → Int} {z : Int} : ∀ {k : Nat}, (∀ i, i < k → -30000 ≤ x i ∧ x i ≤ 30000) → -60000 * (k : Int) ≤ dv P x k z ∧ dv P x k z ≤ 60000 * (k : Int)
  | 0, _ => by show _ ≤ (0 : Int) ∧ (0 : Int) ≤ _; omega
  | k + 1, h => by
    have ih := dv_bd2 (P := P) (x := x) (z := z) (k := k) (fun i hi => h i (by omega))
    have h1 := h k (by omega)
    unfold dv
    split <;> split <;> omega
theorem upd_two {P : Nat → Pip} {d : Nat → Int} {k f t : Nat} (hf : (P k).f = ((f : Nat) : Int)) (ht : (P k).t = ((t : Nat) : Int)) (hne : f ≠ t) (z : Nat) :
    upd (upd (fun j => dv P d k ((j : Nat) : Int)) f (dv P d k ((f : Nat) : Int) + d k)) t (upd (fun j => dv P d k ((j : Nat) : Int)) f (dv P d k ((f : Nat) : Int) + d k) t + -d k) z = dv P d (k + 1) ((z : Nat) : Int) := by
  simp only [upd]
  rw [dv, hf, ht]
  by_cases e : z = t
  · subst e
    rw [if_pos rfl, if_neg (fun q => hne q.symm), if_neg (show ¬ ((f : Nat) : Int) = ((z : Nat) : Int) by omega), if_pos rfl]
    omega
  · rw [if_neg e, if_neg (show ¬ ((t : Nat) : Int) = ((z : Nat) : Int) by omega)]
    by_cases e2 : z = f
    · subst e2
      rw [if_pos rfl, if_pos rfl]
      omega
    · rw [if_neg e2, if_neg (show ¬ ((f : Nat) : Int) = ((z : Nat) : Int) by omega)]
      omega
set_option maxRecDepth 100000 in
set_option maxHeartbeats 8000000 in
theorem balancedBy_any (w : World) (v : Value) (n : Nat) (N : Nat → Nod) (m : Nat) (P : Nat → Pip) (lo hi : Nat) (h : NetAt w v n N m P lo hi) (hhi : hi ≤ w.heap.size) (hB : netB n N m P = true) (va : Value) (d : Nat → Int) (la ha : Nat) (hv : Sl w va m d la ha) (hha : ha ≤ w.heap.size) (hf : flB d m = true) :
    Calls Tryz.prog 56 #[v, va] w fun e w' => e = .returned (.agg (brr (fun z => dv P d m ((z : Nat) : Int)))) ∧ Below w.heap.size w w' := by
  obtain ⟨p0, c0, p1, c1, rfl, hn9, hm9⟩ := h.parts
  obtain ⟨hn1, hn24, hm40⟩ := net_sz hB
  have HV := Lib.hid h
  have HPI := Lib.hid (fun a (ha : a < m) => pip_end (net_pip hB ha))
  have HFR := Lib.hid (show ∀ i, i < m → -30000 ≤ d i ∧ d i ≤ 30000 from fun i hi => flQ_iff.1 (flB_iff.1 hf i hi))
  obtain ⟨pa, ca, rfl, hva⟩ := hv
  have HVZ := Lib.hid hva
  have R0 := (Ob.new04 (w.alloc (.cells #[.slice p0 n c0, .slice p1 m c1] 27)) 83).keep (Below.heap_alloc _ (.cells #[Value.int IntKind.i64 0, Value.int IntKind.i64 0, Value.int IntKind.i64 0, Value.int IntKind.i64 0, Value.int IntKind.i64 0, Value.int IntKind.i64 0, Value.int IntKind.i64 0, Value.int IntKind.i64 0, Value.int IntKind.i64 0, Value.int IntKind.i64 0, Value.int IntKind.i64 0, Value.int IntKind.i64 0, Value.int IntKind.i64 0, Value.int IntKind.i64 0, Value.int IntKind.i64 0, Value.int IntKind.i64 0, Value.int IntKind.i64 0, Value.int IntKind.i64 0, Value.int IntKind.i64 0, Value.int IntKind.i64 0, Value.int IntKind.i64 0, Value.int IntKind.i64 0, Value.int IntKind.i64 0, Value.int IntKind.i64 0] 83) _ (by simp only [World.size_alloc]; omega))
  have S0 := Ob.new04 ((w.alloc (.cells #[.slice p0 n c0, .slice p1 m c1] 27)).alloc (.cells #[Value.int IntKind.i64 0, Value.int IntKind.i64 0, Value.int IntKind.i64 0, Value.int IntKind.i64 0, Value.int IntKind.i64 0, Value.int IntKind.i64 0, Value.int IntKind.i64 0, Value.int IntKind.i64 0, Value.int IntKind.i64 0, Value.int IntKind.i64 0, Value.int IntKind.i64 0, Value.int IntKind.i64 0, Value.int IntKind.i64 0, Value.int IntKind.i64 0, Value.int IntKind.i64 0, Value.int IntKind.i64 0, Value.int IntKind.i64 0, Value.int IntKind.i64 0, Value.int IntKind.i64 0, Value.int IntKind.i64 0, Value.int IntKind.i64 0, Value.int IntKind.i64 0, Value.int IntKind.i64 0, Value.int IntKind.i64 0] 83)) 83
  simp only [World.size_alloc] at R0 S0
  have B0 := ((below_new w (.cells #[.slice p0 n c0, .slice p1 m c1] 27)).trans ((below_new _ (.cells #[Value.int IntKind.i64 0, Value.int IntKind.i64 0, Value.int IntKind.i64 0, Value.int IntKind.i64 0, Value.int IntKind.i64 0, Value.int IntKind.i64 0, Value.int IntKind.i64 0, Value.int IntKind.i64 0, Value.int IntKind.i64 0, Value.int IntKind.i64 0, Value.int IntKind.i64 0, Value.int IntKind.i64 0, Value.int IntKind.i64 0, Value.int IntKind.i64 0, Value.int IntKind.i64 0, Value.int IntKind.i64 0, Value.int IntKind.i64 0, Value.int IntKind.i64 0, Value.int IntKind.i64 0, Value.int IntKind.i64 0, Value.int IntKind.i64 0, Value.int IntKind.i64 0, Value.int IntKind.i64 0, Value.int IntKind.i64 0] 83)).mono (by simp only [World.size_alloc]; omega))).trans ((below_new _ (.cells #[Value.int IntKind.i64 0, Value.int IntKind.i64 0, Value.int IntKind.i64 0, Value.int IntKind.i64 0, Value.int IntKind.i64 0, Value.int IntKind.i64 0, Value.int IntKind.i64 0, Value.int IntKind.i64 0, Value.int IntKind.i64 0, Value.int IntKind.i64 0, Value.int IntKind.i64 0, Value.int IntKind.i64 0, Value.int IntKind.i64 0, Value.int IntKind.i64 0, Value.int IntKind.i64 0, Value.int IntKind.i64 0, Value.int IntKind.i64 0, Value.int IntKind.i64 0, Value.int IntKind.i64 0, Value.int IntKind.i64 0, Value.int IntKind.i64 0, Value.int IntKind.i64 0, Value.int IntKind.i64 0, Value.int IntKind.i64 0] 83)).mono (by simp only [World.size_alloc]; omega))
  have e1' := (boxed w (.slice p0 n c0) (.slice p1 m c1) 27).b1
  have HR := Lib.hid R0
  have HS := Lib.hid S0
  have HBB := Lib.hid B0
  clear h hB R0 S0 B0 hva hf
  go_enter Tryz.func56, Tryz.ntmps56
  go_wp2_with fail
  generalize hW : ((w.alloc (.cells #[.slice p0 n c0, .slice p1 m c1] 27)).alloc (.cells #[Value.int IntKind.i64 0, Value.int IntKind.i64 0, Value.int IntKind.i64 0, Value.int IntKind.i64 0, Value.int IntKind.i64 0, Value.int IntKind.i64 0, Value.int IntKind.i64 0, Value.int IntKind.i64 0, Value.int IntKind.i64 0, Value.int IntKind.i64 0, Value.int IntKind.i64 0, Value.int IntKind.i64 0, Value.int IntKind.i64 0, Value.int IntKind.i64 0, Value.int IntKind.i64 0, Value.int IntKind.i64 0, Value.int IntKind.i64 0, Value.int IntKind.i64 0, Value.int IntKind.i64 0, Value.int IntKind.i64 0, Value.int IntKind.i64 0, Value.int IntKind.i64 0, Value.int IntKind.i64 0, Value.int IntKind.i64 0] 83)).alloc (.cells #[Value.int IntKind.i64 0, Value.int IntKind.i64 0, Value.int IntKind.i64 0, Value.int IntKind.i64 0, Value.int IntKind.i64 0, Value.int IntKind.i64 0, Value.int IntKind.i64 0, Value.int IntKind.i64 0, Value.int IntKind.i64 0, Value.int IntKind.i64 0, Value.int IntKind.i64 0, Value.int IntKind.i64 0, Value.int IntKind.i64 0, Value.int IntKind.i64 0, Value.int IntKind.i64 0, Value.int IntKind.i64 0, Value.int IntKind.i64 0, Value.int IntKind.i64 0, Value.int IntKind.i64 0, Value.int IntKind.i64 0, Value.int IntKind.i64 0, Value.int IntKind.i64 0, Value.int IntKind.i64 0, Value.int IntKind.i64 0] 83) = w2 at *
  clear hW e1'
  go_loopw [11] (fun iv wr => ∃ k : Nat, iv = .int .i64 k ∧ k ≤ m ∧ Ob wr (w.heap.size + 1 + 1) 24 (ia (fun z => dv P d k ((z : Nat) : Int))) ∧ Ob wr (w.heap.size + 1) 24 (ia (fun _ => 0)) ∧ Below w.heap.size w wr) (fun iv _ => m - (intOf iv).toNat)
  case atStart => exact ⟨0, rfl, Nat.zero_le _, HS.out.congr (fun k _ => rfl), HR.out, HBB.out⟩
  case round =>
    obtain ⟨k, rfl, hk, os, or, hb⟩ := hrel
    clear HS HR HBB
    have HS := Lib.hid os
    have HR := Lib.hid or
    have HBB := Lib.hid hb
    clear os or hb
    generalize hQ : Exit.then _ _ = Q
    have HQ := Lib.hid hQ
    clear hQ
    have k0 : (0 : Int) ≤ (k : Int) := Int.natCast_nonneg _
    have ls := HS.out.lt
    have lr := HR.out.lt
    by_cases hlt : k < m
    · have k1 : (k : Int) < (m : Int) := by omega
      obtain ⟨bp, op, rfl, q1, q2, r0, r1, r2, r3, r4⟩ := (HV.out.below HBB.out hhi).pipe hlt
      obtain ⟨ba, oa, rfl, g1, g2, hx⟩ : ∃ b o, pa = some ⟨b, o, none⟩ ∧ la ≤ b ∧ b < ha ∧ ∀ k, k < m → w.cell? ⟨b, o + k, none⟩ = some (.int .i64 (d k)) := by
        rcases HVZ.out with e | e
        · omega
        · exact e
      have ya : wr.cell? ⟨ba, oa + k, none⟩ = some (.int .i64 (d k)) := (HBB.out.cell (p := ⟨ba, oa + k, none⟩) (by show ba < w.heap.size; omega)).trans (hx k hlt)
      have HX := Lib.hid hx
      clear hx
      obtain ⟨hf0, ht0, hne⟩ := HPI.out k hlt
      obtain ⟨f, hf⟩ := Int.eq_ofNat_of_zero_le hf0.1
      obtain ⟨t, ht⟩ := Int.eq_ofNat_of_zero_le ht0.1
      have P5 := boxedP wr (P k) 121
      have pf0 := P5.cell 0 (by omega)
      have pt0 := P5.cell 1 (by omega)
      have b5 := below_new wr (.cells #[.int .i64 (P k).f, .int .i64 (P k).t, .int .i64 (P k).k, .int .i64 (P k).v, .int .i64 (P k).l] 121)
      have hs5 : (wr.alloc (.cells #[.int .i64 (P k).f, .int .i64 (P k).t, .int .i64 (P k).k, .int .i64 (P k).v, .int .i64 (P k).l] 121)).heap.size = wr.heap.size + 1 := by simp
      have hd := HFR.out k hlt
      have HU := Lib.hid (fun z => upd_two (P := P) (d := d) (k := k) hf ht (by omega) z)
      have hfn : f < n := by omega
      have htn : t < n := by omega
      have hftN : f ≠ t := by omega
      have hb1 := dv_bd2 (P := P) (x := d) (z := ((f : Nat) : Int)) (k := k) (fun i hi => HFR.out i (by omega))
      have hb2 := dv_bd2 (P := P) (x := d) (z := ((t : Nat) : Int)) (k := k) (fun i hi => HFR.out i (by omega))
      have a1 : -4611686018427387904 ≤ dv P d k ((f : Nat) : Int) + d k ∧ dv P d k ((f : Nat) : Int) + d k ≤ 4611686018427387904 := by omega
      have a2 : -4611686018427387904 ≤ upd (fun j => dv P d k ((j : Nat) : Int)) f (dv P d k ((f : Nat) : Int) + d k) t + -d k ∧ upd (fun j => dv P d k ((j : Nat) : Int)) f (dv P d k ((f : Nat) : Int) + d k) t + -d k ≤ 4611686018427387904 := by
        simp only [upd]
        rw [if_neg (fun e => hftN e.symm)]
        omega
      have H1 := Lib.hid a1
      have H2 := Lib.hid a2
      have HP5 := Lib.hid P5
      have HB5 := Lib.hid (HBB.out.trans (b5.mono HBB.out.size))
      have HS5 := Lib.hid (HS.out.below b5 ls)
      have HR5 := Lib.hid (HR.out.below b5 lr)
      have HF := Lib.hid hf
      have HT := Lib.hid ht
      have ya5 := (b5.cell (p := ⟨ba, oa + k, none⟩) (by show ba < wr.heap.size; omega)).trans ya
      have pf5 : (wr.alloc (.cells #[.int .i64 (P k).f, .int .i64 (P k).t, .int .i64 (P k).k, .int .i64 (P k).v, .int .i64 (P k).l] 121)).cell? ⟨wr.heap.size, 0, none⟩ = some (.int .i64 (f : Nat)) := pf0.trans (by rw [← HF.out]; rfl)
      have pt5 : (wr.alloc (.cells #[.int .i64 (P k).f, .int .i64 (P k).t, .int .i64 (P k).k, .int .i64 (P k).v, .int .i64 (P k).l] 121)).cell? ⟨wr.heap.size, 1, none⟩ = some (.int .i64 (t : Nat)) := pt0.trans (by rw [← HT.out]; rfl)
      have HYA := Lib.hid ya5
      have HPF := Lib.hid pf5
      have HPT := Lib.hid pt5
      clear hb1 hb2 hd a1 a2 P5 pf0 pt0 b5 hf ht hf0 ht0 ya5 pf5 pt5
      go_wp2_with fail
      obtain ⟨w5, hw5⟩ : ∃ w5, wr.alloc (.cells #[.int .i64 (P k).f, .int .i64 (P k).t, .int .i64 (P k).k, .int .i64 (P k).v, .int .i64 (P k).l] 121) = w5 := ⟨_, rfl⟩
      rw [hw5] at hs5 HP5 HB5 HS5 HR5 HYA HPF HPT ⊢
      clear hw5 r0 r1 r2 r3 r4 ya
      have ya := HYA.out
      have yf := HPF.out
      go_still_tail 6, (by kernel_rfl)
      change wpList _ _ _ _ _ w5.drew
      go_wp2_with fail
      refine (add_any w5.drew (w.heap.size + 1 + 1) _ f (d k) (HS5.out.keep rfl) (by omega) H1.out).mono ?_
      rintro e w6 ⟨rfl, o6, u6⟩
      clear ya yf
      have ya : w6.cell? ⟨ba, oa + k, none⟩ = some (.int .i64 (d k)) := (u6.cell (a := ⟨ba, oa + k, none⟩) (by show ba ≠ _; omega)).trans HYA.out
      have yt : w6.cell? ⟨wr.heap.size, 1, none⟩ = some (.int .i64 (t : Nat)) := (u6.cell (a := ⟨wr.heap.size, 1, none⟩) (by show wr.heap.size ≠ _; omega)).trans HPT.out
      have HS6 := Lib.hid o6
      have HR6 := Lib.hid ((HR5.out.keep (w' := w5.drew) rfl).only u6 (by omega))
      have HB6 := Lib.hid ((below_drw HB5.out).trans (u6.below (B := w.heap.size) (by omega)))
      have hd := HFR.out k hlt
      clear o6 u6 HS5 HR5 HB5
      go_wp2_with fail
      go_still_tail 7, (by kernel_rfl)
      change wpList _ _ _ _ _ w6.drew
      go_wp2_with fail
      refine (add_any w6.drew (w.heap.size + 1 + 1) _ t (-d k) (HS6.out.keep rfl) (by omega) H2.out).mono ?_
      rintro e w7 ⟨rfl, o7, u7⟩
      have HS7 := Lib.hid o7
      have HR7 := Lib.hid ((HR6.out.keep (w' := w6.drew) rfl).only u7 (by omega))
      have HB7 := Lib.hid ((below_drw HB6.out).trans (u7.below (B := w.heap.size) (by omega)))
      clear o7 u7 ya yt
      go_wp2_with fail
      rw [← HQ.out]
      refine ⟨⟨_, _, _, _, _, _, _, _, _, _, _, _, _, _, _, _, _, _, _, _, _, _, _, ?rel, rfl⟩, ?measure⟩
      case rel => exact ⟨k + 1, by go_num, hlt, HS7.out.congr (fun z _ => by unfold ia; rw [HU.out z]), HR7.out, HB7.out⟩
      case measure => simp [intOf]; omega
    · have hkn : m = k := by omega
      have hr : Ob wr (w.heap.size + 1 + 1) 24 (ia (fun z => dv P d m ((z : Nat) : Int))) := by rw [hkn]; exact HS.out
      have k1 : ¬ ((k : Int) < (m : Int)) := by omega
      obtain ⟨t5, g5⟩ := hr.row4
      obtain ⟨t4, g4⟩ := HR.out.row4
      have o2 := (Only.refl (w.heap.size + 1) wr).setRow (brr (fun z => dv P d m ((z : Nat) : Int)))
      have r2 := HR.out.setRow4 (fun z => dv P d m ((z : Nat) : Int))
      have hbb := HBB.out.trans (o2.below (B := w.heap.size) (by omega))
      clear hkn
      go_wp2_with fail
      rw [← HQ.out]
      go_wp2_with (first | refine wpList_load_row rfl 83 _ rfl (w.heap.size + 1 + 1) rfl t5 _ (0, 0) _ g5 Tryz.underlying83 rfl (by rw [brr_size]; exact sums_info) ?_ | refine wpList_store_row rfl 83 _ _ rfl (w.heap.size + 1) _ rfl rfl t4 _ g4 (by rw [brr_size]; exact sums_info) (by rw [brr_size, brr_size]) (brr_one _) ?_)
      exact bodyPost_ret (results_brr rfl rfl r2) rfl ⟨rfl, hbb⟩

/-- the code of a network and supplies -/
noncomputable def svC (n : Nat) (N : Nat → Nod) (m : Nat) (P : Nat → Pip) (K : Nat) (d : Nat → Int) : Int := if netB n N m P = true then (if K = n ∧ flB d K = true then 0 else 3) else 1
theorem svC_ok {n : Nat} {N : Nat → Nod} {m : Nat} {P : Nat → Pip} {K : Nat} {d : Nat → Int} (h : svC n N m P K d = 0) : netB n N m P = true ∧ K = n ∧ flB d K = true := by
  unfold svC at h
  split at h
  · next hB =>
    split at h
    · next hk => exact ⟨hB, hk⟩
    · omega
  · omega
set_option maxHeartbeats 4000000 in
theorem checkSupplies_any (w : World) (v : Value) (n : Nat) (N : Nat → Nod) (m : Nat) (P : Nat → Pip) (lo hi : Nat) (h : NetAt w v n N m P lo hi) (hhi : hi ≤ w.heap.size) (hN : ∀ i, i < n → (N i).s.size ≤ 9223372036854775807) (va : Value) (K : Nat) (d : Nat → Int) (la ha : Nat) (hv : Sl w va K d la ha) (hha : ha ≤ w.heap.size) (hK : K ≤ 9223372036854775807) :
    Calls Tryz.prog 55 #[v, va] w fun e w' => e = .returned (.int .i64 (svC n N m P K d)) ∧ Below w.heap.size w w' := by
  obtain ⟨p0, c0, p1, c1, rfl, hn9, hm9⟩ := h.parts
  have HV := Lib.hid h
  have HN := Lib.hid hN
  have A0 := boxed w (.slice p0 n c0) (.slice p1 m c1) 27
  have B0 := below_new w (.cells #[.slice p0 n c0, .slice p1 m c1] 27)
  have hs0 : (w.alloc (.cells #[.slice p0 n c0, .slice p1 m c1] 27)).heap.size = w.heap.size + 1 := by simp
  clear h hN
  go_enter Tryz.func55, Tryz.ntmps55
  have e0' := A0.b0
  have e1' := A0.b1
  go_wp2_with fail
  refine (isNetwork_any _ _ n N m P lo hi (HV.out.below B0 hhi) (by omega) HN.out).mono ?_
  rintro e w1 ⟨rfl, b1⟩
  have A1 := A0.below b1 (by omega)
  have B1 := B0.trans (b1.mono (by omega))
  have hs1 := b1.size
  have e1 := A1.b0
  clear A0 B0 b1 e0' e1'
  cases hB : netB n N m P
  · have H2 := Lib.hid (show svC n N m P K d = 1 by unfold svC; rw [hB]; rfl)
    clear hB
    go_wp2_with fail
    go_ret
    exact ⟨ret_i H2.out.symm, B1⟩
  · have H1 := Lib.hid (hv.below B1 hha)
    have hsh : ∃ p cap, va = .slice p K cap := by
      obtain ⟨p, cap, e, _⟩ := hv.ex
      exact ⟨p, cap, e⟩
    clear hv
    obtain ⟨pa, ca, rfl⟩ := hsh
    by_cases hKm : K = n
    · have hb1 : ((K : Int) != (n : Int)) = false := by simp [hKm]
      cases hf : flB d K
      · have H2 := Lib.hid (show svC n N m P K d = 3 by unfold svC; rw [hB, hf]; simp)
        clear hB hKm
        go_wp2_with (go_at_call 72; refine (areSupplies_any _ _ K d _ _ H1.out hK).mono ?_; rintro e w' ⟨rfl, rfl⟩; rw [hf])
        go_ret
        exact ⟨ret_i H2.out.symm, B1⟩
      · have H2 := Lib.hid (show svC n N m P K d = 0 by unfold svC; rw [hB, hf, hKm]; simp)
        clear hB hKm
        go_wp2_with (go_at_call 72; refine (areSupplies_any _ _ K d _ _ H1.out hK).mono ?_; rintro e w' ⟨rfl, rfl⟩; rw [hf])
        go_ret
        exact ⟨ret_i H2.out.symm, B1⟩
    · have hb1 : ((K : Int) != (n : Int)) = true := by simp; omega
      have H2 := Lib.hid (show svC n N m P K d = 3 by unfold svC; rw [hB, if_pos rfl, if_neg (fun g => hKm g.1)])
      clear hB
      go_wp2_with fail
      go_ret
      exact ⟨ret_i H2.out.symm, B1⟩
end Go.Proofs.YtdbgcbkmcbgdiaaGreat.mem

namespace Go.Proofs.YtdbgcbkmcbgdiaaGreat.mem
open Go.RowKit
set_option linter.unusedVariables false

theorem dv_off {n : Nat} {N : Nat → Nod} {m : Nat} {P : Nat → Pip} (hB : netB n N m P = true) (d : Nat → Int) {z : Nat} (hz : n ≤ z) : ∀ k, k ≤ m → dv P d k ((z : Nat) : Int) = 0
  | 0, _ => rfl
  | k + 1, hk => by
    obtain ⟨h1, h2, _⟩ := pip_end (net_pip hB (show k < m by omega))
    unfold dv
    rw [dv_off hB d hz k (by omega), if_neg (by omega), if_neg (by omega)]
    rfl
noncomputable def suC (n : Nat) (N : Nat → Nod) (m : Nat) (P : Nat → Pip) (K : Nat) (d : Nat → Int) : Int := if flC n N m P K d = 0 then (if flB (fun z => dv P d m ((z : Nat) : Int)) n = true then 0 else 2) else flC n N m P K d
noncomputable def suN (n : Nat) (N : Nat → Nod) (m : Nat) (P : Nat → Pip) (K : Nat) (d : Nat → Int) : Nat := if suC n N m P K d = 0 then n else 0
def suD (m : Nat) (P : Nat → Pip) (d : Nat → Int) (z : Nat) : Int := dv P d m ((z : Nat) : Int)
set_option maxRecDepth 100000 in
set_option maxHeartbeats 8000000 in
theorem suppliesOfI_any (w : World) (v : Value) (n : Nat) (N : Nat → Nod) (m : Nat) (P : Nat → Pip) (lo hi : Nat) (h : NetAt w v n N m P lo hi) (hhi : hi ≤ w.heap.size) (hN : ∀ i, i < n → (N i).s.size ≤ 9223372036854775807) (va : Value) (K : Nat) (d : Nat → Int) (la ha : Nat) (hv : Sl w va K d la ha) (hha : ha ≤ w.heap.size) (hK9 : K ≤ 9223372036854775807) :
    Calls Tryz.prog 23 #[v, va] w (LIPost w (suN n N m P K d) (suD m P d) (suC n N m P K d)) := by
  obtain ⟨p0, c0, p1, c1, rfl, hn9, hm9⟩ := h.parts
  have HV := Lib.hid h
  have HN := Lib.hid hN
  obtain ⟨pa, ca, rfl⟩ := hv.sh
  have A0 := (boxed w (.slice p0 n c0) (.slice p1 m c1) 27).keep (Below.heap_alloc _ (.cells #[.slice pa K ca] 28) _ (by rw [szal]; omega))
  have B0 := (below_new w (.cells #[.slice p0 n c0, .slice p1 m c1] 27)).trans ((below_new _ (.cells #[.slice pa K ca] 28)).mono (by rw [szal]; omega))
  have hs0 : ((w.alloc (.cells #[.slice p0 n c0, .slice p1 m c1] 27)).alloc (.cells #[.slice pa K ca] 28)).heap.size = w.heap.size + 1 + 1 := by simp
  have y0' := cell_newV (w.alloc (.cells #[.slice p0 n c0, .slice p1 m c1] 27)) (.slice pa K ca) 28
  simp only [szal] at y0'
  clear h hN
  go_enter Tryz.func23, Tryz.ntmps23
  have e0' := A0.b0
  have e1' := A0.b1
  go_wp2_with fail
  refine (checkFlows_any _ _ n N m P lo hi (HV.out.below B0 hhi) (by omega) HN.out _ _ y0' (by omega) K d la ha (hv.below B0 hha) (by omega) hK9).mono ?_
  rintro e w1 ⟨rfl, b1⟩
  have A1 := A0.below b1 (by omega)
  have B1 := B0.trans (b1.mono (by omega))
  have hs1 := b1.size
  have e0 := A1.b0
  have e1 := A1.b1
  have e2 : w.heap.size < w1.heap.size := by omega
  clear A0 B0 b1 e0' e1' y0'
  by_cases hc : flC n N m P K d = 0
  · obtain ⟨hB, rfl, hf⟩ := flC_ok hc
    obtain ⟨hn1, hn24, hm40⟩ := net_sz hB
    have HB := Lib.hid hB
    have HC := Lib.hid hc
    have HF := Lib.hid hf
    have H1 := Lib.hid (hv.below B1 hha)
    have HZ := Lib.hid (show flB (suD K P d) 24 = flB (suD K P d) n from flB_ext hn24 (fun k hk => dv_off hB d hk K (Nat.le_refl K)))
    have HSC := Lib.hid (show suC n N K P K d = if flB (suD K P d) n = true then 0 else 2 by unfold suC; rw [if_pos hc]; rfl)
    rw [hc]
    clear hc hB hf hv
    go_wp2_with fail
    refine (balancedBy_any w1 _ n N K P lo hi (HV.out.below B1 hhi) (by omega) HB.out _ d la ha H1.out (by omega) HF.out).mono ?_
    rintro e w2 ⟨rfl, b2⟩
    have A2 := A1.below b2 e2
    have B2 := B1.trans (b2.mono (by omega))
    have hs2 := b2.size
    have S0 := Ob.new04 w2 83
    obtain ⟨tS, gS⟩ := S0.row4
    have u3 := (Only.refl w2.heap.size (w2.alloc (.cells #[Value.int IntKind.i64 0, Value.int IntKind.i64 0, Value.int IntKind.i64 0, Value.int IntKind.i64 0, Value.int IntKind.i64 0, Value.int IntKind.i64 0, Value.int IntKind.i64 0, Value.int IntKind.i64 0, Value.int IntKind.i64 0, Value.int IntKind.i64 0, Value.int IntKind.i64 0, Value.int IntKind.i64 0, Value.int IntKind.i64 0, Value.int IntKind.i64 0, Value.int IntKind.i64 0, Value.int IntKind.i64 0, Value.int IntKind.i64 0, Value.int IntKind.i64 0, Value.int IntKind.i64 0, Value.int IntKind.i64 0, Value.int IntKind.i64 0, Value.int IntKind.i64 0, Value.int IntKind.i64 0, Value.int IntKind.i64 0] 83))).setRow (brr (suD K P d))
    have S3 := S0.setRow4 (suD K P d)
    have A3 := (A2.below (below_new w2 (.cells #[Value.int IntKind.i64 0, Value.int IntKind.i64 0, Value.int IntKind.i64 0, Value.int IntKind.i64 0, Value.int IntKind.i64 0, Value.int IntKind.i64 0, Value.int IntKind.i64 0, Value.int IntKind.i64 0, Value.int IntKind.i64 0, Value.int IntKind.i64 0, Value.int IntKind.i64 0, Value.int IntKind.i64 0, Value.int IntKind.i64 0, Value.int IntKind.i64 0, Value.int IntKind.i64 0, Value.int IntKind.i64 0, Value.int IntKind.i64 0, Value.int IntKind.i64 0, Value.int IntKind.i64 0, Value.int IntKind.i64 0, Value.int IntKind.i64 0, Value.int IntKind.i64 0, Value.int IntKind.i64 0, Value.int IntKind.i64 0] 83)) (by omega)).only u3 (by omega)
    have B3 := (B2.trans ((below_new w2 (.cells #[Value.int IntKind.i64 0, Value.int IntKind.i64 0, Value.int IntKind.i64 0, Value.int IntKind.i64 0, Value.int IntKind.i64 0, Value.int IntKind.i64 0, Value.int IntKind.i64 0, Value.int IntKind.i64 0, Value.int IntKind.i64 0, Value.int IntKind.i64 0, Value.int IntKind.i64 0, Value.int IntKind.i64 0, Value.int IntKind.i64 0, Value.int IntKind.i64 0, Value.int IntKind.i64 0, Value.int IntKind.i64 0, Value.int IntKind.i64 0, Value.int IntKind.i64 0, Value.int IntKind.i64 0, Value.int IntKind.i64 0, Value.int IntKind.i64 0, Value.int IntKind.i64 0, Value.int IntKind.i64 0, Value.int IntKind.i64 0] 83)).mono (by omega))).trans (u3.below (B := w.heap.size) (by omega))
    have HA3 := Lib.hid A3
    have HB3 := Lib.hid B3
    have HS3 := Lib.hid S3
    have GS := Lib.hid gS
    clear e0 e1 A1 b2 H1 S0 u3 S3 A3 B3 gS A2
    go_wp2_with (refine wpList_store_row rfl 83 _ _ rfl w2.heap.size _ rfl rfl tS _ GS.out (by rw [brr_size]; exact sums_info) (by rw [brr_size, brr_size]) (brr_one _) ?_)
    obtain ⟨w4, hw4⟩ : ∃ w4, (w2.alloc (.cells #[Value.int IntKind.i64 0, Value.int IntKind.i64 0, Value.int IntKind.i64 0, Value.int IntKind.i64 0, Value.int IntKind.i64 0, Value.int IntKind.i64 0, Value.int IntKind.i64 0, Value.int IntKind.i64 0, Value.int IntKind.i64 0, Value.int IntKind.i64 0, Value.int IntKind.i64 0, Value.int IntKind.i64 0, Value.int IntKind.i64 0, Value.int IntKind.i64 0, Value.int IntKind.i64 0, Value.int IntKind.i64 0, Value.int IntKind.i64 0, Value.int IntKind.i64 0, Value.int IntKind.i64 0, Value.int IntKind.i64 0, Value.int IntKind.i64 0, Value.int IntKind.i64 0, Value.int IntKind.i64 0, Value.int IntKind.i64 0] 83)).setRow w2.heap.size (brr (suD K P d)) = w4 := ⟨_, rfl⟩
    change Calls _ _ _ ((w2.alloc (.cells #[Value.int IntKind.i64 0, Value.int IntKind.i64 0, Value.int IntKind.i64 0, Value.int IntKind.i64 0, Value.int IntKind.i64 0, Value.int IntKind.i64 0, Value.int IntKind.i64 0, Value.int IntKind.i64 0, Value.int IntKind.i64 0, Value.int IntKind.i64 0, Value.int IntKind.i64 0, Value.int IntKind.i64 0, Value.int IntKind.i64 0, Value.int IntKind.i64 0, Value.int IntKind.i64 0, Value.int IntKind.i64 0, Value.int IntKind.i64 0, Value.int IntKind.i64 0, Value.int IntKind.i64 0, Value.int IntKind.i64 0, Value.int IntKind.i64 0, Value.int IntKind.i64 0, Value.int IntKind.i64 0, Value.int IntKind.i64 0] 83)).setRow w2.heap.size (brr (suD K P d))) _
    rw [hw4] at HA3 HB3 HS3 ⊢
    clear hw4 GS
    have f0 := HA3.out.b0
    have hs4 := HS3.out.lt
    have n0 : (0 : Int) ≤ (n : Int) := Int.natCast_nonneg _
    have n1 : (n : Int) ≤ 24 := by omega
    refine (areSupplies_any _ _ 24 (suD K P d) _ _ (HS3.out.sl 24 24 (Nat.le_refl _)) (by omega)).mono ?_
    rintro e w' ⟨rfl, rfl⟩
    rw [HZ.out]
    cases hq : flB (suD K P d) n
    · have H4 := Lib.hid (show suC n N K P K d = 2 by rw [HSC.out, hq]; rfl)
      have H3 := Lib.hid (show suN n N K P K d = 0 by unfold suN; rw [H4.out]; rfl)
      clear hq
      go_wp2_with fail
      go_ret2
      exact li_err H3.out H4.out.symm rfl HB3.out
    · have H4 := Lib.hid (show suC n N K P K d = 0 by rw [HSC.out, hq]; rfl)
      have H3 := Lib.hid (show suN n N K P K d = n by unfold suN; rw [H4.out]; rfl)
      clear hq
      go_wp2_with ((go_at_call 73; refine (clone64_any _ w2.heap.size n 24 (suD K P d) (fun k hk => by rw [Nat.zero_add]; exact HS3.out.cell k (by omega)) HS3.out.lt (by omega)).mono ?_; rintro e w' ⟨v2, g, rfl, ho, hg, hb⟩))
      go_ret2
      exact li_ok H3.out.symm (by rw [H4.out]; rfl) ho (by omega) (HB3.out.trans (hb.mono (by omega)))
  · have hb1 : (flC n N m P K d != 0) = true := by simpa using hc
    have H4 := Lib.hid (show suC n N m P K d = flC n N m P K d by unfold suC; rw [if_neg hc])
    have H3 := Lib.hid (show suN n N m P K d = 0 by unfold suN; rw [H4.out, if_neg hc])
    clear hc
    go_wp2_with fail
    go_ret2
    exact li_err H3.out H4.out.symm rfl B1

/-- does a flow list balance these supplies? -/
noncomputable def ibB (n : Nat) (N : Nat → Nod) (m : Nat) (P : Nat → Pip) (K : Nat) (d : Nat → Int) (L : Nat) (s : Nat → Int) : Bool := decide (flC n N m P K d = 0) && (decide (svC n N m P L s = 0) && (List.range n).all (fun z => dv P d m ((z : Nat) : Int) == s z))
theorem eqL_bal {n : Nat} {N : Nat → Nod} {m : Nat} {P : Nat → Pip} (hB : netB n N m P = true) (d s : Nat → Int) : eqL (fun z => dv P d m ((z : Nat) : Int)) (pad n s) (List.range' 0 24 1) = (List.range n).all (fun z => dv P d m ((z : Nat) : Int) == s z) := by
  have hn24 := (net_sz hB).2.1
  rw [Bool.eq_iff_iff, eqL_iff, List.all_eq_true]
  constructor
  · intro h z hz
    have hz := List.mem_range.1 hz
    have := h z (by simp; omega)
    unfold pad at this
    rw [if_pos hz] at this
    simpa using this
  · intro h z _
    unfold pad
    by_cases g : z < n
    · rw [if_pos g]
      simpa using h z (List.mem_range.2 g)
    · rw [if_neg g]
      exact dv_off hB d (by omega) m (Nat.le_refl m)
set_option maxRecDepth 100000 in
set_option maxHeartbeats 8000000 in
theorem isBalancedI_any (w : World) (v : Value) (n : Nat) (N : Nat → Nod) (m : Nat) (P : Nat → Pip) (lo hi : Nat) (h : NetAt w v n N m P lo hi) (hhi : hi ≤ w.heap.size) (hN : ∀ i, i < n → (N i).s.size ≤ 9223372036854775807) (va : Value) (K : Nat) (d : Nat → Int) (la ha : Nat) (hv : Sl w va K d la ha) (hha : ha ≤ w.heap.size) (hK9 : K ≤ 9223372036854775807) (vb : Value) (L : Nat) (s : Nat → Int) (lb hb : Nat) (hu : Sl w vb L s lb hb) (hhb : hb ≤ w.heap.size) (hL9 : L ≤ 9223372036854775807) :
    Calls Tryz.prog 14 #[v, va, vb] w fun e w' => e = .returned (.bool (ibB n N m P K d L s)) ∧ Below w.heap.size w w' := by
  obtain ⟨p0, c0, p1, c1, rfl, hn9, hm9⟩ := h.parts
  have HV := Lib.hid h
  have HN := Lib.hid hN
  obtain ⟨pa, ca, rfl⟩ := hv.sh
  have A0 := (boxed w (.slice p0 n c0) (.slice p1 m c1) 27).keep (Below.heap_alloc _ (.cells #[.slice pa K ca] 28) _ (by rw [szal]; omega))
  have B0 := (below_new w (.cells #[.slice p0 n c0, .slice p1 m c1] 27)).trans ((below_new _ (.cells #[.slice pa K ca] 28)).mono (by rw [szal]; omega))
  have hs0 : ((w.alloc (.cells #[.slice p0 n c0, .slice p1 m c1] 27)).alloc (.cells #[.slice pa K ca] 28)).heap.size = w.heap.size + 1 + 1 := by simp
  have y0' := cell_newV (w.alloc (.cells #[.slice p0 n c0, .slice p1 m c1] 27)) (.slice pa K ca) 28
  simp only [szal] at y0'
  clear h hN
  go_enter Tryz.func14, Tryz.ntmps14
  have e0' := A0.b0
  have e1' := A0.b1
  go_wp2_with fail
  refine (checkFlows_any _ _ n N m P lo hi (HV.out.below B0 hhi) (by omega) HN.out _ _ y0' (by omega) K d la ha (hv.below B0 hha) (by omega) hK9).mono ?_
  rintro e w1 ⟨rfl, b1⟩
  have A1 := A0.below b1 (by omega)
  have B1 := B0.trans (b1.mono (by omega))
  have hs1 := b1.size
  have e0 := A1.b0
  have e1 := A1.b1
  have e2 : w.heap.size < w1.heap.size := by omega
  clear A0 B0 b1 e0' e1' y0'
  obtain ⟨pb, cb, rfl⟩ := hu.sh
  by_cases hc : flC n N m P K d = 0
  · obtain ⟨hB, rfl, hf⟩ := flC_ok hc
    obtain ⟨hn1, hn24, hm40⟩ := net_sz hB
    have HB := Lib.hid hB
    have HF := Lib.hid hf
    have H1 := Lib.hid (hv.below B1 hha)
    have H2 := Lib.hid (hu.below B1 hhb)
    have HI := Lib.hid (show ibB n N K P K d L s = (decide (svC n N K P L s = 0) && (List.range n).all (fun z => dv P d K ((z : Nat) : Int) == s z)) by unfold ibB; rw [hc]; rfl)
    rw [hc]
    clear hc hB hf hv hu
    go_wp2_with fail
    refine (checkSupplies_any w1 _ n N K P lo hi (HV.out.below B1 hhi) (by omega) HN.out _ L s lb hb H2.out (by omega) hL9).mono ?_
    rintro e w2 ⟨rfl, b2⟩
    have A2 := A1.below b2 e2
    have B2 := B1.trans (b2.mono (by omega))
    have hs2 := b2.size
    have H1' := Lib.hid (H1.out.below b2 (by omega))
    have H2' := Lib.hid (H2.out.below b2 (by omega))
    have f0 := A2.b0
    have f1 := A2.b1
    clear e0 e1 A1 b2 H1 H2
    by_cases hsc : svC n N K P L s = 0
    · obtain ⟨_, rfl, _⟩ := svC_ok hsc
      have H4 := Lib.hid (show ibB L N K P K d L s = (List.range L).all (fun z => dv P d K ((z : Nat) : Int) == s z) by rw [HI.out, hsc]; rfl)
      have heq := eql_brr (fun z => dv P d K ((z : Nat) : Int)) (pad L s)
      rw [eqL_bal HB.out d s] at heq
      rw [hsc]
      clear hsc
      generalize (List.range L).all (fun z => dv P d K ((z : Nat) : Int) == s z) = bb at *
      go_wp2_with fail
      refine (balancedBy_any w2 _ L N K P lo hi (HV.out.below B2 hhi) (by omega) HB.out _ d la ha H1'.out (by omega) HF.out).mono ?_
      rintro e w3 ⟨rfl, b3⟩
      have B3 := B2.trans (b3.mono (by omega))
      have hs3 := b3.size
      have H2'' := Lib.hid (H2'.out.below b3 (by omega))
      clear b3 f0 f1
      go_wp2_with fail
      refine (sumsOf_any w3 _ L s lb hb H2''.out (by omega) hn24).mono ?_
      rintro e w4 ⟨rfl, b4⟩
      have B4 := B3.trans (b4.mono (by omega))
      clear b4
      go_wp2_with fail
      go_ret
      exact ⟨ret_b H4.out.symm, B4⟩
    · have hb1 : (svC n N K P L s != 0) = true := by simpa using hsc
      have H4 := Lib.hid (show ibB n N K P K d L s = false by rw [HI.out, decide_eq_false hsc]; rfl)
      clear hsc
      go_wp2_with fail
      go_ret
      exact ⟨ret_b H4.out.symm, B2⟩
  · have hb1 : (flC n N m P K d != 0) = true := by simpa using hc
    have H4 := Lib.hid (show ibB n N m P K d L s = false by unfold ibB; rw [decide_eq_false hc]; rfl)
    clear hc
    go_wp2_with fail
    go_ret
    exact ⟨ret_b H4.out.symm, B1⟩

theorem brr_zero : (brr (fun _ => 0)) = #[Value.int IntKind.i64 0, Value.int IntKind.i64 0, Value.int IntKind.i64 0, Value.int IntKind.i64 0, Value.int IntKind.i64 0, Value.int IntKind.i64 0, Value.int IntKind.i64 0, Value.int IntKind.i64 0, Value.int IntKind.i64 0, Value.int IntKind.i64 0, Value.int IntKind.i64 0, Value.int IntKind.i64 0, Value.int IntKind.i64 0, Value.int IntKind.i64 0, Value.int IntKind.i64 0, Value.int IntKind.i64 0, Value.int IntKind.i64 0, Value.int IntKind.i64 0, Value.int IntKind.i64 0, Value.int IntKind.i64 0, Value.int IntKind.i64 0, Value.int IntKind.i64 0, Value.int IntKind.i64 0, Value.int IntKind.i64 0] := (brr_eq (by rfl) (fun k hk => zeros24 k hk)).symm
theorem csm_bd {R s : Nat → Int} {z : Int} : ∀ {k : Nat}, (∀ i, i < k → -30000 ≤ s i ∧ s i ≤ 30000) → -30000 * (k : Int) ≤ csm R s k z ∧ csm R s k z ≤ 30000 * (k : Int)
  | 0, _ => by show _ ≤ (0 : Int) ∧ (0 : Int) ≤ _; omega
  | k + 1, h => by
    have ih := csm_bd (R := R) (s := s) (z := z) (k := k) (fun i hi => h i (by omega))
    have h1 := h k (by omega)
    unfold csm
    split <;> omega
theorem cmp_nat {n : Nat} {N : Nat → Nod} {m : Nat} {P : Nat → Pip} (hB : netB n N m P = true) {k : Nat} (hk : k < n) : ∃ r : Nat, r < n ∧ cmp n P m n ((k : Nat) : Int) = ((r : Nat) : Int) := by
  obtain ⟨r, h1, _, _, h4⟩ := node_root (P := P) (m := m) hB (z := ((k : Nat) : Int)) ⟨by omega, by omega⟩
  exact ⟨r, h1, h4⟩
theorem csm_off {n : Nat} {N : Nat → Nod} {m : Nat} {P : Nat → Pip} (hB : netB n N m P = true) (s : Nat → Int) {z : Nat} (hz : n ≤ z) : ∀ k, k ≤ n → csm (cmpN n P m) s k ((z : Nat) : Int) = 0
  | 0, _ => rfl
  | k + 1, hk => by
    obtain ⟨r, h1, h2⟩ := cmp_nat (P := P) (m := m) hB (k := k) (by omega)
    unfold csm
    rw [csm_off hB s hz k (by omega)]
    unfold cmpN
    rw [h2, if_neg (by omega)]
    rfl
theorem eqL_even {n : Nat} {N : Nat → Nod} {m : Nat} {P : Nat → Pip} (hB : netB n N m P = true) (s : Nat → Int) : eqL (fun z => csm (cmpN n P m) s n ((z : Nat) : Int)) (fun _ => 0) (List.range' 0 24 1) = evB n P m s := by
  have hn24 := (net_sz hB).2.1
  rw [Bool.eq_iff_iff, eqL_iff, evB_iff]
  constructor
  · intro h z hz
    exact h z (by simp; omega)
  · intro h z _
    by_cases g : z < n
    · exact h z g
    · exact csm_off hB s (by omega) n (Nat.le_refl n)
set_option maxRecDepth 100000 in
set_option maxHeartbeats 8000000 in
theorem areEven_any (w : World) (v : Value) (n : Nat) (N : Nat → Nod) (m : Nat) (P : Nat → Pip) (lo hi : Nat) (h : NetAt w v n N m P lo hi) (hhi : hi ≤ w.heap.size) (hB : netB n N m P = true) (va : Value) (s : Nat → Int) (la ha : Nat) (hv : Sl w va n s la ha) (hha : ha ≤ w.heap.size) (hf : flB s n = true) :
    Calls Tryz.prog 142 #[v, va] w fun e w' => e = .returned (.bool (evB n P m s)) ∧ Below w.heap.size w w' := by
  obtain ⟨p0, c0, p1, c1, rfl, hn9, hm9⟩ := h.parts
  obtain ⟨hn1, hn24, hm40⟩ := net_sz hB
  have HV := Lib.hid h
  have HB := Lib.hid hB
  have HFR := Lib.hid (show ∀ i, i < n → -30000 ≤ s i ∧ s i ≤ 30000 from fun i hi => flQ_iff.1 (flB_iff.1 hf i hi))
  obtain ⟨pa, ca, rfl, hva⟩ := hv
  have HVZ := Lib.hid hva
  have S0 := Ob.new04 (w.alloc (.cells #[.slice p0 n c0, .slice p1 m c1] 27)) 83
  simp only [World.size_alloc] at S0
  have B0 := (below_new w (.cells #[.slice p0 n c0, .slice p1 m c1] 27)).trans ((below_new _ (.cells #[Value.int IntKind.i64 0, Value.int IntKind.i64 0, Value.int IntKind.i64 0, Value.int IntKind.i64 0, Value.int IntKind.i64 0, Value.int IntKind.i64 0, Value.int IntKind.i64 0, Value.int IntKind.i64 0, Value.int IntKind.i64 0, Value.int IntKind.i64 0, Value.int IntKind.i64 0, Value.int IntKind.i64 0, Value.int IntKind.i64 0, Value.int IntKind.i64 0, Value.int IntKind.i64 0, Value.int IntKind.i64 0, Value.int IntKind.i64 0, Value.int IntKind.i64 0, Value.int IntKind.i64 0, Value.int IntKind.i64 0, Value.int IntKind.i64 0, Value.int IntKind.i64 0, Value.int IntKind.i64 0, Value.int IntKind.i64 0] 83)).mono (by simp only [World.size_alloc]; omega))
  have e0' := (boxed w (.slice p0 n c0) (.slice p1 m c1) 27).b0
  have e1' := (boxed w (.slice p0 n c0) (.slice p1 m c1) 27).b1
  have HS := Lib.hid S0
  have HBB := Lib.hid B0
  have heq := eql_brr (fun z => csm (cmpN n P m) s n ((z : Nat) : Int)) (fun _ => 0)
  rw [eqL_even hB s, brr_zero] at heq
  have HEQ := Lib.hid heq
  have hs0 : ((w.alloc (.cells #[.slice p0 n c0, .slice p1 m c1] 27)).alloc (.cells #[Value.int IntKind.i64 0, Value.int IntKind.i64 0, Value.int IntKind.i64 0, Value.int IntKind.i64 0, Value.int IntKind.i64 0, Value.int IntKind.i64 0, Value.int IntKind.i64 0, Value.int IntKind.i64 0, Value.int IntKind.i64 0, Value.int IntKind.i64 0, Value.int IntKind.i64 0, Value.int IntKind.i64 0, Value.int IntKind.i64 0, Value.int IntKind.i64 0, Value.int IntKind.i64 0, Value.int IntKind.i64 0, Value.int IntKind.i64 0, Value.int IntKind.i64 0, Value.int IntKind.i64 0, Value.int IntKind.i64 0, Value.int IntKind.i64 0, Value.int IntKind.i64 0, Value.int IntKind.i64 0, Value.int IntKind.i64 0] 83)).heap.size = w.heap.size + 1 + 1 := by simp
  clear h hB S0 B0 hva hf heq
  go_enter Tryz.func142, Tryz.ntmps142
  go_wp2_with fail
  generalize hW : (w.alloc (.cells #[.slice p0 n c0, .slice p1 m c1] 27)).alloc (.cells #[Value.int IntKind.i64 0, Value.int IntKind.i64 0, Value.int IntKind.i64 0, Value.int IntKind.i64 0, Value.int IntKind.i64 0, Value.int IntKind.i64 0, Value.int IntKind.i64 0, Value.int IntKind.i64 0, Value.int IntKind.i64 0, Value.int IntKind.i64 0, Value.int IntKind.i64 0, Value.int IntKind.i64 0, Value.int IntKind.i64 0, Value.int IntKind.i64 0, Value.int IntKind.i64 0, Value.int IntKind.i64 0, Value.int IntKind.i64 0, Value.int IntKind.i64 0, Value.int IntKind.i64 0, Value.int IntKind.i64 0, Value.int IntKind.i64 0, Value.int IntKind.i64 0, Value.int IntKind.i64 0, Value.int IntKind.i64 0] 83) = w2 at *
  clear hW e0' e1'
  refine (components_any w2 _ n N m P lo hi (HV.out.below HBB.out hhi) (by omega) HB.out).mono ?_
  rintro e w3 ⟨gc, rfl, hgc, oc, b3⟩
  have HC3 := Lib.hid oc
  have HS3 := Lib.hid (HS.out.below b3 (by omega))
  have HB3 := Lib.hid (HBB.out.trans (b3.mono (by omega)))
  have hgs : w.heap.size + 1 < gc := by omega
  clear oc b3 HS HBB hgc hs0
  go_wp2_with fail
  go_loopw [11] (fun iv wr => ∃ k : Nat, iv = .int .i64 k ∧ k ≤ n ∧ Ob wr (w.heap.size + 1) 24 (ia (fun z => csm (cmpN n P m) s k ((z : Nat) : Int))) ∧ Ob wr gc n (tabC (cmp n P m n)) ∧ Below w.heap.size w wr) (fun iv _ => n - (intOf iv).toNat)
  case atStart => exact ⟨0, rfl, Nat.zero_le _, HS3.out.congr (fun k _ => rfl), HC3.out, HB3.out⟩
  case round =>
    obtain ⟨k, rfl, hk, os, oc, hb⟩ := hrel
    clear HS3 HC3 HB3
    have HS := Lib.hid os
    have HC := Lib.hid oc
    have HBB := Lib.hid hb
    clear os oc hb
    generalize hQ : Exit.then _ _ = Q
    have HQ := Lib.hid hQ
    clear hQ
    have k0 : (0 : Int) ≤ (k : Int) := Int.natCast_nonneg _
    have ls := HS.out.lt
    by_cases hlt : k < n
    · have k1 : (k : Int) < (n : Int) := by omega
      obtain ⟨r, hr, hcr⟩ := cmp_nat (P := P) (m := m) HB.out hlt
      have yc : wr.cell? ⟨gc, k, none⟩ = some (.int .i64 (r : Nat)) := by rw [← hcr]; exact HC.out.cell k hlt
      obtain ⟨ba, oa, rfl, g1, g2, hx⟩ : ∃ b o, pa = some ⟨b, o, none⟩ ∧ la ≤ b ∧ b < ha ∧ ∀ k, k < n → w.cell? ⟨b, o + k, none⟩ = some (.int .i64 (s k)) := by
        rcases HVZ.out with e | e
        · omega
        · exact e
      have ya : wr.cell? ⟨ba, oa + k, none⟩ = some (.int .i64 (s k)) := (HBB.out.cell (p := ⟨ba, oa + k, none⟩) (by show ba < w.heap.size; omega)).trans (hx k hlt)
      have HX := Lib.hid hx
      clear hx
      have hb1 := csm_bd (R := cmpN n P m) (s := s) (z := ((r : Nat) : Int)) (k := k) (fun i hi => HFR.out i (by omega))
      have hd := HFR.out k hlt
      have H1 := Lib.hid (show -4611686018427387904 ≤ csm (cmpN n P m) s k ((r : Nat) : Int) + s k ∧ csm (cmpN n P m) s k ((r : Nat) : Int) + s k ≤ 4611686018427387904 by omega)
      have HU := Lib.hid (show ∀ z : Nat, upd (fun z => csm (cmpN n P m) s k ((z : Nat) : Int)) r (csm (cmpN n P m) s k ((r : Nat) : Int) + s k) z = csm (cmpN n P m) s (k + 1) ((z : Nat) : Int) from fun z => by
        unfold upd
        rw [csm]
        unfold cmpN
        rw [hcr]
        by_cases e : z = r
        · subst e; rw [if_pos rfl, if_pos rfl]
        · rw [if_neg e, if_neg (show ¬ ((r : Nat) : Int) = ((z : Nat) : Int) by omega), Int.add_zero])
      clear hb1 hd hcr
      go_wp2_with fail
      refine (add_any wr (w.heap.size + 1) _ r (s k) HS.out (by omega) H1.out).mono ?_
      rintro e w5 ⟨rfl, o5, u5⟩
      have HS5 := Lib.hid o5
      have HC5 := Lib.hid (HC.out.only u5 (by omega))
      have HB5 := Lib.hid (HBB.out.trans (u5.below (B := w.heap.size) (by omega)))
      clear o5 u5 ya yc HS HC HBB
      go_wp2_with fail
      rw [← HQ.out]
      refine ⟨⟨_, _, _, _, _, _, _, _, _, _, _, _, _, _, ?rel, rfl⟩, ?measure⟩
      case rel => exact ⟨k + 1, by go_num, hlt, HS5.out.congr (fun z _ => by unfold ia; rw [HU.out z]), HC5.out, HB5.out⟩
      case measure => simp [intOf]; omega
    · have hkn : n = k := by omega
      have hr : Ob wr (w.heap.size + 1) 24 (ia (fun z => csm (cmpN n P m) s n ((z : Nat) : Int))) := by
        have := HS.out
        rwa [← hkn] at this
      have k1 : ¬ ((k : Int) < (n : Int)) := by omega
      obtain ⟨t5, g5⟩ := hr.row4
      have heq := HEQ.out
      clear hkn
      go_wp2_with fail
      rw [← HQ.out]
      go_wp2_with (refine wpList_load_row rfl 83 _ rfl (w.heap.size + 1) rfl t5 _ (0, 0) _ g5 Tryz.underlying83 rfl (by rw [brr_size]; exact sums_info) ?_)
      go_ret
      exact ⟨rfl, HBB.out⟩

noncomputable def ieB (n : Nat) (N : Nat → Nod) (m : Nat) (P : Nat → Pip) (K : Nat) (d : Nat → Int) : Bool := decide (svC n N m P K d = 0) && evB n P m d
end Go.Proofs.YtdbgcbkmcbgdiaaGreat.mem

namespace Go.Proofs.YtdbgcbkmcbgdiaaGreat.mem
open Go.RowKit
set_option linter.unusedVariables false

theorem below_dN {B : Nat} {w w' : World} (h : Below B w w') (n : Nat) : Below B w (w'.drewN n) := ⟨h.os, h.tape, h.output, h.size, h.block⟩
/-- the sum of what is positive -/
def thr (s : Nat → Int) : Nat → Int
  | 0 => 0
  | k + 1 => thr s k + max (s k) 0
theorem thr_bd {s : Nat → Int} : ∀ {k : Nat}, (∀ i, i < k → -30000 ≤ s i ∧ s i ≤ 30000) → 0 ≤ thr s k ∧ thr s k ≤ 30000 * (k : Int)
  | 0, _ => by show (0 : Int) ≤ (0 : Int) ∧ (0 : Int) ≤ _; omega
  | k + 1, h => by
    have ih := thr_bd (s := s) (k := k) (fun i hi => h i (by omega))
    have h1 := h k (by omega)
    unfold thr
    rw [Int.max_def]
    split <;> omega
noncomputable def thC (n : Nat) (N : Nat → Nod) (m : Nat) (P : Nat → Pip) (K : Nat) (d : Nat → Int) : Int := if svC n N m P K d = 0 then thr d n else 0
theorem absN_any (x : Int) (w : World) (h1 : -9223372036854775807 ≤ x) (h2 : x ≤ 9223372036854775807) : Calls Tryz.prog 155 #[.int .i64 x] w fun e w' => e = .returned (.int .i64 (x.natAbs : Int)) ∧ w = w' := by
  by_cases h : x < 0
  all_goals
    go_enter Tryz.func155, Tryz.ntmps155
    go_wp2
    go_ret
    exact ⟨ret_i2 (by omega), rfl⟩
/-- carries a pipe more than its limit? -/
def ovP (P : Nat → Pip) (d : Nat → Int) (i : Nat) : Bool := decide ((P i).l < ((d i).natAbs : Int))
noncomputable def ovN (n : Nat) (N : Nat → Nod) (m : Nat) (P : Nat → Pip) (K : Nat) (d : Nat → Int) : Nat := if flC n N m P K d = 0 then (fl (ovP P d) m).length else 0
/-- the sum of two lists -/
noncomputable def afC (n : Nat) (N : Nat → Nod) (m : Nat) (P : Nat → Pip) (K : Nat) (d : Nat → Int) (L : Nat) (s : Nat → Int) : Int :=
  if netB n N m P = true then (if (K = m ∧ flB d K = true) ∧ (L = m ∧ flB s L = true) then (if flB (fun k => d k + s k) m = true then 0 else 2) else 3) else 1
noncomputable def afN (n : Nat) (N : Nat → Nod) (m : Nat) (P : Nat → Pip) (K : Nat) (d : Nat → Int) (L : Nat) (s : Nat → Int) : Nat := if afC n N m P K d L s = 0 then m else 0
def two2 {α : Type} (a b : α) (j : Nat) : α := if j = 0 then a else b
theorem flC_two {n : Nat} {N : Nat → Nod} {m : Nat} {P : Nat → Pip} {K L : Nat} {d s : Nat → Int} : flCL n N m P (two2 K L) (two2 d s) 2 = if netB n N m P = true then (if (K = m ∧ flB d K = true) ∧ (L = m ∧ flB s L = true) then 0 else 3) else 1 := by
  unfold flCL
  simp [flsB, two2, and_assoc]
theorem cell_new2 (w : World) (x y : Value) (t : TypeId) : ∀ j, j < 2 → (w.alloc (.cells #[x, y] t)).cell? ⟨w.heap.size, j, none⟩ = some (two2 x y j) := by
  intro j hj
  have := heap_alloc_new w (Obj.cells #[x, y] t)
  simp only [World.cell?, this]
  rcases (by omega : j = 0 ∨ j = 1) with rfl | rfl <;> rfl
end Go.Proofs.YtdbgcbkmcbgdiaaGreat.mem

namespace Go.Proofs.YtdbgcbkmcbgdiaaGreat.mem
open Go.RowKit
set_option linter.unusedVariables false

set_option maxRecDepth 100000 in
set_option maxHeartbeats 8000000 in
theorem forestFlows_any (w : World) (v va : Value) (n : Nat) (N : Nat → Nod) (m : Nat) (P : Nat → Pip) (lo hi : Nat) (h : NetAt w v n N m P lo hi) (hhi : hi ≤ w.heap.size) (hB : netB n N m P = true) (s : Nat → Int) (la ha : Nat) (hv : Sl w va n s la ha) (hha : ha ≤ w.heap.size)
    (hr : ∀ j, j < n → -30000 ≤ s j ∧ s j ≤ 30000) :
    Calls Tryz.prog 143 #[v, va] w fun e w' => e = .returned (.agg (arr (fflN n P m s))) ∧ Below w.heap.size w w' := by
  obtain ⟨p0, c0, p1, c1, rfl, hn9, hm9⟩ := h.parts
  obtain ⟨hn1, hn24, hm40⟩ := net_sz hB
  have HV := Lib.hid h
  have HB := Lib.hid hB
  have HBD := Lib.hid (fun a k (hk : k ≤ n) => (fo_net (P := P) (m := m) hB).ffl_bd (s := s) a k hk (fun i hi => hr i (by omega)))
  have HRG := Lib.hid hr
  have HCY := Lib.hid (fun k (hk : k < n) a => (fo_net (P := P) (m := m) hB).asc_rng (z := ((k : Nat) : Int)) ⟨by omega, by omega⟩ a)
  have A0 := ((boxed w (.slice p0 n c0) (.slice p1 m c1) 27).keep (Below.heap_alloc _ (.cells #[Value.int IntKind.i64 0, Value.int IntKind.i64 0, Value.int IntKind.i64 0, Value.int IntKind.i64 0, Value.int IntKind.i64 0, Value.int IntKind.i64 0, Value.int IntKind.i64 0, Value.int IntKind.i64 0, Value.int IntKind.i64 0, Value.int IntKind.i64 0, Value.int IntKind.i64 0, Value.int IntKind.i64 0, Value.int IntKind.i64 0, Value.int IntKind.i64 0, Value.int IntKind.i64 0, Value.int IntKind.i64 0, Value.int IntKind.i64 0, Value.int IntKind.i64 0, Value.int IntKind.i64 0, Value.int IntKind.i64 0, Value.int IntKind.i64 0, Value.int IntKind.i64 0, Value.int IntKind.i64 0, Value.int IntKind.i64 0, Value.int IntKind.i64 0, Value.int IntKind.i64 0, Value.int IntKind.i64 0, Value.int IntKind.i64 0, Value.int IntKind.i64 0, Value.int IntKind.i64 0, Value.int IntKind.i64 0, Value.int IntKind.i64 0, Value.int IntKind.i64 0, Value.int IntKind.i64 0, Value.int IntKind.i64 0, Value.int IntKind.i64 0, Value.int IntKind.i64 0, Value.int IntKind.i64 0, Value.int IntKind.i64 0, Value.int IntKind.i64 0] 111) _ (by simp only [World.size_alloc]; omega))).keep (Below.heap_alloc _ (.cells #[Value.int IntKind.i64 0, Value.int IntKind.i64 0, Value.int IntKind.i64 0, Value.int IntKind.i64 0, Value.int IntKind.i64 0, Value.int IntKind.i64 0, Value.int IntKind.i64 0, Value.int IntKind.i64 0, Value.int IntKind.i64 0, Value.int IntKind.i64 0, Value.int IntKind.i64 0, Value.int IntKind.i64 0, Value.int IntKind.i64 0, Value.int IntKind.i64 0, Value.int IntKind.i64 0, Value.int IntKind.i64 0, Value.int IntKind.i64 0, Value.int IntKind.i64 0, Value.int IntKind.i64 0, Value.int IntKind.i64 0, Value.int IntKind.i64 0, Value.int IntKind.i64 0, Value.int IntKind.i64 0, Value.int IntKind.i64 0, Value.int IntKind.i64 0, Value.int IntKind.i64 0, Value.int IntKind.i64 0, Value.int IntKind.i64 0, Value.int IntKind.i64 0, Value.int IntKind.i64 0, Value.int IntKind.i64 0, Value.int IntKind.i64 0, Value.int IntKind.i64 0, Value.int IntKind.i64 0, Value.int IntKind.i64 0, Value.int IntKind.i64 0, Value.int IntKind.i64 0, Value.int IntKind.i64 0, Value.int IntKind.i64 0, Value.int IntKind.i64 0] 111) _ (by simp only [World.size_alloc]; omega))
  have R0 := (Ob.new0 (w.alloc (.cells #[.slice p0 n c0, .slice p1 m c1] 27)) 111).keep (Below.heap_alloc _ (.cells #[Value.int IntKind.i64 0, Value.int IntKind.i64 0, Value.int IntKind.i64 0, Value.int IntKind.i64 0, Value.int IntKind.i64 0, Value.int IntKind.i64 0, Value.int IntKind.i64 0, Value.int IntKind.i64 0, Value.int IntKind.i64 0, Value.int IntKind.i64 0, Value.int IntKind.i64 0, Value.int IntKind.i64 0, Value.int IntKind.i64 0, Value.int IntKind.i64 0, Value.int IntKind.i64 0, Value.int IntKind.i64 0, Value.int IntKind.i64 0, Value.int IntKind.i64 0, Value.int IntKind.i64 0, Value.int IntKind.i64 0, Value.int IntKind.i64 0, Value.int IntKind.i64 0, Value.int IntKind.i64 0, Value.int IntKind.i64 0, Value.int IntKind.i64 0, Value.int IntKind.i64 0, Value.int IntKind.i64 0, Value.int IntKind.i64 0, Value.int IntKind.i64 0, Value.int IntKind.i64 0, Value.int IntKind.i64 0, Value.int IntKind.i64 0, Value.int IntKind.i64 0, Value.int IntKind.i64 0, Value.int IntKind.i64 0, Value.int IntKind.i64 0, Value.int IntKind.i64 0, Value.int IntKind.i64 0, Value.int IntKind.i64 0, Value.int IntKind.i64 0] 111) _ (by simp only [World.size_alloc]; omega))
  have R1 := Ob.new0 ((w.alloc (.cells #[.slice p0 n c0, .slice p1 m c1] 27)).alloc (.cells #[Value.int IntKind.i64 0, Value.int IntKind.i64 0, Value.int IntKind.i64 0, Value.int IntKind.i64 0, Value.int IntKind.i64 0, Value.int IntKind.i64 0, Value.int IntKind.i64 0, Value.int IntKind.i64 0, Value.int IntKind.i64 0, Value.int IntKind.i64 0, Value.int IntKind.i64 0, Value.int IntKind.i64 0, Value.int IntKind.i64 0, Value.int IntKind.i64 0, Value.int IntKind.i64 0, Value.int IntKind.i64 0, Value.int IntKind.i64 0, Value.int IntKind.i64 0, Value.int IntKind.i64 0, Value.int IntKind.i64 0, Value.int IntKind.i64 0, Value.int IntKind.i64 0, Value.int IntKind.i64 0, Value.int IntKind.i64 0, Value.int IntKind.i64 0, Value.int IntKind.i64 0, Value.int IntKind.i64 0, Value.int IntKind.i64 0, Value.int IntKind.i64 0, Value.int IntKind.i64 0, Value.int IntKind.i64 0, Value.int IntKind.i64 0, Value.int IntKind.i64 0, Value.int IntKind.i64 0, Value.int IntKind.i64 0, Value.int IntKind.i64 0, Value.int IntKind.i64 0, Value.int IntKind.i64 0, Value.int IntKind.i64 0, Value.int IntKind.i64 0] 111)) 111
  simp only [World.size_alloc] at R0 R1
  have B0 := ((below_new w (.cells #[.slice p0 n c0, .slice p1 m c1] 27)).trans ((below_new _ (.cells #[Value.int IntKind.i64 0, Value.int IntKind.i64 0, Value.int IntKind.i64 0, Value.int IntKind.i64 0, Value.int IntKind.i64 0, Value.int IntKind.i64 0, Value.int IntKind.i64 0, Value.int IntKind.i64 0, Value.int IntKind.i64 0, Value.int IntKind.i64 0, Value.int IntKind.i64 0, Value.int IntKind.i64 0, Value.int IntKind.i64 0, Value.int IntKind.i64 0, Value.int IntKind.i64 0, Value.int IntKind.i64 0, Value.int IntKind.i64 0, Value.int IntKind.i64 0, Value.int IntKind.i64 0, Value.int IntKind.i64 0, Value.int IntKind.i64 0, Value.int IntKind.i64 0, Value.int IntKind.i64 0, Value.int IntKind.i64 0, Value.int IntKind.i64 0, Value.int IntKind.i64 0, Value.int IntKind.i64 0, Value.int IntKind.i64 0, Value.int IntKind.i64 0, Value.int IntKind.i64 0, Value.int IntKind.i64 0, Value.int IntKind.i64 0, Value.int IntKind.i64 0, Value.int IntKind.i64 0, Value.int IntKind.i64 0, Value.int IntKind.i64 0, Value.int IntKind.i64 0, Value.int IntKind.i64 0, Value.int IntKind.i64 0, Value.int IntKind.i64 0] 111)).mono (by simp only [World.size_alloc]; omega))).trans ((below_new _ (.cells #[Value.int IntKind.i64 0, Value.int IntKind.i64 0, Value.int IntKind.i64 0, Value.int IntKind.i64 0, Value.int IntKind.i64 0, Value.int IntKind.i64 0, Value.int IntKind.i64 0, Value.int IntKind.i64 0, Value.int IntKind.i64 0, Value.int IntKind.i64 0, Value.int IntKind.i64 0, Value.int IntKind.i64 0, Value.int IntKind.i64 0, Value.int IntKind.i64 0, Value.int IntKind.i64 0, Value.int IntKind.i64 0, Value.int IntKind.i64 0, Value.int IntKind.i64 0, Value.int IntKind.i64 0, Value.int IntKind.i64 0, Value.int IntKind.i64 0, Value.int IntKind.i64 0, Value.int IntKind.i64 0, Value.int IntKind.i64 0, Value.int IntKind.i64 0, Value.int IntKind.i64 0, Value.int IntKind.i64 0, Value.int IntKind.i64 0, Value.int IntKind.i64 0, Value.int IntKind.i64 0, Value.int IntKind.i64 0, Value.int IntKind.i64 0, Value.int IntKind.i64 0, Value.int IntKind.i64 0, Value.int IntKind.i64 0, Value.int IntKind.i64 0, Value.int IntKind.i64 0, Value.int IntKind.i64 0, Value.int IntKind.i64 0, Value.int IntKind.i64 0] 111)).mono (by simp only [World.size_alloc]; omega))
  have e0 := A0.b0
  have e1 := A0.b1
  have hs0 : (((w.alloc (.cells #[.slice p0 n c0, .slice p1 m c1] 27)).alloc (.cells #[Value.int IntKind.i64 0, Value.int IntKind.i64 0, Value.int IntKind.i64 0, Value.int IntKind.i64 0, Value.int IntKind.i64 0, Value.int IntKind.i64 0, Value.int IntKind.i64 0, Value.int IntKind.i64 0, Value.int IntKind.i64 0, Value.int IntKind.i64 0, Value.int IntKind.i64 0, Value.int IntKind.i64 0, Value.int IntKind.i64 0, Value.int IntKind.i64 0, Value.int IntKind.i64 0, Value.int IntKind.i64 0, Value.int IntKind.i64 0, Value.int IntKind.i64 0, Value.int IntKind.i64 0, Value.int IntKind.i64 0, Value.int IntKind.i64 0, Value.int IntKind.i64 0, Value.int IntKind.i64 0, Value.int IntKind.i64 0, Value.int IntKind.i64 0, Value.int IntKind.i64 0, Value.int IntKind.i64 0, Value.int IntKind.i64 0, Value.int IntKind.i64 0, Value.int IntKind.i64 0, Value.int IntKind.i64 0, Value.int IntKind.i64 0, Value.int IntKind.i64 0, Value.int IntKind.i64 0, Value.int IntKind.i64 0, Value.int IntKind.i64 0, Value.int IntKind.i64 0, Value.int IntKind.i64 0, Value.int IntKind.i64 0, Value.int IntKind.i64 0] 111)).alloc (.cells #[Value.int IntKind.i64 0, Value.int IntKind.i64 0, Value.int IntKind.i64 0, Value.int IntKind.i64 0, Value.int IntKind.i64 0, Value.int IntKind.i64 0, Value.int IntKind.i64 0, Value.int IntKind.i64 0, Value.int IntKind.i64 0, Value.int IntKind.i64 0, Value.int IntKind.i64 0, Value.int IntKind.i64 0, Value.int IntKind.i64 0, Value.int IntKind.i64 0, Value.int IntKind.i64 0, Value.int IntKind.i64 0, Value.int IntKind.i64 0, Value.int IntKind.i64 0, Value.int IntKind.i64 0, Value.int IntKind.i64 0, Value.int IntKind.i64 0, Value.int IntKind.i64 0, Value.int IntKind.i64 0, Value.int IntKind.i64 0, Value.int IntKind.i64 0, Value.int IntKind.i64 0, Value.int IntKind.i64 0, Value.int IntKind.i64 0, Value.int IntKind.i64 0, Value.int IntKind.i64 0, Value.int IntKind.i64 0, Value.int IntKind.i64 0, Value.int IntKind.i64 0, Value.int IntKind.i64 0, Value.int IntKind.i64 0, Value.int IntKind.i64 0, Value.int IntKind.i64 0, Value.int IntKind.i64 0, Value.int IntKind.i64 0, Value.int IntKind.i64 0] 111)).heap.size = w.heap.size + 1 + 1 + 1 := by simp
  have HA := Lib.hid A0
  have HR0 := Lib.hid R0
  have HR1 := Lib.hid R1
  have HBB := Lib.hid B0
  clear h hB A0 R0 R1 B0 hr
  obtain ⟨pa, ca, rfl, hva⟩ := hv
  go_enter Tryz.func143, Tryz.ntmps143
  go_wp2_with fail
  obtain ⟨w1, hw1⟩ : ∃ w1, ((w.alloc (.cells #[.slice p0 n c0, .slice p1 m c1] 27)).alloc (.cells #[Value.int IntKind.i64 0, Value.int IntKind.i64 0, Value.int IntKind.i64 0, Value.int IntKind.i64 0, Value.int IntKind.i64 0, Value.int IntKind.i64 0, Value.int IntKind.i64 0, Value.int IntKind.i64 0, Value.int IntKind.i64 0, Value.int IntKind.i64 0, Value.int IntKind.i64 0, Value.int IntKind.i64 0, Value.int IntKind.i64 0, Value.int IntKind.i64 0, Value.int IntKind.i64 0, Value.int IntKind.i64 0, Value.int IntKind.i64 0, Value.int IntKind.i64 0, Value.int IntKind.i64 0, Value.int IntKind.i64 0, Value.int IntKind.i64 0, Value.int IntKind.i64 0, Value.int IntKind.i64 0, Value.int IntKind.i64 0, Value.int IntKind.i64 0, Value.int IntKind.i64 0, Value.int IntKind.i64 0, Value.int IntKind.i64 0, Value.int IntKind.i64 0, Value.int IntKind.i64 0, Value.int IntKind.i64 0, Value.int IntKind.i64 0, Value.int IntKind.i64 0, Value.int IntKind.i64 0, Value.int IntKind.i64 0, Value.int IntKind.i64 0, Value.int IntKind.i64 0, Value.int IntKind.i64 0, Value.int IntKind.i64 0, Value.int IntKind.i64 0] 111)).alloc (.cells #[Value.int IntKind.i64 0, Value.int IntKind.i64 0, Value.int IntKind.i64 0, Value.int IntKind.i64 0, Value.int IntKind.i64 0, Value.int IntKind.i64 0, Value.int IntKind.i64 0, Value.int IntKind.i64 0, Value.int IntKind.i64 0, Value.int IntKind.i64 0, Value.int IntKind.i64 0, Value.int IntKind.i64 0, Value.int IntKind.i64 0, Value.int IntKind.i64 0, Value.int IntKind.i64 0, Value.int IntKind.i64 0, Value.int IntKind.i64 0, Value.int IntKind.i64 0, Value.int IntKind.i64 0, Value.int IntKind.i64 0, Value.int IntKind.i64 0, Value.int IntKind.i64 0, Value.int IntKind.i64 0, Value.int IntKind.i64 0, Value.int IntKind.i64 0, Value.int IntKind.i64 0, Value.int IntKind.i64 0, Value.int IntKind.i64 0, Value.int IntKind.i64 0, Value.int IntKind.i64 0, Value.int IntKind.i64 0, Value.int IntKind.i64 0, Value.int IntKind.i64 0, Value.int IntKind.i64 0, Value.int IntKind.i64 0, Value.int IntKind.i64 0, Value.int IntKind.i64 0, Value.int IntKind.i64 0, Value.int IntKind.i64 0, Value.int IntKind.i64 0] 111) = w1 := ⟨_, rfl⟩
  rw [hw1] at hs0 HA HR0 HR1 HBB e0 e1 ⊢
  clear hw1 e0 e1 hs0
  go_loopw [10] (fun iv wr => ∃ k : Nat, iv = .int .i64 k ∧ k ≤ n ∧ Ob wr (w.heap.size + 1 + 1) 40 (ia (ffl P (fE n P m) (fD n P m) s k)) ∧ Ob wr w.heap.size 2 (bx (.slice p0 n c0) (.slice p1 m c1)) ∧ Ob wr (w.heap.size + 1) 40 (ia (fun _ => 0)) ∧ Below w.heap.size w wr) (fun iv _ => n - (intOf iv).toNat)
  case atStart => exact ⟨0, rfl, Nat.zero_le _, HR1.out, HA.out, HR0.out, HBB.out⟩
  case round =>
    obtain ⟨k, rfl, hk, o5, oa, o4, hb⟩ := hrel
    clear HA HR0 HR1 HBB
    have H5 := Lib.hid o5
    have HA := Lib.hid oa
    have H4 := Lib.hid o4
    have HBB := Lib.hid hb
    clear o5 oa o4 hb
    generalize hQ : Exit.then _ _ = Q
    have HQ := Lib.hid hQ
    clear hQ
    have k0 : (0 : Int) ≤ (k : Int) := Int.natCast_nonneg _
    have l5 := H5.out.lt
    have l4 := H4.out.lt
    have la' := HA.out.lt
    have hsz := HBB.out.size
    by_cases hlt : k < n
    · have k1 : (k : Int) < (n : Int) := by omega
      obtain ⟨ba, oa, rfl, g1, g2, hx⟩ : ∃ b o, pa = some ⟨b, o, none⟩ ∧ la ≤ b ∧ b < ha ∧ ∀ k, k < n → w.cell? ⟨b, o + k, none⟩ = some (.int .i64 (s k)) := by
        rcases hva with e | e
        · omega
        · exact e
      clear hva
      have y0 : wr.cell? ⟨ba, oa + k, none⟩ = some (.int .i64 (s k)) := (HBB.out.cell (p := ⟨ba, oa + k, none⟩) (by show ba < w.heap.size; omega)).trans (hx k hlt)
      have HX := Lib.hid hx
      clear hx
      go_wp2_with fail
      have f0 : wr.cell? ⟨w.heap.size, 0, none⟩ = some (.slice p0 n c0) := HA.out.b0
      have f1 : wr.cell? ⟨w.heap.size, 1, none⟩ = some (.slice p1 m c1) := HA.out.b1
      clear y0
      obtain ⟨Lx, hLx, eLx⟩ : ∃ L : List Value, arr (ffl P (fE n P m) (fD n P m) s k) = List.toArray L ∧ L = arrL (ffl P (fE n P m) (fD n P m) s k) := ⟨_, rfl, rfl⟩
      have nLx : Lx.length = 40 := by rw [eLx, arr_len]
      have g5 : wr.rangeAt (w.heap.size + 1 + 1) 0 Lx := by rw [eLx]; exact H5.out.range
      obtain ⟨Lz, hLz, eLz⟩ : ∃ L : List Value, arr (fun a => ffl P (fE n P m) (fD n P m) s k a + asc P (fE n P m) (fD n P m) ((k : Nat) : Int) a * s k) = List.toArray L ∧ L = arrL (fun a => ffl P (fE n P m) (fD n P m) s k a + asc P (fE n P m) (fD n P m) ((k : Nat) : Int) a * s k) := ⟨_, rfl, rfl⟩
      have nLz : Lz.length = 40 := by rw [eLz, arr_len]
      have oLz : ∀ v ∈ Lz, v.oneCell' = true := by rw [eLz]; exact arr_oneL _
      have HLx := Lib.hid hLx
      have HLz := Lib.hid hLz
      have HEz := Lib.hid eLz
      clear hLx eLx hLz eLz
      have FI := flow_info
      have UI := Tryz.underlying111
      have HPB := Lib.hid (show ∀ a, a < 40 → (-4611686018427387904 ≤ ffl P (fE n P m) (fD n P m) s k a + asc P (fE n P m) (fD n P m) ((k : Nat) : Int) a * s k ∧ ffl P (fE n P m) (fD n P m) s k a + asc P (fE n P m) (fD n P m) ((k : Nat) : Int) a * s k ≤ 4611686018427387904) ∧ (-4611686018427387904 ≤ asc P (fE n P m) (fD n P m) ((k : Nat) : Int) a * s k ∧ asc P (fE n P m) (fD n P m) ((k : Nat) : Int) a * s k ≤ 4611686018427387904) from fun a _ => by
        have h1 := HBD.out a k (by omega)
        have h2 := mul1 (HRG.out k hlt) (HCY.out _ hlt a)
        omega)
      refine wp_region_noPanic ?_
      refine wp_region_held_drew (S := fun w' : World => w'.cell? ⟨w.heap.size, 0, none⟩ = some (.slice p0 n c0) ∧ w'.cell? ⟨w.heap.size, 1, none⟩ = some (.slice p1 m c1)) (by kernel_rfl) ⟨f0, f1⟩ (fun s0 => ?_)
      refine wpAnyH_take (i := 1) (v := .agg #[.slice p0 n c0, .slice p1 m c1]) rfl (by kernel_rfl) (by kernel_rfl) (by kernel_rfl) (fun _ _ _ h => h) (Or.inl ⟨by rfl, (by intro w hSw; (try dsimp only at hSw); go_simp)⟩) s0 ?_
      try simp only [Act.put]
      refine wpAnyH_take (i := 2) (v := .int .i64 (k : Nat)) rfl (by kernel_rfl) (by kernel_rfl) (by kernel_rfl) (fun _ _ _ h => h) (Or.inl ⟨by rfl, (by intro w hSw; (try dsimp only at hSw); go_simp)⟩) s0 ?_
      try simp only [Act.put, List.setIfInBounds_toArray]
      refine wpAnyH_take (i := 4) (v := .int .i64 (s k)) rfl (by kernel_rfl) (by kernel_rfl) (by kernel_rfl) (fun _ _ _ h => h) (Or.inl ⟨by rfl, (by intro w hSw; (try dsimp only at hSw); go_simp)⟩) s0 ?_
      try simp only [Act.put]
      refine wpAnyH_ready (rs := [0, 3]) (by kernel_rfl) (by simp) (AllReadyH.cons rfl (fun K hK => ?_) (AllReadyH.cons rfl (fun K hK => ?_) AllReadyH.nil))
      · skip
        rw [if_pos (by rfl)]
        refine wp_load_mid _ _ rfl _ _ rfl Lx _ (range_block g5 rfl) UI rfl (by rw [nLx]; exact FI) ?_
        refine hK.out _ _ ⟨f0, f1⟩ (fun s9 => ?_)
        clear hK K s9
        try simp only [Act.put]
        refine wpAnyH_ready (rs := [3]) (by kernel_rfl) (by simp) (AllReadyH.cons rfl (fun K hK => ?_) AllReadyH.nil)
        go_simp
        refine (ascentFrom_any _ _ n N m P lo hi (HV.out.below HBB.out hhi).drew (show hi ≤ wr.heap.size by omega) HB.out ((k : Nat) : Int) ⟨by omega, by omega⟩).mono ?_
        rintro e wX ⟨rfl, hbX⟩
        have hbX' := below_dr0 hbX
        have SX : wX.cell? ⟨w.heap.size, 0, none⟩ = some (.slice p0 n c0) ∧ wX.cell? ⟨w.heap.size, 1, none⟩ = some (.slice p1 m c1) := ⟨(hbX'.cell (p := ⟨w.heap.size, 0, none⟩) la').trans f0, (hbX'.cell (p := ⟨w.heap.size, 1, none⟩) la').trans f1⟩
        have zX := hbX'.size
        refine hK.out _ _ SX (fun s9 => ?_)
        clear hK K s9
        try simp only [Act.put, List.setIfInBounds_toArray]
        refine wpAnyH_ready (rs := [5]) (by kernel_rfl) (by simp) (AllReadyH.cons rfl (fun K hK => ?_) AllReadyH.nil)
        go_simp
        rw [← HLx.out]
        refine (plus_any _ _ _ _ (fun a ha => (HPB.out a ha).1) (fun a ha => (HPB.out a ha).2)).mono ?_
        rintro e wY ⟨rfl, hbY⟩
        rw [HLz.out]
        have SY : wY.cell? ⟨w.heap.size, 0, none⟩ = some (.slice p0 n c0) ∧ wY.cell? ⟨w.heap.size, 1, none⟩ = some (.slice p1 m c1) := ⟨(hbY.cell (p := ⟨w.heap.size, 0, none⟩) (by show w.heap.size < _; omega)).trans SX.1, (hbY.cell (p := ⟨w.heap.size, 1, none⟩) (by show w.heap.size < _; omega)).trans SX.2⟩
        have zY := hbY.size
        refine hK.out _ _ SY (fun s9 => ?_)
        clear hK K s9
        try simp only [Act.put, List.set_cons_succ]
        refine wpAnyH_ready (rs := [6]) (by kernel_rfl) (by simp) (AllReadyH.cons rfl (fun K hK => ?_) AllReadyH.nil)
        have o4' := (H5.out.below hbX' l5).below hbY (by omega)
        have o5 := o4'.setArr (fun a => ffl P (fE n P m) (fD n P m) s k a + asc P (fE n P m) (fD n P m) ((k : Nat) : Int) a * s k)
        rw [← HEz.out] at o5
        have oy := (Only.refl (w.heap.size + 1 + 1) wY).setCs Lz 0
        rw [if_pos (by rfl)]
        refine wp_store_mid _ _ _ rfl _ _ (List.toArray Lz) rfl rfl (by show wY.there (w.heap.size + 1 + 1) 0 Lz.length; rw [nLz]; exact o4'.there) (by show _ = some Lz.length; rw [nLz]; exact FI) (all_oneCell_toArray oLz) ?_
        simp only [Act.put, List.setIfInBounds_toArray]
        refine hK.out _ _ ⟨(oy.cell (a := ⟨w.heap.size, 0, none⟩) (by show w.heap.size ≠ _; omega)).trans SY.1, (oy.cell (a := ⟨w.heap.size, 1, none⟩) (by show w.heap.size ≠ _; omega)).trans SY.2⟩ (fun s9 => ?_)
        refine wpAnyH_done (by kernel_rfl) ?_ _
        refine NoPanic.normal ?_
        have hbb := (hbX'.mono (show w.heap.size ≤ wr.heap.size by omega)).trans ((hbY.mono (show w.heap.size ≤ wX.heap.size by omega)).trans (oy.below (show w.heap.size ≤ w.heap.size + 1 + 1 by omega)))
        have ra := ((HA.out.below hbX' la').below hbY (by omega)).only oy (by omega)
        have r4 := ((H4.out.below hbX' l4).below hbY (by omega)).only oy (by omega)
        clear SX SY
        go_wp2_with fail
        rw [← HQ.out]
        refine ⟨⟨_, _, _, _, _, _, _, _, _, _, _, _, _, _, ?rel, rfl⟩, ?measure⟩
        case rel => exact ⟨k + 1, by go_num, hlt, o5.congr (fun a _ => by unfold ia; rw [ffl]), ra, r4, HBB.out.trans hbb⟩
        case measure => simp [intOf]; omega
      · skip
        go_simp
        refine (ascentFrom_any _ _ n N m P lo hi (HV.out.below HBB.out hhi).drew (show hi ≤ wr.heap.size by omega) HB.out ((k : Nat) : Int) ⟨by omega, by omega⟩).mono ?_
        rintro e wX ⟨rfl, hbX⟩
        have hbX' := below_dr0 hbX
        have SX : wX.cell? ⟨w.heap.size, 0, none⟩ = some (.slice p0 n c0) ∧ wX.cell? ⟨w.heap.size, 1, none⟩ = some (.slice p1 m c1) := ⟨(hbX'.cell (p := ⟨w.heap.size, 0, none⟩) la').trans f0, (hbX'.cell (p := ⟨w.heap.size, 1, none⟩) la').trans f1⟩
        have zX := hbX'.size
        refine hK.out _ _ SX (fun s9 => ?_)
        clear hK K s9
        try simp only [Act.put, List.setIfInBounds_toArray, List.set_cons_succ]
        refine wpAnyH_ready (rs := [0]) (by kernel_rfl) (by simp) (AllReadyH.cons rfl (fun K hK => ?_) AllReadyH.nil)
        rw [if_pos (by rfl)]
        refine wp_load_mid _ _ rfl _ _ rfl Lx _ (range_block g5 (hbX'.block _ l5)) UI rfl (by rw [nLx]; exact FI) ?_
        refine hK.out _ _ SX (fun s9 => ?_)
        clear hK K s9
        try simp only [Act.put, List.setIfInBounds_toArray]
        refine wpAnyH_ready (rs := [5]) (by kernel_rfl) (by simp) (AllReadyH.cons rfl (fun K hK => ?_) AllReadyH.nil)
        go_simp
        rw [← HLx.out]
        refine (plus_any _ _ _ _ (fun a ha => (HPB.out a ha).1) (fun a ha => (HPB.out a ha).2)).mono ?_
        rintro e wY ⟨rfl, hbY⟩
        rw [HLz.out]
        have SY : wY.cell? ⟨w.heap.size, 0, none⟩ = some (.slice p0 n c0) ∧ wY.cell? ⟨w.heap.size, 1, none⟩ = some (.slice p1 m c1) := ⟨(hbY.cell (p := ⟨w.heap.size, 0, none⟩) (by show w.heap.size < _; omega)).trans SX.1, (hbY.cell (p := ⟨w.heap.size, 1, none⟩) (by show w.heap.size < _; omega)).trans SX.2⟩
        have zY := hbY.size
        refine hK.out _ _ SY (fun s9 => ?_)
        clear hK K s9
        try simp only [Act.put, List.setIfInBounds_toArray, List.set_cons_succ]
        refine wpAnyH_ready (rs := [6]) (by kernel_rfl) (by simp) (AllReadyH.cons rfl (fun K hK => ?_) AllReadyH.nil)
        have o4' := (H5.out.below hbX' l5).below hbY (by omega)
        have o5 := o4'.setArr (fun a => ffl P (fE n P m) (fD n P m) s k a + asc P (fE n P m) (fD n P m) ((k : Nat) : Int) a * s k)
        rw [← HEz.out] at o5
        have oy := (Only.refl (w.heap.size + 1 + 1) wY).setCs Lz 0
        rw [if_pos (by rfl)]
        refine wp_store_mid _ _ _ rfl _ _ (List.toArray Lz) rfl rfl (by show wY.there (w.heap.size + 1 + 1) 0 Lz.length; rw [nLz]; exact o4'.there) (by show _ = some Lz.length; rw [nLz]; exact FI) (all_oneCell_toArray oLz) ?_
        simp only [Act.put, List.setIfInBounds_toArray]
        refine hK.out _ _ ⟨(oy.cell (a := ⟨w.heap.size, 0, none⟩) (by show w.heap.size ≠ _; omega)).trans SY.1, (oy.cell (a := ⟨w.heap.size, 1, none⟩) (by show w.heap.size ≠ _; omega)).trans SY.2⟩ (fun s9 => ?_)
        refine wpAnyH_done (by kernel_rfl) ?_ _
        refine NoPanic.normal ?_
        have hbb := (hbX'.mono (show w.heap.size ≤ wr.heap.size by omega)).trans ((hbY.mono (show w.heap.size ≤ wX.heap.size by omega)).trans (oy.below (show w.heap.size ≤ w.heap.size + 1 + 1 by omega)))
        have ra := ((HA.out.below hbX' la').below hbY (by omega)).only oy (by omega)
        have r4 := ((H4.out.below hbX' l4).below hbY (by omega)).only oy (by omega)
        clear SX SY
        go_wp2_with fail
        rw [← HQ.out]
        refine ⟨⟨_, _, _, _, _, _, _, _, _, _, _, _, _, _, ?rel, rfl⟩, ?measure⟩
        case rel => exact ⟨k + 1, by go_num, hlt, o5.congr (fun a _ => by unfold ia; rw [ffl]), ra, r4, HBB.out.trans hbb⟩
        case measure => simp [intOf]; omega
    · have hkn : n = k := by omega
      have hr : Ob wr (w.heap.size + 1 + 1) 40 (ia (fflN n P m s)) := by
        have := H5.out
        rw [← hkn] at this
        exact this
      have k1 : ¬ ((k : Int) < (n : Int)) := by omega
      obtain ⟨t5, g5⟩ := hr.row
      obtain ⟨t4, g4⟩ := H4.out.row
      have o2 := (Only.refl (w.heap.size + 1) wr).setRow (arr (fflN n P m s))
      have r2 := H4.out.setRow (fflN n P m s)
      have hbb := HBB.out.trans (o2.below (B := w.heap.size) (by omega))
      clear hkn
      go_wp2_with fail
      rw [← HQ.out]
      go_wp2_with (first | refine wpList_load_row rfl 111 _ rfl (w.heap.size + 1 + 1) rfl t5 _ (0, 0) _ g5 Tryz.underlying111 rfl (by rw [arr_size]; exact flow_info) ?_ | refine wpList_store_row rfl 111 _ _ rfl (w.heap.size + 1) _ rfl rfl t4 _ g4 (by rw [arr_size]; exact flow_info) (by rw [arr_size, arr_size]) (arr_one _) ?_)
      exact bodyPost_ret (results_arr rfl rfl r2) rfl ⟨rfl, hbb⟩

noncomputable def ffC (n : Nat) (N : Nat → Nod) (m : Nat) (P : Nat → Pip) (K : Nat) (d : Nat → Int) : Int :=
  if svC n N m P K d = 0 then (if evB n P m d = true then (if flB (fflN n P m d) m = true then 0 else 2) else 5) else svC n N m P K d
noncomputable def ffN (n : Nat) (N : Nat → Nod) (m : Nat) (P : Nat → Pip) (K : Nat) (d : Nat → Int) : Nat := if ffC n N m P K d = 0 then m else 0
set_option maxRecDepth 100000 in
set_option maxHeartbeats 8000000 in
theorem forestFlowsI_any (w : World) (v : Value) (n : Nat) (N : Nat → Nod) (m : Nat) (P : Nat → Pip) (lo hi : Nat) (h : NetAt w v n N m P lo hi) (hhi : hi ≤ w.heap.size) (hN : ∀ i, i < n → (N i).s.size ≤ 9223372036854775807) (va : Value) (K : Nat) (d : Nat → Int) (la ha : Nat) (hv : Sl w va K d la ha) (hha : ha ≤ w.heap.size) (hK9 : K ≤ 9223372036854775807) :
    Calls Tryz.prog 89 #[v, va] w (LIPost w (ffN n N m P K d) (fflN n P m d) (ffC n N m P K d)) := by
  obtain ⟨p0, c0, p1, c1, rfl, hn9, hm9⟩ := h.parts
  have HV := Lib.hid h
  have HN := Lib.hid hN
  obtain ⟨pa, ca, rfl⟩ := hv.sh
  have A0 := boxed w (.slice p0 n c0) (.slice p1 m c1) 27
  have B0 := below_new w (.cells #[.slice p0 n c0, .slice p1 m c1] 27)
  have hs0 : (w.alloc (.cells #[.slice p0 n c0, .slice p1 m c1] 27)).heap.size = w.heap.size + 1 := by simp
  clear h hN
  go_enter Tryz.func89, Tryz.ntmps89
  have e0' := A0.b0
  have e1' := A0.b1
  go_wp2_with fail
  refine (checkSupplies_any _ _ n N m P lo hi (HV.out.below B0 hhi) (by omega) HN.out _ K d la ha (hv.below B0 hha) (by omega) hK9).mono ?_
  rintro e w1 ⟨rfl, b1⟩
  have A1 := A0.below b1 (by omega)
  have B1 := B0.trans (b1.mono (by omega))
  have hs1 := b1.size
  have e0 := A1.b0
  have e1 := A1.b1
  have e2 : w.heap.size < w1.heap.size := by omega
  clear A0 B0 b1 e0' e1'
  by_cases hc : svC n N m P K d = 0
  · obtain ⟨hB, rfl, hf⟩ := svC_ok hc
    obtain ⟨hn1, hn24, hm40⟩ := net_sz hB
    have HB := Lib.hid hB
    have HF := Lib.hid hf
    have H1 := Lib.hid (hv.below B1 hha)
    have HRG := Lib.hid (show ∀ j, j < K → -30000 ≤ d j ∧ d j ≤ 30000 from fun j hj => flQ_iff.1 (flB_iff.1 hf j hj))
    have HZ := Lib.hid (show flB (fflN K P m d) 40 = flB (fflN K P m d) m from flB_ext hm40 (fun k hk => fflN_off hB d hk))
    have HFC := Lib.hid (show ffC K N m P K d = if evB K P m d = true then (if flB (fflN K P m d) m = true then 0 else 2) else 5 by unfold ffC; rw [if_pos hc])
    rw [hc]
    clear hc hB hf hv
    go_wp2_with fail
    refine (areEven_any w1 _ K N m P lo hi (HV.out.below B1 hhi) (by omega) HB.out _ d la ha H1.out (by omega) HF.out).mono ?_
    rintro e w2 ⟨rfl, b2⟩
    have A2 := A1.below b2 e2
    have B2 := B1.trans (b2.mono (by omega))
    have hs2 := b2.size
    have H2 := Lib.hid (H1.out.below b2 (by omega))
    have f0 := A2.b0
    have f1 := A2.b1
    clear e0 e1 A1 b2 H1
    cases hev : evB K P m d
    · have H4 := Lib.hid (show ffC K N m P K d = 5 by rw [HFC.out, hev]; rfl)
      have H3 := Lib.hid (show ffN K N m P K d = 0 by unfold ffN; rw [H4.out]; rfl)
      clear hev
      go_wp2_with fail
      go_ret2
      exact li_err H3.out H4.out.symm rfl B2
    · have HFD := Lib.hid (show ffC K N m P K d = if flB (fflN K P m d) m = true then 0 else 2 by rw [HFC.out, hev]; rfl)
      clear hev
      have lw : w.heap.size < w2.heap.size := by omega
      go_wp2_with fail
      go_region_held3 (fun w' : World => w'.cell? ⟨w.heap.size, 0, none⟩ = some (.slice p0 K c0) ∧ w'.cell? ⟨w.heap.size, 1, none⟩ = some (.slice p1 m c1))
        (first | exact ⟨f0, f1⟩ | exact SA | exact SB)
        (first
          | (go_at_call 143; refine (forestFlows_any _ _ _ K N m P lo hi (HV.out.below B2 hhi).drew (show hi ≤ w2.heap.size by omega) HB.out d la ha (sl_dr H2.out) (show ha ≤ w2.heap.size by omega) HRG.out).mono ?_; rintro e wA ⟨rfl, hbA⟩; have hbA' := below_dr0 hbA; have SA : wA.cell? ⟨w.heap.size, 0, none⟩ = some (.slice p0 K c0) ∧ wA.cell? ⟨w.heap.size, 1, none⟩ = some (.slice p1 m c1) := ⟨(hbA'.cell (p := ⟨w.heap.size, 0, none⟩) lw).trans f0, (hbA'.cell (p := ⟨w.heap.size, 1, none⟩) lw).trans f1⟩; have zA := hbA'.size)
          | (go_at_call 90; refine (flowListOf_any _ p0 p1 K m c0 c1 _ hm40).mono ?_; rintro e wB ⟨hbB, hcase⟩; obtain ⟨v2, cd, rfl, hout⟩ := flo_out hcase; have SB : wB.cell? ⟨w.heap.size, 0, none⟩ = some (.slice p0 K c0) ∧ wB.cell? ⟨w.heap.size, 1, none⟩ = some (.slice p1 m c1) := ⟨(hbB.cell (p := ⟨w.heap.size, 0, none⟩) (by show w.heap.size < _; omega)).trans SA.1, (hbB.cell (p := ⟨w.heap.size, 1, none⟩) (by show w.heap.size < _; omega)).trans SA.2⟩))
      go_wp2_with fail
      go_ret2
      have BF := (B2.trans (hbA'.mono (by omega))).trans (hbB.mono (by omega))
      rcases hout.out with ⟨hz, rfl, g, ho, hg⟩ | ⟨hz, rfl, rfl⟩
      · rw [HZ.out] at hz
        have H4 := Lib.hid (show ffC K N m P K d = 0 by rw [HFD.out, hz]; rfl)
        exact li_ok (show m = _ by unfold ffN; rw [H4.out]; rfl) (by rw [H4.out]; rfl) ho (by omega) BF
      · rw [HZ.out] at hz
        have H4 := Lib.hid (show ffC K N m P K d = 2 by rw [HFD.out, hz]; rfl)
        exact li_err (show _ = 0 by unfold ffN; rw [H4.out]; rfl) H4.out.symm rfl BF
  · have hb1 : (svC n N m P K d != 0) = true := by simpa using hc
    have H4 := Lib.hid (show ffC n N m P K d = svC n N m P K d by unfold ffC; rw [if_neg hc])
    have H3 := Lib.hid (show ffN n N m P K d = 0 by unfold ffN; rw [H4.out, if_neg hc])
    clear hc
    go_wp2_with fail
    go_ret2
    exact li_err H3.out H4.out.symm rfl B1
end Go.Proofs.YtdbgcbkmcbgdiaaGreat.mem

namespace Go.Proofs.YtdbgcbkmcbgdiaaGreat.mem
open Go.RowKit
set_option linter.unusedVariables false

/-- what flows into a node through the first k pipes -/
def trV (P : Nat → Pip) (d : Nat → Int) (z : Int) : Nat → Int
  | 0 => 0
  | k + 1 => trV P d z k + (if endB (P k) z = true then (if (P k).f = z then max (-(d k)) 0 else max (d k) 0) else 0)
theorem max_rng {x : Int} (h : -30000 ≤ x ∧ x ≤ 30000) : 0 ≤ max x 0 ∧ max x 0 ≤ 30000 := by rw [Int.max_def]; split <;> omega
theorem trV_bd {P : Nat → Pip} {d : Nat → Int} {z : Int} : ∀ {k : Nat}, (∀ i, i < k → -30000 ≤ d i ∧ d i ≤ 30000) → 0 ≤ trV P d z k ∧ trV P d z k ≤ 30000 * (k : Int)
  | 0, _ => by show (0 : Int) ≤ (0 : Int) ∧ (0 : Int) ≤ _; omega
  | k + 1, h => by
    have ih := trV_bd (P := P) (d := d) (z := z) (k := k) (fun i hi => h i (by omega))
    have h1 := max_rng (h k (by omega))
    have h2 := max_rng (x := -(d k)) (by have := h k (by omega); omega)
    unfold trV
    split
    · split <;> omega
    · omega
noncomputable def trC (n : Nat) (N : Nat → Nod) (m : Nat) (P : Nat → Pip) (K : Nat) (d : Nat → Int) (z : Int) : Int := if flC n N m P K d = 0 then (if inR z 0 (n - 1) = true then 0 else 2) else flC n N m P K d
noncomputable def trA (n : Nat) (N : Nat → Nod) (m : Nat) (P : Nat → Pip) (K : Nat) (d : Nat → Int) (z : Int) : Int := if trC n N m P K d z = 0 then trV P d z m else 0
end Go.Proofs.YtdbgcbkmcbgdiaaGreat.mem
