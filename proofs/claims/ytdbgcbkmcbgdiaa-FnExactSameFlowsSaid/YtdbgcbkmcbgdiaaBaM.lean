/-
  Several texts in one: Bap, Brr, Bal, Bam, Ban, Bao, Baq.
-/
import Derived.Test.YtdbgcbkmcbgdiaaRows
import Derived.Test.YtdbgcbkmcbgdiaaCyM
import Derived.Test.YtdbgcbkmcbgdiaaCiM
import Derived.Laws.StructEq
import Derived.StillTailTactics
import Derived.BigQuiet
import Derived.IntWalk
namespace Go.Proofs.Ytdbgcbkmcbgdiaa.mem
open Go.RowKit
set_option linter.unusedVariables false

/-- what the first k numbers add up to whose mark is z -/
def csm (R : Nat → Int) (s : Nat → Int) : Nat → Int → Int
  | 0, _ => 0
  | k + 1, z => csm R s k z + (if R k = z then s k else 0)
theorem csm_congr {R s t : Nat → Int} {z : Int} : ∀ {k : Nat}, (∀ i, i < k → s i = t i) → csm R s k z = csm R t k z
  | 0, _ => rfl
  | k + 1, h => by
    unfold csm
    rw [csm_congr (k := k) (fun i hi => h i (by omega)), h k (by omega)]
theorem csm_add (R s t : Nat → Int) (z : Int) : ∀ k, csm R (fun i => s i + t i) k z = csm R s k z + csm R t k z
  | 0 => rfl
  | k + 1 => by
    unfold csm
    rw [csm_add R s t z k]
    split <;> omega
theorem csm_sub (R s t : Nat → Int) (z : Int) : ∀ k, csm R (fun i => s i - t i) k z = csm R s k z - csm R t k z
  | 0 => rfl
  | k + 1 => by
    unfold csm
    rw [csm_sub R s t z k]
    split <;> omega
theorem csm_zero (R : Nat → Int) (z : Int) : ∀ k, csm R (fun _ => 0) k z = 0
  | 0 => rfl
  | k + 1 => by
    unfold csm
    rw [csm_zero R z k]
    split <;> rfl
theorem csm_only {R s : Nat → Int} {z : Int} {r : Nat} : ∀ k, (∀ i, i < k → R i = z → i ≠ r → s i = 0) → csm R s k z = if r < k ∧ R r = z then s r else 0
  | 0, _ => by rw [if_neg (by omega)]; rfl
  | k + 1, h => by
    unfold csm
    rw [csm_only (r := r) k (fun i hi => h i (by omega))]
    by_cases e : k = r
    · subst e
      rw [if_neg (by omega), Int.zero_add]
      by_cases g : R k = z
      · rw [if_pos g, if_pos ⟨by omega, g⟩]
      · rw [if_neg g, if_neg (fun q => g q.2)]
    · have hk : (if R k = z then s k else 0) = 0 := by
        split
        · next g => exact h k (by omega) g e
        · rfl
      rw [hk, Int.add_zero]
      by_cases g : r < k ∧ R r = z
      · rw [if_pos g, if_pos ⟨by omega, g.2⟩]
      · rw [if_neg g, if_neg (fun q => g ⟨by omega, q.2⟩)]
theorem csm_at (R : Nat → Int) (z c y : Int) (n : Nat) (hy : 0 ≤ y ∧ y < n) : csm R (fun i => if y = ((i : Nat) : Int) then c else 0) n z = if R y.toNat = z then c else 0 := by
  rw [csm_only (r := y.toNat) n (fun i _ _ hne => if_neg (by omega))]
  have e : y = ((y.toNat : Nat) : Int) := by omega
  rw [if_pos e]
  by_cases g : R y.toNat = z
  · rw [if_pos g, if_pos ⟨by omega, g⟩]
  · rw [if_neg g, if_neg (fun q => g q.2)]
/-- what a flow balances adds up to 0 over the nodes of one mark, if no pipe leads to another mark -/
theorem csm_dv {P : Nat → Pip} {x R : Nat → Int} {n : Nat} {z : Int} : ∀ k, (∀ a, a < k → (0 ≤ (P a).f ∧ (P a).f < n) ∧ (0 ≤ (P a).t ∧ (P a).t < n) ∧ R (P a).f.toNat = R (P a).t.toNat) → csm R (fun i => dv P x k ((i : Nat) : Int)) n z = 0
  | 0, _ => csm_zero R z n
  | k + 1, h => by
    obtain ⟨h1, h2, h3⟩ := h k (by omega)
    have e : (fun i : Nat => dv P x (k + 1) ((i : Nat) : Int)) = fun i => (dv P x k ((i : Nat) : Int) + (if (P k).f = ((i : Nat) : Int) then x k else 0)) - (if (P k).t = ((i : Nat) : Int) then x k else 0) := rfl
    rw [e, csm_sub, csm_add, csm_dv k (fun a ha => h a (by omega)), csm_at R z _ _ n h1, csm_at R z _ _ n h2, h3]
    omega

/-- what the ways up carry together -/
def ffl (P : Nat → Pip) (E D : Int → Int) (s : Nat → Int) : Nat → Nat → Int
  | 0, _ => 0
  | k + 1, a => ffl P E D s k a + asc P E D ((k : Nat) : Int) a * s k
theorem Fo.ffl_dv {n : Nat} {P : Nat → Pip} {m : Nat} {E D R : Int → Int} (h : Fo n P m E D) (r0 : ∀ z : Int, 0 ≤ z ∧ z < n → E z = -1 → R z = z) (r1 : ∀ z : Int, 0 ≤ z ∧ z < n → ∀ c : Nat, c < m → E z = (c : Int) → R (othV (P c) z) = R z) {s : Nat → Int} (y : Nat) :
    ∀ k, k ≤ n → dv P (ffl P E D s k) m ((y : Nat) : Int) = (if y < k then s y else 0) - csm (fun i => R ((i : Nat) : Int)) s k ((y : Nat) : Int)
  | 0, _ => by
    rw [if_neg (by omega)]
    exact dv_zero P _ m
  | k + 1, hk => by
    have e : ffl P E D s (k + 1) = fun a => ffl P E D s k a + (fun b => s k * asc P E D ((k : Nat) : Int) b) a := by
      funext a
      show _ + _ = _ + _
      rw [Int.mul_comm]
    rw [e, dv_add, h.ffl_dv r0 r1 y k (by omega), dv_mul, h.asc_dv r0 r1 (z := ((k : Nat) : Int)) ⟨by omega, by omega⟩]
    show _ = _ - (csm _ s k _ + (if R ((k : Nat) : Int) = ((y : Nat) : Int) then s k else 0))
    by_cases e1 : k = y
    · subst e1
      rw [if_neg (Nat.lt_irrefl k), if_pos (Nat.lt_succ_self k), if_pos rfl]
      by_cases g : R ((k : Nat) : Int) = ((k : Nat) : Int)
      · rw [if_pos g, if_pos g]; omega
      · rw [if_neg g, if_neg g]; omega
    · rw [if_neg (show ¬ ((k : Nat) : Int) = ((y : Nat) : Int) by omega)]
      have e2 : (if y < k then s y else 0) = if y < k + 1 then s y else 0 := by
        by_cases g : y < k
        · rw [if_pos g, if_pos (by omega)]
        · rw [if_neg g, if_neg (by omega)]
      rw [← e2]
      by_cases g : R ((k : Nat) : Int) = ((y : Nat) : Int)
      · rw [if_pos g, if_pos g]; omega
      · rw [if_neg g, if_neg g]; omega
theorem Fo.ffl_sup {n : Nat} {P : Nat → Pip} {m : Nat} {E D : Int → Int} (h : Fo n P m E D) {s : Nat → Int} {a : Nat} : ∀ k, k ≤ n → ffl P E D s k a ≠ 0 → ∃ z : Int, 0 ≤ z ∧ z < n ∧ E z = (a : Int)
  | 0, _, hx => absurd rfl hx
  | k + 1, hk, hx => by
    by_cases e : ffl P E D s k a = 0
    · by_cases g : asc P E D ((k : Nat) : Int) a = 0
      · exact absurd (show ffl P E D s k a + asc P E D ((k : Nat) : Int) a * s k = 0 by rw [e, g, Int.zero_mul]; rfl) hx
      · obtain ⟨z, z0, z1, z2, _⟩ := h.asc_sup (z := ((k : Nat) : Int)) ⟨by omega, by omega⟩ a g
        exact ⟨z, z0, z1, z2⟩
    · exact h.ffl_sup k (by omega) e
theorem mul1 {x c : Int} (hx : -30000 ≤ x ∧ x ≤ 30000) (hc : -1 ≤ c ∧ c ≤ 1) : -30000 ≤ c * x ∧ c * x ≤ 30000 := by
  rcases (by omega : c = -1 ∨ c = 0 ∨ c = 1) with rfl | rfl | rfl <;> omega
theorem Fo.ffl_bd {n : Nat} {P : Nat → Pip} {m : Nat} {E D : Int → Int} (h : Fo n P m E D) {s : Nat → Int} (a : Nat) : ∀ k, k ≤ n → (∀ i, i < k → -30000 ≤ s i ∧ s i ≤ 30000) → -30000 * (k : Int) ≤ ffl P E D s k a ∧ ffl P E D s k a ≤ 30000 * (k : Int)
  | 0, _, _ => by show _ ≤ (0 : Int) ∧ (0 : Int) ≤ _; omega
  | k + 1, hk, hs => by
    have ih := h.ffl_bd (s := s) a k (by omega) (fun i hi => hs i (by omega))
    have h1 := mul1 (hs k (by omega)) (h.asc_rng (z := ((k : Nat) : Int)) ⟨by omega, by omega⟩ a)
    show _ ≤ ffl P E D s k a + asc P E D ((k : Nat) : Int) a * s k ∧ ffl P E D s k a + asc P E D ((k : Nat) : Int) a * s k ≤ _
    omega
/-- the marks: the least nodes of the components -/
def cmpN (n : Nat) (P : Nat → Pip) (m : Nat) (i : Nat) : Int := cmp n P m n ((i : Nat) : Int)
/-- are supplies even? -/
def evB (n : Nat) (P : Nat → Pip) (m : Nat) (s : Nat → Int) : Bool := (List.range n).all (fun z => csm (cmpN n P m) s n ((z : Nat) : Int) == 0)
theorem evB_iff {n : Nat} {P : Nat → Pip} {m : Nat} {s : Nat → Int} : evB n P m s = true ↔ ∀ z, z < n → csm (cmpN n P m) s n ((z : Nat) : Int) = 0 := by
  unfold evB
  rw [List.all_eq_true]
  constructor
  · intro h k hk
    simpa using h k (List.mem_range.2 hk)
  · intro h k hk
    simpa using h k (List.mem_range.1 hk)
def fflN (n : Nat) (P : Nat → Pip) (m : Nat) (s : Nat → Int) (a : Nat) : Int := ffl P (fE n P m) (fD n P m) s n a
theorem fflN_bal {n : Nat} {N : Nat → Nod} {P : Nat → Pip} {m : Nat} (hN : netB n N m P = true) {s : Nat → Int} (he : evB n P m s = true) (y : Nat) (hy : y < n) : dv P (fflN n P m s) m ((y : Nat) : Int) = s y := by
  have h1 := (fo_net hN).ffl_dv (fo_r0 hN) (fo_r2 hN) (s := s) y n (Nat.le_refl n)
  have h2 := evB_iff.1 he y hy
  rw [if_pos hy] at h1
  unfold cmpN at h2
  rw [h2, Int.sub_zero] at h1
  exact h1
theorem fflN_uniq {n : Nat} {N : Nat → Nod} {P : Nat → Pip} {m : Nat} (hN : netB n N m P = true) {s x : Nat → Int} (he : evB n P m s = true) (hs : ∀ a, a < m → x a ≠ 0 → ∃ z : Int, 0 ≤ z ∧ z < n ∧ fE n P m z = (a : Int)) (hx : ∀ y, y < n → dv P x m ((y : Nat) : Int) = s y) : ∀ a, a < m → x a = fflN n P m s a := by
  intro a ha
  have key := (fo_net hN).zero (x := fun a => x a - fflN n P m s a) (fun b hb hne => by
    by_cases g : x b = 0
    · exact (fo_net hN).ffl_sup (s := s) n (Nat.le_refl n) (fun q => hne (by show x b - ffl _ _ _ s n b = 0; rw [g, q]; rfl))
    · exact hs b hb g) (fun z z0 z1 => by
    obtain ⟨y, rfl⟩ := Int.eq_ofNat_of_zero_le z0
    rw [dv_sub, hx y (by omega), fflN_bal hN he y (by omega)]
    omega) a ha
  have e : x a - fflN n P m s a = 0 := key
  omega
theorem fflN_off {n : Nat} {N : Nat → Nod} {P : Nat → Pip} {m : Nat} (hN : netB n N m P = true) (s : Nat → Int) {a : Nat} (ha : m ≤ a) : fflN n P m s a = 0 := by
  by_cases g : fflN n P m s a = 0
  · exact g
  · obtain ⟨z, z0, z1, e⟩ := (fo_net hN).ffl_sup (s := s) (a := a) n (Nat.le_refl n) g
    rcases (fo_net (P := P) (m := m) hN).par z z0 z1 with q | ⟨b, hb, q, _⟩ <;> omega

/-- the sum without signs -/
def sab (l : Nat → Int) : Nat → Int
  | 0 => 0
  | k + 1 => sab l k + ((l k).natAbs : Int)
theorem sab_pos (l : Nat → Int) : ∀ k, 0 ≤ sab l k
  | 0 => by show (0 : Int) ≤ 0; omega
  | k + 1 => by have := sab_pos l k; show (0 : Int) ≤ sab l k + _; omega
theorem sab_ge (l : Nat → Int) {i : Nat} : ∀ k, i < k → -(sab l k) ≤ l i ∧ l i ≤ sab l k
  | 0, h => by omega
  | k + 1, h => by
    have p := sab_pos l k
    show -(sab l k + _) ≤ l i ∧ l i ≤ sab l k + _
    by_cases e : i = k
    · subst e; omega
    · have := sab_ge l k (show i < k by omega); omega
theorem sab_upd (l : Nat → Int) (i : Nat) (y : Int) : ∀ k, sab (upd l i y) k = sab l k + (if i < k then (y.natAbs : Int) - ((l i).natAbs : Int) else 0)
  | 0 => by rw [if_neg (by omega)]; rfl
  | k + 1 => by
    show sab (upd l i y) k + _ = sab l k + _ + _
    rw [sab_upd l i y k]
    unfold upd
    by_cases e : k = i
    · subst e
      rw [if_neg (Nat.lt_irrefl k), if_pos rfl, if_pos (Nat.lt_succ_self k)]
      omega
    · rw [if_neg e]
      by_cases g : i < k
      · rw [if_pos g, if_pos (by omega)]; omega
      · rw [if_neg g, if_neg (by omega)]; omega
theorem sab_le (s : Nat → Int) : ∀ k, (∀ i, i < k → -30000 ≤ s i ∧ s i ≤ 30000) → sab s k ≤ 30000 * (k : Int)
  | 0, _ => by show (0 : Int) ≤ _; omega
  | k + 1, h => by
    have := sab_le s k (fun i hi => h i (by omega))
    have h1 := h k (by omega)
    show sab s k + _ ≤ _
    omega

/-- the flow that leaves an end -/
def sgv (q : Pip) (z y : Int) : Int := if q.f = z then y else -y
/-- flows and what is left at the nodes, when some nodes are done -/
structure St (n : Nat) (P : Nat → Pip) (m : Nat) (E : Int → Int) (s : Nat → Int) (Dn : Nat → Prop) (x l : Nat → Int) : Prop where
  bal : ∀ z, z < n → dv P x m ((z : Nat) : Int) + l z = s z
  sup : ∀ a, a < m → x a ≠ 0 → ∃ z, z < n ∧ Dn z ∧ E ((z : Nat) : Int) = ((a : Nat) : Int)
  don : ∀ z, z < n → Dn z → l z = 0
  sum : sab l n ≤ sab s n
theorem St.same {n : Nat} {P : Nat → Pip} {m : Nat} {E : Int → Int} {s x l : Nat → Int} {Dn De : Nat → Prop} (h : St n P m E s Dn x l) (e : ∀ z, Dn z ↔ De z) : St n P m E s De x l :=
  ⟨h.bal, fun a ha hx => by obtain ⟨z, z0, z1, z2⟩ := h.sup a ha hx; exact ⟨z, z0, (e z).1 z1, z2⟩, fun z hz d => h.don z hz ((e z).2 d), h.sum⟩
theorem St.start {n : Nat} {P : Nat → Pip} {m : Nat} {E : Int → Int} {s : Nat → Int} {Dn : Nat → Prop} (h : ∀ z, ¬ Dn z) : St n P m E s Dn (fun _ => 0) s :=
  ⟨fun z _ => by rw [dv_zero]; omega, fun _ _ g => absurd rfl g, fun z _ d => absurd d (h z), Int.le_refl _⟩
theorem St.bd {n : Nat} {P : Nat → Pip} {m : Nat} {E : Int → Int} {s x l : Nat → Int} {Dn : Nat → Prop} (h : St n P m E s Dn x l) (hs : ∀ i, i < n → -30000 ≤ s i ∧ s i ≤ 30000) (hn : n ≤ 24) {z : Nat} (hz : z < n) : -720000 ≤ l z ∧ l z ≤ 720000 := by
  have h1 := sab_le s n hs
  have h2 := sab_ge l n hz
  have h3 := h.sum
  omega
theorem St.step {n : Nat} {P : Nat → Pip} {m : Nat} {E D : Int → Int} {s x l : Nat → Int} {Dn : Nat → Prop} (fo : Fo n P m E D) (h : St n P m E s Dn x l) {v a u : Nat} (hv : v < n) (ha : a < m) (he : E ((v : Nat) : Int) = ((a : Nat) : Int)) (hu : othV (P a) ((v : Nat) : Int) = ((u : Nat) : Int)) (hun : u < n) (nv : ¬ Dn v) (nu : ¬ Dn u) :
    St n P m E s (fun z => Dn z ∨ z = v) (upd x a (sgv (P a) ((v : Nat) : Int) (l v))) (upd (upd l u (l u + l v)) v 0) := by
  have x0 : x a = 0 := by
    by_cases g : x a = 0
    · exact g
    · obtain ⟨z, z0, z1, z2⟩ := h.sup a ha g
      have := fo.uniq (y := ((z : Nat) : Int)) (z := ((v : Nat) : Int)) ⟨by omega, by omega⟩ ⟨by omega, by omega⟩ z2 he
      have e : z = v := by omega
      subst e
      exact absurd z1 nv
  have hend : endB (P a) ((v : Nat) : Int) = true := by
    rcases fo.par ((v : Nat) : Int) (by omega) (by omega) with e | ⟨b, hb, e, g, _⟩
    · omega
    · obtain rfl : b = a := by omega
      exact g
  obtain ⟨_, _, hft⟩ := pip_end (fo.pip a ha)
  have huv : u ≠ v := by
    intro e
    have := (oth_oth (fo.pip a ha) hend).2.2
    rw [hu, e] at this
    exact this rfl
  unfold endB at hend
  simp only [Bool.or_eq_true, beq_iff_eq] at hend
  refine ⟨fun z hz => ?_, fun b hb hx => ?_, fun z hz d => ?_, ?_⟩
  · have e : upd x a (sgv (P a) ((v : Nat) : Int) (l v)) = fun b => x b + (fun c => sgv (P a) ((v : Nat) : Int) (l v) * one1 a c) b := by
      funext b
      unfold upd one1
      by_cases g : b = a
      · subst g
        rw [if_pos rfl]
        show _ = x b + _ * (if b = b then 1 else 0)
        rw [if_pos rfl, x0]
        omega
      · rw [if_neg g]
        show _ = x b + _ * (if b = a then 1 else 0)
        rw [if_neg g]
        omega
    rw [e, dv_add, dv_mul, dv_one ha]
    have hb := h.bal z hz
    have e2 : sgv (P a) ((v : Nat) : Int) (l v) * ((if (P a).f = ((z : Nat) : Int) then 1 else 0) - (if (P a).t = ((z : Nat) : Int) then 1 else 0)) = (if z = v then l v else 0) - (if z = u then l v else 0) := by
      unfold sgv
      unfold othV at hu
      by_cases hf : (P a).f = ((v : Nat) : Int)
      · rw [if_pos hf] at hu ⊢
        rw [hu, hf]
        by_cases g : z = v
        · subst g
          rw [if_pos rfl, if_neg (by omega), if_pos rfl, if_neg (by omega)]
          omega
        · rw [if_neg (show ¬ ((v : Nat) : Int) = ((z : Nat) : Int) by omega), if_neg g]
          by_cases g2 : z = u
          · subst g2
            rw [if_pos rfl, if_pos rfl]
            omega
          · rw [if_neg (show ¬ ((u : Nat) : Int) = ((z : Nat) : Int) by omega), if_neg g2]
            omega
      · have ht : (P a).t = ((v : Nat) : Int) := hend.resolve_left hf
        rw [if_neg hf] at hu ⊢
        rw [ht, hu]
        by_cases g : z = v
        · subst g
          rw [if_pos rfl, if_neg (by omega), if_pos rfl, if_neg (by omega)]
          omega
        · rw [if_neg (show ¬ ((v : Nat) : Int) = ((z : Nat) : Int) by omega), if_neg g]
          by_cases g2 : z = u
          · subst g2
            rw [if_pos rfl, if_pos rfl]
            omega
          · rw [if_neg (show ¬ ((u : Nat) : Int) = ((z : Nat) : Int) by omega), if_neg g2]
            omega
    rw [e2]
    unfold upd
    by_cases g : z = v
    · subst g
      rw [if_pos rfl, if_neg (fun q => huv q.symm), if_pos rfl]
      omega
    · rw [if_neg g, if_neg g]
      by_cases g2 : z = u
      · subst g2
        rw [if_pos rfl, if_pos rfl]
        omega
      · rw [if_neg g2, if_neg g2]
        omega
  · by_cases g : b = a
    · subst g
      exact ⟨v, hv, .inr rfl, he⟩
    · unfold upd at hx
      rw [if_neg g] at hx
      obtain ⟨z, z0, z1, z2⟩ := h.sup b hb hx
      exact ⟨z, z0, .inl z1, z2⟩
  · unfold upd
    by_cases g : z = v
    · rw [if_pos g]
    · rw [if_neg g]
      rcases d with d | d
      · rw [if_neg (show ¬ z = u from fun q => nu (q ▸ d))]
        exact h.don z hz d
      · exact absurd d g
  · rw [sab_upd, if_pos hv, sab_upd, if_pos hun]
    have e : upd l u (l u + l v) v = l v := by unfold upd; rw [if_neg (fun q => huv q.symm)]
    rw [e]
    have := h.sum
    omega
/-- when all but the first nodes are done, the flow is the one in the forest -/
theorem St.fin {n : Nat} {N : Nat → Nod} {P : Nat → Pip} {m : Nat} {s x l : Nat → Int} {Dn : Nat → Prop} (hN : netB n N m P = true) (he : evB n P m s = true) (h : St n P m (fE n P m) s Dn x l) (hd : ∀ z, z < n → fE n P m ((z : Nat) : Int) ≠ -1 → Dn z) : ∀ a, a < m → x a = fflN n P m s a := by
  have hl : ∀ z, z < n → l z = 0 := by
    intro z hz
    by_cases e : fE n P m ((z : Nat) : Int) = -1
    · have r0 := fo_r0 hN ((z : Nat) : Int) ⟨by omega, by omega⟩ e
      have h1 : csm (cmpN n P m) (fun i => s i - dv P x m ((i : Nat) : Int)) n ((z : Nat) : Int) = csm (cmpN n P m) l n ((z : Nat) : Int) := csm_congr (fun i hi => by have := h.bal i hi; omega)
      rw [csm_sub, evB_iff.1 he z hz, csm_dv m (fun a ha => by
        obtain ⟨p1, p2, _⟩ := pip_end (net_pip hN ha)
        refine ⟨p1, p2, ?_⟩
        unfold cmpN
        rw [Int.toNat_of_nonneg p1.1, Int.toNat_of_nonneg p2.1]
        exact fo_r1 hN a ha), csm_only (r := z) n (fun i hi hr hne => by
        by_cases e2 : fE n P m ((i : Nat) : Int) = -1
        · have := fo_r0 hN ((i : Nat) : Int) ⟨by omega, by omega⟩ e2
          unfold cmpN at hr
          omega
        · exact h.don i hi (hd i hi e2)), if_pos ⟨hz, r0⟩] at h1
      omega
    · exact h.don z hz (hd z hz e)
  exact fflN_uniq hN he (fun a ha hx => by
    obtain ⟨z, z0, _, z2⟩ := h.sup a ha hx
    exact ⟨((z : Nat) : Int), by omega, by omega, z2⟩) (fun y hy => by have := h.bal y hy; have := hl y hy; omega)

/-- done: the nodes but the first one of the components of the first k nodes -/
def DnR (n : Nat) (P : Nat → Pip) (m k z : Nat) : Prop := ∃ r, r < k ∧ rts n P m r = true ∧ vhas (vis n P m ((r : Nat) : Int)) ((z : Nat) : Int) = true ∧ z ≠ r
/-- and of those visited from k the ones from place j on -/
def DnI (n : Nat) (P : Nat → Pip) (m k j z : Nat) : Prop := DnR n P m k z ∨ ∃ i v, j ≤ i ∧ 0 < i ∧ (vis n P m ((k : Nat) : Int))[i]? = some v ∧ v.nd = ((z : Nat) : Int)
theorem DnR_zero (n : Nat) (P : Nat → Pip) (m z : Nat) : ¬ DnR n P m 0 z := fun ⟨r, h, _⟩ => by omega
theorem DnR_skip {n : Nat} {P : Nat → Pip} {m k : Nat} (h : rts n P m k = false) (z : Nat) : DnR n P m k z ↔ DnR n P m (k + 1) z := by
  constructor
  · rintro ⟨r, h1, h2⟩
    exact ⟨r, by omega, h2⟩
  · rintro ⟨r, h1, h2, h3⟩
    have : r ≠ k := fun e => by rw [e, h] at h2; cases h2
    exact ⟨r, by omega, h2, h3⟩
theorem DnI_top {n : Nat} {P : Nat → Pip} {m k j : Nat} (h : (vis n P m ((k : Nat) : Int)).length ≤ j) (z : Nat) : DnR n P m k z ↔ DnI n P m k j z := by
  constructor
  · exact .inl
  · rintro (g | ⟨i, v, h1, _, h2, _⟩)
    · exact g
    · have := get_lt h2
      omega
theorem DnI_step {n : Nat} {P : Nat → Pip} {m k j V : Nat} {v : Vs} (h : (vis n P m ((k : Nat) : Int))[j]? = some v) (h0 : 0 < j) (hv : v.nd = ((V : Nat) : Int)) (z : Nat) : (DnI n P m k (j + 1) z ∨ z = V) ↔ DnI n P m k j z := by
  constructor
  · rintro ((g | ⟨i, u, h1, h2, h3, h4⟩) | rfl)
    · exact .inl g
    · exact .inr ⟨i, u, by omega, h2, h3, h4⟩
    · exact .inr ⟨j, v, Nat.le_refl _, h0, h, hv⟩
  · rintro (g | ⟨i, u, h1, h2, h3, h4⟩)
    · exact .inl (.inl g)
    · by_cases e : i = j
      · subst e
        rw [h] at h3
        injection h3 with h3
        subst h3
        exact .inr (by omega)
      · exact .inl (.inr ⟨i, u, by omega, h2, h3, h4⟩)
theorem DnI_end {n : Nat} {N : Nat → Nod} {P : Nat → Pip} {m k : Nat} (hN : netB n N m P = true) (hk : k < n) (h : rts n P m k = true) (z : Nat) : DnI n P m k 1 z ↔ DnR n P m (k + 1) z := by
  have ok := vis_ok (P := P) (m := m) (x := ((k : Nat) : Int)) hN (by omega)
  constructor
  · rintro (⟨r, h1, h2⟩ | ⟨i, v, h1, h2, h3, h4⟩)
    · exact ⟨r, by omega, h2⟩
    · refine ⟨k, by omega, h, by rw [← h4]; exact get_vhas h3, fun e => ?_⟩
      have := ok.inj h3 ok.fst (by rw [h4, e])
      omega
  · rintro ⟨r, h1, h2, h3, h4⟩
    by_cases e : r = k
    · subst e
      obtain ⟨i, v, g1, g2⟩ := vhas_get h3
      refine .inr ⟨i, v, ?_, ?_, g1, g2⟩ <;>
      · rcases Nat.eq_zero_or_pos i with rfl | q
        · rw [ok.fst] at g1
          injection g1 with g1
          subst g1
          exact absurd (show z = r by have : ((r : Nat) : Int) = ((z : Nat) : Int) := g2; omega) h4
        · exact q
    · exact .inl ⟨r, by omega, h2, h3, h4⟩
theorem DnI_not {n : Nat} {N : Nat → Nod} {P : Nat → Pip} {m k i j V : Nat} {v : Vs} (hN : netB n N m P = true) (hk : k < n) (h : rts n P m k = true) (hv : (vis n P m ((k : Nat) : Int))[i]? = some v) (hV : v.nd = ((V : Nat) : Int)) (hi : i < j) : ¬ DnI n P m k j V := by
  have ok := vis_ok (P := P) (m := m) (x := ((k : Nat) : Int)) hN (by omega)
  rintro (⟨r, h1, h2, h3, h4⟩ | ⟨i', u, h1, h2, h3, h4⟩)
  · have e1 := cmp_root hN (by omega) h2 h3
    have e2 := cmp_root hN hk h (get_vhas hv)
    rw [hV] at e2
    omega
  · have := ok.inj h3 hv (by rw [h4, hV])
    omega
theorem DnR_all {n : Nat} {N : Nat → Nod} {P : Nat → Pip} {m : Nat} (hN : netB n N m P = true) (z : Nat) (hz : z < n) (h : fE n P m ((z : Nat) : Int) ≠ -1) : DnR n P m n z := by
  obtain ⟨r, h1, h2, h3, h4⟩ := node_root (P := P) (m := m) hN (z := ((z : Nat) : Int)) ⟨by omega, by omega⟩
  refine ⟨r, h1, h2, h3, fun e => ?_⟩
  subst e
  have ok := vis_ok (P := P) (m := m) (x := ((z : Nat) : Int)) hN (by omega)
  apply h
  rw [(fE_at h4).1]
  exact ok.val (·.en) ok.fst
/-- the entry of a visited node, and where it was come from -/
theorem vis_en {n : Nat} {N : Nat → Nod} {P : Nat → Pip} {m k j : Nat} {v : Vs} (hN : netB n N m P = true) (hk : k < n) (h : rts n P m k = true) (hv : (vis n P m ((k : Nat) : Int))[j]? = some v) (h0 : 0 < j) :
    ∃ V a U i u : _, v.nd = ((V : Nat) : Int) ∧ V < n ∧ a < m ∧ v.en = ((a : Nat) : Int) ∧ fE n P m ((V : Nat) : Int) = ((a : Nat) : Int) ∧ othV (P a) ((V : Nat) : Int) = ((U : Nat) : Int) ∧ U < n ∧ i < j ∧ (vis n P m ((k : Nat) : Int))[i]? = some u ∧ u.nd = ((U : Nat) : Int) ∧ vval (·.en) (vis n P m ((k : Nat) : Int)) ((V : Nat) : Int) = ((a : Nat) : Int) := by
  have ok := vis_ok (P := P) (m := m) (x := ((k : Nat) : Int)) hN (by omega)
  obtain ⟨i, u, a, h1, h2, h3, h4, h5, h6, h7⟩ := ok.par j v h0 hv
  obtain ⟨v1, v2⟩ := ok.rng v (List.mem_of_getElem? hv)
  obtain ⟨u1, u2⟩ := ok.rng u (List.mem_of_getElem? h2)
  obtain ⟨V, hV⟩ := Int.eq_ofNat_of_zero_le v1
  obtain ⟨U, hU⟩ := Int.eq_ofNat_of_zero_le u1
  have hval := ok.val (·.en) hv
  refine ⟨V, a, U, i, u, hV, by omega, h3, h4, ?_, ?_, by omega, h1, h2, hU, ?_⟩
  · have e := cmp_root hN hk h (get_vhas hv)
    rw [hV] at e
    rw [(fE_at e).1, ← hV]
    exact hval.trans h4
  · rw [← hV, h6, (oth_oth (net_pip hN h3) h5).1, hU]
  · rw [← hV]
    exact hval.trans h4
end Go.Proofs.Ytdbgcbkmcbgdiaa.mem

namespace Go.Proofs.Ytdbgcbkmcbgdiaa.mem
open Go.RowKit
set_option linter.unusedVariables false

def brrL (x : Nat → Int) : List Value := (List.range 24).map (ia x)
def brr (x : Nat → Int) : Array Value := List.toArray (brrL x)
theorem brr_size (x : Nat → Int) : (brr x).size = 24 := by unfold brr brrL; simp
theorem brr_get (x : Nat → Int) (k : Nat) (hk : k < 24) : (brr x)[k]? = some (ia x k) := by unfold brr brrL; simp [hk]
theorem brr_eq {cur : Array Value} {x : Nat → Int} (h1 : cur.size = 24) (h2 : ∀ k, k < 24 → cur[k]? = some (ia x k)) : cur = brr x := by
  apply Array.ext_getElem?
  intro k
  by_cases h : k < 24
  · rw [h2 k h, brr_get x k h]
  · rw [Array.getElem?_eq_none (by omega), Array.getElem?_eq_none (by rw [brr_size]; omega)]
theorem brr_congr {x y : Nat → Int} (h : ∀ k, k < 24 → x k = y k) : brr x = brr y := by
  refine brr_eq (brr_size x) fun k hk => ?_
  rw [brr_get x k hk]
  unfold ia
  rw [h k hk]
theorem brr_one (x : Nat → Int) : (brr x).all (·.oneCell') = true := by
  rw [Array.all_eq_true_iff_forall_mem]
  intro v hv
  unfold brr brrL at hv
  simp only [List.mem_toArray, List.mem_map] at hv
  obtain ⟨i, _, rfl⟩ := hv
  rfl
theorem zeros24 (k : Nat) (hk : k < 24) : (#[Value.int IntKind.i64 0, Value.int IntKind.i64 0, Value.int IntKind.i64 0, Value.int IntKind.i64 0, Value.int IntKind.i64 0, Value.int IntKind.i64 0, Value.int IntKind.i64 0, Value.int IntKind.i64 0, Value.int IntKind.i64 0, Value.int IntKind.i64 0, Value.int IntKind.i64 0, Value.int IntKind.i64 0, Value.int IntKind.i64 0, Value.int IntKind.i64 0, Value.int IntKind.i64 0, Value.int IntKind.i64 0, Value.int IntKind.i64 0, Value.int IntKind.i64 0, Value.int IntKind.i64 0, Value.int IntKind.i64 0, Value.int IntKind.i64 0, Value.int IntKind.i64 0, Value.int IntKind.i64 0, Value.int IntKind.i64 0] : Array Value)[k]? = some (ia (fun _ => 0) k) := by
  rcases (by omega : k = 0 ∨ k = 1 ∨ k = 2 ∨ k = 3 ∨ k = 4 ∨ k = 5 ∨ k = 6 ∨ k = 7 ∨ k = 8 ∨ k = 9 ∨ k = 10 ∨ k = 11 ∨ k = 12 ∨ k = 13 ∨ k = 14 ∨ k = 15 ∨ k = 16 ∨ k = 17 ∨ k = 18 ∨ k = 19 ∨ k = 20 ∨ k = 21 ∨ k = 22 ∨ k = 23) with rfl | rfl | rfl | rfl | rfl | rfl | rfl | rfl | rfl | rfl | rfl | rfl | rfl | rfl | rfl | rfl | rfl | rfl | rfl | rfl | rfl | rfl | rfl | rfl <;> rfl
/-- the whole array out of an own block -/
theorem Ob.row4 {w : World} {b : Nat} {x : Nat → Int} (h : Ob w b 24 (ia x)) : ∃ t, w.heap[b]? = some (.cells (brr x) t (0, 0)) := by
  obtain ⟨cur, t, h1, h2, h3⟩ := h.ex
  rw [brr_eq h2 h3] at h1
  exact ⟨t, h1⟩
theorem Ob.newA4 (w : World) (x : Nat → Int) (t : TypeId) : Ob (w.alloc (.cells (brr x) t)) w.heap.size 24 (ia x) := Ob.new w _ t 24 _ (brr_size x) (fun k hk => brr_get x k hk)
theorem Ob.new04 (w : World) (t : TypeId) : Ob (w.alloc (.cells #[Value.int IntKind.i64 0, Value.int IntKind.i64 0, Value.int IntKind.i64 0, Value.int IntKind.i64 0, Value.int IntKind.i64 0, Value.int IntKind.i64 0, Value.int IntKind.i64 0, Value.int IntKind.i64 0, Value.int IntKind.i64 0, Value.int IntKind.i64 0, Value.int IntKind.i64 0, Value.int IntKind.i64 0, Value.int IntKind.i64 0, Value.int IntKind.i64 0, Value.int IntKind.i64 0, Value.int IntKind.i64 0, Value.int IntKind.i64 0, Value.int IntKind.i64 0, Value.int IntKind.i64 0, Value.int IntKind.i64 0, Value.int IntKind.i64 0, Value.int IntKind.i64 0, Value.int IntKind.i64 0, Value.int IntKind.i64 0] t)) w.heap.size 24 (ia (fun _ => 0)) := Ob.new w _ t 24 _ rfl (fun k hk => zeros24 k hk)
theorem Ob.setI4 {w : World} {b : Nat} {x : Nat → Int} (h : Ob w b 24 (ia x)) (i : Nat) (v : Int) (hi : i < 24) : Ob (w.setCell ⟨b, i, none⟩ (.int .i64 v)) b 24 (ia (upd x i v)) := by
  refine (h.set i (.int .i64 v) hi).congr fun k _ => ?_
  unfold updV ia upd
  split <;> rfl
theorem Ob.setRow4 {w : World} {b : Nat} {d : Nat → Value} (h : Ob w b 24 d) (x : Nat → Int) : Ob (w.setRow b (brr x)) b 24 (ia x) := by
  obtain ⟨cur, t, h1, h2, h3⟩ := h.ex
  refine ⟨brr x, t, ?_, brr_size x, fun k hk => brr_get x k hk⟩
  simp [World.setRow, Array.getElem?_modify, h1]
theorem pad_splice4 {n : Nat} {d : Nat → Int} (hn : n ≤ 24) : (splice (brr (fun _ => 0)).toList 0 (intL n d)).toArray = brr (pad n d) := by
  have hs : (brr (fun _ => 0)).toList.length = 24 := by rw [Array.length_toList, brr_size]
  refine brr_eq ?_ fun k hk => ?_
  · rw [List.size_toArray, length_splice _ _ _ (by rw [hs, intL_len]; omega), hs]
  · rw [List.getElem?_toArray]
    unfold splice
    rw [List.take_zero, List.nil_append, Nat.zero_add]
    by_cases h : k < n
    · rw [List.getElem?_append_left (by rw [intL_len]; exact h), intL_get d h]
      unfold ia pad
      rw [if_pos h]
    · rw [List.getElem?_append_right (by rw [intL_len]; omega), intL_len, List.getElem?_drop, show n + (k - n) = k by omega, Array.getElem?_toList, brr_get _ _ hk]
      unfold ia pad
      rw [if_neg h]
theorem only_drw {g : Nat} {w w' : World} (h : Only g w w') : Only g w w'.drew := ⟨h.os, h.tape, h.output, h.size, h.block⟩
/-- what has become of the array of sums -/
def AddPost (w : World) (b : Nat) (x : Nat → Int) (i : Nat) (y : Int) (e : Ending) (w' : World) : Prop := e = .returned (.tuple #[]) ∧ Ob w' b 24 (ia (upd x i (x i + y))) ∧ Only b w w'
end Go.Proofs.Ytdbgcbkmcbgdiaa.mem

namespace Go.Proofs.Ytdbgcbkmcbgdiaa.mem
open Go.RowKit
set_option linter.unusedVariables false

theorem dv_bd2 {P : Nat → Pip} {x : Nat → Int} {z : Int} : ∀ {k : Nat}, (∀ i, i < k → -30000 ≤ x i ∧ x i ≤ 30000) → -60000 * (k : Int) ≤ dv P x k z ∧ dv P x k z ≤ 60000 * (k : Int)
  | 0, _ => by show _ ≤ (0 : Int) ∧ (0 : Int) ≤ _; omega
  | k + 1, h => by
    have ih := dv_bd2 (P := P) (x := x) (z := z) (k := k) (fun i hi => h i (by omega))
    have h1 := h k (by omega)
    unfold dv
    split <;> split <;> omega
theorem upd_two {P : Nat → Pip} {d : Nat → Int} {k f t : Nat} (hf : (P k).f = ((f : Nat) : Int)) (ht : (P k).t = ((t : Nat) : Int)) (hne : f ≠ t) (z : Nat) :
    upd (upd (fun j => dv P d k ((j : Nat) : Int)) f (dv P d k ((f : Nat) : Int) + d k)) t (upd (fun j => dv P d k ((j : Nat) : Int)) f (dv P d k ((f : Nat) : Int) + d k) t + -d k) z = dv P d (k + 1) ((z : Nat) : Int) := by
  simp only [upd]
  rw [dv, hf, ht]
  by_cases e : z = t
  · subst e
    rw [if_pos rfl, if_neg (fun q => hne q.symm), if_neg (show ¬ ((f : Nat) : Int) = ((z : Nat) : Int) by omega), if_pos rfl]
    omega
  · rw [if_neg e, if_neg (show ¬ ((t : Nat) : Int) = ((z : Nat) : Int) by omega)]
    by_cases e2 : z = f
    · subst e2
      rw [if_pos rfl, if_pos rfl]
      omega
    · rw [if_neg e2, if_neg (show ¬ ((f : Nat) : Int) = ((z : Nat) : Int) by omega)]
      omega
/-- the code of a network and supplies -/
noncomputable def svC (n : Nat) (N : Nat → Nod) (m : Nat) (P : Nat → Pip) (K : Nat) (d : Nat → Int) : Int := if netB n N m P = true then (if K = n ∧ flB d K = true then 0 else 3) else 1
theorem svC_ok {n : Nat} {N : Nat → Nod} {m : Nat} {P : Nat → Pip} {K : Nat} {d : Nat → Int} (h : svC n N m P K d = 0) : netB n N m P = true ∧ K = n ∧ flB d K = true := by
  unfold svC at h
  split at h
  · next hB =>
    split at h
    · next hk => exact ⟨hB, hk⟩
    · omega
  · omega
end Go.Proofs.Ytdbgcbkmcbgdiaa.mem

namespace Go.Proofs.Ytdbgcbkmcbgdiaa.mem
open Go.RowKit
set_option linter.unusedVariables false

theorem dv_off {n : Nat} {N : Nat → Nod} {m : Nat} {P : Nat → Pip} (hB : netB n N m P = true) (d : Nat → Int) {z : Nat} (hz : n ≤ z) : ∀ k, k ≤ m → dv P d k ((z : Nat) : Int) = 0
  | 0, _ => rfl
  | k + 1, hk => by
    obtain ⟨h1, h2, _⟩ := pip_end (net_pip hB (show k < m by omega))
    unfold dv
    rw [dv_off hB d hz k (by omega), if_neg (by omega), if_neg (by omega)]
    rfl
noncomputable def suC (n : Nat) (N : Nat → Nod) (m : Nat) (P : Nat → Pip) (K : Nat) (d : Nat → Int) : Int := if flC n N m P K d = 0 then (if flB (fun z => dv P d m ((z : Nat) : Int)) n = true then 0 else 2) else flC n N m P K d
noncomputable def suN (n : Nat) (N : Nat → Nod) (m : Nat) (P : Nat → Pip) (K : Nat) (d : Nat → Int) : Nat := if suC n N m P K d = 0 then n else 0
def suD (m : Nat) (P : Nat → Pip) (d : Nat → Int) (z : Nat) : Int := dv P d m ((z : Nat) : Int)
/-- does a flow list balance these supplies? -/
noncomputable def ibB (n : Nat) (N : Nat → Nod) (m : Nat) (P : Nat → Pip) (K : Nat) (d : Nat → Int) (L : Nat) (s : Nat → Int) : Bool := decide (flC n N m P K d = 0) && (decide (svC n N m P L s = 0) && (List.range n).all (fun z => dv P d m ((z : Nat) : Int) == s z))
theorem eqL_bal {n : Nat} {N : Nat → Nod} {m : Nat} {P : Nat → Pip} (hB : netB n N m P = true) (d s : Nat → Int) : eqL (fun z => dv P d m ((z : Nat) : Int)) (pad n s) (List.range' 0 24 1) = (List.range n).all (fun z => dv P d m ((z : Nat) : Int) == s z) := by
  have hn24 := (net_sz hB).2.1
  rw [Bool.eq_iff_iff, eqL_iff, List.all_eq_true]
  constructor
  · intro h z hz
    have hz := List.mem_range.1 hz
    have := h z (by simp; omega)
    unfold pad at this
    rw [if_pos hz] at this
    simpa using this
  · intro h z _
    unfold pad
    by_cases g : z < n
    · rw [if_pos g]
      simpa using h z (List.mem_range.2 g)
    · rw [if_neg g]
      exact dv_off hB d (by omega) m (Nat.le_refl m)
theorem brr_zero : (brr (fun _ => 0)) = #[Value.int IntKind.i64 0, Value.int IntKind.i64 0, Value.int IntKind.i64 0, Value.int IntKind.i64 0, Value.int IntKind.i64 0, Value.int IntKind.i64 0, Value.int IntKind.i64 0, Value.int IntKind.i64 0, Value.int IntKind.i64 0, Value.int IntKind.i64 0, Value.int IntKind.i64 0, Value.int IntKind.i64 0, Value.int IntKind.i64 0, Value.int IntKind.i64 0, Value.int IntKind.i64 0, Value.int IntKind.i64 0, Value.int IntKind.i64 0, Value.int IntKind.i64 0, Value.int IntKind.i64 0, Value.int IntKind.i64 0, Value.int IntKind.i64 0, Value.int IntKind.i64 0, Value.int IntKind.i64 0, Value.int IntKind.i64 0] := (brr_eq (by rfl) (fun k hk => zeros24 k hk)).symm
theorem csm_bd {R s : Nat → Int} {z : Int} : ∀ {k : Nat}, (∀ i, i < k → -30000 ≤ s i ∧ s i ≤ 30000) → -30000 * (k : Int) ≤ csm R s k z ∧ csm R s k z ≤ 30000 * (k : Int)
  | 0, _ => by show _ ≤ (0 : Int) ∧ (0 : Int) ≤ _; omega
  | k + 1, h => by
    have ih := csm_bd (R := R) (s := s) (z := z) (k := k) (fun i hi => h i (by omega))
    have h1 := h k (by omega)
    unfold csm
    split <;> omega
theorem cmp_nat {n : Nat} {N : Nat → Nod} {m : Nat} {P : Nat → Pip} (hB : netB n N m P = true) {k : Nat} (hk : k < n) : ∃ r : Nat, r < n ∧ cmp n P m n ((k : Nat) : Int) = ((r : Nat) : Int) := by
  obtain ⟨r, h1, _, _, h4⟩ := node_root (P := P) (m := m) hB (z := ((k : Nat) : Int)) ⟨by omega, by omega⟩
  exact ⟨r, h1, h4⟩
theorem csm_off {n : Nat} {N : Nat → Nod} {m : Nat} {P : Nat → Pip} (hB : netB n N m P = true) (s : Nat → Int) {z : Nat} (hz : n ≤ z) : ∀ k, k ≤ n → csm (cmpN n P m) s k ((z : Nat) : Int) = 0
  | 0, _ => rfl
  | k + 1, hk => by
    obtain ⟨r, h1, h2⟩ := cmp_nat (P := P) (m := m) hB (k := k) (by omega)
    unfold csm
    rw [csm_off hB s hz k (by omega)]
    unfold cmpN
    rw [h2, if_neg (by omega)]
    rfl
theorem eqL_even {n : Nat} {N : Nat → Nod} {m : Nat} {P : Nat → Pip} (hB : netB n N m P = true) (s : Nat → Int) : eqL (fun z => csm (cmpN n P m) s n ((z : Nat) : Int)) (fun _ => 0) (List.range' 0 24 1) = evB n P m s := by
  have hn24 := (net_sz hB).2.1
  rw [Bool.eq_iff_iff, eqL_iff, evB_iff]
  constructor
  · intro h z hz
    exact h z (by simp; omega)
  · intro h z _
    by_cases g : z < n
    · exact h z g
    · exact csm_off hB s (by omega) n (Nat.le_refl n)
noncomputable def ieB (n : Nat) (N : Nat → Nod) (m : Nat) (P : Nat → Pip) (K : Nat) (d : Nat → Int) : Bool := decide (svC n N m P K d = 0) && evB n P m d
end Go.Proofs.Ytdbgcbkmcbgdiaa.mem

namespace Go.Proofs.Ytdbgcbkmcbgdiaa.mem
open Go.RowKit
set_option linter.unusedVariables false

theorem below_dN {B : Nat} {w w' : World} (h : Below B w w') (n : Nat) : Below B w (w'.drewN n) := ⟨h.os, h.tape, h.output, h.size, h.block⟩
/-- the sum of what is positive -/
def thr (s : Nat → Int) : Nat → Int
  | 0 => 0
  | k + 1 => thr s k + max (s k) 0
theorem thr_bd {s : Nat → Int} : ∀ {k : Nat}, (∀ i, i < k → -30000 ≤ s i ∧ s i ≤ 30000) → 0 ≤ thr s k ∧ thr s k ≤ 30000 * (k : Int)
  | 0, _ => by show (0 : Int) ≤ (0 : Int) ∧ (0 : Int) ≤ _; omega
  | k + 1, h => by
    have ih := thr_bd (s := s) (k := k) (fun i hi => h i (by omega))
    have h1 := h k (by omega)
    unfold thr
    rw [Int.max_def]
    split <;> omega
noncomputable def thC (n : Nat) (N : Nat → Nod) (m : Nat) (P : Nat → Pip) (K : Nat) (d : Nat → Int) : Int := if svC n N m P K d = 0 then thr d n else 0
theorem absN_any (x : Int) (w : World) (h1 : -9223372036854775807 ≤ x) (h2 : x ≤ 9223372036854775807) : Calls Try.prog 34 #[.int .i64 x] w fun e w' => e = .returned (.int .i64 (x.natAbs : Int)) ∧ w = w' := by
  by_cases h : x < 0
  all_goals
    go_enter Try.func34, Try.ntmps34
    go_wp2
    go_ret
    exact ⟨ret_i2 (by omega), rfl⟩
/-- carries a pipe more than its limit? -/
def ovP (P : Nat → Pip) (d : Nat → Int) (i : Nat) : Bool := decide ((P i).l < ((d i).natAbs : Int))
noncomputable def ovN (n : Nat) (N : Nat → Nod) (m : Nat) (P : Nat → Pip) (K : Nat) (d : Nat → Int) : Nat := if flC n N m P K d = 0 then (fl (ovP P d) m).length else 0
/-- the sum of two lists -/
noncomputable def afC (n : Nat) (N : Nat → Nod) (m : Nat) (P : Nat → Pip) (K : Nat) (d : Nat → Int) (L : Nat) (s : Nat → Int) : Int :=
  if netB n N m P = true then (if (K = m ∧ flB d K = true) ∧ (L = m ∧ flB s L = true) then (if flB (fun k => d k + s k) m = true then 0 else 2) else 3) else 1
noncomputable def afN (n : Nat) (N : Nat → Nod) (m : Nat) (P : Nat → Pip) (K : Nat) (d : Nat → Int) (L : Nat) (s : Nat → Int) : Nat := if afC n N m P K d L s = 0 then m else 0
def two2 {α : Type} (a b : α) (j : Nat) : α := if j = 0 then a else b
theorem flC_two {n : Nat} {N : Nat → Nod} {m : Nat} {P : Nat → Pip} {K L : Nat} {d s : Nat → Int} : flCL n N m P (two2 K L) (two2 d s) 2 = if netB n N m P = true then (if (K = m ∧ flB d K = true) ∧ (L = m ∧ flB s L = true) then 0 else 3) else 1 := by
  unfold flCL
  simp [flsB, two2, and_assoc]
theorem cell_new2 (w : World) (x y : Value) (t : TypeId) : ∀ j, j < 2 → (w.alloc (.cells #[x, y] t)).cell? ⟨w.heap.size, j, none⟩ = some (two2 x y j) := by
  intro j hj
  have := heap_alloc_new w (Obj.cells #[x, y] t)
  simp only [World.cell?, this]
  rcases (by omega : j = 0 ∨ j = 1) with rfl | rfl <;> rfl
end Go.Proofs.Ytdbgcbkmcbgdiaa.mem

namespace Go.Proofs.Ytdbgcbkmcbgdiaa.mem
open Go.RowKit
set_option linter.unusedVariables false

noncomputable def ffC (n : Nat) (N : Nat → Nod) (m : Nat) (P : Nat → Pip) (K : Nat) (d : Nat → Int) : Int :=
  if svC n N m P K d = 0 then (if evB n P m d = true then (if flB (fflN n P m d) m = true then 0 else 2) else 5) else svC n N m P K d
noncomputable def ffN (n : Nat) (N : Nat → Nod) (m : Nat) (P : Nat → Pip) (K : Nat) (d : Nat → Int) : Nat := if ffC n N m P K d = 0 then m else 0
end Go.Proofs.Ytdbgcbkmcbgdiaa.mem

namespace Go.Proofs.Ytdbgcbkmcbgdiaa.mem
open Go.RowKit
set_option linter.unusedVariables false

/-- what flows into a node through the first k pipes -/
def trV (P : Nat → Pip) (d : Nat → Int) (z : Int) : Nat → Int
  | 0 => 0
  | k + 1 => trV P d z k + (if endB (P k) z = true then (if (P k).f = z then max (-(d k)) 0 else max (d k) 0) else 0)
theorem max_rng {x : Int} (h : -30000 ≤ x ∧ x ≤ 30000) : 0 ≤ max x 0 ∧ max x 0 ≤ 30000 := by rw [Int.max_def]; split <;> omega
theorem trV_bd {P : Nat → Pip} {d : Nat → Int} {z : Int} : ∀ {k : Nat}, (∀ i, i < k → -30000 ≤ d i ∧ d i ≤ 30000) → 0 ≤ trV P d z k ∧ trV P d z k ≤ 30000 * (k : Int)
  | 0, _ => by show (0 : Int) ≤ (0 : Int) ∧ (0 : Int) ≤ _; omega
  | k + 1, h => by
    have ih := trV_bd (P := P) (d := d) (z := z) (k := k) (fun i hi => h i (by omega))
    have h1 := max_rng (h k (by omega))
    have h2 := max_rng (x := -(d k)) (by have := h k (by omega); omega)
    unfold trV
    split
    · split <;> omega
    · omega
noncomputable def trC (n : Nat) (N : Nat → Nod) (m : Nat) (P : Nat → Pip) (K : Nat) (d : Nat → Int) (z : Int) : Int := if flC n N m P K d = 0 then (if inR z 0 (n - 1) = true then 0 else 2) else flC n N m P K d
noncomputable def trA (n : Nat) (N : Nat → Nod) (m : Nat) (P : Nat → Pip) (K : Nat) (d : Nat → Int) (z : Int) : Int := if trC n N m P K d z = 0 then trV P d z m else 0
end Go.Proofs.Ytdbgcbkmcbgdiaa.mem
