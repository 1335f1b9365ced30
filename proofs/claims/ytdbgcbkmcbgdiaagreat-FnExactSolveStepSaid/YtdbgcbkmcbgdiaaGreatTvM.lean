/-
  Several texts in one: Pot, Lva, Lvd, Lvf, Lvm, Lvq, Lvr.
-/
import Derived.Test.YtdbgcbkmcbgdiaaGreatRows
import Derived.Test.YtdbgcbkmcbgdiaaGreatCyM
import Derived.Test.YtdbgcbkmcbgdiaaGreatBaM
import Derived.IntWalk
import Derived.Laws.EntriesVeiled
namespace Go.Proofs.YtdbgcbkmcbgdiaaGreat.mem
open Go.RowKit
set_option linter.unusedVariables false

/-- the drop of a pipe -/
def drp (q : Pip) (x : Int) : Int := q.k * (x * (x.natAbs : Int))
theorem sq_bnd {x c : Int} (h0 : -c ≤ x) (h1 : x ≤ c) : -(c * c) ≤ x * (x.natAbs : Int) ∧ x * (x.natAbs : Int) ≤ c * c := by
  have hc : 0 ≤ c := by omega
  have h2 : (x.natAbs : Int) ≤ c := by omega
  have h3 : (0 : Int) ≤ (x.natAbs : Int) := Int.natCast_nonneg _
  have h4 : (x.natAbs : Int) * (x.natAbs : Int) ≤ c * c := Int.mul_le_mul h2 h2 h3 hc
  have h5 : 0 ≤ c * c := Int.mul_nonneg hc hc
  have h6 : 0 ≤ (x.natAbs : Int) * (x.natAbs : Int) := Int.mul_nonneg h3 h3
  rcases Int.le_total 0 x with h | h
  · have e : (x.natAbs : Int) = x := by omega
    rw [e] at h4 h6 ⊢
    omega
  · have e : x * (x.natAbs : Int) = -((x.natAbs : Int) * (x.natAbs : Int)) := by
      rw [← Int.neg_mul]
      congr 1
      omega
    rw [e]
    omega
theorem drp_bnd {n : Int} {q : Pip} {x : Int} (hq : pipB n q = true) (h0 : -30000 ≤ x) (h1 : x ≤ 30000) : -900000000000 ≤ drp q x ∧ drp q x ≤ 900000000000 := by
  have hk : 1 ≤ q.k ∧ q.k ≤ 1000 := by
    unfold pipB at hq
    simp only [Bool.and_eq_true, inR_iff] at hq
    omega
  obtain ⟨s0, s1⟩ := sq_bnd h0 h1
  have e : (30000 : Int) * 30000 = 900000000 := by decide
  rw [e] at s0 s1
  unfold drp
  have a1 := Int.mul_le_mul_of_nonneg_left s1 (show 0 ≤ q.k by omega)
  have a2 := Int.mul_le_mul_of_nonneg_left s0 (show 0 ≤ q.k by omega)
  omega
theorem drp_eq (q : Pip) (x : Int) : q.k * x * (x.natAbs : Int) = drp q x := Int.mul_assoc _ _ _
theorem drp_zero (q : Pip) : drp q 0 = 0 := by unfold drp; simp
theorem drp_neg (q : Pip) (x : Int) : drp q (-x) = -drp q x := by
  unfold drp
  rw [Int.natAbs_neg, Int.neg_mul, Int.mul_neg]

def potF (P : Nat → Pip) (E : Int → Int) (dr : Nat → Int) : Nat → Int → Int
  | 0, _ => 0
  | f + 1, z => if E z = -1 then 0 else sgn (P (E z).toNat) z * dr (E z).toNat + potF P E dr f (othV (P (E z).toNat) z)
/-- by how much a node's level is greater than that of the first one above it -/
def pot (P : Nat → Pip) (E D : Int → Int) (dr : Nat → Int) (z : Int) : Int := potF P E dr (D z).toNat z
theorem Fo.pot_top {n : Nat} {P : Nat → Pip} {m : Nat} {E D : Int → Int} (h : Fo n P m E D) {dr : Nat → Int} {z : Int} (e : E z = -1) : pot P E D dr z = 0 := by
  unfold pot
  cases (D z).toNat with
  | zero => rfl
  | succ k => unfold potF; rw [if_pos e]
theorem Fo.pot_up {n : Nat} {P : Nat → Pip} {m : Nat} {E D : Int → Int} (h : Fo n P m E D) {dr : Nat → Int} {z : Int} (hz : 0 ≤ z ∧ z < n) {c : Nat} (hc : c < m) (e : E z = (c : Int)) : pot P E D dr z = sgn (P c) z * dr c + pot P E D dr (othV (P c) z) := by
  rcases h.par z hz.1 hz.2 with e3 | ⟨d, hd, e3, _, dz⟩
  · omega
  obtain rfl : d = c := by omega
  have ho := h.oth hd z
  have hb := h.bnd _ ho.1 ho.2
  unfold pot
  rw [show (D z).toNat = (D (othV (P d) z)).toNat + 1 by omega]
  rw [potF, if_neg (by omega), e, Int.toNat_natCast]
theorem Fo.pot_edge {n : Nat} {P : Nat → Pip} {m : Nat} {E D : Int → Int} (h : Fo n P m E D) {dr : Nat → Int} {a : Nat} (ha : a < m) (hf : ∃ z : Int, 0 ≤ z ∧ z < n ∧ E z = (a : Int)) : pot P E D dr (P a).f = dr a + pot P E D dr (P a).t := by
  obtain ⟨z, z0, z1, e⟩ := hf
  have hp := h.pot_up (dr := dr) ⟨z0, z1⟩ ha e
  rcases h.par z z0 z1 with e3 | ⟨b, hb, e3, bz, _⟩
  · omega
  obtain rfl : b = a := by omega
  unfold endB at bz
  simp only [Bool.or_eq_true, beq_iff_eq] at bz
  unfold sgn othV at hp
  by_cases e1 : (P b).f = z
  · rw [if_pos e1, if_pos e1, Int.one_mul] at hp
    rw [e1]
    exact hp
  · have e2 : (P b).t = z := by rcases bz with e4 | e4; exact absurd e4 e1; exact e4
    rw [if_neg e1, if_neg e1] at hp
    rw [e2]
    omega
/-- along a pipe of the forest, from either end -/
theorem Fo.pot_step {n : Nat} {P : Nat → Pip} {m : Nat} {E D : Int → Int} (h : Fo n P m E D) {dr : Nat → Int} {a : Nat} (ha : a < m) (hf : ∃ z : Int, 0 ≤ z ∧ z < n ∧ E z = (a : Int)) {z : Int} (hz : endB (P a) z = true) : pot P E D dr (othV (P a) z) = pot P E D dr z - sgn (P a) z * dr a := by
  have he := h.pot_edge (dr := dr) ha hf
  unfold endB at hz
  simp only [Bool.or_eq_true, beq_iff_eq] at hz
  unfold othV sgn
  by_cases e1 : (P a).f = z
  · rw [if_pos e1, if_pos e1]
    rw [e1] at he
    omega
  · have e2 : (P a).t = z := by rcases hz with e4 | e4; exact absurd e4 e1; exact e4
    rw [if_neg e1, if_neg e1]
    rw [e2] at he
    omega
theorem Fo.pot_bnd {n : Nat} {P : Nat → Pip} {m : Nat} {E D : Int → Int} (h : Fo n P m E D) {dr : Nat → Int} {B : Int} (hB0 : 0 ≤ B) (hB : ∀ a, a < m → -B ≤ dr a ∧ dr a ≤ B) {z : Int} (hz : 0 ≤ z ∧ z < n) : -(n * B) ≤ pot P E D dr z ∧ pot P E D dr z ≤ n * B := by
  have key := h.ind (Q := fun z => 0 ≤ z ∧ z < n → -(D z * B) ≤ pot P E D dr z ∧ pot P E D dr z ≤ D z * B) (fun z hz e _ => by
    rw [h.pot_top e]
    have := Int.mul_nonneg (h.bnd z hz.1 hz.2).1 hB0
    omega) (fun z hz c hc e b d ih _ => by
    have h1 := ih (h.oth hc z)
    rw [h.pot_up hz hc e, d, Int.add_mul, Int.one_mul]
    have h2 := hB c hc
    rcases sgn_rng (P c) z with e1 | e1 <;> rw [e1] <;> omega) z hz hz
  have hb := h.bnd z hz.1 hz.2
  have := Int.mul_le_mul_of_nonneg_right hb.2 hB0
  omega

/-- how far a search that goes along the forest without turning back can still go -/
def Fu (n : Nat) (E D : Int → Int) (z en : Int) (k : Nat) : Prop := (E z = en ∧ (n : Int) - D z < k) ∨ ((n : Int) + D z + 1 < k)
theorem Fo.fu_start {n : Nat} {P : Nat → Pip} {m : Nat} {E D : Int → Int} (h : Fo n P m E D) {z : Int} (hz : 0 ≤ z ∧ z < n) : Fu n E D z (-1) (2 * n + 2) := by
  have := h.bnd z hz.1 hz.2
  exact .inr (by omega)
theorem Fo.fu_zero {n : Nat} {P : Nat → Pip} {m : Nat} {E D : Int → Int} (h : Fo n P m E D) {z en : Int} (hz : 0 ≤ z ∧ z < n) : ¬ Fu n E D z en 0 := by
  have := h.bnd z hz.1 hz.2
  rintro (⟨_, h1⟩ | h1) <;> omega
theorem Fo.fu_step {n : Nat} {P : Nat → Pip} {m : Nat} {E D : Int → Int} (h : Fo n P m E D) {z en : Int} {k a : Nat} (hz : 0 ≤ z ∧ z < n) (ha : a < m) (hf : ∃ z : Int, 0 ≤ z ∧ z < n ∧ E z = (a : Int)) (he : endB (P a) z = true) (hne : (a : Int) ≠ en) (hk : Fu n E D z en (k + 1)) : Fu n E D (othV (P a) z) a k := by
  obtain ⟨y, y0, y1, ey⟩ := hf
  have hb := h.bnd z hz.1 hz.2
  rcases h.par y y0 y1 with e3 | ⟨b, hb', e3, by1, dy⟩
  · omega
  obtain rfl : b = a := by omega
  rcases end_two (h.pip b hb') he by1 with e4 | e4
  · subst e4
    rcases hk with ⟨e5, _⟩ | h5
    · omega
    · exact .inr (by omega)
  · have h5 := (oth_oth (h.pip b hb') he).1
    rw [← e4] at h5 ⊢
    rw [h5] at dy
    refine .inl ⟨ey, ?_⟩
    rcases hk with ⟨_, h6⟩ | h6 <;> omega

/-- levels only turn into those that are meant -/
def Grow (lv : Int → Int) (d d' : Nat → Int) : Prop := ∀ j : Nat, d' j = d j ∨ d' j = lv j
theorem Grow.refl (lv : Int → Int) (d : Nat → Int) : Grow lv d d := fun _ => .inl rfl
theorem Grow.trans {lv : Int → Int} {d d' d'' : Nat → Int} (h : Grow lv d d') (g : Grow lv d' d'') : Grow lv d d'' := fun j => by
  rcases g j with e | e
  · rw [e]; exact h j
  · exact .inr e
theorem Grow.upd {lv : Int → Int} (d : Nat → Int) (a : Nat) : Grow lv d (upd d a (lv a)) := fun j => by
  unfold mem.upd
  by_cases e : j = a
  · subst e; rw [if_pos rfl]; exact .inr rfl
  · rw [if_neg e]; exact .inl rfl
/-- what a search from a node has reached: the pipes S are the forest's, T those at the node that have been gone along -/
structure Dfs (n : Nat) (P : Nat → Pip) (S : Nat → Prop) (lv : Int → Int) (node : Int) (T : Nat → Prop) (d : Nat → Int) (V : Int → Prop) : Prop where
  own : V node
  lev : ∀ z, V z → 0 ≤ z ∧ z < n ∧ d z.toNat = lv z
  oth : ∀ z, V z → z ≠ node → ∀ a, S a → endB (P a) z = true → V (othV (P a) z)
  nod : ∀ a, T a → endB (P a) node = true → V (othV (P a) node)
theorem Dfs.start {n : Nat} {P : Nat → Pip} {S : Nat → Prop} {lv : Int → Int} {a : Nat} {T : Nat → Prop} (ha : a < n) (d : Nat → Int) (hT : ∀ b, ¬ T b) : Dfs n P S lv (a : Nat) T (upd d a (lv a)) (fun z => z = (a : Nat)) where
  own := rfl
  lev := fun z hz => by
    subst hz
    refine ⟨Int.natCast_nonneg _, by omega, ?_⟩
    rw [Int.toNat_natCast]
    unfold mem.upd
    rw [if_pos rfl]
  oth := fun z hz hne => absurd hz hne
  nod := fun b hb => absurd hb (hT b)
theorem Dfs.skip {n : Nat} {P : Nat → Pip} {S T T' : Nat → Prop} {lv : Int → Int} {node : Int} {d : Nat → Int} {V : Int → Prop} (h : Dfs n P S lv node T d V) (hT : ∀ b, T' b → endB (P b) node = true → T b) : Dfs n P S lv node T' d V :=
  ⟨h.own, h.lev, h.oth, fun a ha he => h.nod a (hT a ha he) he⟩
theorem Dfs.step {n : Nat} {P : Nat → Pip} {S T T' : Nat → Prop} {lv : Int → Int} {node : Int} {d d' : Nat → Int} {V V' : Int → Prop} {a : Nat} (h : Dfs n P S lv node T d V) (hg : Grow lv d d') (hp : pipB n (P a) = true) (he : endB (P a) node = true)
    (h' : Dfs n P S lv (othV (P a) node) (fun b => S b ∧ (b : Int) ≠ (a : Int)) d' V') (hT : ∀ b, T' b → T b ∨ b = a) : Dfs n P S lv node T' d' (fun z => V z ∨ V' z) where
  own := .inl h.own
  lev := fun z hz => by
    rcases hz with hz | hz
    · obtain ⟨h0, h1, h2⟩ := h.lev z hz
      refine ⟨h0, h1, ?_⟩
      rcases hg z.toNat with e | e
      · rw [e, h2]
      · rw [e, Int.toNat_of_nonneg h0]
    · exact h'.lev z hz
  oth := fun z hz hne b hb hbe => by
    rcases hz with hz | hz
    · exact .inl (h.oth z hz hne b hb hbe)
    · by_cases e : z = othV (P a) node
      · subst e
        by_cases e2 : b = a
        · subst e2
          rw [(oth_oth hp he).1]
          exact .inl h.own
        · exact .inr (h'.nod b ⟨hb, fun e3 => e2 (by omega)⟩ hbe)
      · exact .inr (h'.oth z hz e b hb hbe)
  nod := fun b hb hbe => by
    rcases hT b hb with h1 | h1
    · exact .inl (h.nod b h1 hbe)
    · subst h1
      exact .inr h'.own
/-- a set that is closed under the forest's pipes holds all nodes of a connected network -/
theorem Fo.all {n : Nat} {P : Nat → Pip} {m : Nat} {E D R : Int → Int} (h : Fo n P m E D) (r0 : ∀ z : Int, 0 ≤ z ∧ z < n → E z = -1 → R z = z) (r1 : ∀ z : Int, 0 ≤ z ∧ z < n → ∀ c : Nat, c < m → E z = (c : Int) → R (othV (P c) z) = R z)
    (one : ∀ y z : Int, 0 ≤ y ∧ y < n → 0 ≤ z ∧ z < n → R y = R z) {V : Int → Prop} {x : Int} (hx : 0 ≤ x ∧ x < n) (hV : V x) (cl : ∀ z, V z → ∀ a : Nat, a < m → (∃ y : Int, 0 ≤ y ∧ y < n ∧ E y = (a : Int)) → endB (P a) z = true → V (othV (P a) z)) : ∀ z : Int, 0 ≤ z ∧ z < n → V z := by
  have up := h.ind (Q := fun z => 0 ≤ z ∧ z < n → V z → V (R z)) (fun z hz e _ hv => by rw [r0 z hz e]; exact hv) (fun z hz c hc e b d ih _ hv => by
    have h1 := ih (h.oth hc z) (cl z hv c hc ⟨z, hz.1, hz.2, e⟩ b)
    rwa [r1 z hz c hc e] at h1)
  have down := h.ind (Q := fun z => 0 ≤ z ∧ z < n → V (R z) → V z) (fun z hz e _ hv => by rwa [r0 z hz e] at hv) (fun z hz c hc e b d ih _ hv => by
    have h1 := ih (h.oth hc z) (by rw [r1 z hz c hc e]; exact hv)
    have h2 := oth_oth (h.pip c hc) b
    have h3 := cl _ h1 c hc ⟨z, hz.1, hz.2, e⟩ h2.2.1
    rwa [h2.1] at h3)
  intro z hz
  refine down z hz hz ?_
  rw [one z x hz hx]
  exact up x hx hx hV
/-- a connected network: all nodes have one first node -/
theorem cmp_one {n : Nat} {N : Nat → Nod} {P : Nat → Pip} {m : Nat} (hN : netB n N m P = true) (h1 : cnt n P m = 1) : ∀ y z : Int, 0 ≤ y ∧ y < n → 0 ≤ z ∧ z < n → cmp n P m n y = cmp n P m n z := by
  intro y z hy hz
  obtain ⟨r, hr, hroot, _, e1⟩ := node_root (P := P) (m := m) hN hy
  obtain ⟨s, hs, hsroot, _, e2⟩ := node_root (P := P) (m := m) hN hz
  rw [e1, e2]
  unfold cnt at h1
  obtain ⟨q, hq⟩ := List.length_eq_one_iff.1 h1
  have a1 := fl_mem hr hroot
  have a2 := fl_mem hs hsroot
  rw [hq] at a1 a2
  simp only [List.mem_singleton] at a1 a2
  rw [a1, a2]
/-- in a connected network every search visits all nodes -/
theorem vis_all {n : Nat} {N : Nat → Nod} {P : Nat → Pip} {m : Nat} (hN : netB n N m P = true) (h1 : cnt n P m = 1) {x y : Int} (hx : 0 ≤ x ∧ x < n) (hy : 0 ≤ y ∧ y < n) : vhas (vis n P m x) y = true := by
  obtain ⟨r, hr, hroot, vx, e1⟩ := node_root (P := P) (m := m) hN hx
  obtain ⟨s, hs, hsroot, vy, e2⟩ := node_root (P := P) (m := m) hN hy
  have e := cmp_one hN h1 x y hx hy
  obtain rfl : s = r := by omega
  obtain ⟨X, rfl⟩ := Int.eq_ofNat_of_zero_le hx.1
  obtain ⟨Y, rfl⟩ := Int.eq_ofNat_of_zero_le hy.1
  have hxr := vis_sym hN hr (by omega) vx
  have hyr := vis_sym hN hr (by omega) vy
  obtain ⟨i, v, hv, hvn⟩ := vhas_get hyr
  exact vis_meet (x := ((X : Nat) : Int)) (y := ((Y : Nat) : Int)) hN (by omega) (by omega) i v hv (by rw [hvn]; exact hxr)
theorem cnt_forest {n : Nat} {N : Nat → Nod} {P : Nat → Pip} {m : Nat} (hN : netB n N m P = true) : cnt n (frP n P m) (forest n P m).length = cnt n P m := by
  unfold cnt
  congr 2
  funext i
  unfold rts
  rw [cmp_forest hN n (Nat.le_refl _)]

/-- the forest levels -/
def lvl (n : Nat) (P : Nat → Pip) (m : Nat) (x : Nat → Int) (root level : Int) (z : Int) : Int :=
  level + (pot P (fE n P m) (fD n P m) (fun a => drp (P a) (x a)) z - pot P (fE n P m) (fD n P m) (fun a => drp (P a) (x a)) root)
theorem lvl_root (n : Nat) (P : Nat → Pip) (m : Nat) (x : Nat → Int) (root level : Int) : lvl n P m x root level root = level := by unfold lvl; omega
theorem lvl_step {n : Nat} {N : Nat → Nod} {P : Nat → Pip} {m : Nat} (hN : netB n N m P = true) {x : Nat → Int} {root level : Int} {a : Nat} (ha : a < m) (hf : inF n P m (fl (rts n P m) n) a = true) {z : Int} (hz : endB (P a) z = true) : lvl n P m x root level (othV (P a) z) = lvl n P m x root level z - sgn (P a) z * drp (P a) (x a) := by
  have h1 := (fo_net (P := P) (m := m) hN).pot_step (dr := fun a => drp (P a) (x a)) ha ((inF_fE hN a).1 hf) hz
  unfold lvl
  rw [h1]
  omega
theorem lvl_edge {n : Nat} {N : Nat → Nod} {P : Nat → Pip} {m : Nat} (hN : netB n N m P = true) {x : Nat → Int} {root level : Int} {a : Nat} (ha : a < m) (hf : inF n P m (fl (rts n P m) n) a = true) : lvl n P m x root level (P a).f = drp (P a) (x a) + lvl n P m x root level (P a).t := by
  have h1 := (fo_net (P := P) (m := m) hN).pot_edge (dr := fun a => drp (P a) (x a)) ha ((inF_fE hN a).1 hf)
  unfold lvl
  rw [h1]
  omega
theorem lvl_bnd {n : Nat} {N : Nat → Nod} {P : Nat → Pip} {m : Nat} (hN : netB n N m P = true) (h24 : n ≤ 24) {x : Nat → Int} (hx : ∀ a, a < m → -30000 ≤ x a ∧ x a ≤ 30000) {root level : Int} (hr : 0 ≤ root ∧ root < n) {z : Int} (hz : 0 ≤ z ∧ z < n) : level - 50000000000000 ≤ lvl n P m x root level z ∧ lvl n P m x root level z ≤ level + 50000000000000 := by
  have h1 := fun y hy => (fo_net (P := P) (m := m) hN).pot_bnd (dr := fun a => drp (P a) (x a)) (B := 900000000000) (z := y) (by omega) (fun a ha => drp_bnd (net_pip hN ha) (hx a ha).1 (hx a ha).2) hy
  have h2 := h1 z hz
  have h3 := h1 root hr
  unfold lvl
  omega
theorem pip_k {n : Int} {q : Pip} (h : pipB n q = true) : 1 ≤ q.k ∧ q.k ≤ 1000 := by
  unfold pipB at h
  simp only [Bool.and_eq_true, inR_iff] at h
  omega
theorem below_drN1 {B : Nat} {w w' : World} (h : Below B w w') (n : Nat) : Below B w (w'.drewN n) := ⟨h.os, h.tape, h.output, h.size, h.block⟩
end Go.Proofs.YtdbgcbkmcbgdiaaGreat.mem

namespace Go.Proofs.YtdbgcbkmcbgdiaaGreat.mem
open Go.RowKit
set_option linter.unusedVariables false

set_option maxRecDepth 100000 in
set_option maxHeartbeats 4000000 in
theorem dropFor_any (q : Pip) (x : Int) (w : World) (n : Int) (hq : pipB n q = true) (h0 : -30000 ≤ x) (h1 : x ≤ 30000) : Calls Tryz.prog 115 #[.agg #[.int .i64 q.f, .int .i64 q.t, .int .i64 q.k, .int .i64 q.v, .int .i64 q.l], .int .i64 x] w fun e w' => e = .returned (.int .i64 (drp q x)) ∧ Below w.heap.size w w' := by
  have hd := drp_bnd hq h0 h1
  have hk := pip_k hq
  have a1 := Int.mul_le_mul_of_nonneg_left h1 (show 0 ≤ q.k by omega)
  have a2 := Int.mul_le_mul_of_nonneg_left h0 (show 0 ≤ q.k by omega)
  have W1 : IntKind.i64.wrap (q.k * x) = q.k * x := IntWalk.i64_in _ (by omega)
  have W2 : IntKind.i64.wrap (q.k * x * (x.natAbs : Int)) = drp q x := by rw [drp_eq]; exact IntWalk.i64_in _ (by omega)
  clear a1 a2 hd hk hq
  go_enter Tryz.func115, Tryz.ntmps115
  go_wp2_with fail
  go_quiet ((go_at_call 155; exact Calls.quiet_of_same ((absN_any _ _ (by omega) (by omega)).mono fun e w' h => ⟨h.1, h.2.symm⟩)))
  go_wp2_with fail
  go_ret
  exact ⟨rfl, below_drN1 (below_new _ _) _⟩

theorem Own.put2 {w : World} {v : Value} {n g : Nat} {d : Nat → Int} (h : Own w v n d g) (i : Nat) (x : Int) (hi : i < n) : Own (w.setCell ⟨g, i, none⟩ (.int .i64 x)) v n (upd d i x) g := by
  obtain ⟨cap, cur, h0, h1, h2, h3, h4, h5⟩ := h.ex
  refine ⟨cap, cur.setIfInBounds i (.int .i64 x), h0, ?_, h2, h3, by simpa using h4, fun k hk => ?_⟩
  · simp [World.setCell, Array.getElem?_modify, h1]
  · unfold upd
    by_cases e : k = i
    · subst e
      rw [if_pos rfl]
      simp [h4, show k < cap by omega]
    · rw [if_neg e, Array.getElem?_setIfInBounds, if_neg (by omega)]
      exact h5 k hk
theorem Own.fre2 {w : World} {v : Value} {n g : Nat} {d : Nat → Int} (h : Own w v n d g) (i : Nat) : w.frozen? ⟨g, i, none⟩ = false := by
  obtain ⟨cap, cur, h0, h1, _⟩ := h.ex
  simp [World.frozen?, h1]
theorem Own.made2 (w : World) (n : Nat) (hn : n ≤ 1000000) : Own (w.alloc (.cells (zeros n) 2)) (.slice (some ⟨w.heap.size, 0, none⟩) n n) n (fun _ => 0) w.heap.size :=
  ⟨n, zeros n, rfl, heap_alloc_new w _, Nat.le_refl _, by unfold maxLen; omega, by unfold zeros; simp [madeCells], fun k hk => zeros_get n k hk⟩
/-- what the closure that fills the levels reads -/
structure FE (n m L : Nat) (N : Nat → Nod) (P : Nat → Pip) (F : Nat → Int) (x : Nat → Int) (p0 : Option Addr) (c0 : Nat) (p1 : Option Addr) (c1 lo hi la ha g bl bf bn bfi bfl gf cf : Nat) (va : Value) (w : World) : Prop where
  net : NetAt w (.agg #[.slice p0 n c0, .slice p1 m c1]) n N m P lo hi
  sl : Sl w va m x la ha
  fo : Own w (.slice (some ⟨gf, 0, none⟩) L cf) L F gf
  ol : Ob w bl 1 (fun _ => .slice (some ⟨g, 0, none⟩) n n)
  of : Ob w bf 1 (fun _ => .slice (some ⟨gf, 0, none⟩) L cf)
  on : Ob w bn 2 (bx (.slice p0 n c0) (.slice p1 m c1))
  oi : Ob w bfi 1 (fun _ => .func (.func 111) #[] #[.pointer (some ⟨bl, 0, none⟩), .pointer (some ⟨bf, 0, none⟩), .pointer (some ⟨bn, 0, none⟩), .pointer (some ⟨bfi, 0, none⟩), .pointer (some ⟨bfl, 0, none⟩)])
  ow : Ob w bfl 1 (fun _ => va)
  h1 : hi ≤ g
  h2 : ha ≤ g
  n1 : bl ≠ g
  n2 : bf ≠ g
  n3 : bn ≠ g
  n4 : bfi ≠ g
  n5 : bfl ≠ g
  n6 : gf ≠ g
  hg : g < w.heap.size
theorem FE.upd {n m L : Nat} {N : Nat → Nod} {P : Nat → Pip} {F : Nat → Int} {x : Nat → Int} {p0 : Option Addr} {c0 : Nat} {p1 : Option Addr} {c1 lo hi la ha g bl bf bn bfi bfl gf cf : Nat} {va : Value} {w w' : World}
    (h : FE n m L N P F x p0 c0 p1 c1 lo hi la ha g bl bf bn bfi bfl gf cf va w) (u : Upd (fun b => b = g) w w') : FE n m L N P F x p0 c0 p1 c1 lo hi la ha g bl bf bn bfi bfl gf cf va w' := by
  have hb : Below g w w' := u.below (Nat.le_of_lt h.hg) (fun k _ hk => by omega)
  exact ⟨h.net.below hb h.h1, h.sl.below hb h.h2, h.fo.keep (u.block _ h.fo.lt h.n6), h.ol.keep (u.block _ h.ol.lt h.n1), h.of.keep (u.block _ h.of.lt h.n2), h.on.keep (u.block _ h.on.lt h.n3), h.oi.keep (u.block _ h.oi.lt h.n4), h.ow.keep (u.block _ h.ow.lt h.n5), h.h1, h.h2, h.n1, h.n2, h.n3, h.n4, h.n5, h.n6, Nat.lt_of_lt_of_le h.hg u.size⟩
theorem upd_drw {X : Nat → Prop} {w w' : World} (h : Upd X w w') : Upd X w w'.drew := ⟨h.os, h.tape, h.output, h.size, h.block⟩

/-- the forest's pipes -/
def inFo (n : Nat) (P : Nat → Pip) (m a : Nat) : Prop := a < m ∧ inF n P m (fl (rts n P m) n) a = true
set_option maxRecDepth 100000 in
set_option maxHeartbeats 8000000 in
theorem fill_any {n m : Nat} {N : Nat → Nod} {P : Nat → Pip} (hB : netB n N m P = true) {x : Nat → Int} (hx : ∀ a, a < m → -30000 ≤ x a ∧ x a ≤ 30000) {lv : Int → Int} (hlv : ∀ z : Int, 0 ≤ z ∧ z < n → -1100000000000000000 ≤ lv z ∧ lv z ≤ 1100000000000000000)
    (hst : ∀ a, a < m → inF n P m (fl (rts n P m) n) a = true → ∀ z : Int, endB (P a) z = true → lv (othV (P a) z) = lv z - sgn (P a) z * drp (P a) (x a))
    {p0 : Option Addr} {c0 : Nat} {p1 : Option Addr} {c1 lo hi la ha g bl bf bn bfi bfl gf cf : Nat} {va : Value} :
    ∀ (k : Nat) (w : World) (Z : Nat) (en : Int) (d : Nat → Int), Z < n → Fu n (fE n P m) (fD n P m) (Z : Int) en k → FE n m (forest n P m).length N P (lD (forest n P m)) x p0 c0 p1 c1 lo hi la ha g bl bf bn bfi bfl gf cf va w → Own w (.slice (some ⟨g, 0, none⟩) n n) n d g →
      Calls Tryz.prog 111 #[.int .i64 (Z : Nat), .int .i64 en, .int .i64 (lv (Z : Nat)), .pointer (some ⟨bl, 0, none⟩), .pointer (some ⟨bf, 0, none⟩), .pointer (some ⟨bn, 0, none⟩), .pointer (some ⟨bfi, 0, none⟩), .pointer (some ⟨bfl, 0, none⟩)] w fun e w' =>
        e = .returned (.tuple #[]) ∧ ∃ d', Own w' (.slice (some ⟨g, 0, none⟩) n n) n d' g ∧ Grow lv d d' ∧ (∃ V, Dfs n P (inFo n P m) lv (Z : Nat) (fun a => inFo n P m a ∧ (a : Int) ≠ en) d' V) ∧ Upd (fun b => b = g) w w' := by
  obtain ⟨hn1, hn24, hm40⟩ := net_sz hB
  have hfm := forest_le n P m
  have HFO := Lib.hid (fo_net (P := P) (m := m) hB)
  have HB := Lib.hid hB
  have HX := Lib.hid hx
  have HLV := Lib.hid hlv
  have HST := Lib.hid hst
  clear hB hx hlv hst
  intro k
  induction k with
  | zero =>
    intro w Z en d hZ hfu
    exact absurd hfu (HFO.out.fu_zero ⟨Int.natCast_nonneg _, by omega⟩)
  | succ k ih =>
    intro w Z en d hZ hfu hfe ho
    have HIH := Lib.hid ih
    have HFU := Lib.hid hfu
    clear ih hfu
    obtain ⟨pa, ca, hva⟩ := hfe.sl.sh
    subst hva
    have z0 : (0 : Int) ≤ (Z : Int) := Int.natCast_nonneg _
    have z1 : (Z : Int) < (n : Int) := by omega
    have y0 : w.cell? ⟨bl, 0, none⟩ = some (.slice (some ⟨g, 0, none⟩) n n) := hfe.ol.cell 0 (by omega)
    have y1 : w.cell? ⟨g, Z, none⟩ = some (.int .i64 (d Z)) := ho.row.cell Z hZ
    have y2 := ho.fre2 Z
    have o1 := (Only.refl g w).setCell Z (.int .i64 (lv (Z : Nat)))
    have O1 := ho.put2 Z (lv (Z : Nat)) hZ
    have U1 : Upd (fun b => b = g) w (w.setCell ⟨g, Z, none⟩ (.int .i64 (lv (Z : Nat)))) := Upd.of_only o1
    have E1 := hfe.upd U1
    have y3 : (w.setCell ⟨g, Z, none⟩ (.int .i64 (lv (Z : Nat)))).cell? ⟨bf, 0, none⟩ = some (.slice (some ⟨gf, 0, none⟩) (forest n P m).length cf) := E1.of.cell 0 (by omega)
    have HO := Lib.hid O1
    have HE := Lib.hid E1
    have HF0 := Lib.hid hfe
    have HF0 := Lib.hid hfe
    have HF0 := Lib.hid hfe
    have HU := Lib.hid U1
    clear hfe ho o1 O1 U1 E1
    go_enter Tryz.func111, Tryz.ntmps111
    go_wp2_with fail
    obtain ⟨w1, hw1⟩ : ∃ w1, w.setCell ⟨g, Z, none⟩ (.int .i64 (lv (Z : Nat))) = w1 := ⟨_, rfl⟩
    rw [hw1] at HO HE HU ⊢
    clear hw1 y0 y1 y2 y3
    go_loopw [20] (fun iv wr => ∃ (q : Nat) (d' : Nat → Int), iv = .int .i64 q ∧ q ≤ (forest n P m).length ∧ Own wr (.slice (some ⟨g, 0, none⟩) n n) n d' g ∧ Grow lv d d' ∧ (∃ V, Dfs n P (inFo n P m) lv (Z : Nat) (fun a => (a : Int) ≠ en ∧ ∃ j, j < q ∧ lD (forest n P m) j = ((a : Nat) : Int)) d' V) ∧ Upd (fun b => b = g) w wr) (fun iv _ => (forest n P m).length - (intOf iv).toNat)
    case atStart => exact ⟨0, upd d Z (lv (Z : Nat)), rfl, Nat.zero_le _, HO.out, Grow.upd d Z, ⟨_, Dfs.start hZ d (fun b h => by obtain ⟨_, j, hj, _⟩ := h; omega)⟩, HU.out⟩
    case round =>
      obtain ⟨q, d', rfl, hq, ho, hgr, ⟨V, hD⟩, hu⟩ := hrel
      clear HO HE HU
      have E := HF0.out.upd hu
      have HGR := Lib.hid hgr
      have HD := Lib.hid hD
      have HU := Lib.hid hu
      have HO := Lib.hid ho
      have HE := Lib.hid E
      have lg := ho.lt
      clear hgr hD hu ho
      have q0 : (0 : Int) ≤ (q : Int) := Int.natCast_nonneg _
      generalize hQ : Exit.then _ _ = Q
      have HQ := Lib.hid hQ
      clear hQ
      by_cases hlt : q < (forest n P m).length
      · have q1 : (q : Int) < ((forest n P m).length : Int) := by omega
        obtain ⟨a, ham, hin, hla, _, hFa⟩ := forest_at hlt
        have yf : wr.cell? ⟨gf, q, none⟩ = some (.int .i64 (a : Int)) := by
          have h1 := E.fo.row.cell q hlt
          rwa [hla] at h1
        have yn : wr.cell? ⟨bn, 1, none⟩ = some (.slice p1 m c1) := E.on.b1
        obtain ⟨bp, op, rfl, q2, q3, r0, r1, r2, r3, r4⟩ := E.net.pipe ham
        have a0 : (0 : Int) ≤ (a : Int) := Int.natCast_nonneg _
        have a1 : (a : Int) < (m : Int) := by omega
        have HIN := Lib.hid hin
        have HLA := Lib.hid hla
        have HP5 := Lib.hid (boxedP wr (P a) 121)
        have b5 := Lib.hid (below_new wr (.cells #[.int .i64 (P a).f, .int .i64 (P a).t, .int .i64 (P a).k, .int .i64 (P a).v, .int .i64 (P a).l] 121))
        have hs5 : (wr.alloc (.cells #[.int .i64 (P a).f, .int .i64 (P a).t, .int .i64 (P a).k, .int .i64 (P a).v, .int .i64 (P a).l] 121)).heap.size = wr.heap.size + 1 := by simp
        clear hin hla hFa E
        by_cases hen : (a : Int) = en
        · have hb1 : ((a : Int) != en) = false := by simp [hen]
          have HEN := Lib.hid hen
          clear hen
          go_wp2_with fail
          rw [← HQ.out]
          refine ⟨⟨_, _, _, _, _, _, _, _, _, _, _, _, _, _, _, _, _, _, _, _, _, _, _, _, _, _, _, _, _, _, _, _, _, _, _, _, _, _, ?rel, rfl⟩, ?measure⟩
          case rel =>
            refine ⟨q + 1, d', by go_num, hlt, HO.out.keep (b5.out.block g lg), HGR.out, ⟨V, HD.out.skip (fun b hb _ => ⟨hb.1, ?_⟩)⟩, HU.out.trans (Upd.of_below b5.out)⟩
            obtain ⟨hne, j, hj, hj2⟩ := hb
            refine ⟨j, ?_, hj2⟩
            rcases Nat.lt_or_ge j q with h | h
            · exact h
            · exfalso
              obtain rfl : j = q := by omega
              rw [HLA.out] at hj2
              exact hne (by rw [← hj2]; exact HEN.out)
          case measure => simp [intOf]; omega
        · have hb1 : ((a : Int) != en) = true := by simp [hen]
          have HEN := Lib.hid hen
          clear hen
          cases hp : endB (P a) (Z : Int)
          · have HPE := Lib.hid hp
            clear hp
            go_wp2_with fail
            refine (endsAt_any (P a) (Z : Int) _).mono ?_
            rintro e w6 ⟨rfl, b6⟩
            have HB6 := Lib.hid (b5.out.trans (b6.mono (by omega)))
            rw [HPE.out]
            clear b6 r0 r1 r2 r3 r4 hs5
            go_wp2_with fail
            rw [← HQ.out]
            refine ⟨⟨_, _, _, _, _, _, _, _, _, _, _, _, _, _, _, _, _, _, _, _, _, _, _, _, _, _, _, _, _, _, _, _, _, _, _, _, _, _, ?rel, rfl⟩, ?measure⟩
            case rel =>
              refine ⟨q + 1, d', by go_num, hlt, HO.out.keep (HB6.out.block g lg), HGR.out, ⟨V, HD.out.skip (fun b hb hbe => ⟨hb.1, ?_⟩)⟩, HU.out.trans (Upd.of_below HB6.out)⟩
              obtain ⟨hne, j, hj, hj2⟩ := hb
              refine ⟨j, ?_, hj2⟩
              rcases Nat.lt_or_ge j q with h | h
              · exact h
              · exfalso
                obtain rfl : j = q := by omega
                rw [HLA.out] at hj2
                obtain rfl : a = b := by omega
                rw [HPE.out] at hbe
                cases hbe
            case measure => simp [intOf]; omega
          · have HPE := Lib.hid hp
            obtain ⟨hpb0, hpb1⟩ := HFO.out.oth ham (Z : Int)
            obtain ⟨U, hU⟩ := Int.eq_ofNat_of_zero_le hpb0
            have hUn : U < n := by omega
            obtain ⟨x0, x1⟩ := HX.out a ham
            obtain ⟨dd0, dd1⟩ := drp_bnd (net_pip HB.out ham) x0 x1
            have hst := HST.out a ham HIN.out (Z : Int) hp
            obtain ⟨lz0, lz1⟩ := HLV.out (Z : Int) ⟨z0, z1⟩
            obtain ⟨lu0, lu1⟩ := HLV.out (U : Int) ⟨Int.natCast_nonneg _, by omega⟩
            have hsg := sgn_rng (P a) (Z : Int)
            rw [hU] at hst
            have hsd : -900000000000 ≤ sgn (P a) (Z : Int) * drp (P a) (x a) ∧ sgn (P a) (Z : Int) * drp (P a) (x a) ≤ 900000000000 := by rcases hsg with e | e <;> rw [e] <;> omega
            have W1 := Lib.hid (show IntKind.i64.wrap (lv (Z : Nat) - IntKind.i64.wrap (sgn (P a) (Z : Int) * drp (P a) (x a))) = lv (U : Nat) by
              rw [IntWalk.i64_in (sgn (P a) (Z : Int) * drp (P a) (x a)) (by omega), IntWalk.i64_in _ (by omega), hst])
            have HOU := Lib.hid hU
            have HNF := Lib.hid (HFO.out.fu_step ⟨z0, z1⟩ ham ((inF_fE HB.out a).1 HIN.out) hp HEN.out HFU.out)
            rw [hU] at HNF
            clear hp hst hsd hsg dd0 dd1 lz0 lz1 lu0 lu1 hpb0 hpb1 hU
            go_wp2_with fail
            refine (endsAt_any (P a) (Z : Int) _).mono ?_
            rintro e w6 ⟨rfl, b6⟩
            have HB6 := Lib.hid (b5.out.trans (b6.mono (by omega)))
            rw [HPE.out]
            have hs6 := b6.size
            have P6 := HP5.out.below b6 (by omega)
            have E6 := HE.out.upd (Upd.of_below HB6.out)
            have O6 := HO.out.keep (HB6.out.block g lg)
            have lg6 := O6.lt
            have lp6 := P6.lt
            have hpg : wr.heap.size ≠ g := by omega
            clear b6 r0 r1 r2 r3 r4 yn yf
            obtain ⟨p', c', ee, hxx⟩ := E6.sl.ex
            injection ee with ee1 _ ee3
            subst ee1 ee3
            obtain ⟨ba, oa, rfl, g1, g2, hxx⟩ : ∃ b o, pa = some ⟨b, o, none⟩ ∧ la ≤ b ∧ b < ha ∧ ∀ k, k < m → w6.cell? ⟨b, o + k, none⟩ = some (.int .i64 (x k)) := by
              rcases hxx with e | e
              · omega
              · exact e
            have yx := hxx a ham
            have hbg : ba ≠ g := by have := E6.h2; omega
            have c0 := P6.cell 0 (by omega)
            have c1' := P6.cell 1 (by omega)
            have c2 := P6.cell 2 (by omega)
            have c3 := P6.cell 3 (by omega)
            have c4 := P6.cell 4 (by omega)
            have yi : w6.cell? ⟨bfi, 0, none⟩ = _ := E6.oi.cell 0 (by omega)
            have yw : w6.cell? ⟨bfl, 0, none⟩ = _ := E6.ow.cell 0 (by omega)
            have n4 := E6.n4
            have n5 := E6.n5
            have i4 := E6.oi.lt
            have i5 := E6.ow.lt
            have i6 : ba < w6.heap.size := by have := E6.h2; omega
            have HK : ∀ X : World, Upd (fun b => b = g) w6 X → X.cell? ⟨bfi, 0, none⟩ = some (.func (.func 111) #[] #[.pointer (some ⟨bl, 0, none⟩), .pointer (some ⟨bf, 0, none⟩), .pointer (some ⟨bn, 0, none⟩), .pointer (some ⟨bfi, 0, none⟩), .pointer (some ⟨bfl, 0, none⟩)]) ∧ X.cell? ⟨bfl, 0, none⟩ = some (.slice (some ⟨ba, oa, none⟩) m ca) ∧ X.cell? ⟨wr.heap.size, 0, none⟩ = some (.int .i64 (P a).f) ∧ X.cell? ⟨wr.heap.size, 1, none⟩ = some (.int .i64 (P a).t) ∧ X.cell? ⟨wr.heap.size, 2, none⟩ = some (.int .i64 (P a).k) ∧ X.cell? ⟨wr.heap.size, 3, none⟩ = some (.int .i64 (P a).v) ∧ X.cell? ⟨wr.heap.size, 4, none⟩ = some (.int .i64 (P a).l) ∧ X.cell? ⟨ba, oa + a, none⟩ = some (.int .i64 (x a)) := fun X h =>
              ⟨(World.cell?_of_block (h.block bfi i4 n4)).trans yi, (World.cell?_of_block (h.block bfl i5 n5)).trans yw, (World.cell?_of_block (h.block _ lp6 hpg)).trans c0, (World.cell?_of_block (h.block _ lp6 hpg)).trans c1', (World.cell?_of_block (h.block _ lp6 hpg)).trans c2, (World.cell?_of_block (h.block _ lp6 hpg)).trans c3, (World.cell?_of_block (h.block _ lp6 hpg)).trans c4, (World.cell?_of_block (h.block ba i6 hbg)).trans yx⟩
            have K0 : Below w6.heap.size w6 w6.drew := ⟨rfl, rfl, rfl, Nat.le_refl _, fun _ _ => rfl⟩
            have HE6 := Lib.hid E6
            have HO6 := Lib.hid O6
            clear hxx E6 O6 P6
            go_wp2_with fail
            go_region_held3 (fun w' : World => w'.cell? ⟨bfi, 0, none⟩ = some (.func (.func 111) #[] #[.pointer (some ⟨bl, 0, none⟩), .pointer (some ⟨bf, 0, none⟩), .pointer (some ⟨bn, 0, none⟩), .pointer (some ⟨bfi, 0, none⟩), .pointer (some ⟨bfl, 0, none⟩)]) ∧ w'.cell? ⟨bfl, 0, none⟩ = some (.slice (some ⟨ba, oa, none⟩) m ca) ∧ w'.cell? ⟨wr.heap.size, 0, none⟩ = some (.int .i64 (P a).f) ∧ w'.cell? ⟨wr.heap.size, 1, none⟩ = some (.int .i64 (P a).t) ∧ w'.cell? ⟨wr.heap.size, 2, none⟩ = some (.int .i64 (P a).k) ∧ w'.cell? ⟨wr.heap.size, 3, none⟩ = some (.int .i64 (P a).v) ∧ w'.cell? ⟨wr.heap.size, 4, none⟩ = some (.int .i64 (P a).l) ∧ w'.cell? ⟨ba, oa + a, none⟩ = some (.int .i64 (x a)))
              (first | exact HK _ UZ | exact HK _ (Upd.of_below (by assumption : Below w6.heap.size w6 _)))
              (first
                | (go_at_call 113; refine (otherEnd_any (P a) (Z : Int) _).mono ?_; rintro e wA ⟨rfl, hbA⟩; rw [HOU.out]; have SA : Below w6.heap.size w6 wA := Below.trans (by assumption : Below w6.heap.size w6 _) (hbA.mono (Below.size (by assumption : Below w6.heap.size w6 _))); clear hbA)
                | (go_at_call 114; refine (signFrom_any (P a) (Z : Int) _).mono ?_; rintro e wB ⟨rfl, hbB⟩; have SB : Below w6.heap.size w6 wB := Below.trans (by assumption : Below w6.heap.size w6 _) (hbB.mono (Below.size (by assumption : Below w6.heap.size w6 _))); clear hbB)
                | (go_at_call 115; refine (dropFor_any (P a) (x a) _ n (net_pip HB.out ham) x0 x1).mono ?_; rintro e wC ⟨rfl, hbC⟩; have SC : Below w6.heap.size w6 wC := Below.trans (by assumption : Below w6.heap.size w6 _) (hbC.mono (Below.size (by assumption : Below w6.heap.size w6 _))); clear hbC)
                | (go_at_call 111; rw [W1.out]; refine (HIH.out _ U (a : Int) d' hUn HNF.out (HE6.out.upd (Upd.of_below (by assumption : Below w6.heap.size w6 _))) (HO6.out.keep (Below.block (by assumption : Below w6.heap.size w6 _) g lg6))).mono ?_; rintro e wz ⟨rfl, d2, o2, gr2, ⟨V2, D2⟩, u2⟩; have UZ : Upd (fun b => b = g) w6 wz := (Upd.of_below (by assumption : Below w6.heap.size w6 _)).trans u2; clear u2))
            all_goals
              have HO7 := Lib.hid o2
              have HG7 := Lib.hid gr2
              have HD7 := Lib.hid D2
              have HU7 := Lib.hid (HU.out.trans ((Upd.of_below HB6.out).trans UZ))
              clear UZ o2 gr2 D2 HK yi yw c0 c1' c2 c3 c4 yx
              go_wp2_with fail
              rw [← HQ.out]
              refine ⟨⟨_, _, _, _, _, _, _, _, _, _, _, _, _, _, _, _, _, _, _, _, _, _, _, _, _, _, _, _, _, _, _, _, _, _, _, _, _, _, ?rel, rfl⟩, ?measure⟩
              case rel =>
                rw [← HOU.out] at HD7
                refine ⟨q + 1, d2, by go_num, hlt, HO7.out, HGR.out.trans HG7.out, ⟨_, HD.out.step HG7.out (net_pip HB.out ham) HPE.out HD7.out (fun b hb => ?_)⟩, HU7.out⟩
                obtain ⟨hne, j, hj, hj2⟩ := hb
                rcases Nat.lt_or_ge j q with h | h
                · exact .inl ⟨hne, j, h, hj2⟩
                · right
                  obtain rfl : j = q := by omega
                  rw [HLA.out] at hj2
                  omega
              case measure => simp [intOf]; omega
      · have hqn : (forest n P m).length = q := by omega
        have q1 : ¬ ((q : Int) < ((forest n P m).length : Int)) := by omega
        have HQN := Lib.hid hqn
        clear hqn
        go_wp2_with fail
        rw [← HQ.out]
        go_wp2_with fail
        go_end0
        refine ⟨rfl, d', HO.out, HGR.out, ⟨V, HD.out.skip (fun b hb _ => ⟨hb.2, ?_⟩)⟩, HU.out⟩
        have h1 := forest_idx hb.1.1 hb.1.2
        exact ⟨_, by rw [← HQN.out]; exact h1.1, h1.2⟩
end Go.Proofs.YtdbgcbkmcbgdiaaGreat.mem

namespace Go.Proofs.YtdbgcbkmcbgdiaaGreat.mem
open Go.RowKit
set_option linter.unusedVariables false

noncomputable def dpC (n : Nat) (N : Nat → Nod) (m : Nat) (P : Nat → Pip) (a x : Int) : Int := if codeB (netB n N m P) (inR a 0 (m - 1)) = 0 then (if flQ x = true then 0 else 2) else codeB (netB n N m P) (inR a 0 (m - 1))
noncomputable def dpA (n : Nat) (N : Nat → Nod) (m : Nat) (P : Nat → Pip) (a x : Int) : Int := if dpC n N m P a x = 0 then drp (P a.toNat) x else 0
noncomputable def dsN (n : Nat) (N : Nat → Nod) (m : Nat) (P : Nat → Pip) (K : Nat) (d : Nat → Int) : Nat := if flC n N m P K d = 0 then m else 0
/-- may this be a root's level? -/
def rlB (x : Int) : Bool := inR x (-500000000000000000) 500000000000000000
noncomputable def fvC (n : Nat) (N : Nat → Nod) (m : Nat) (P : Nat → Pip) (K : Nat) (d : Nat → Int) (r l : Int) : Int :=
  if flC n N m P K d = 0 then (if (inR r 0 (n - 1) && rlB l) = true then (if conB n N m P = true then 0 else 5) else 2) else flC n N m P K d
noncomputable def fvN (n : Nat) (N : Nat → Nod) (m : Nat) (P : Nat → Pip) (K : Nat) (d : Nat → Int) (r l : Int) : Nat := if fvC n N m P K d r l = 0 then n else 0
noncomputable def gpC (n : Nat) (N : Nat → Nod) (m : Nat) (P : Nat → Pip) (K : Nat) (d : Nat → Int) (a b : Int) : Int :=
  if flC n N m P K d = 0 then (if (inR a 0 (n - 1) && inR b 0 (n - 1)) = true then (if conB n N m P = true then 0 else 5) else 2) else flC n N m P K d
noncomputable def gpA (n : Nat) (N : Nat → Nod) (m : Nat) (P : Nat → Pip) (K : Nat) (d : Nat → Int) (a b : Int) : Int := if gpC n N m P K d a b = 0 then lvl n P m d b 0 a else 0
noncomputable def lwC (n : Nat) (N : Nat → Nod) (m : Nat) (P : Nat → Pip) (K : Nat) (d : Nat → Int) : Int := if flC n N m P K d = 0 then (if conB n N m P = true then 0 else 5) else flC n N m P K d
/-- the first of the least among the elements 0 to k -/
def bst (x : Nat → Int) : Nat → Nat
  | 0 => 0
  | k + 1 => if x (k + 1) < x (bst x k) then k + 1 else bst x k
theorem bst_le (x : Nat → Int) : ∀ k, bst x k ≤ k
  | 0 => Nat.le_refl _
  | k + 1 => by
    have := bst_le x k
    unfold bst
    split <;> omega
theorem bst_min (x : Nat → Int) : ∀ k j, j ≤ k → x (bst x k) ≤ x j
  | 0, j, h => by
    obtain rfl : j = 0 := by omega
    exact Int.le_refl _
  | k + 1, j, h => by
    unfold bst
    rcases Nat.lt_or_ge k j with h1 | h1
    · obtain rfl : j = k + 1 := by omega
      split <;> omega
    · have := bst_min x k j h1
      split <;> omega
theorem bst_first (x : Nat → Int) : ∀ k j, j < bst x k → x (bst x k) < x j
  | 0, j, h => by unfold bst at h; omega
  | k + 1, j, h => by
    unfold bst at h ⊢
    split at h
    · next hc =>
      rw [if_pos hc]
      have := bst_min x k j (by omega)
      omega
    · next hc =>
      rw [if_neg hc]
      exact bst_first x k j h
noncomputable def lwA (n : Nat) (N : Nat → Nod) (m : Nat) (P : Nat → Pip) (K : Nat) (d : Nat → Int) : Int := if lwC n N m P K d = 0 then ((bst (fun j => lvl n P m d 0 0 ((j : Nat) : Int)) (n - 1) : Nat) : Int) else 0
noncomputable def tfC (n : Nat) (N : Nat → Nod) (m : Nat) (P : Nat → Pip) (K : Nat) (d : Nat → Int) : Int := if svC n N m P K d = 0 then (if treeB n N m P = true then ffC n N m P K d else 5) else svC n N m P K d
noncomputable def tfN (n : Nat) (N : Nat → Nod) (m : Nat) (P : Nat → Pip) (K : Nat) (d : Nat → Int) : Nat := if tfC n N m P K d = 0 then m else 0
noncomputable def tlC (n : Nat) (N : Nat → Nod) (m : Nat) (P : Nat → Pip) (K : Nat) (d : Nat → Int) (r l : Int) : Int :=
  if svC n N m P K d = 0 then (if (inR r 0 (n - 1) && rlB l) = true then tfC n N m P K d else 2) else svC n N m P K d
noncomputable def tlN (n : Nat) (N : Nat → Nod) (m : Nat) (P : Nat → Pip) (K : Nat) (d : Nat → Int) (r l : Int) : Nat := if tlC n N m P K d r l = 0 then n else 0
theorem fvN_le (n : Nat) (N : Nat → Nod) (m : Nat) (P : Nat → Pip) (K : Nat) (d : Nat → Int) (r l : Int) (hn : n ≤ 2000000) : fvN n N m P K d r l ≤ 2000000 := by unfold fvN; split <;> omega
theorem dsN_le (n : Nat) (N : Nat → Nod) (m : Nat) (P : Nat → Pip) (K : Nat) (d : Nat → Int) (hm : m ≤ 2000000) : dsN n N m P K d ≤ 2000000 := by unfold dsN; split <;> omega
theorem tfN_le (n : Nat) (N : Nat → Nod) (m : Nat) (P : Nat → Pip) (K : Nat) (d : Nat → Int) (hm : m ≤ 2000000) : tfN n N m P K d ≤ 2000000 := by unfold tfN; split <;> omega
theorem tlN_le (n : Nat) (N : Nat → Nod) (m : Nat) (P : Nat → Pip) (K : Nat) (d : Nat → Int) (r l : Int) (hn : n ≤ 2000000) : tlN n N m P K d r l ≤ 2000000 := by unfold tlN; split <;> omega
theorem conB_one {n : Nat} {N : Nat → Nod} {m : Nat} {P : Nat → Pip} (h : conB n N m P = true) : netB n N m P = true ∧ cnt n P m = 1 := by
  unfold conB at h
  simp only [Bool.and_eq_true, decide_eq_true_eq] at h
  exact h
theorem treeB_con {n : Nat} {N : Nat → Nod} {m : Nat} {P : Nat → Pip} (h : treeB n N m P = true) : conB n N m P = true := by
  unfold treeB at h
  simp only [Bool.and_eq_true, decide_eq_true_eq] at h
  exact h.1
theorem flB_rng {d : Nat → Int} {n : Nat} (h : flB d n = true) : ∀ a, a < n → -30000 ≤ d a ∧ d a ≤ 30000 := fun a ha => flQ_iff.1 (flB_iff.1 h a ha)
theorem lvl_gap (n : Nat) (P : Nat → Pip) (m : Nat) (x : Nat → Int) (a b : Int) : -lvl n P m x a 0 b = lvl n P m x b 0 a := by unfold lvl; omega
end Go.Proofs.YtdbgcbkmcbgdiaaGreat.mem

namespace Go.Proofs.YtdbgcbkmcbgdiaaGreat.mem
open Go.RowKit
set_option linter.unusedVariables false

set_option maxRecDepth 100000 in
set_option maxHeartbeats 8000000 in
theorem forestLevels_any (w : World) (v : Value) (n : Nat) (N : Nat → Nod) (m : Nat) (P : Nat → Pip) (lo hi : Nat) (h : NetAt w v n N m P lo hi) (hhi : hi ≤ w.heap.size) (hB : netB n N m P = true) (hone : cnt n P m = 1) (va : Value) (x : Nat → Int) (la ha : Nat) (hv : Sl w va m x la ha) (hha : ha ≤ w.heap.size) (hx : ∀ a, a < m → -30000 ≤ x a ∧ x a ≤ 30000) (X0 : Nat) (hX : X0 < n) (level : Int) (hl0 : -1000000000000000000 ≤ level) (hl1 : level ≤ 1000000000000000000) :
    Calls Tryz.prog 62 #[v, va, .int .i64 (X0 : Nat), .int .i64 level] w fun e w' => ∃ g, e = .returned (.slice (some ⟨g, 0, none⟩) n n) ∧ Own w' (.slice (some ⟨g, 0, none⟩) n n) n (fun j => lvl n P m x (X0 : Nat) level (j : Nat)) g ∧ w.heap.size ≤ g ∧ Below w.heap.size w w' := by
  obtain ⟨p0, c0, p1, c1, rfl, hn9, hm9⟩ := h.parts
  obtain ⟨hn1, hn24, hm40⟩ := net_sz hB
  obtain ⟨pa, ca, rfl⟩ := hv.sh
  have m1 := fun W => make_int64 W n (by omega)
  have zs : (zeros n).size = n := by unfold zeros; simp [madeCells]
  have m0 : (0 : Int) ≤ (n : Int) := Int.natCast_nonneg _
  have b1 := below_new w (.cells #[.slice p0 n c0, .slice p1 m c1] 27)
  have A1 := boxed w (.slice p0 n c0) (.slice p1 m c1) 27
  have HV := Lib.hid h
  have HB := Lib.hid hB
  have HS := Lib.hid hv
  have HX := Lib.hid hx
  have HONE := Lib.hid hone
  have e0 := A1.b0
  clear h hB hv hx hone
  go_enter Tryz.func62, Tryz.ntmps62
  go_wp2_with fail
  have F2 := Ob.one (w.alloc (.cells #[.slice p0 n c0, .slice p1 m c1] 27)) (.slice pa m ca) 28
  have b2 := below_new (w.alloc (.cells #[.slice p0 n c0, .slice p1 m c1] 27)) (.cells #[.slice pa m ca] 28)
  simp only [World.size_alloc] at F2
  generalize hw2 : (w.alloc (.cells #[.slice p0 n c0, .slice p1 m c1] 27)).alloc (.cells #[.slice pa m ca] 28) = w2 at *
  have hs2 : w2.heap.size = w.heap.size + 1 + 1 := by rw [← hw2]; simp
  have A2 := A1.below b2 (by simp)
  have B2 := b1.trans (b2.mono (by simp))
  clear b2
  have G3 := Own.made2 w2 n (by omega)
  have b3 := below_new w2 (.cells (zeros n) 2)
  rw [hs2] at G3
  generalize hw3 : w2.alloc (.cells (zeros n) 2) = w3 at *
  have hs3 : w3.heap.size = w.heap.size + 1 + 1 + 1 := by rw [← hw3]; simp [hs2]
  have A3 := A2.below b3 (by omega)
  have F3 := F2.below b3 (by omega)
  have B3 := B2.trans (b3.mono (by omega))
  clear b3 A2 F2 B2
  have L4 := Ob.one w3 (.slice (some ⟨w.heap.size + 1 + 1, 0, none⟩) n n) 28
  have b4 := below_new w3 (.cells #[.slice (some ⟨w.heap.size + 1 + 1, 0, none⟩) n n] 28)
  rw [hs3] at L4
  generalize hw4 : w3.alloc (.cells #[.slice (some ⟨w.heap.size + 1 + 1, 0, none⟩) n n] 28) = w4 at *
  have hs4 : w4.heap.size = w.heap.size + 1 + 1 + 1 + 1 := by rw [← hw4]; simp [hs3]
  have A4 := A3.below b4 (by omega)
  have F4 := F3.below b4 (by omega)
  have G4 := G3.below b4 (Nat.le_refl _)
  have B4 := B3.trans (b4.mono (by omega))
  clear b4 A3 F3 G3 B3 hw2 hw3 hw4 b1 A1 e0 hs2 hs3
  refine (forest_any w4 _ n N m P lo hi (HV.out.below B4 hhi) (by omega) HB.out).mono ?_
  rintro e w5 ⟨vf, gf, rfl, of, hgf, b5⟩
  obtain ⟨cf, rfl⟩ := of.shape
  have hs5 := b5.size
  have lf := of.lt
  have A5 := A4.below b5 (by omega)
  have F5 := F4.below b5 (by omega)
  have G5 := G4.below b5 (Nat.le_refl _)
  have L5 := L4.below b5 (by omega)
  have B5 := B4.trans (b5.mono (by omega))
  clear b5 A4 F4 G4 L4 B4
  have mf : ∀ (fn : Fn) (first cap : Array Value) (w : World), (Instr.makeFunc fn first cap).run Tryz.prog w = .ok (.func fn first cap) w := fun _ _ _ _ => rfl
  have HA := Lib.hid A5
  have HF := Lib.hid F5
  have HG := Lib.hid G5
  have HL := Lib.hid L5
  have HO := Lib.hid of
  have HBB := Lib.hid B5
  clear A5 F5 G5 L5 of B5
  go_wp2_with fail
  have F6 := Ob.one w5 (.slice (some ⟨gf, 0, none⟩) (forest n P m).length cf) 28
  have b6 := below_new w5 (.cells #[.slice (some ⟨gf, 0, none⟩) (forest n P m).length cf] 28)
  generalize hw6 : w5.alloc (.cells #[.slice (some ⟨gf, 0, none⟩) (forest n P m).length cf] 28) = w6 at *
  have hs6 : w6.heap.size = w5.heap.size + 1 := by rw [← hw6]; simp
  have I7 := Ob.one w6 (.func (.func 111) #[] #[.pointer (some ⟨w.heap.size + 1 + 1 + 1, 0, none⟩), .pointer (some ⟨w5.heap.size, 0, none⟩), .pointer (some ⟨w.heap.size, 0, none⟩), .pointer (some ⟨w5.heap.size + 1, 0, none⟩), .pointer (some ⟨w.heap.size + 1, 0, none⟩)]) 133
  have b7 := below_new w6 (.cells #[.func (.func 111) #[] #[.pointer (some ⟨w.heap.size + 1 + 1 + 1, 0, none⟩), .pointer (some ⟨w5.heap.size, 0, none⟩), .pointer (some ⟨w.heap.size, 0, none⟩), .pointer (some ⟨w5.heap.size + 1, 0, none⟩), .pointer (some ⟨w.heap.size + 1, 0, none⟩)]] 133)
  rw [hs6] at I7
  generalize hw7 : w6.alloc (.cells #[.func (.func 111) #[] #[.pointer (some ⟨w.heap.size + 1 + 1 + 1, 0, none⟩), .pointer (some ⟨w5.heap.size, 0, none⟩), .pointer (some ⟨w.heap.size, 0, none⟩), .pointer (some ⟨w5.heap.size + 1, 0, none⟩), .pointer (some ⟨w.heap.size + 1, 0, none⟩)]] 133) = w7 at *
  have hs7 : w7.heap.size = w5.heap.size + 1 + 1 := by rw [← hw7]; simp [hs6]
  have b57 := b6.trans (b7.mono (by omega))
  have lga := HG.out.lt
  have E7 : FE n m (forest n P m).length N P (lD (forest n P m)) x p0 c0 p1 c1 lo hi la ha (w.heap.size + 1 + 1) (w.heap.size + 1 + 1 + 1) w5.heap.size w.heap.size (w5.heap.size + 1) (w.heap.size + 1) gf cf (.slice pa m ca) w7 :=
    ⟨HV.out.below (HBB.out.trans (b57.mono (by omega))) hhi, HS.out.below (HBB.out.trans (b57.mono (by omega))) hha, HO.out.keep (b57.block _ lf), HL.out.below b57 (by omega), F6.below b7 (by omega), HA.out.below b57 (by omega), I7, HF.out.below b57 (by omega), by omega, by omega, by omega, by omega, by omega, by omega, by omega, by omega, by omega⟩
  have G7 := HG.out.keep (b57.block _ lga)
  have HB7 := Lib.hid (HBB.out.trans (b57.mono (by omega)))
  have HBD := Lib.hid (fun (z : Int) (hz : 0 ≤ z ∧ z < n) => lvl_bnd (x := x) (root := ((X0 : Nat) : Int)) (level := level) (z := z) HB.out hn24 HX.out ⟨Int.natCast_nonneg _, by omega⟩ hz)
  have hfill := fill_any HB.out HX.out (lv := lvl n P m x (X0 : Nat) level) (fun z hz => by have := HBD.out z hz; omega) (fun a ha hf z hz => lvl_step HB.out ha hf hz) (2 * n + 2) w7 X0 (-1) _ hX ((fo_net HB.out).fu_start ⟨Int.natCast_nonneg _, by omega⟩) E7 G7
  rw [lvl_root] at hfill
  have HE7 := Lib.hid E7
  clear E7 G7 b57 b6 b7 I7 F6 hw6 hw7 HBD
  refine hfill.mono ?_
  clear hfill
  rintro e w8 ⟨rfl, d', o8, hgr, ⟨V, hD⟩, u8⟩
  have E8 := HE7.out.upd u8
  have y8 : w8.cell? ⟨w.heap.size + 1 + 1 + 1, 0, none⟩ = some (.slice (some ⟨w.heap.size + 1 + 1, 0, none⟩) n n) := E8.ol.cell 0 (by omega)
  have hfin : ∀ j : Nat, j < n → d' j = lvl n P m x (X0 : Nat) level (j : Nat) := fun j hj => by
    have hall := (fo_net (P := P) (m := m) HB.out).all (fo_r0 HB.out) (fo_r2 HB.out) (cmp_one HB.out HONE.out) (V := V) (x := ((X0 : Nat) : Int)) ⟨Int.natCast_nonneg _, by omega⟩ hD.own (fun z hz a ha hf he => by
      have hin := (inF_fE HB.out a).2 hf
      by_cases e : z = ((X0 : Nat) : Int)
      · subst e
        exact hD.nod a ⟨⟨ha, hin⟩, by omega⟩ he
      · exact hD.oth z hz e a ⟨ha, hin⟩ he) ((j : Nat) : Int) ⟨Int.natCast_nonneg _, by omega⟩
    have := (hD.lev _ hall).2.2
    rwa [Int.toNat_natCast] at this
  have HO8 := Lib.hid (o8.congr hfin)
  have HB8 := Lib.hid (HB7.out.trans (u8.below (by omega) (fun k _ hk => by omega)))
  clear o8 hgr hD u8 E8 hfin
  go_wp2_with fail
  go_ret
  exact ⟨_, rfl, HO8.out, by omega, HB8.out⟩
end Go.Proofs.YtdbgcbkmcbgdiaaGreat.mem

namespace Go.Proofs.YtdbgcbkmcbgdiaaGreat.mem
open Go.RowKit
set_option linter.unusedVariables false

end Go.Proofs.YtdbgcbkmcbgdiaaGreat.mem

namespace Go.Proofs.YtdbgcbkmcbgdiaaGreat.mem
open Go.RowKit
set_option linter.unusedVariables false

theorem isRootLevel_any (x : Int) (w : World) : Calls Tryz.prog 60 #[.int .i64 x] w fun e w' => e = .returned (.bool (rlB x)) ∧ w = w' := by
  unfold rlB
  go_enter Tryz.func60, Tryz.ntmps60
  go_wp2_with (go_at_call 109; refine (inRange_any _ _ _ _).mono ?_; rintro e w' ⟨rfl, rfl⟩)
  go_ret
  exact ⟨rfl, rfl⟩
end Go.Proofs.YtdbgcbkmcbgdiaaGreat.mem

namespace Go.Proofs.YtdbgcbkmcbgdiaaGreat.mem
open Go.RowKit
set_option linter.unusedVariables false

end Go.Proofs.YtdbgcbkmcbgdiaaGreat.mem
