/-
  Several texts in one: Pot, Lva, Lvd, Lvf, Lvm, Lvq, Lvr.
-/
import Derived.Test.YtdbgcbkmcbgdiaaRows
import Derived.Test.YtdbgcbkmcbgdiaaCyM
import Derived.Test.YtdbgcbkmcbgdiaaBaM
import Derived.IntWalk
import Derived.Laws.EntriesVeiled
namespace Go.Proofs.Ytdbgcbkmcbgdiaa.mem
open Go.RowKit
set_option linter.unusedVariables false

/-- the drop of a pipe -/
def drp (q : Pip) (x : Int) : Int := q.k * (x * (x.natAbs : Int))
theorem sq_bnd {x c : Int} (h0 : -c ≤ x) (h1 : x ≤ c) : -(c * c) ≤ x * (x.natAbs : Int) ∧ x * (x.natAbs : Int) ≤ c * c := by
  have hc : 0 ≤ c := by omega
  have h2 : (x.natAbs : Int) ≤ c := by omega
  have h3 : (0 : Int) ≤ (x.natAbs : Int) := Int.natCast_nonneg _
  have h4 : (x.natAbs : Int) * (x.natAbs : Int) ≤ c * c := Int.mul_le_mul h2 h2 h3 hc
  have h5 : 0 ≤ c * c := Int.mul_nonneg hc hc
  have h6 : 0 ≤ (x.natAbs : Int) * (x.natAbs : Int) := Int.mul_nonneg h3 h3
  rcases Int.le_total 0 x with h | h
  · have e : (x.natAbs : Int) = x := by omega
    rw [e] at h4 h6 ⊢
    omega
  · have e : x * (x.natAbs : Int) = -((x.natAbs : Int) * (x.natAbs : Int)) := by
      rw [← Int.neg_mul]
      congr 1
      omega
    rw [e]
    omega
theorem drp_bnd {n : Int} {q : Pip} {x : Int} (hq : pipB n q = true) (h0 : -30000 ≤ x) (h1 : x ≤ 30000) : -900000000000 ≤ drp q x ∧ drp q x ≤ 900000000000 := by
  have hk : 1 ≤ q.k ∧ q.k ≤ 1000 := by
    unfold pipB at hq
    simp only [Bool.and_eq_true, inR_iff] at hq
    omega
  obtain ⟨s0, s1⟩ := sq_bnd h0 h1
  have e : (30000 : Int) * 30000 = 900000000 := by decide
  rw [e] at s0 s1
  unfold drp
  have a1 := Int.mul_le_mul_of_nonneg_left s1 (show 0 ≤ q.k by omega)
  have a2 := Int.mul_le_mul_of_nonneg_left s0 (show 0 ≤ q.k by omega)
  omega
theorem drp_eq (q : Pip) (x : Int) : q.k * x * (x.natAbs : Int) = drp q x := Int.mul_assoc _ _ _
theorem drp_zero (q : Pip) : drp q 0 = 0 := by unfold drp; simp
theorem drp_neg (q : Pip) (x : Int) : drp q (-x) = -drp q x := by
  unfold drp
  rw [Int.natAbs_neg, Int.neg_mul, Int.mul_neg]

def potF (P : Nat → Pip) (E : Int → Int) (dr : Nat → Int) : Nat → Int → Int
  | 0, _ => 0
  | f + 1, z => if E z = -1 then 0 else sgn (P (E z).toNat) z * dr (E z).toNat + potF P E dr f (othV (P (E z).toNat) z)
/-- by how much a node's level is greater than that of the first one above it -/
def pot (P : Nat → Pip) (E D : Int → Int) (dr : Nat → Int) (z : Int) : Int := potF P E dr (D z).toNat z
theorem Fo.pot_top {n : Nat} {P : Nat → Pip} {m : Nat} {E D : Int → Int} (h : Fo n P m E D) {dr : Nat → Int} {z : Int} (e : E z = -1) : pot P E D dr z = 0 := by
  unfold pot
  cases (D z).toNat with
  | zero => rfl
  | succ k => unfold potF; rw [if_pos e]
theorem Fo.pot_up {n : Nat} {P : Nat → Pip} {m : Nat} {E D : Int → Int} (h : Fo n P m E D) {dr : Nat → Int} {z : Int} (hz : 0 ≤ z ∧ z < n) {c : Nat} (hc : c < m) (e : E z = (c : Int)) : pot P E D dr z = sgn (P c) z * dr c + pot P E D dr (othV (P c) z) := by
  rcases h.par z hz.1 hz.2 with e3 | ⟨d, hd, e3, _, dz⟩
  · omega
  obtain rfl : d = c := by omega
  have ho := h.oth hd z
  have hb := h.bnd _ ho.1 ho.2
  unfold pot
  rw [show (D z).toNat = (D (othV (P d) z)).toNat + 1 by omega]
  rw [potF, if_neg (by omega), e, Int.toNat_natCast]
theorem Fo.pot_edge {n : Nat} {P : Nat → Pip} {m : Nat} {E D : Int → Int} (h : Fo n P m E D) {dr : Nat → Int} {a : Nat} (ha : a < m) (hf : ∃ z : Int, 0 ≤ z ∧ z < n ∧ E z = (a : Int)) : pot P E D dr (P a).f = dr a + pot P E D dr (P a).t := by
  obtain ⟨z, z0, z1, e⟩ := hf
  have hp := h.pot_up (dr := dr) ⟨z0, z1⟩ ha e
  rcases h.par z z0 z1 with e3 | ⟨b, hb, e3, bz, _⟩
  · omega
  obtain rfl : b = a := by omega
  unfold endB at bz
  simp only [Bool.or_eq_true, beq_iff_eq] at bz
  unfold sgn othV at hp
  by_cases e1 : (P b).f = z
  · rw [if_pos e1, if_pos e1, Int.one_mul] at hp
    rw [e1]
    exact hp
  · have e2 : (P b).t = z := by rcases bz with e4 | e4; exact absurd e4 e1; exact e4
    rw [if_neg e1, if_neg e1] at hp
    rw [e2]
    omega
/-- along a pipe of the forest, from either end -/
theorem Fo.pot_step {n : Nat} {P : Nat → Pip} {m : Nat} {E D : Int → Int} (h : Fo n P m E D) {dr : Nat → Int} {a : Nat} (ha : a < m) (hf : ∃ z : Int, 0 ≤ z ∧ z < n ∧ E z = (a : Int)) {z : Int} (hz : endB (P a) z = true) : pot P E D dr (othV (P a) z) = pot P E D dr z - sgn (P a) z * dr a := by
  have he := h.pot_edge (dr := dr) ha hf
  unfold endB at hz
  simp only [Bool.or_eq_true, beq_iff_eq] at hz
  unfold othV sgn
  by_cases e1 : (P a).f = z
  · rw [if_pos e1, if_pos e1]
    rw [e1] at he
    omega
  · have e2 : (P a).t = z := by rcases hz with e4 | e4; exact absurd e4 e1; exact e4
    rw [if_neg e1, if_neg e1]
    rw [e2] at he
    omega
theorem Fo.pot_bnd {n : Nat} {P : Nat → Pip} {m : Nat} {E D : Int → Int} (h : Fo n P m E D) {dr : Nat → Int} {B : Int} (hB0 : 0 ≤ B) (hB : ∀ a, a < m → -B ≤ dr a ∧ dr a ≤ B) {z : Int} (hz : 0 ≤ z ∧ z < n) : -(n * B) ≤ pot P E D dr z ∧ pot P E D dr z ≤ n * B := by
  have key := h.ind (Q := fun z => 0 ≤ z ∧ z < n → -(D z * B) ≤ pot P E D dr z ∧ pot P E D dr z ≤ D z * B) (fun z hz e _ => by
    rw [h.pot_top e]
    have := Int.mul_nonneg (h.bnd z hz.1 hz.2).1 hB0
    omega) (fun z hz c hc e b d ih _ => by
    have h1 := ih (h.oth hc z)
    rw [h.pot_up hz hc e, d, Int.add_mul, Int.one_mul]
    have h2 := hB c hc
    rcases sgn_rng (P c) z with e1 | e1 <;> rw [e1] <;> omega) z hz hz
  have hb := h.bnd z hz.1 hz.2
  have := Int.mul_le_mul_of_nonneg_right hb.2 hB0
  omega

/-- how far a search that goes along the forest without turning back can still go -/
def Fu (n : Nat) (E D : Int → Int) (z en : Int) (k : Nat) : Prop := (E z = en ∧ (n : Int) - D z < k) ∨ ((n : Int) + D z + 1 < k)
theorem Fo.fu_start {n : Nat} {P : Nat → Pip} {m : Nat} {E D : Int → Int} (h : Fo n P m E D) {z : Int} (hz : 0 ≤ z ∧ z < n) : Fu n E D z (-1) (2 * n + 2) := by
  have := h.bnd z hz.1 hz.2
  exact .inr (by omega)
theorem Fo.fu_zero {n : Nat} {P : Nat → Pip} {m : Nat} {E D : Int → Int} (h : Fo n P m E D) {z en : Int} (hz : 0 ≤ z ∧ z < n) : ¬ Fu n E D z en 0 := by
  have := h.bnd z hz.1 hz.2
  rintro (⟨_, h1⟩ | h1) <;> omega
theorem Fo.fu_step {n : Nat} {P : Nat → Pip} {m : Nat} {E D : Int → Int} (h : Fo n P m E D) {z en : Int} {k a : Nat} (hz : 0 ≤ z ∧ z < n) (ha : a < m) (hf : ∃ z : Int, 0 ≤ z ∧ z < n ∧ E z = (a : Int)) (he : endB (P a) z = true) (hne : (a : Int) ≠ en) (hk : Fu n E D z en (k + 1)) : Fu n E D (othV (P a) z) a k := by
  obtain ⟨y, y0, y1, ey⟩ := hf
  have hb := h.bnd z hz.1 hz.2
  rcases h.par y y0 y1 with e3 | ⟨b, hb', e3, by1, dy⟩
  · omega
  obtain rfl : b = a := by omega
  rcases end_two (h.pip b hb') he by1 with e4 | e4
  · subst e4
    rcases hk with ⟨e5, _⟩ | h5
    · omega
    · exact .inr (by omega)
  · have h5 := (oth_oth (h.pip b hb') he).1
    rw [← e4] at h5 ⊢
    rw [h5] at dy
    refine .inl ⟨ey, ?_⟩
    rcases hk with ⟨_, h6⟩ | h6 <;> omega

/-- levels only turn into those that are meant -/
def Grow (lv : Int → Int) (d d' : Nat → Int) : Prop := ∀ j : Nat, d' j = d j ∨ d' j = lv j
theorem Grow.refl (lv : Int → Int) (d : Nat → Int) : Grow lv d d := fun _ => .inl rfl
theorem Grow.trans {lv : Int → Int} {d d' d'' : Nat → Int} (h : Grow lv d d') (g : Grow lv d' d'') : Grow lv d d'' := fun j => by
  rcases g j with e | e
  · rw [e]; exact h j
  · exact .inr e
theorem Grow.upd {lv : Int → Int} (d : Nat → Int) (a : Nat) : Grow lv d (upd d a (lv a)) := fun j => by
  unfold mem.upd
  by_cases e : j = a
  · subst e; rw [if_pos rfl]; exact .inr rfl
  · rw [if_neg e]; exact .inl rfl
/-- what a search from a node has reached: the pipes S are the forest's, T those at the node that have been gone along -/
structure Dfs (n : Nat) (P : Nat → Pip) (S : Nat → Prop) (lv : Int → Int) (node : Int) (T : Nat → Prop) (d : Nat → Int) (V : Int → Prop) : Prop where
  own : V node
  lev : ∀ z, V z → 0 ≤ z ∧ z < n ∧ d z.toNat = lv z
  oth : ∀ z, V z → z ≠ node → ∀ a, S a → endB (P a) z = true → V (othV (P a) z)
  nod : ∀ a, T a → endB (P a) node = true → V (othV (P a) node)
theorem Dfs.start {n : Nat} {P : Nat → Pip} {S : Nat → Prop} {lv : Int → Int} {a : Nat} {T : Nat → Prop} (ha : a < n) (d : Nat → Int) (hT : ∀ b, ¬ T b) : Dfs n P S lv (a : Nat) T (upd d a (lv a)) (fun z => z = (a : Nat)) where
  own := rfl
  lev := fun z hz => by
    subst hz
    refine ⟨Int.natCast_nonneg _, by omega, ?_⟩
    rw [Int.toNat_natCast]
    unfold mem.upd
    rw [if_pos rfl]
  oth := fun z hz hne => absurd hz hne
  nod := fun b hb => absurd hb (hT b)
theorem Dfs.skip {n : Nat} {P : Nat → Pip} {S T T' : Nat → Prop} {lv : Int → Int} {node : Int} {d : Nat → Int} {V : Int → Prop} (h : Dfs n P S lv node T d V) (hT : ∀ b, T' b → endB (P b) node = true → T b) : Dfs n P S lv node T' d V :=
  ⟨h.own, h.lev, h.oth, fun a ha he => h.nod a (hT a ha he) he⟩
theorem Dfs.step {n : Nat} {P : Nat → Pip} {S T T' : Nat → Prop} {lv : Int → Int} {node : Int} {d d' : Nat → Int} {V V' : Int → Prop} {a : Nat} (h : Dfs n P S lv node T d V) (hg : Grow lv d d') (hp : pipB n (P a) = true) (he : endB (P a) node = true)
    (h' : Dfs n P S lv (othV (P a) node) (fun b => S b ∧ (b : Int) ≠ (a : Int)) d' V') (hT : ∀ b, T' b → T b ∨ b = a) : Dfs n P S lv node T' d' (fun z => V z ∨ V' z) where
  own := .inl h.own
  lev := fun z hz => by
    rcases hz with hz | hz
    · obtain ⟨h0, h1, h2⟩ := h.lev z hz
      refine ⟨h0, h1, ?_⟩
      rcases hg z.toNat with e | e
      · rw [e, h2]
      · rw [e, Int.toNat_of_nonneg h0]
    · exact h'.lev z hz
  oth := fun z hz hne b hb hbe => by
    rcases hz with hz | hz
    · exact .inl (h.oth z hz hne b hb hbe)
    · by_cases e : z = othV (P a) node
      · subst e
        by_cases e2 : b = a
        · subst e2
          rw [(oth_oth hp he).1]
          exact .inl h.own
        · exact .inr (h'.nod b ⟨hb, fun e3 => e2 (by omega)⟩ hbe)
      · exact .inr (h'.oth z hz e b hb hbe)
  nod := fun b hb hbe => by
    rcases hT b hb with h1 | h1
    · exact .inl (h.nod b h1 hbe)
    · subst h1
      exact .inr h'.own
/-- a set that is closed under the forest's pipes holds all nodes of a connected network -/
theorem Fo.all {n : Nat} {P : Nat → Pip} {m : Nat} {E D R : Int → Int} (h : Fo n P m E D) (r0 : ∀ z : Int, 0 ≤ z ∧ z < n → E z = -1 → R z = z) (r1 : ∀ z : Int, 0 ≤ z ∧ z < n → ∀ c : Nat, c < m → E z = (c : Int) → R (othV (P c) z) = R z)
    (one : ∀ y z : Int, 0 ≤ y ∧ y < n → 0 ≤ z ∧ z < n → R y = R z) {V : Int → Prop} {x : Int} (hx : 0 ≤ x ∧ x < n) (hV : V x) (cl : ∀ z, V z → ∀ a : Nat, a < m → (∃ y : Int, 0 ≤ y ∧ y < n ∧ E y = (a : Int)) → endB (P a) z = true → V (othV (P a) z)) : ∀ z : Int, 0 ≤ z ∧ z < n → V z := by
  have up := h.ind (Q := fun z => 0 ≤ z ∧ z < n → V z → V (R z)) (fun z hz e _ hv => by rw [r0 z hz e]; exact hv) (fun z hz c hc e b d ih _ hv => by
    have h1 := ih (h.oth hc z) (cl z hv c hc ⟨z, hz.1, hz.2, e⟩ b)
    rwa [r1 z hz c hc e] at h1)
  have down := h.ind (Q := fun z => 0 ≤ z ∧ z < n → V (R z) → V z) (fun z hz e _ hv => by rwa [r0 z hz e] at hv) (fun z hz c hc e b d ih _ hv => by
    have h1 := ih (h.oth hc z) (by rw [r1 z hz c hc e]; exact hv)
    have h2 := oth_oth (h.pip c hc) b
    have h3 := cl _ h1 c hc ⟨z, hz.1, hz.2, e⟩ h2.2.1
    rwa [h2.1] at h3)
  intro z hz
  refine down z hz hz ?_
  rw [one z x hz hx]
  exact up x hx hx hV
/-- a connected network: all nodes have one first node -/
theorem cmp_one {n : Nat} {N : Nat → Nod} {P : Nat → Pip} {m : Nat} (hN : netB n N m P = true) (h1 : cnt n P m = 1) : ∀ y z : Int, 0 ≤ y ∧ y < n → 0 ≤ z ∧ z < n → cmp n P m n y = cmp n P m n z := by
  intro y z hy hz
  obtain ⟨r, hr, hroot, _, e1⟩ := node_root (P := P) (m := m) hN hy
  obtain ⟨s, hs, hsroot, _, e2⟩ := node_root (P := P) (m := m) hN hz
  rw [e1, e2]
  unfold cnt at h1
  obtain ⟨q, hq⟩ := List.length_eq_one_iff.1 h1
  have a1 := fl_mem hr hroot
  have a2 := fl_mem hs hsroot
  rw [hq] at a1 a2
  simp only [List.mem_singleton] at a1 a2
  rw [a1, a2]
/-- in a connected network every search visits all nodes -/
theorem vis_all {n : Nat} {N : Nat → Nod} {P : Nat → Pip} {m : Nat} (hN : netB n N m P = true) (h1 : cnt n P m = 1) {x y : Int} (hx : 0 ≤ x ∧ x < n) (hy : 0 ≤ y ∧ y < n) : vhas (vis n P m x) y = true := by
  obtain ⟨r, hr, hroot, vx, e1⟩ := node_root (P := P) (m := m) hN hx
  obtain ⟨s, hs, hsroot, vy, e2⟩ := node_root (P := P) (m := m) hN hy
  have e := cmp_one hN h1 x y hx hy
  obtain rfl : s = r := by omega
  obtain ⟨X, rfl⟩ := Int.eq_ofNat_of_zero_le hx.1
  obtain ⟨Y, rfl⟩ := Int.eq_ofNat_of_zero_le hy.1
  have hxr := vis_sym hN hr (by omega) vx
  have hyr := vis_sym hN hr (by omega) vy
  obtain ⟨i, v, hv, hvn⟩ := vhas_get hyr
  exact vis_meet (x := ((X : Nat) : Int)) (y := ((Y : Nat) : Int)) hN (by omega) (by omega) i v hv (by rw [hvn]; exact hxr)
theorem cnt_forest {n : Nat} {N : Nat → Nod} {P : Nat → Pip} {m : Nat} (hN : netB n N m P = true) : cnt n (frP n P m) (forest n P m).length = cnt n P m := by
  unfold cnt
  congr 2
  funext i
  unfold rts
  rw [cmp_forest hN n (Nat.le_refl _)]

/-- the forest levels -/
def lvl (n : Nat) (P : Nat → Pip) (m : Nat) (x : Nat → Int) (root level : Int) (z : Int) : Int :=
  level + (pot P (fE n P m) (fD n P m) (fun a => drp (P a) (x a)) z - pot P (fE n P m) (fD n P m) (fun a => drp (P a) (x a)) root)
theorem lvl_root (n : Nat) (P : Nat → Pip) (m : Nat) (x : Nat → Int) (root level : Int) : lvl n P m x root level root = level := by unfold lvl; omega
theorem lvl_step {n : Nat} {N : Nat → Nod} {P : Nat → Pip} {m : Nat} (hN : netB n N m P = true) {x : Nat → Int} {root level : Int} {a : Nat} (ha : a < m) (hf : inF n P m (fl (rts n P m) n) a = true) {z : Int} (hz : endB (P a) z = true) : lvl n P m x root level (othV (P a) z) = lvl n P m x root level z - sgn (P a) z * drp (P a) (x a) := by
  have h1 := (fo_net (P := P) (m := m) hN).pot_step (dr := fun a => drp (P a) (x a)) ha ((inF_fE hN a).1 hf) hz
  unfold lvl
  rw [h1]
  omega
theorem lvl_edge {n : Nat} {N : Nat → Nod} {P : Nat → Pip} {m : Nat} (hN : netB n N m P = true) {x : Nat → Int} {root level : Int} {a : Nat} (ha : a < m) (hf : inF n P m (fl (rts n P m) n) a = true) : lvl n P m x root level (P a).f = drp (P a) (x a) + lvl n P m x root level (P a).t := by
  have h1 := (fo_net (P := P) (m := m) hN).pot_edge (dr := fun a => drp (P a) (x a)) ha ((inF_fE hN a).1 hf)
  unfold lvl
  rw [h1]
  omega
theorem lvl_bnd {n : Nat} {N : Nat → Nod} {P : Nat → Pip} {m : Nat} (hN : netB n N m P = true) (h24 : n ≤ 24) {x : Nat → Int} (hx : ∀ a, a < m → -30000 ≤ x a ∧ x a ≤ 30000) {root level : Int} (hr : 0 ≤ root ∧ root < n) {z : Int} (hz : 0 ≤ z ∧ z < n) : level - 50000000000000 ≤ lvl n P m x root level z ∧ lvl n P m x root level z ≤ level + 50000000000000 := by
  have h1 := fun y hy => (fo_net (P := P) (m := m) hN).pot_bnd (dr := fun a => drp (P a) (x a)) (B := 900000000000) (z := y) (by omega) (fun a ha => drp_bnd (net_pip hN ha) (hx a ha).1 (hx a ha).2) hy
  have h2 := h1 z hz
  have h3 := h1 root hr
  unfold lvl
  omega
theorem pip_k {n : Int} {q : Pip} (h : pipB n q = true) : 1 ≤ q.k ∧ q.k ≤ 1000 := by
  unfold pipB at h
  simp only [Bool.and_eq_true, inR_iff] at h
  omega
theorem below_drN1 {B : Nat} {w w' : World} (h : Below B w w') (n : Nat) : Below B w (w'.drewN n) := ⟨h.os, h.tape, h.output, h.size, h.block⟩
end Go.Proofs.Ytdbgcbkmcbgdiaa.mem

namespace Go.Proofs.Ytdbgcbkmcbgdiaa.mem
open Go.RowKit
set_option linter.unusedVariables false

set_option maxRecDepth 100000 in
set_option maxHeartbeats 4000000 in
theorem dropFor_any (q : Pip) (x : Int) (w : World) (n : Int) (hq : pipB n q = true) (h0 : -30000 ≤ x) (h1 : x ≤ 30000) : Calls Try.prog 45 #[.agg #[.int .i64 q.f, .int .i64 q.t, .int .i64 q.k, .int .i64 q.v, .int .i64 q.l], .int .i64 x] w fun e w' => e = .returned (.int .i64 (drp q x)) ∧ Below w.heap.size w w' := by
  have hd := drp_bnd hq h0 h1
  have hk := pip_k hq
  have a1 := Int.mul_le_mul_of_nonneg_left h1 (show 0 ≤ q.k by omega)
  have a2 := Int.mul_le_mul_of_nonneg_left h0 (show 0 ≤ q.k by omega)
  have W1 : IntKind.i64.wrap (q.k * x) = q.k * x := IntWalk.i64_in _ (by omega)
  have W2 : IntKind.i64.wrap (q.k * x * (x.natAbs : Int)) = drp q x := by rw [drp_eq]; exact IntWalk.i64_in _ (by omega)
  clear a1 a2 hd hk hq
  go_enter Try.func45, Try.ntmps45
  go_wp2_with fail
  go_quiet ((go_at_call 34; exact Calls.quiet_of_same ((absN_any _ _ (by omega) (by omega)).mono fun e w' h => ⟨h.1, h.2.symm⟩)))
  go_wp2_with fail
  go_ret
  exact ⟨rfl, below_drN1 (below_new _ _) _⟩

theorem Own.put2 {w : World} {v : Value} {n g : Nat} {d : Nat → Int} (h : Own w v n d g) (i : Nat) (x : Int) (hi : i < n) : Own (w.setCell ⟨g, i, none⟩ (.int .i64 x)) v n (upd d i x) g := by
  obtain ⟨cap, cur, h0, h1, h2, h3, h4, h5⟩ := h.ex
  refine ⟨cap, cur.setIfInBounds i (.int .i64 x), h0, ?_, h2, h3, by simpa using h4, fun k hk => ?_⟩
  · simp [World.setCell, Array.getElem?_modify, h1]
  · unfold upd
    by_cases e : k = i
    · subst e
      rw [if_pos rfl]
      simp [h4, show k < cap by omega]
    · rw [if_neg e, Array.getElem?_setIfInBounds, if_neg (by omega)]
      exact h5 k hk
theorem Own.fre2 {w : World} {v : Value} {n g : Nat} {d : Nat → Int} (h : Own w v n d g) (i : Nat) : w.frozen? ⟨g, i, none⟩ = false := by
  obtain ⟨cap, cur, h0, h1, _⟩ := h.ex
  simp [World.frozen?, h1]
theorem Own.made2 (w : World) (n : Nat) (hn : n ≤ 1000000) : Own (w.alloc (.cells (zeros n) 2)) (.slice (some ⟨w.heap.size, 0, none⟩) n n) n (fun _ => 0) w.heap.size :=
  ⟨n, zeros n, rfl, heap_alloc_new w _, Nat.le_refl _, by unfold maxLen; omega, by unfold zeros; simp [madeCells], fun k hk => zeros_get n k hk⟩
theorem upd_drw {X : Nat → Prop} {w w' : World} (h : Upd X w w') : Upd X w w'.drew := ⟨h.os, h.tape, h.output, h.size, h.block⟩

/-- the forest's pipes -/
def inFo (n : Nat) (P : Nat → Pip) (m a : Nat) : Prop := a < m ∧ inF n P m (fl (rts n P m) n) a = true
end Go.Proofs.Ytdbgcbkmcbgdiaa.mem

namespace Go.Proofs.Ytdbgcbkmcbgdiaa.mem
open Go.RowKit
set_option linter.unusedVariables false

noncomputable def dpC (n : Nat) (N : Nat → Nod) (m : Nat) (P : Nat → Pip) (a x : Int) : Int := if codeB (netB n N m P) (inR a 0 (m - 1)) = 0 then (if flQ x = true then 0 else 2) else codeB (netB n N m P) (inR a 0 (m - 1))
noncomputable def dpA (n : Nat) (N : Nat → Nod) (m : Nat) (P : Nat → Pip) (a x : Int) : Int := if dpC n N m P a x = 0 then drp (P a.toNat) x else 0
noncomputable def dsN (n : Nat) (N : Nat → Nod) (m : Nat) (P : Nat → Pip) (K : Nat) (d : Nat → Int) : Nat := if flC n N m P K d = 0 then m else 0
/-- may this be a root's level? -/
def rlB (x : Int) : Bool := inR x (-500000000000000000) 500000000000000000
noncomputable def fvC (n : Nat) (N : Nat → Nod) (m : Nat) (P : Nat → Pip) (K : Nat) (d : Nat → Int) (r l : Int) : Int :=
  if flC n N m P K d = 0 then (if (inR r 0 (n - 1) && rlB l) = true then (if conB n N m P = true then 0 else 5) else 2) else flC n N m P K d
noncomputable def fvN (n : Nat) (N : Nat → Nod) (m : Nat) (P : Nat → Pip) (K : Nat) (d : Nat → Int) (r l : Int) : Nat := if fvC n N m P K d r l = 0 then n else 0
noncomputable def gpC (n : Nat) (N : Nat → Nod) (m : Nat) (P : Nat → Pip) (K : Nat) (d : Nat → Int) (a b : Int) : Int :=
  if flC n N m P K d = 0 then (if (inR a 0 (n - 1) && inR b 0 (n - 1)) = true then (if conB n N m P = true then 0 else 5) else 2) else flC n N m P K d
noncomputable def gpA (n : Nat) (N : Nat → Nod) (m : Nat) (P : Nat → Pip) (K : Nat) (d : Nat → Int) (a b : Int) : Int := if gpC n N m P K d a b = 0 then lvl n P m d b 0 a else 0
noncomputable def lwC (n : Nat) (N : Nat → Nod) (m : Nat) (P : Nat → Pip) (K : Nat) (d : Nat → Int) : Int := if flC n N m P K d = 0 then (if conB n N m P = true then 0 else 5) else flC n N m P K d
/-- the first of the least among the elements 0 to k -/
def bst (x : Nat → Int) : Nat → Nat
  | 0 => 0
  | k + 1 => if x (k + 1) < x (bst x k) then k + 1 else bst x k
theorem bst_le (x : Nat → Int) : ∀ k, bst x k ≤ k
  | 0 => Nat.le_refl _
  | k + 1 => by
    have := bst_le x k
    unfold bst
    split <;> omega
theorem bst_min (x : Nat → Int) : ∀ k j, j ≤ k → x (bst x k) ≤ x j
  | 0, j, h => by
    obtain rfl : j = 0 := by omega
    exact Int.le_refl _
  | k + 1, j, h => by
    unfold bst
    rcases Nat.lt_or_ge k j with h1 | h1
    · obtain rfl : j = k + 1 := by omega
      split <;> omega
    · have := bst_min x k j h1
      split <;> omega
theorem bst_first (x : Nat → Int) : ∀ k j, j < bst x k → x (bst x k) < x j
  | 0, j, h => by unfold bst at h; omega
  | k + 1, j, h => by
    unfold bst at h ⊢
    split at h
    · next hc =>
      rw [if_pos hc]
      have := bst_min x k j (by omega)
      omega
    · next hc =>
      rw [if_neg hc]
      exact bst_first x k j h
noncomputable def lwA (n : Nat) (N : Nat → Nod) (m : Nat) (P : Nat → Pip) (K : Nat) (d : Nat → Int) : Int := if lwC n N m P K d = 0 then ((bst (fun j => lvl n P m d 0 0 ((j : Nat) : Int)) (n - 1) : Nat) : Int) else 0
noncomputable def tfC (n : Nat) (N : Nat → Nod) (m : Nat) (P : Nat → Pip) (K : Nat) (d : Nat → Int) : Int := if svC n N m P K d = 0 then (if treeB n N m P = true then ffC n N m P K d else 5) else svC n N m P K d
noncomputable def tfN (n : Nat) (N : Nat → Nod) (m : Nat) (P : Nat → Pip) (K : Nat) (d : Nat → Int) : Nat := if tfC n N m P K d = 0 then m else 0
noncomputable def tlC (n : Nat) (N : Nat → Nod) (m : Nat) (P : Nat → Pip) (K : Nat) (d : Nat → Int) (r l : Int) : Int :=
  if svC n N m P K d = 0 then (if (inR r 0 (n - 1) && rlB l) = true then tfC n N m P K d else 2) else svC n N m P K d
noncomputable def tlN (n : Nat) (N : Nat → Nod) (m : Nat) (P : Nat → Pip) (K : Nat) (d : Nat → Int) (r l : Int) : Nat := if tlC n N m P K d r l = 0 then n else 0
theorem fvN_le (n : Nat) (N : Nat → Nod) (m : Nat) (P : Nat → Pip) (K : Nat) (d : Nat → Int) (r l : Int) (hn : n ≤ 2000000) : fvN n N m P K d r l ≤ 2000000 := by unfold fvN; split <;> omega
theorem dsN_le (n : Nat) (N : Nat → Nod) (m : Nat) (P : Nat → Pip) (K : Nat) (d : Nat → Int) (hm : m ≤ 2000000) : dsN n N m P K d ≤ 2000000 := by unfold dsN; split <;> omega
theorem tfN_le (n : Nat) (N : Nat → Nod) (m : Nat) (P : Nat → Pip) (K : Nat) (d : Nat → Int) (hm : m ≤ 2000000) : tfN n N m P K d ≤ 2000000 := by unfold tfN; split <;> omega
theorem tlN_le (n : Nat) (N : Nat → Nod) (m : Nat) (P : Nat → Pip) (K : Nat) (d : Nat → Int) (r l : Int) (hn : n ≤ 2000000) : tlN n N m P K d r l ≤ 2000000 := by unfold tlN; split <;> omega
theorem conB_one {n : Nat} {N : Nat → Nod} {m : Nat} {P : Nat → Pip} (h : conB n N m P = true) : netB n N m P = true ∧ cnt n P m = 1 := by
  unfold conB at h
  simp only [Bool.and_eq_true, decide_eq_true_eq] at h
  exact h
theorem treeB_con {n : Nat} {N : Nat → Nod} {m : Nat} {P : Nat → Pip} (h : treeB n N m P = true) : conB n N m P = true := by
  unfold treeB at h
  simp only [Bool.and_eq_true, decide_eq_true_eq] at h
  exact h.1
theorem flB_rng {d : Nat → Int} {n : Nat} (h : flB d n = true) : ∀ a, a < n → -30000 ≤ d a ∧ d a ≤ 30000 := fun a ha => flQ_iff.1 (flB_iff.1 h a ha)
theorem lvl_gap (n : Nat) (P : Nat → Pip) (m : Nat) (x : Nat → Int) (a b : Int) : -lvl n P m x a 0 b = lvl n P m x b 0 a := by unfold lvl; omega
end Go.Proofs.Ytdbgcbkmcbgdiaa.mem

namespace Go.Proofs.Ytdbgcbkmcbgdiaa.mem
open Go.RowKit
set_option linter.unusedVariables false

end Go.Proofs.Ytdbgcbkmcbgdiaa.mem

namespace Go.Proofs.Ytdbgcbkmcbgdiaa.mem
open Go.RowKit
set_option linter.unusedVariables false

end Go.Proofs.Ytdbgcbkmcbgdiaa.mem

namespace Go.Proofs.Ytdbgcbkmcbgdiaa.mem
open Go.RowKit
set_option linter.unusedVariables false

end Go.Proofs.Ytdbgcbkmcbgdiaa.mem

namespace Go.Proofs.Ytdbgcbkmcbgdiaa.mem
open Go.RowKit
set_option linter.unusedVariables false

end Go.Proofs.Ytdbgcbkmcbgdiaa.mem
