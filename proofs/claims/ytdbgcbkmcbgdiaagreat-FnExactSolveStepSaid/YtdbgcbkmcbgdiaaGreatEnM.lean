/-
  Several texts in one: Ena, Enb, Enc, End, Enf, Eng, Enh, Eni, Enj, Eno, Enp, Enq, Enr.
-/
import Derived.Test.YtdbgcbkmcbgdiaaGreatRows
import Derived.Test.YtdbgcbkmcbgdiaaGreatTvM
import Derived.Deep.RegionHeld3
import Derived.Deep.MidRow
import Derived.IntWalk
import Derived.Deep.CutRange
namespace Go.Proofs.YtdbgcbkmcbgdiaaGreat.mem
open Go.RowKit
set_option linter.unusedVariables false

/-- a pipe's part of the energy -/
def egT (P : Nat → Pip) (x : Nat → Int) (k : Nat) : Int := (P k).k * ((x k).natAbs : Int) * ((x k).natAbs : Int) * ((x k).natAbs : Int)
/-- the energy of the first pipes -/
def egS (P : Nat → Pip) (x : Nat → Int) : Nat → Int
  | 0 => 0
  | k + 1 => egS P x k + egT P x k
/-- the residual over the first pipes -/
def rsS (P : Nat → Pip) (x y : Nat → Int) : Nat → Int
  | 0 => 0
  | k + 1 => rsS P x y k + drp (P k) (x k) * y k
/-- the residual of a chord, by its place -/
def rsD (n : Nat) (P : Nat → Pip) (m : Nat) (x : Nat → Int) (j : Nat) : Int := rsS P x (cyc P (fE n P m) (fD n P m) (chS n P m j)) m
/-- a pipe's part of the bound -/
def bdT (P : Nat → Pip) (x : Nat → Int) (k : Nat) : Int := (P k).k * (3 * ((x k).natAbs : Int) + 1)
/-- the bound over the first pipes -/
def bdS (P : Nat → Pip) (x y : Nat → Int) : Nat → Int
  | 0 => 0
  | k + 1 => bdS P x y k + (if y k = 0 then 0 else bdT P x k)

theorem egS_congr {P : Nat → Pip} {x y : Nat → Int} : ∀ {n : Nat}, (∀ k, k < n → x k = y k) → egS P x n = egS P y n
  | 0, _ => rfl
  | n + 1, h => by
    unfold egS egT
    rw [egS_congr (fun k hk => h k (by omega)), h n (by omega)]
theorem rsS_congr {P : Nat → Pip} {x y u v : Nat → Int} : ∀ {n : Nat}, (∀ k, k < n → x k = u k) → (∀ k, k < n → y k = v k) → rsS P x y n = rsS P u v n
  | 0, _, _ => rfl
  | n + 1, h, g => by
    unfold rsS
    rw [rsS_congr (fun k hk => h k (by omega)) (fun k hk => g k (by omega)), h n (by omega), g n (by omega)]
theorem bdS_congr {P : Nat → Pip} {x y u v : Nat → Int} : ∀ {n : Nat}, (∀ k, k < n → x k = u k) → (∀ k, k < n → y k = v k) → bdS P x y n = bdS P u v n
  | 0, _, _ => rfl
  | n + 1, h, g => by
    unfold bdS bdT
    rw [bdS_congr (fun k hk => h k (by omega)) (fun k hk => g k (by omega)), h n (by omega), g n (by omega)]

theorem mulc {x b c : Int} (hx : -b ≤ x ∧ x ≤ b) (hc : -1 ≤ c ∧ c ≤ 1) : -b ≤ x * c ∧ x * c ≤ b := by
  rcases (by omega : c = -1 ∨ c = 0 ∨ c = 1) with rfl | rfl | rfl <;> omega
/-- what the pieces of a cube keep within -/
structure EgB (k a : Int) : Prop where
  k0 : 0 ≤ k
  k1 : k ≤ 1000
  a0 : 0 ≤ a
  a1 : a ≤ 30000
theorem EgB.one {k a : Int} (h : EgB k a) : 0 ≤ k * a ∧ k * a ≤ 30000000 := by
  have h1 := Int.mul_le_mul h.k1 h.a1 h.a0 (by omega : (0 : Int) ≤ 1000)
  exact ⟨Int.mul_nonneg h.k0 h.a0, by omega⟩
theorem EgB.two {k a : Int} (h : EgB k a) : 0 ≤ k * a * a ∧ k * a * a ≤ 900000000000 := by
  have h1 := Int.mul_le_mul h.one.2 h.a1 h.a0 (by omega : (0 : Int) ≤ 30000000)
  exact ⟨Int.mul_nonneg h.one.1 h.a0, by omega⟩
theorem EgB.thr {k a : Int} (h : EgB k a) : 0 ≤ k * a * a * a ∧ k * a * a * a ≤ 27000000000000000 := by
  have h1 := Int.mul_le_mul h.two.2 h.a1 h.a0 (by omega : (0 : Int) ≤ 900000000000)
  exact ⟨Int.mul_nonneg h.two.1 h.a0, by omega⟩
theorem egB_of {n : Int} {q : Pip} {x : Int} (hq : pipB n q = true) (h0 : -30000 ≤ x) (h1 : x ≤ 30000) : EgB q.k (x.natAbs : Int) := by
  have hk := pip_k hq
  exact ⟨by omega, by omega, Int.natCast_nonneg _, by omega⟩
theorem egS_bnd {P : Nat → Pip} {x : Nat → Int} : ∀ {k : Nat}, (∀ j, j < k → EgB (P j).k ((x j).natAbs : Int)) → 0 ≤ egS P x k ∧ egS P x k ≤ (k : Int) * 27000000000000000
  | 0, _ => by simp [egS]
  | k + 1, h => by
    have h1 := egS_bnd (k := k) (fun j hj => h j (by omega : j < k + 1))
    have h2 := (h k (by omega)).thr
    unfold egS egT
    omega
theorem rsS_bnd {P : Nat → Pip} {x y : Nat → Int} : ∀ {k : Nat}, (∀ j, j < k → -900000000000 ≤ drp (P j) (x j) ∧ drp (P j) (x j) ≤ 900000000000) → (∀ j, j < k → -1 ≤ y j ∧ y j ≤ 1) → -((k : Int) * 900000000000) ≤ rsS P x y k ∧ rsS P x y k ≤ (k : Int) * 900000000000
  | 0, _, _ => by simp [rsS]
  | k + 1, h, g => by
    have h1 := rsS_bnd (k := k) (fun j hj => h j (by omega : j < k + 1)) (fun j hj => g j (by omega : j < k + 1))
    have h2 := mulc (h k (by omega)) (g k (by omega))
    unfold rsS
    omega
theorem bdT_bnd {P : Nat → Pip} {x : Nat → Int} {k : Nat} (h : EgB (P k).k ((x k).natAbs : Int)) : 0 ≤ bdT P x k ∧ bdT P x k ≤ 90001000 := by
  have h1 := h.one
  have h2 := h.k0
  have h3 := h.k1
  have e : bdT P x k = 3 * ((P k).k * ((x k).natAbs : Int)) + (P k).k := by unfold bdT; grind
  rw [e]
  omega
theorem bdS_bnd {P : Nat → Pip} {x y : Nat → Int} : ∀ {k : Nat}, (∀ j, j < k → EgB (P j).k ((x j).natAbs : Int)) → 0 ≤ bdS P x y k ∧ bdS P x y k ≤ (k : Int) * 90001000
  | 0, _ => by simp [bdS]
  | k + 1, h => by
    have h1 := bdS_bnd (k := k) (y := y) (fun j hj => h j (by omega : j < k + 1))
    have h2 := bdT_bnd (P := P) (x := x) (h k (by omega))
    unfold bdS
    split <;> omega

theorem bdS_abs {P : Nat → Pip} {x y : Nat → Int} {k : Nat} (hy : -1 ≤ y k ∧ y k ≤ 1) : bdS P x y (k + 1) = bdS P x y k + ((y k).natAbs : Int) * (P k).k * (3 * ((x k).natAbs : Int) + 1) := by
  rw [show bdS P x y (k + 1) = bdS P x y k + (if y k = 0 then 0 else bdT P x k) from rfl]
  by_cases h : y k = 0
  · rw [if_pos h, h]
    simp
  · rw [if_neg h, show ((y k).natAbs : Int) = 1 by omega, Int.one_mul]
    rfl
/-! The elements of a chord's cycle are -1, 0 and 1 -/
theorem Fo.asc_sgn {n : Nat} {P : Nat → Pip} {m : Nat} {E D : Int → Int} (h : Fo n P m E D) {y : Int} (hy : 0 ≤ y ∧ y < n) {a : Nat} (ha : a < m) (ey : E y = (a : Int)) {z : Int} (hz : 0 ≤ z ∧ z < n) : asc P E D z a = 0 ∨ asc P E D z a = sgn (P a) y := by
  refine h.ind (Q := fun z => asc P E D z a = 0 ∨ asc P E D z a = sgn (P a) y) (fun z hz e => .inl (h.asc_top e a)) (fun z hz c hc e _ _ ih => ?_) z hz
  rw [h.asc_up hz hc e a]
  by_cases g : a = c
  · subst g
    right
    rw [if_pos rfl, h.asc_own hz hc e, h.uniq hy hz ey e]
    omega
  · rw [if_neg g, Int.zero_add]
    exact ih
theorem Fo.cyc_one {n : Nat} {P : Nat → Pip} {m : Nat} {E D : Int → Int} (h : Fo n P m E D) {c : Nat} (hc : c < m) (hP : pipB n (P c) = true) (hch : ∀ z : Int, 0 ≤ z → z < n → E z ≠ (c : Int)) (a : Nat) : -1 ≤ cyc P E D c a ∧ cyc P E D c a ≤ 1 := by
  obtain ⟨hf, ht, _⟩ := pip_end hP
  by_cases hy : ∃ y : Int, 0 ≤ y ∧ y < n ∧ E y = (a : Int)
  · obtain ⟨y, y0, y1, ey⟩ := hy
    have hne : a ≠ c := fun e => hch y y0 y1 (by rw [ey, e])
    have ham : a < m := by
      rcases h.par y y0 y1 with g | ⟨b, hb, g, _⟩ <;> omega
    have h1 := h.asc_sgn ⟨y0, y1⟩ ham ey ht
    have h2 := h.asc_sgn ⟨y0, y1⟩ ham ey hf
    have h3 := sgn_rng (P a) y
    unfold cyc one1
    rw [if_neg hne]
    omega
  · rw [h.cyc_chord hc (fun z z0 z1 e => hy ⟨z, z0, z1, e⟩)]
    unfold one1
    split <;> omega
theorem cyc_one {n : Nat} {N : Nat → Nod} {P : Nat → Pip} {m : Nat} (hN : netB n N m P = true) {c : Nat} (hc : c < m) (hch : chP n P m c = true) (a : Nat) : -1 ≤ cyc P (fE n P m) (fD n P m) c a ∧ cyc P (fE n P m) (fD n P m) c a ≤ 1 :=
  (fo_net hN).cyc_one hc (net_pip hN hc) (chP_no hN hch) a

/-! What a cycle's adding does to the energy -/
theorem cube_step {a x s : Int} (hs : s = 1 ∨ s = -1) (ha : a = (x.natAbs : Int)) : ((x + s).natAbs : Int) * ((x + s).natAbs : Int) * ((x + s).natAbs : Int) ≤ a * a * a + 3 * (s * (x * a)) + 3 * a + 1 := by
  rcases (by omega : (a = x ∧ ((x + s).natAbs : Int) = a + s) ∨ (a = -x ∧ ((x + s).natAbs : Int) = a - s) ∨ (x = 0 ∧ a = 0 ∧ ((x + s).natAbs : Int) = 1)) with ⟨h1, h2⟩ | ⟨h1, h2⟩ | ⟨h1, h2, h3⟩
  · rw [h2, ← h1]
    rcases hs with rfl | rfl
    · have e : (a + 1) * (a + 1) * (a + 1) = a * a * a + 3 * (1 * (a * a)) + 3 * a + 1 := by grind
      omega
    · have e : (a + -1) * (a + -1) * (a + -1) = a * a * a + 3 * (-1 * (a * a)) + 3 * a - 1 := by grind
      omega
  · have hx : x = -a := by omega
    rw [h2, hx]
    rcases hs with rfl | rfl
    · have e : (a - 1) * (a - 1) * (a - 1) = a * a * a + 3 * (1 * (-a * a)) + 3 * a - 1 := by grind
      omega
    · have e : (a - -1) * (a - -1) * (a - -1) = a * a * a + 3 * (-1 * (-a * a)) + 3 * a + 1 := by grind
      omega
  · rw [h3, h2, h1]
    simp
theorem egT_step {P : Nat → Pip} {x y : Nat → Int} {t : Int} {k : Nat} (hk : 0 ≤ (P k).k) (ht : t = 1 ∨ t = -1) (hy : -1 ≤ y k ∧ y k ≤ 1) :
    egT P (fun j => x j + t * y j) k ≤ egT P x k + 3 * (t * (drp (P k) (x k) * y k)) + (if y k = 0 then 0 else bdT P x k) := by
  unfold egT bdT drp
  dsimp only
  by_cases h0 : y k = 0
  · rw [if_pos h0, h0]
    simp
  · rw [if_neg h0]
    have hs : t * y k = 1 ∨ t * y k = -1 := by
      rcases ht with rfl | rfl <;> omega
    have h1 := cube_step (x := x k) hs rfl
    generalize ((x k + t * y k).natAbs : Int) = b at h1 ⊢
    generalize ((x k).natAbs : Int) = a at h1 ⊢
    have h2 := Int.mul_le_mul_of_nonneg_left h1 hk
    have e1 : (P k).k * b * b * b = (P k).k * (b * b * b) := by grind
    have e2 : (P k).k * a * a * a + 3 * (t * ((P k).k * (x k * a) * y k)) + (P k).k * (3 * a + 1) = (P k).k * (a * a * a + 3 * (t * y k * (x k * a)) + 3 * a + 1) := by grind
    rw [e1, e2]
    exact h2
theorem egS_step {P : Nat → Pip} {x y : Nat → Int} {t : Int} (ht : t = 1 ∨ t = -1) : ∀ {k : Nat}, (∀ j, j < k → 0 ≤ (P j).k) → (∀ j, j < k → -1 ≤ y j ∧ y j ≤ 1) →
    egS P (fun j => x j + t * y j) k ≤ egS P x k + 3 * (t * rsS P x y k) + bdS P x y k
  | 0, _, _ => by simp [egS, rsS, bdS]
  | k + 1, h, g => by
    have h1 := egS_step (k := k) (x := x) ht (fun j hj => h j (by omega : j < k + 1)) (fun j hj => g j (by omega : j < k + 1))
    have h2 := egT_step (x := x) (h k (by omega)) ht (g k (by omega))
    unfold egS rsS bdS
    rw [Int.mul_add]
    omega
/-- where neither adding nor subtracting a cycle lowers the energy, three times its residual is at most its bound -/
theorem res_bound {P : Nat → Pip} {x y : Nat → Int} {k : Nat} (h : ∀ j, j < k → 0 ≤ (P j).k) (g : ∀ j, j < k → -1 ≤ y j ∧ y j ≤ 1)
    (hp : egS P x k ≤ egS P (fun j => x j + 1 * y j) k) (hm : egS P x k ≤ egS P (fun j => x j + -1 * y j) k) : 3 * ((rsS P x y k).natAbs : Int) ≤ bdS P x y k := by
  have h1 := egS_step (x := x) (.inl rfl) h g
  have h2 := egS_step (x := x) (.inr rfl) h g
  omega
theorem egS_neg {P : Nat → Pip} {x : Nat → Int} : ∀ k, egS P (fun j => -x j) k = egS P x k
  | 0 => rfl
  | k + 1 => by
    unfold egS egT
    dsimp only
    rw [egS_neg k, Int.natAbs_neg]

/-- does a multiple of a cycle lower the energy, as arrays? -/
def loA (m : Nat) (P : Nat → Pip) (x y : Nat → Int) (t : Int) : Bool := flB (fun k => x k + y k * t) 40 && decide (egS P (fun k => x k + y k * t) m < egS P x m)
/-- does a multiple of a cycle lower the energy? -/
def loB (m : Nat) (P : Nat → Pip) (x y : Nat → Int) (t : Int) : Bool := flB (fun k => x k + t * y k) m && decide (egS P (fun k => x k + t * y k) m < egS P x m)
/-- does no cycle of the first chords, added or subtracted, lower the energy, as arrays? -/
noncomputable def rxA (n : Nat) (m : Nat) (P : Nat → Pip) (x : Nat → Int) : Nat → Bool
  | 0 => true
  | j + 1 => rxA n m P x j && !(loA m P x (cyc P (fE n P m) (fD n P m) (chS n P m j)) 1 || loA m P x (cyc P (fE n P m) (fD n P m) (chS n P m j)) (-1))
theorem rxA_no {n m : Nat} {P : Nat → Pip} {x : Nat → Int} {j : Nat} (h : (loA m P x (cyc P (fE n P m) (fD n P m) (chS n P m j)) 1 || loA m P x (cyc P (fE n P m) (fD n P m) (chS n P m j)) (-1)) = true) : ∀ {k : Nat}, j < k → rxA n m P x k = false
  | 0, hk => by omega
  | k + 1, hk => by
    unfold rxA
    by_cases e : j = k
    · subst e; rw [h, Bool.not_true, Bool.and_false]
    · rw [rxA_no h (by omega : j < k), Bool.false_and]
/-- does no cycle of the first chords, added or subtracted, lower the energy? -/
noncomputable def rxB (n : Nat) (m : Nat) (P : Nat → Pip) (x : Nat → Int) : Nat → Bool
  | 0 => true
  | j + 1 => rxB n m P x j && !(loB m P x (cyc P (fE n P m) (fD n P m) (chS n P m j)) 1 || loB m P x (cyc P (fE n P m) (fD n P m) (chS n P m j)) (-1))
theorem rxB_no {n m : Nat} {P : Nat → Pip} {x : Nat → Int} {j : Nat} (h : (loB m P x (cyc P (fE n P m) (fD n P m) (chS n P m j)) 1 || loB m P x (cyc P (fE n P m) (fD n P m) (chS n P m j)) (-1)) = true) : ∀ {k : Nat}, j < k → rxB n m P x k = false
  | 0, hk => by omega
  | k + 1, hk => by
    unfold rxB
    by_cases e : j = k
    · subst e; rw [h, Bool.not_true, Bool.and_false]
    · rw [rxB_no h (by omega : j < k), Bool.false_and]
theorem rxB_yes {n m : Nat} {P : Nat → Pip} {x : Nat → Int} : ∀ {k : Nat}, rxB n m P x k = true → ∀ j, j < k → loB m P x (cyc P (fE n P m) (fD n P m) (chS n P m j)) 1 = false ∧ loB m P x (cyc P (fE n P m) (fD n P m) (chS n P m j)) (-1) = false
  | 0, _, j, hj => by omega
  | k + 1, h, j, hj => by
    unfold rxB at h
    rw [Bool.and_eq_true] at h
    by_cases e : j = k
    · subst e
      have := h.2
      rw [Bool.not_eq_true', Bool.or_eq_false_iff] at this
      exact this
    · exact rxB_yes h.1 j (by omega)

/-- the first of the greatest numbers without sign -/
def wsI (r : Nat → Int) : Nat → Nat
  | 0 => 0
  | k + 1 => if (r (wsI r k)).natAbs < (r k).natAbs then k else wsI r k
theorem wsI_lt (r : Nat → Int) : ∀ k, 0 < k → wsI r k < k
  | 0, h => by omega
  | k + 1, _ => by
    unfold wsI
    split
    · omega
    · rcases Nat.eq_zero_or_pos k with e | e
      · subst e; unfold wsI; omega
      · have := wsI_lt r k e
        omega
theorem wsI_max (r : Nat → Int) : ∀ k j, j < k → (r j).natAbs ≤ (r (wsI r k)).natAbs
  | 0, j, h => by omega
  | k + 1, j, h => by
    unfold wsI
    split
    · next g =>
      by_cases e : j = k
      · subst e; omega
      · have := wsI_max r k j (by omega)
        omega
    · next g =>
      by_cases e : j = k
      · subst e; omega
      · exact wsI_max r k j (by omega)
theorem wsI_one (r : Nat → Int) : wsI r 1 = 0 := by
  unfold wsI wsI
  simp

theorem ownS_shE {w : World} {v : Value} {n z b : Nat} {c : Nat → Nat → Value} (h : OwnS w v n z c b) : ∃ p cap, v = .slice p n cap := by
  obtain ⟨p, cap, h1, _⟩ := h.ex
  exact ⟨p, cap, h1⟩
theorem own_rowE {w : World} {p : Option Addr} {n c g : Nat} {x : Nat → Int} (h : OwnS w (.slice p n c) n 1 (fun i _ => .int .i64 (x i)) g) (hn : 0 < n) : p = some ⟨g, 0, none⟩ ∧ g < w.heap.size ∧ n ≤ c ∧ ∀ k, k < n → w.cell? ⟨g, k, none⟩ = some (.int .i64 (x k)) := by
  obtain ⟨p', cap, hv, h1, h2, h3⟩ := h.ex
  injection hv with e1 _ e3
  subst e1
  rcases h3 with h3 | ⟨h3, h4⟩
  · omega
  · refine ⟨h3, h4.lt, by omega, fun k hk => ?_⟩
    have := h4.cell k 0 hk (by omega)
    simpa using this
/-! What the exported functions answer -/
theorem pad_at {m : Nat} {d : Nat → Int} {k : Nat} (h : k < m) : pad m d k = d k := by unfold pad; rw [if_pos h]
theorem pad_rng {m : Nat} {d : Nat → Int} (h : ∀ k, k < m → -30000 ≤ d k ∧ d k ≤ 30000) (k : Nat) : -30000 ≤ pad m d k ∧ pad m d k ≤ 30000 := by
  unfold pad
  split
  · next g => exact h k g
  · omega
noncomputable def eoV (n : Nat) (N : Nat → Nod) (m : Nat) (P : Nat → Pip) (K : Nat) (d : Nat → Int) : Int := if flC n N m P K d = 0 then egS P d m else 0
noncomputable def ecC (n : Nat) (N : Nat → Nod) (m : Nat) (P : Nat → Pip) (K : Nat) (d : Nat → Int) (x y : Int) : Int := if ckC n N m P K d x = 0 then (if flQ y = true then (if flB (adD n P m d x y) m = true then 0 else 5) else 2) else ckC n N m P K d x
noncomputable def ecV (n : Nat) (N : Nat → Nod) (m : Nat) (P : Nat → Pip) (K : Nat) (d : Nat → Int) (x y : Int) : Int := if ecC n N m P K d x y = 0 then egS P (adD n P m d x y) m - egS P d m else 0
noncomputable def rsV (n : Nat) (N : Nat → Nod) (m : Nat) (P : Nat → Pip) (K : Nat) (d : Nat → Int) (x : Int) : Int := if ckC n N m P K d x = 0 then rsS P d (cyD n P m x) m else 0
noncomputable def bdV (n : Nat) (N : Nat → Nod) (m : Nat) (P : Nat → Pip) (K : Nat) (d : Nat → Int) (x : Int) : Int := if ckC n N m P K d x = 0 then bdS P d (cyD n P m x) m else 0
noncomputable def ixB (n : Nat) (N : Nat → Nod) (m : Nat) (P : Nat → Pip) (K : Nat) (d : Nat → Int) : Bool := decide (flC n N m P K d = 0) && rxB n m P d (chN n P m)
noncomputable def woC (n : Nat) (N : Nat → Nod) (m : Nat) (P : Nat → Pip) (K : Nat) (d : Nat → Int) : Int := if flC n N m P K d = 0 then (if chN n P m = 0 then 4 else 0) else flC n N m P K d
noncomputable def woV (n : Nat) (N : Nat → Nod) (m : Nat) (P : Nat → Pip) (K : Nat) (d : Nat → Int) : Int := if woC n N m P K d = 0 then ((chS n P m (wsI (rsD n P m d) (chN n P m)) : Nat) : Int) else 0
theorem rsD_pad {n : Nat} {P : Nat → Pip} {m : Nat} {d : Nat → Int} (j : Nat) : rsD n P m (pad m d) j = rsD n P m d j := rsS_congr (fun k hk => pad_at hk) (fun _ _ => rfl)
theorem ad_pad {n : Nat} {P : Nat → Pip} {m : Nat} {d : Nat → Int} {c : Nat} {y : Int} {k : Nat} (hk : k < m) : pad m d k + cyc P (fE n P m) (fD n P m) c k * y = adD n P m d (c : Int) y k := by
  unfold adD cyD
  rw [pad_at hk, Int.toNat_natCast, Int.mul_comm]
theorem ad_flB {n : Nat} {N : Nat → Nod} {P : Nat → Pip} {m : Nat} (hN : netB n N m P = true) {d : Nat → Int} {c : Nat} {y : Int} (hc : c < m) : flB (fun k => pad m d k + cyc P (fE n P m) (fD n P m) c k * y) 40 = flB (adD n P m d (c : Int) y) m := by
  have hm40 := (net_sz hN).2.2
  rw [flB_ext hm40 (fun k hk => by rw [cyc_off hN hc hk, Int.zero_mul]; unfold pad; rw [if_neg (by omega)]; rfl)]
  exact flB_congr fun k hk => ad_pad hk
theorem loA_pad {n : Nat} {N : Nat → Nod} {P : Nat → Pip} {m : Nat} (hN : netB n N m P = true) {d : Nat → Int} {c : Nat} {t : Int} (hc : c < m) : loA m P (pad m d) (cyc P (fE n P m) (fD n P m) c) t = loB m P d (cyc P (fE n P m) (fD n P m) c) t := by
  unfold loA loB
  rw [ad_flB hN hc, egS_congr (x := fun k => pad m d k + cyc P (fE n P m) (fD n P m) c k * t) (y := adD n P m d (c : Int) t) (fun k hk => ad_pad hk), egS_congr (x := pad m d) (y := d) (fun k hk => pad_at hk)]
  have e : adD n P m d (c : Int) t = fun k => d k + t * cyc P (fE n P m) (fD n P m) c k := by
    funext k
    unfold adD cyD
    rw [Int.toNat_natCast]
  rw [e]
theorem rxA_pad {n : Nat} {N : Nat → Nod} {P : Nat → Pip} {m : Nat} (hN : netB n N m P = true) {d : Nat → Int} : ∀ {k : Nat}, k ≤ chN n P m → rxA n m P (pad m d) k = rxB n m P d k
  | 0, _ => rfl
  | k + 1, h => by
    have hc := (chS_at (n := n) (P := P) (m := m) (j := k) (by omega)).1
    unfold rxA rxB
    rw [rxA_pad hN (by omega : k ≤ chN n P m), loA_pad hN hc, loA_pad hN hc]
theorem wsI_congr {r s : Nat → Int} : ∀ {k : Nat}, (∀ j, j < k → r j = s j) → wsI r k = wsI s k
  | 0, _ => rfl
  | k + 1, h => by
    have h1 := wsI_congr (k := k) (fun j hj => h j (by omega))
    unfold wsI
    rw [h1, h k (by omega)]
    rcases Nat.eq_zero_or_pos k with e | e
    · subst e
      unfold wsI
      simp
    · rw [h _ (by have := wsI_lt s k e; omega)]
end Go.Proofs.YtdbgcbkmcbgdiaaGreat.mem

namespace Go.Proofs.YtdbgcbkmcbgdiaaGreat.mem
open Go.RowKit
set_option linter.unusedVariables false

/-- the cells of a network with flows -/
def nfc (s0 s1 : Value) (x : Nat → Int) (k : Nat) : Value := if k = 0 then s0 else if k = 1 then s1 else ia x (k - 2)
def nfL (s0 s1 : Value) (x : Nat → Int) : List Value := s0 :: s1 :: arrL x
theorem nfL_len (s0 s1 : Value) (x : Nat → Int) : (nfL s0 s1 x).length = 42 := by unfold nfL; rw [List.length_cons, List.length_cons, arr_len]
theorem nfL_get (s0 s1 : Value) (x : Nat → Int) (k : Nat) (hk : k < 42) : (nfL s0 s1 x)[k]? = some (nfc s0 s1 x k) := by
  unfold nfL nfc
  match k, hk with
  | 0, _ => rfl
  | 1, _ => rfl
  | k + 2, hk =>
    rw [List.getElem?_cons_succ, List.getElem?_cons_succ, arrL_get x k (by omega), if_neg (by omega), if_neg (by omega)]
    rfl
theorem nfL_one {s0 s1 : Value} (h0 : s0.oneCell' = true) (h1 : s1.oneCell' = true) (x : Nat → Int) : ∀ v ∈ nfL s0 s1 x, v.oneCell' = true := fun v hv => by
  unfold nfL at hv
  rcases List.mem_cons.1 hv with rfl | hv
  · exact h0
  rcases List.mem_cons.1 hv with rfl | hv
  · exact h1
  exact arr_oneL x v hv
theorem nfL_eq {cur : List Value} {s0 s1 : Value} {x : Nat → Int} (h1 : cur.length = 42) (h2 : ∀ k, k < 42 → cur[k]? = some (nfc s0 s1 x k)) : cur = nfL s0 s1 x := by
  apply List.ext_getElem?
  intro k
  by_cases h : k < 42
  · rw [h2 k h, nfL_get s0 s1 x k h]
  · rw [List.getElem?_eq_none (by omega), List.getElem?_eq_none (by rw [nfL_len]; omega)]
theorem nf_info : (Tryz.prog.info? 115).map (·.size) = some 42 := by kernel_rfl
theorem Ob.nrow {w : World} {b : Nat} {s0 s1 : Value} {x : Nat → Int} (h : Ob w b 42 (nfc s0 s1 x)) : ∃ t, w.heap[b]? = some (.cells (nfL s0 s1 x).toArray t (0, 0)) := by
  obtain ⟨cur, t, h1, h2, h3⟩ := h.ex
  have e : cur.toList = nfL s0 s1 x := nfL_eq (by rw [Array.length_toList, h2]) (fun k hk => by rw [Array.getElem?_toList]; exact h3 k hk)
  rw [← e, Array.toArray_toList]
  exact ⟨t, h1⟩
theorem Ob.newN (w : World) (s0 s1 : Value) (x : Nat → Int) (t : TypeId) : Ob (w.alloc (.cells (nfL s0 s1 x).toArray t)) w.heap.size 42 (nfc s0 s1 x) := Ob.new w _ t 42 _ (by rw [List.size_toArray, nfL_len]) (fun k hk => by rw [List.getElem?_toArray]; exact nfL_get s0 s1 x k hk)
theorem Ob.n0 {w : World} {b : Nat} {s0 s1 : Value} {x : Nat → Int} (h : Ob w b 42 (nfc s0 s1 x)) : w.cell? ⟨b, 0, none⟩ = some s0 := h.cell 0 (by omega)
theorem Ob.n1 {w : World} {b : Nat} {s0 s1 : Value} {x : Nat → Int} (h : Ob w b 42 (nfc s0 s1 x)) : w.cell? ⟨b, 1, none⟩ = some s1 := h.cell 1 (by omega)
theorem Ob.nx {w : World} {b : Nat} {s0 s1 : Value} {x : Nat → Int} (h : Ob w b 42 (nfc s0 s1 x)) (k : Nat) (hk : k < 40) : w.cell? ⟨b, 2 + k, none⟩ = some (.int .i64 (x k)) := by
  have := h.cell (2 + k) (by omega)
  unfold nfc at this
  rw [if_neg (by omega), if_neg (by omega), show 2 + k - 2 = k by omega] at this
  exact this
theorem Ob.nrange {w : World} {b : Nat} {s0 s1 : Value} {x : Nat → Int} (h : Ob w b 42 (nfc s0 s1 x)) : w.rangeAt b 2 (arrL x) := by
  intro j v hv
  have hj : j < 40 := by have := get_lt hv; rw [arr_len] at this; exact this
  rw [arrL_get x j hj] at hv
  injection hv with hv
  rw [h.nx j hj, ← hv]
  rfl
theorem Ob.nall {w : World} {b : Nat} {s0 s1 : Value} {x : Nat → Int} (h : Ob w b 42 (nfc s0 s1 x)) : w.rangeAt b 0 (nfL s0 s1 x) := by
  intro j v hv
  have hj : j < 42 := by have := get_lt hv; rw [nfL_len] at this; exact this
  rw [nfL_get s0 s1 x j hj] at hv
  injection hv with hv
  rw [Nat.zero_add, h.cell j hj, hv]
theorem Ob.nthere {w : World} {b : Nat} {d : Nat → Value} (h : Ob w b 42 d) : w.there b 2 40 := fun j hj => by
  exact ⟨by rw [h.cell (2 + j) (by omega)]; rfl, h.free (2 + j)⟩
theorem Ob.nset {w : World} {b : Nat} {s0 s1 : Value} {x : Nat → Int} (h : Ob w b 42 (nfc s0 s1 x)) (y : Nat → Int) : Ob (w.setCells b 2 (arrL y)) b 42 (nfc s0 s1 y) := by
  refine (h.setCs (arrL y) 2 (by rw [arr_len]; omega)).congr fun k hk => ?_
  unfold nfc
  by_cases g : 2 ≤ k
  · rw [if_pos g, arrL_get y (k - 2) (by omega), Option.getD_some, if_neg (by omega), if_neg (by omega)]
  · rw [if_neg g, Option.getD_none]
    by_cases e : k = 0
    · rw [if_pos e, if_pos e]
    · rw [if_neg e, if_neg e, if_pos (by omega), if_pos (by omega)]
theorem Ob.nput {w : World} {b : Nat} {d : Nat → Value} (h : Ob w b 42 d) (s0 s1 : Value) (y : Nat → Int) : Ob (w.setCells b 0 (nfL s0 s1 y)) b 42 (nfc s0 s1 y) := by
  refine (h.setCs (nfL s0 s1 y) 0 (by rw [nfL_len]; omega)).congr fun k hk => ?_
  rw [if_pos (Nat.zero_le k), Nat.sub_zero, nfL_get s0 s1 y k hk]
  rfl
theorem Ob.nsl {w : World} {b : Nat} {s0 s1 : Value} {x : Nat → Int} (h : Ob w b 42 (nfc s0 s1 x)) : Sl w (.slice (some ⟨b, 2, none⟩) 40 40) 40 x b (b + 1) :=
  ⟨some ⟨b, 2, none⟩, 40, rfl, .inr ⟨b, 2, rfl, Nat.le_refl _, by omega, fun k hk => h.nx k hk⟩⟩
theorem nf_built (s0 s1 : Value) (x : Nat → Int) : Tryz.prog.built 115 [(0, .agg #[s0, s1]), (1, .agg (arrL x).toArray)] = some (nfL s0 s1 x).toArray := by kernel_rfl
theorem zeros42 (k : Nat) (hk : k < 42) : (#[Value.slice none 0 0, Value.slice none 0 0, Value.int IntKind.i64 0, Value.int IntKind.i64 0, Value.int IntKind.i64 0, Value.int IntKind.i64 0, Value.int IntKind.i64 0, Value.int IntKind.i64 0, Value.int IntKind.i64 0, Value.int IntKind.i64 0, Value.int IntKind.i64 0, Value.int IntKind.i64 0, Value.int IntKind.i64 0, Value.int IntKind.i64 0, Value.int IntKind.i64 0, Value.int IntKind.i64 0, Value.int IntKind.i64 0, Value.int IntKind.i64 0, Value.int IntKind.i64 0, Value.int IntKind.i64 0, Value.int IntKind.i64 0, Value.int IntKind.i64 0, Value.int IntKind.i64 0, Value.int IntKind.i64 0, Value.int IntKind.i64 0, Value.int IntKind.i64 0, Value.int IntKind.i64 0, Value.int IntKind.i64 0, Value.int IntKind.i64 0, Value.int IntKind.i64 0, Value.int IntKind.i64 0, Value.int IntKind.i64 0, Value.int IntKind.i64 0, Value.int IntKind.i64 0, Value.int IntKind.i64 0, Value.int IntKind.i64 0, Value.int IntKind.i64 0, Value.int IntKind.i64 0, Value.int IntKind.i64 0, Value.int IntKind.i64 0, Value.int IntKind.i64 0, Value.int IntKind.i64 0] : Array Value)[k]? = some (nfc (.slice none 0 0) (.slice none 0 0) (fun _ => 0) k) := by
  rcases (by omega : k = 0 ∨ k = 1 ∨ k = 2 ∨ k = 3 ∨ k = 4 ∨ k = 5 ∨ k = 6 ∨ k = 7 ∨ k = 8 ∨ k = 9 ∨ k = 10 ∨ k = 11 ∨ k = 12 ∨ k = 13 ∨ k = 14 ∨ k = 15 ∨ k = 16 ∨ k = 17 ∨ k = 18 ∨ k = 19 ∨ k = 20 ∨ k = 21 ∨ k = 22 ∨ k = 23 ∨ k = 24 ∨ k = 25 ∨ k = 26 ∨ k = 27 ∨ k = 28 ∨ k = 29 ∨ k = 30 ∨ k = 31 ∨ k = 32 ∨ k = 33 ∨ k = 34 ∨ k = 35 ∨ k = 36 ∨ k = 37 ∨ k = 38 ∨ k = 39 ∨ k = 40 ∨ k = 41) with rfl | rfl | rfl | rfl | rfl | rfl | rfl | rfl | rfl | rfl | rfl | rfl | rfl | rfl | rfl | rfl | rfl | rfl | rfl | rfl | rfl | rfl | rfl | rfl | rfl | rfl | rfl | rfl | rfl | rfl | rfl | rfl | rfl | rfl | rfl | rfl | rfl | rfl | rfl | rfl | rfl | rfl <;> rfl
theorem Ob.newZ (w : World) (t : TypeId) : Ob (w.alloc (.cells #[Value.slice none 0 0, Value.slice none 0 0, Value.int IntKind.i64 0, Value.int IntKind.i64 0, Value.int IntKind.i64 0, Value.int IntKind.i64 0, Value.int IntKind.i64 0, Value.int IntKind.i64 0, Value.int IntKind.i64 0, Value.int IntKind.i64 0, Value.int IntKind.i64 0, Value.int IntKind.i64 0, Value.int IntKind.i64 0, Value.int IntKind.i64 0, Value.int IntKind.i64 0, Value.int IntKind.i64 0, Value.int IntKind.i64 0, Value.int IntKind.i64 0, Value.int IntKind.i64 0, Value.int IntKind.i64 0, Value.int IntKind.i64 0, Value.int IntKind.i64 0, Value.int IntKind.i64 0, Value.int IntKind.i64 0, Value.int IntKind.i64 0, Value.int IntKind.i64 0, Value.int IntKind.i64 0, Value.int IntKind.i64 0, Value.int IntKind.i64 0, Value.int IntKind.i64 0, Value.int IntKind.i64 0, Value.int IntKind.i64 0, Value.int IntKind.i64 0, Value.int IntKind.i64 0, Value.int IntKind.i64 0, Value.int IntKind.i64 0, Value.int IntKind.i64 0, Value.int IntKind.i64 0, Value.int IntKind.i64 0, Value.int IntKind.i64 0, Value.int IntKind.i64 0, Value.int IntKind.i64 0] t)) w.heap.size 42 (nfc (.slice none 0 0) (.slice none 0 0) (fun _ => 0)) := Ob.new w _ t 42 _ rfl (fun k hk => zeros42 k hk)
theorem results_nf {fn : Func} {p : Tmp} {tmps : Array Value} {w : World} {b : Nat} {s0 s1 : Value} {x : Nat → Int} (h : fn.results = #[.cell p 115]) (hp : tmps.getD p undef = .pointer (some ⟨b, 0, none⟩)) (ho : Ob w b 42 (nfc s0 s1 x)) : (results fn tmps).run Tryz.prog w = .ok (.agg (nfL s0 s1 x).toArray) w := by
  obtain ⟨t, h1⟩ := ho.nrow
  exact results_cell_row h tmps w b t _ (0, 0) _ hp h1 Tryz.underlying115 rfl (by rw [List.size_toArray, nfL_len]; exact nf_info)
theorem yieldsIf_build {P : Program} {ops : Array Oper} {S : World → Prop} {op : Oper} {a : Act} (hw : Region.wanted op (yielded ops a.tmps) = true) (t : TypeId) (parts : Array (Nat × Operand)) (ho : op.op = .build t parts) (cells : Array Value) (hb : P.built t (parts.map fun (i, x) => (i, a.eval x)).toList = some cells) : YieldsIf P ops S op (.agg cells) a :=
  .inl ⟨hw, fun w _ => by
    unfold execOp
    simp only [ho, Sem.run_bind, run_build w t _ cells hb, Result.andThen_ok]
    rfl⟩
theorem nthe0 {o0 : Oper} {l : List Oper} : (List.toArray (o0 :: l))[0]? = some o0 := rfl
theorem nthe1 {o0 o1 : Oper} {l : List Oper} : (List.toArray (o0 :: o1 :: l))[1]? = some o1 := rfl
theorem nthe2 {o0 o1 o2 : Oper} {l : List Oper} : (List.toArray (o0 :: o1 :: o2 :: l))[2]? = some o2 := rfl
theorem nthe3 {o0 o1 o2 o3 : Oper} {l : List Oper} : (List.toArray (o0 :: o1 :: o2 :: o3 :: l))[3]? = some o3 := rfl
theorem nthe4 {o0 o1 o2 o3 o4 : Oper} {l : List Oper} : (List.toArray (o0 :: o1 :: o2 :: o3 :: o4 :: l))[4]? = some o4 := rfl
theorem nthe5 {o0 o1 o2 o3 o4 o5 : Oper} {l : List Oper} : (List.toArray (o0 :: o1 :: o2 :: o3 :: o4 :: o5 :: l))[5]? = some o5 := rfl
theorem nthe6 {o0 o1 o2 o3 o4 o5 o6 : Oper} {l : List Oper} : (List.toArray (o0 :: o1 :: o2 :: o3 :: o4 :: o5 :: o6 :: l))[6]? = some o6 := rfl
theorem nthe7 {o0 o1 o2 o3 o4 o5 o6 o7 : Oper} {l : List Oper} : (List.toArray (o0 :: o1 :: o2 :: o3 :: o4 :: o5 :: o6 :: o7 :: l))[7]? = some o7 := rfl
theorem nthe8 {o0 o1 o2 o3 o4 o5 o6 o7 o8 : Oper} {l : List Oper} : (List.toArray (o0 :: o1 :: o2 :: o3 :: o4 :: o5 :: o6 :: o7 :: o8 :: l))[8]? = some o8 := rfl
theorem nthe9 {o0 o1 o2 o3 o4 o5 o6 o7 o8 o9 : Oper} {l : List Oper} : (List.toArray (o0 :: o1 :: o2 :: o3 :: o4 :: o5 :: o6 :: o7 :: o8 :: o9 :: l))[9]? = some o9 := rfl
theorem nthe10 {o0 o1 o2 o3 o4 o5 o6 o7 o8 o9 o10 : Oper} {l : List Oper} : (List.toArray (o0 :: o1 :: o2 :: o3 :: o4 :: o5 :: o6 :: o7 :: o8 :: o9 :: o10 :: l))[10]? = some o10 := rfl
theorem nthe11 {o0 o1 o2 o3 o4 o5 o6 o7 o8 o9 o10 o11 : Oper} {l : List Oper} : (List.toArray (o0 :: o1 :: o2 :: o3 :: o4 :: o5 :: o6 :: o7 :: o8 :: o9 :: o10 :: o11 :: l))[11]? = some o11 := rfl
theorem nthe12 {o0 o1 o2 o3 o4 o5 o6 o7 o8 o9 o10 o11 o12 : Oper} {l : List Oper} : (List.toArray (o0 :: o1 :: o2 :: o3 :: o4 :: o5 :: o6 :: o7 :: o8 :: o9 :: o10 :: o11 :: o12 :: l))[12]? = some o12 := rfl
theorem nthe13 {o0 o1 o2 o3 o4 o5 o6 o7 o8 o9 o10 o11 o12 o13 : Oper} {l : List Oper} : (List.toArray (o0 :: o1 :: o2 :: o3 :: o4 :: o5 :: o6 :: o7 :: o8 :: o9 :: o10 :: o11 :: o12 :: o13 :: l))[13]? = some o13 := rfl
theorem nthe14 {o0 o1 o2 o3 o4 o5 o6 o7 o8 o9 o10 o11 o12 o13 o14 : Oper} {l : List Oper} : (List.toArray (o0 :: o1 :: o2 :: o3 :: o4 :: o5 :: o6 :: o7 :: o8 :: o9 :: o10 :: o11 :: o12 :: o13 :: o14 :: l))[14]? = some o14 := rfl
theorem nthe15 {o0 o1 o2 o3 o4 o5 o6 o7 o8 o9 o10 o11 o12 o13 o14 o15 : Oper} {l : List Oper} : (List.toArray (o0 :: o1 :: o2 :: o3 :: o4 :: o5 :: o6 :: o7 :: o8 :: o9 :: o10 :: o11 :: o12 :: o13 :: o14 :: o15 :: l))[15]? = some o15 := rfl
theorem wpList_load_midG {P : Program} {ops : Array Oper} {rest : List Oper} {op : Oper} {a : Act} {w : World} {Q : Exit → Act → World → Prop} (hw : Region.wanted op (yielded ops a.tmps) = true) (ty : TypeId) (x : Operand) (ho : op.op = .load ty x)
    (b o : Nat) (hx : a.eval x = .pointer (some ⟨b, o, none⟩)) (cs : List Value) (d : TypeDesc) (hc : w.rangeAt b o cs)
    (hu : P.underlying ty = some d) (hd : d.isRow = true) (hi : (P.info? ty).map (·.size) = some cs.length)
    (h : wpList P ops Q rest (a.put op.dst (.agg cs.toArray)) w) : wpList P ops Q (op :: rest) a w := by
  rw [wpList, if_pos hw]
  exact .inl (wp_load_mid ty x ho b o hx cs d hc hu hd hi h)
theorem range2 {w : World} {b : Nat} {s0 s1 : Value} (h0 : w.cell? ⟨b, 0, none⟩ = some s0) (h1 : w.cell? ⟨b, 1, none⟩ = some s1) : w.rangeAt b 0 [s0, s1] := by
  intro j v hv
  match j, hv with
  | 0, hv => injection hv with hv; rw [← hv]; exact h0
  | 1, hv => injection hv with hv; rw [← hv]; exact h1
theorem nf_one {p0 p1 : Option Addr} {n m c0 c1 : Nat} {x : Nat → Int} : ∀ v ∈ nfL (.slice p0 n c0) (.slice p1 m c1) x, v.oneCell' = true := nfL_one rfl rfl x
theorem there_blockN {w w' : World} {b o N : Nat} (h : w.there b o N) (e : w'.heap[b]? = w.heap[b]?) : w'.there b o N := fun j hj => by
  have := h j hj
  rw [World.cell?_of_block (a := ⟨b, o + j, none⟩) e, World.frozen?_of_block (a := ⟨b, o + j, none⟩) e]
  exact this
theorem range_blockN {w w' : World} {b o : Nat} {cs : List Value} (h : w.rangeAt b o cs) (e : w'.heap[b]? = w.heap[b]?) : w'.rangeAt b o cs := fun j v hv => by
  rw [World.cell?_of_block (a := ⟨b, o + j, none⟩) e]
  exact h j v hv
set_option maxRecDepth 100000 in
set_option maxHeartbeats 8000000 in
theorem energy_any (w : World) (p0 p1 : Option Addr) (c0 c1 : Nat) (n : Nat) (N : Nat → Nod) (m : Nat) (P : Nat → Pip) (lo hi : Nat) (h : NetAt w (.agg #[.slice p0 n c0, .slice p1 m c1]) n N m P lo hi) (hhi : hi ≤ w.heap.size) (hB : netB n N m P = true) (x : Nat → Int) (hx : ∀ k, k < m → -30000 ≤ x k ∧ x k ≤ 30000) :
    Calls Tryz.prog 180 #[.agg (nfL (.slice p0 n c0) (.slice p1 m c1) x).toArray] w fun e w' => e = .returned (.int .i64 (egS P x m)) ∧ Below w.heap.size w w' := by
  obtain ⟨hn1, hn24, hm40⟩ := net_sz hB
  have HV := Lib.hid h
  have HE := Lib.hid (show ∀ k, k < m → EgB (P k).k ((x k).natAbs : Int) from fun k hk => egB_of (net_pip hB hk) (hx k hk).1 (hx k hk).2)
  have HX := Lib.hid hx
  have A0 := Ob.newN w (.slice p0 n c0) (.slice p1 m c1) x 115
  have B0 := below_new w (.cells (nfL (.slice p0 n c0) (.slice p1 m c1) x).toArray 115)
  have hs0 : (w.alloc (.cells (nfL (.slice p0 n c0) (.slice p1 m c1) x).toArray 115)).heap.size = w.heap.size + 1 := by simp
  have e1 := A0.n1
  clear h hB hx
  go_enter Tryz.func180, Tryz.ntmps180
  go_wp2_with fail
  obtain ⟨w1, hw1⟩ : ∃ w1, w.alloc (.cells (nfL (.slice p0 n c0) (.slice p1 m c1) x).toArray 115) = w1 := ⟨_, rfl⟩
  rw [hw1] at A0 B0 hs0 e1 ⊢
  have HA := Lib.hid A0
  have HB := Lib.hid B0
  clear hw1 A0 B0 e1
  go_loopw [3, 11] (fun sv iv wr => ∃ k : Nat, sv = .int .i64 (egS P x k) ∧ iv = .int .i64 k ∧ k ≤ m ∧ w1.heap.size ≤ wr.heap.size ∧ Below w1.heap.size w1 wr) (fun _ iv _ => m - (intOf iv).toNat)
  case atStart => exact ⟨0, rfl, rfl, Nat.zero_le _, Nat.le_refl _, Below.refl _ _⟩
  case round =>
    obtain ⟨k, rfl, rfl, hk, hsz, hb⟩ := hrel
    have HBB := Lib.hid hb
    clear hb
    have k0 : (0 : Int) ≤ (k : Int) := Int.natCast_nonneg _
    by_cases hlt : k < m
    · have k1 : (k : Int) < (m : Int) := by omega
      have k2 : (k : Int) < 40 := by omega
      have BW := Lib.hid (HB.out.trans (HBB.out.mono (by omega)))
      have HAW := Lib.hid (HA.out.below HBB.out (by omega))
      obtain ⟨bp, op, rfl, q1, q2, r0, r1, r2, r3, r4⟩ := (HV.out.below BW.out hhi).pipe hlt
      have yx := HAW.out.nx k (by omega)
      have lwr : w.heap.size < wr.heap.size := by omega
      have lwp : bp < wr.heap.size := by omega
      have hz := HX.out k hlt
      have he := HE.out k hlt
      have h1 := he.one
      have h2 := he.two
      have h3 := he.thr
      have hs := egS_bnd (P := P) (x := x) (k := k) (fun j hj => HE.out j (by omega))
      have HS := Lib.hid (show egS P x (k + 1) = egS P x k + (P k).k * ((x k).natAbs : Int) * ((x k).natAbs : Int) * ((x k).natAbs : Int) from rfl)
      have hs1 : egS P x k ≤ 1080000000000000000 := by omega
      have hs2 := hs.1
      clear hs
      go_wp2_with (go_at_call 155; refine (absN_any _ _ (by omega) (by omega)).mono ?_; rintro e w' ⟨rfl, rfl⟩)
      go_roundw
      case rel => exact ⟨k + 1, by rw [HS.out], by go_num, hlt, by (first | omega | (simp only [World.size_alloc]; omega)), HBB.out.trans (((below_new _ _)).mono (by omega))⟩
      case measure => simp [intOf]; omega
    · have hkn : k = m := by omega
      have k1 : ¬ ((k : Int) < (m : Int)) := by omega
      have HF := Lib.hid (show egS P x k = egS P x m by rw [hkn])
      clear hkn
      go_wp2_with fail
      go_ret
      exact ⟨ret_i HF.out, HB.out.trans (HBB.out.mono (by omega))⟩

set_option maxRecDepth 100000 in
set_option maxHeartbeats 8000000 in
theorem areAllowed_any (w : World) (s0 s1 : Value) (x : Nat → Int) :
    Calls Tryz.prog 179 #[.agg (nfL s0 s1 x).toArray] w fun e w' => e = .returned (.bool (flB x 40)) ∧ Below w.heap.size w w' := by
  have A0 := Ob.newN w s0 s1 x 115
  have B0 := below_new w (.cells (nfL s0 s1 x).toArray 115)
  have HA := Lib.hid A0
  have HB := Lib.hid B0
  clear A0 B0
  go_enter Tryz.func179, Tryz.ntmps179
  go_wp2_with (go_at_call 106; refine (areFlows_any _ _ 40 x _ _ HA.out.nsl (by omega)).mono ?_; rintro e w' ⟨rfl, rfl⟩)
  go_ret
  exact ⟨rfl, HB.out⟩
end Go.Proofs.YtdbgcbkmcbgdiaaGreat.mem

namespace Go.Proofs.YtdbgcbkmcbgdiaaGreat.mem
open Go.RowKit
set_option linter.unusedVariables false

set_option maxRecDepth 100000 in
set_option maxHeartbeats 8000000 in
theorem withFlows_any (w : World) (p0 p1 : Option Addr) (c0 c1 n m : Nat) (va : Value) (K : Nat) (d : Nat → Int) (la ha : Nat) (hv : Sl w va K d la ha) (hha : ha ≤ w.heap.size) (hK : K ≤ 40) :
    Calls Tryz.prog 94 #[.agg #[.slice p0 n c0, .slice p1 m c1], va] w fun e w' => e = .returned (.agg (nfL (.slice p0 n c0) (.slice p1 m c1) (pad K d)).toArray) ∧ Below w.heap.size w w' := by
  have HSV := Lib.hid hv
  obtain ⟨pa, ca, rfl⟩ := hv.sh
  have A0 := (boxed w (.slice p0 n c0) (.slice p1 m c1) 27).keep (Below.heap_alloc _ (.cells #[Value.slice none 0 0, Value.slice none 0 0, Value.int IntKind.i64 0, Value.int IntKind.i64 0, Value.int IntKind.i64 0, Value.int IntKind.i64 0, Value.int IntKind.i64 0, Value.int IntKind.i64 0, Value.int IntKind.i64 0, Value.int IntKind.i64 0, Value.int IntKind.i64 0, Value.int IntKind.i64 0, Value.int IntKind.i64 0, Value.int IntKind.i64 0, Value.int IntKind.i64 0, Value.int IntKind.i64 0, Value.int IntKind.i64 0, Value.int IntKind.i64 0, Value.int IntKind.i64 0, Value.int IntKind.i64 0, Value.int IntKind.i64 0, Value.int IntKind.i64 0, Value.int IntKind.i64 0, Value.int IntKind.i64 0, Value.int IntKind.i64 0, Value.int IntKind.i64 0, Value.int IntKind.i64 0, Value.int IntKind.i64 0, Value.int IntKind.i64 0, Value.int IntKind.i64 0, Value.int IntKind.i64 0, Value.int IntKind.i64 0, Value.int IntKind.i64 0, Value.int IntKind.i64 0, Value.int IntKind.i64 0, Value.int IntKind.i64 0, Value.int IntKind.i64 0, Value.int IntKind.i64 0, Value.int IntKind.i64 0, Value.int IntKind.i64 0, Value.int IntKind.i64 0, Value.int IntKind.i64 0] 115) _ (by rw [szal]; omega))
  have Z0 := Ob.newZ (w.alloc (.cells #[.slice p0 n c0, .slice p1 m c1] 27)) 115
  simp only [szal] at Z0
  have B0 := (below_new w (.cells #[.slice p0 n c0, .slice p1 m c1] 27)).trans ((below_new _ (.cells #[Value.slice none 0 0, Value.slice none 0 0, Value.int IntKind.i64 0, Value.int IntKind.i64 0, Value.int IntKind.i64 0, Value.int IntKind.i64 0, Value.int IntKind.i64 0, Value.int IntKind.i64 0, Value.int IntKind.i64 0, Value.int IntKind.i64 0, Value.int IntKind.i64 0, Value.int IntKind.i64 0, Value.int IntKind.i64 0, Value.int IntKind.i64 0, Value.int IntKind.i64 0, Value.int IntKind.i64 0, Value.int IntKind.i64 0, Value.int IntKind.i64 0, Value.int IntKind.i64 0, Value.int IntKind.i64 0, Value.int IntKind.i64 0, Value.int IntKind.i64 0, Value.int IntKind.i64 0, Value.int IntKind.i64 0, Value.int IntKind.i64 0, Value.int IntKind.i64 0, Value.int IntKind.i64 0, Value.int IntKind.i64 0, Value.int IntKind.i64 0, Value.int IntKind.i64 0, Value.int IntKind.i64 0, Value.int IntKind.i64 0, Value.int IntKind.i64 0, Value.int IntKind.i64 0, Value.int IntKind.i64 0, Value.int IntKind.i64 0, Value.int IntKind.i64 0, Value.int IntKind.i64 0, Value.int IntKind.i64 0, Value.int IntKind.i64 0, Value.int IntKind.i64 0, Value.int IntKind.i64 0] 115)).mono (by rw [szal]; omega))
  have hs0 : ((w.alloc (.cells #[.slice p0 n c0, .slice p1 m c1] 27)).alloc (.cells #[Value.slice none 0 0, Value.slice none 0 0, Value.int IntKind.i64 0, Value.int IntKind.i64 0, Value.int IntKind.i64 0, Value.int IntKind.i64 0, Value.int IntKind.i64 0, Value.int IntKind.i64 0, Value.int IntKind.i64 0, Value.int IntKind.i64 0, Value.int IntKind.i64 0, Value.int IntKind.i64 0, Value.int IntKind.i64 0, Value.int IntKind.i64 0, Value.int IntKind.i64 0, Value.int IntKind.i64 0, Value.int IntKind.i64 0, Value.int IntKind.i64 0, Value.int IntKind.i64 0, Value.int IntKind.i64 0, Value.int IntKind.i64 0, Value.int IntKind.i64 0, Value.int IntKind.i64 0, Value.int IntKind.i64 0, Value.int IntKind.i64 0, Value.int IntKind.i64 0, Value.int IntKind.i64 0, Value.int IntKind.i64 0, Value.int IntKind.i64 0, Value.int IntKind.i64 0, Value.int IntKind.i64 0, Value.int IntKind.i64 0, Value.int IntKind.i64 0, Value.int IntKind.i64 0, Value.int IntKind.i64 0, Value.int IntKind.i64 0, Value.int IntKind.i64 0, Value.int IntKind.i64 0, Value.int IntKind.i64 0, Value.int IntKind.i64 0, Value.int IntKind.i64 0, Value.int IntKind.i64 0] 115)).heap.size = w.heap.size + 2 := by simp
  clear hv
  go_enter Tryz.func94, Tryz.ntmps94
  go_wp2_with fail
  obtain ⟨w1, hw1⟩ : ∃ w1, (w.alloc (.cells #[.slice p0 n c0, .slice p1 m c1] 27)).alloc (.cells #[Value.slice none 0 0, Value.slice none 0 0, Value.int IntKind.i64 0, Value.int IntKind.i64 0, Value.int IntKind.i64 0, Value.int IntKind.i64 0, Value.int IntKind.i64 0, Value.int IntKind.i64 0, Value.int IntKind.i64 0, Value.int IntKind.i64 0, Value.int IntKind.i64 0, Value.int IntKind.i64 0, Value.int IntKind.i64 0, Value.int IntKind.i64 0, Value.int IntKind.i64 0, Value.int IntKind.i64 0, Value.int IntKind.i64 0, Value.int IntKind.i64 0, Value.int IntKind.i64 0, Value.int IntKind.i64 0, Value.int IntKind.i64 0, Value.int IntKind.i64 0, Value.int IntKind.i64 0, Value.int IntKind.i64 0, Value.int IntKind.i64 0, Value.int IntKind.i64 0, Value.int IntKind.i64 0, Value.int IntKind.i64 0, Value.int IntKind.i64 0, Value.int IntKind.i64 0, Value.int IntKind.i64 0, Value.int IntKind.i64 0, Value.int IntKind.i64 0, Value.int IntKind.i64 0, Value.int IntKind.i64 0, Value.int IntKind.i64 0, Value.int IntKind.i64 0, Value.int IntKind.i64 0, Value.int IntKind.i64 0, Value.int IntKind.i64 0, Value.int IntKind.i64 0, Value.int IntKind.i64 0] 115) = w1 := ⟨_, rfl⟩
  rw [hw1] at A0 Z0 B0 hs0 ⊢
  clear hw1
  have e0 := A0.b0
  have e1 := A0.b1
  have UI := Tryz.underlying27
  have nN : (Tryz.prog.info? 27).map (·.size) = some 2 := by kernel_rfl
  have g1 := range2 e0 e1
  have t1 := Z0.there
  refine wp_region_noPanic ?_
  refine wp_region_held_drew (S := fun w' : World => w'.rangeAt w.heap.size 0 [.slice p0 n c0, .slice p1 m c1] ∧ w'.there (w.heap.size + 1) 0 42) (by kernel_rfl) ⟨range_blockN g1 rfl, there_blockN t1 rfl⟩ (fun s0 => ?_)
  refine wpAnyH_take (i := 0) (v := .agg #[.slice p0 n c0, .slice p1 m c1]) rfl (by kernel_rfl) (by kernel_rfl) (by kernel_rfl) (fun _ _ _ h => h) (yieldsIf_load_mid (by rfl) _ _ rfl _ _ rfl [.slice p0 n c0, .slice p1 m c1] _ (fun _ h => h.1) UI rfl (by exact nN)) s0 ?_
  try simp only [Act.put]
  refine wpAnyH_take (i := 1) (v := .slice pa K ca) rfl (by kernel_rfl) (by kernel_rfl) (by kernel_rfl) (fun _ _ _ h => h) (Or.inl ⟨by rfl, fun w' hSw => by rfl⟩) s0 ?_
  try simp only [Act.put, List.setIfInBounds_toArray]
  refine wpAnyH_ready (rs := [2]) (by kernel_rfl) (by simp) (AllReadyH.cons rfl (fun KX hKX => ?_) AllReadyH.nil)
  clear s0
  go_simp
  refine (arrayOf_any _ _ K d la ha (sl_dr (HSV.out.below B0 hha)) (show ha ≤ w1.heap.size by omega) hK).mono ?_
  rintro e wX ⟨rfl, hbX⟩
  have hbX' := below_dr0 hbX
  have l0 : w.heap.size < w1.heap.size := by omega
  have l1 : w.heap.size + 1 < w1.heap.size := by omega
  have SX : wX.rangeAt w.heap.size 0 [.slice p0 n c0, .slice p1 m c1] ∧ wX.there (w.heap.size + 1) 0 42 := ⟨range_blockN g1 (hbX'.block _ l0), there_blockN t1 (hbX'.block _ l1)⟩
  refine hKX.out _ _ SX (fun s2 => ?_)
  clear hKX
  try simp only [Act.put, List.set_cons_zero, List.set_cons_succ]
  refine wpAnyH_take (i := 3) (v := .agg (nfL (.slice p0 n c0) (.slice p1 m c1) (pad K d)).toArray) nthe3 (by kernel_rfl) (by kernel_rfl) (by kernel_rfl) (fun _ _ _ h => h) (yieldsIf_build (by rfl) _ _ rfl _ (by kernel_rfl)) s2 ?_
  try simp only [Act.put]
  refine wpAnyH_ready (rs := [4]) (by kernel_rfl) (by simp) (AllReadyH.cons rfl (fun KX hKX => ?_) AllReadyH.nil)
  rw [if_pos (by rfl)]
  refine wp_store_mid _ _ _ rfl _ _ (nfL (.slice p0 n c0) (.slice p1 m c1) (pad K d)).toArray rfl rfl (by show wX.there (w.heap.size + 1) 0 (nfL (.slice p0 n c0) (.slice p1 m c1) (pad K d)).length; rw [nfL_len]; exact SX.2) (by show _ = some (nfL (.slice p0 n c0) (.slice p1 m c1) (pad K d)).length; rw [nfL_len]; exact nf_info) (all_oneCell_toArray nf_one) ?_
  simp only [Act.put, List.setIfInBounds_toArray]
  refine hKX.out _ _ ⟨World.rangeAt_setCells_apart SX.1 _ _ _ (.inl (by omega)), World.there_setCells SX.2 _ _ _⟩ (fun s5 => ?_)
  refine wpAnyH_done (by kernel_rfl) ?_ _
  refine NoPanic.normal ?_
  have o5 := (Z0.below hbX' l1).nput (.slice p0 n c0) (.slice p1 m c1) (pad K d)
  go_wp2_with fail
  exact bodyPost_ret (results_nf rfl rfl o5) rfl ⟨rfl, (B0.trans (hbX'.mono (by omega))).trans (((Only.refl (w.heap.size + 1) wX).setCs _ 0).below (by omega))⟩
end Go.Proofs.YtdbgcbkmcbgdiaaGreat.mem

namespace Go.Proofs.YtdbgcbkmcbgdiaaGreat.mem
open Go.RowKit
set_option linter.unusedVariables false

set_option maxRecDepth 100000 in
set_option maxHeartbeats 400000 in
theorem plusCycle_any (w : World) (s0 s1 : Value) (h0 : s0.oneCell' = true) (h1 : s1.oneCell' = true) (x y : Nat → Int) (t : Int) (hb : ∀ k, k < 40 → -4611686018427387904 ≤ x k + y k * t ∧ x k + y k * t ≤ 4611686018427387904) (hm : ∀ k, k < 40 → -4611686018427387904 ≤ y k * t ∧ y k * t ≤ 4611686018427387904) :
    Calls Tryz.prog 146 #[.agg (nfL s0 s1 x).toArray, .agg (arr y), .int .i64 t] w fun e w' => e = .returned (.agg (nfL s0 s1 (fun k => x k + y k * t)).toArray) ∧ Below w.heap.size w w' := by
  have A0 := ((Ob.newN w s0 s1 x 115).keep (Below.heap_alloc _ (.cells (arr y) 111) _ (by rw [szal]; omega))).keep (Below.heap_alloc _ (.cells #[Value.slice none 0 0, Value.slice none 0 0, Value.int IntKind.i64 0, Value.int IntKind.i64 0, Value.int IntKind.i64 0, Value.int IntKind.i64 0, Value.int IntKind.i64 0, Value.int IntKind.i64 0, Value.int IntKind.i64 0, Value.int IntKind.i64 0, Value.int IntKind.i64 0, Value.int IntKind.i64 0, Value.int IntKind.i64 0, Value.int IntKind.i64 0, Value.int IntKind.i64 0, Value.int IntKind.i64 0, Value.int IntKind.i64 0, Value.int IntKind.i64 0, Value.int IntKind.i64 0, Value.int IntKind.i64 0, Value.int IntKind.i64 0, Value.int IntKind.i64 0, Value.int IntKind.i64 0, Value.int IntKind.i64 0, Value.int IntKind.i64 0, Value.int IntKind.i64 0, Value.int IntKind.i64 0, Value.int IntKind.i64 0, Value.int IntKind.i64 0, Value.int IntKind.i64 0, Value.int IntKind.i64 0, Value.int IntKind.i64 0, Value.int IntKind.i64 0, Value.int IntKind.i64 0, Value.int IntKind.i64 0, Value.int IntKind.i64 0, Value.int IntKind.i64 0, Value.int IntKind.i64 0, Value.int IntKind.i64 0, Value.int IntKind.i64 0, Value.int IntKind.i64 0, Value.int IntKind.i64 0] 115) _ (by simp only [szal]; omega))
  have A1 := (Ob.newA (w.alloc (.cells (nfL s0 s1 x).toArray 115)) y 111).keep (Below.heap_alloc _ (.cells #[Value.slice none 0 0, Value.slice none 0 0, Value.int IntKind.i64 0, Value.int IntKind.i64 0, Value.int IntKind.i64 0, Value.int IntKind.i64 0, Value.int IntKind.i64 0, Value.int IntKind.i64 0, Value.int IntKind.i64 0, Value.int IntKind.i64 0, Value.int IntKind.i64 0, Value.int IntKind.i64 0, Value.int IntKind.i64 0, Value.int IntKind.i64 0, Value.int IntKind.i64 0, Value.int IntKind.i64 0, Value.int IntKind.i64 0, Value.int IntKind.i64 0, Value.int IntKind.i64 0, Value.int IntKind.i64 0, Value.int IntKind.i64 0, Value.int IntKind.i64 0, Value.int IntKind.i64 0, Value.int IntKind.i64 0, Value.int IntKind.i64 0, Value.int IntKind.i64 0, Value.int IntKind.i64 0, Value.int IntKind.i64 0, Value.int IntKind.i64 0, Value.int IntKind.i64 0, Value.int IntKind.i64 0, Value.int IntKind.i64 0, Value.int IntKind.i64 0, Value.int IntKind.i64 0, Value.int IntKind.i64 0, Value.int IntKind.i64 0, Value.int IntKind.i64 0, Value.int IntKind.i64 0, Value.int IntKind.i64 0, Value.int IntKind.i64 0, Value.int IntKind.i64 0, Value.int IntKind.i64 0] 115) _ (by simp only [szal]; omega))
  have A2 := Ob.newZ ((w.alloc (.cells (nfL s0 s1 x).toArray 115)).alloc (.cells (arr y) 111)) 115
  simp only [szal] at A1 A2
  have B0 := ((below_new w (.cells (nfL s0 s1 x).toArray 115)).trans ((below_new _ (.cells (arr y) 111)).mono (by rw [szal]; omega))).trans ((below_new _ (.cells #[Value.slice none 0 0, Value.slice none 0 0, Value.int IntKind.i64 0, Value.int IntKind.i64 0, Value.int IntKind.i64 0, Value.int IntKind.i64 0, Value.int IntKind.i64 0, Value.int IntKind.i64 0, Value.int IntKind.i64 0, Value.int IntKind.i64 0, Value.int IntKind.i64 0, Value.int IntKind.i64 0, Value.int IntKind.i64 0, Value.int IntKind.i64 0, Value.int IntKind.i64 0, Value.int IntKind.i64 0, Value.int IntKind.i64 0, Value.int IntKind.i64 0, Value.int IntKind.i64 0, Value.int IntKind.i64 0, Value.int IntKind.i64 0, Value.int IntKind.i64 0, Value.int IntKind.i64 0, Value.int IntKind.i64 0, Value.int IntKind.i64 0, Value.int IntKind.i64 0, Value.int IntKind.i64 0, Value.int IntKind.i64 0, Value.int IntKind.i64 0, Value.int IntKind.i64 0, Value.int IntKind.i64 0, Value.int IntKind.i64 0, Value.int IntKind.i64 0, Value.int IntKind.i64 0, Value.int IntKind.i64 0, Value.int IntKind.i64 0, Value.int IntKind.i64 0, Value.int IntKind.i64 0, Value.int IntKind.i64 0, Value.int IntKind.i64 0, Value.int IntKind.i64 0, Value.int IntKind.i64 0] 115)).mono (by simp only [szal]; omega))
  have hs0 : (((w.alloc (.cells (nfL s0 s1 x).toArray 115)).alloc (.cells (arr y) 111)).alloc (.cells #[Value.slice none 0 0, Value.slice none 0 0, Value.int IntKind.i64 0, Value.int IntKind.i64 0, Value.int IntKind.i64 0, Value.int IntKind.i64 0, Value.int IntKind.i64 0, Value.int IntKind.i64 0, Value.int IntKind.i64 0, Value.int IntKind.i64 0, Value.int IntKind.i64 0, Value.int IntKind.i64 0, Value.int IntKind.i64 0, Value.int IntKind.i64 0, Value.int IntKind.i64 0, Value.int IntKind.i64 0, Value.int IntKind.i64 0, Value.int IntKind.i64 0, Value.int IntKind.i64 0, Value.int IntKind.i64 0, Value.int IntKind.i64 0, Value.int IntKind.i64 0, Value.int IntKind.i64 0, Value.int IntKind.i64 0, Value.int IntKind.i64 0, Value.int IntKind.i64 0, Value.int IntKind.i64 0, Value.int IntKind.i64 0, Value.int IntKind.i64 0, Value.int IntKind.i64 0, Value.int IntKind.i64 0, Value.int IntKind.i64 0, Value.int IntKind.i64 0, Value.int IntKind.i64 0, Value.int IntKind.i64 0, Value.int IntKind.i64 0, Value.int IntKind.i64 0, Value.int IntKind.i64 0, Value.int IntKind.i64 0, Value.int IntKind.i64 0, Value.int IntKind.i64 0, Value.int IntKind.i64 0] 115)).heap.size = w.heap.size + 3 := by simp
  have OS := nfL_one h0 h1 (fun k => x k + y k * t)
  go_enter Tryz.func146, Tryz.ntmps146
  go_upto_region 1 with (fail)
  obtain ⟨w1, hw1⟩ : ∃ w1, ((w.alloc (.cells (nfL s0 s1 x).toArray 115)).alloc (.cells (arr y) 111)).alloc (.cells #[Value.slice none 0 0, Value.slice none 0 0, Value.int IntKind.i64 0, Value.int IntKind.i64 0, Value.int IntKind.i64 0, Value.int IntKind.i64 0, Value.int IntKind.i64 0, Value.int IntKind.i64 0, Value.int IntKind.i64 0, Value.int IntKind.i64 0, Value.int IntKind.i64 0, Value.int IntKind.i64 0, Value.int IntKind.i64 0, Value.int IntKind.i64 0, Value.int IntKind.i64 0, Value.int IntKind.i64 0, Value.int IntKind.i64 0, Value.int IntKind.i64 0, Value.int IntKind.i64 0, Value.int IntKind.i64 0, Value.int IntKind.i64 0, Value.int IntKind.i64 0, Value.int IntKind.i64 0, Value.int IntKind.i64 0, Value.int IntKind.i64 0, Value.int IntKind.i64 0, Value.int IntKind.i64 0, Value.int IntKind.i64 0, Value.int IntKind.i64 0, Value.int IntKind.i64 0, Value.int IntKind.i64 0, Value.int IntKind.i64 0, Value.int IntKind.i64 0, Value.int IntKind.i64 0, Value.int IntKind.i64 0, Value.int IntKind.i64 0, Value.int IntKind.i64 0, Value.int IntKind.i64 0, Value.int IntKind.i64 0, Value.int IntKind.i64 0, Value.int IntKind.i64 0, Value.int IntKind.i64 0] 115) = w1 := ⟨_, rfl⟩
  rw [hw1] at A0 A1 A2 B0 hs0 ⊢
  clear hw1
  have g0 := A0.nrange
  have g1 := A1.range
  have l0 : w.heap.size < w1.heap.size := by omega
  have l2 : w.heap.size + 1 + 1 < w1.heap.size := by omega
  have HX := Lib.hid hb
  have HM := Lib.hid hm
  clear hb hm
  obtain ⟨Lx, hLx, eLx⟩ : ∃ L : List Value, arr x = List.toArray L ∧ L = arrL x := ⟨_, rfl, rfl⟩
  obtain ⟨Ly, hLy, eLy⟩ : ∃ L : List Value, arr y = List.toArray L ∧ L = arrL y := ⟨_, rfl, rfl⟩
  obtain ⟨Lz, hLz, eLz⟩ : ∃ L : List Value, arr (fun k => x k + y k * t) = List.toArray L ∧ L = arrL (fun k => x k + y k * t) := ⟨_, rfl, rfl⟩
  rw [← eLx] at g0
  rw [← eLy] at g1
  have nLx : Lx.length = 40 := by rw [eLx, arr_len]
  have nLy : Ly.length = 40 := by rw [eLy, arr_len]
  have nLz : Lz.length = 40 := by rw [eLz, arr_len]
  have oLz : ∀ v ∈ Lz, v.oneCell' = true := by rw [eLz]; exact arr_oneL _
  have HLx := Lib.hid hLx
  have HLy := Lib.hid hLy
  have HLz := Lib.hid hLz
  have HEz := Lib.hid eLz
  clear hLx hLy hLz eLx eLy eLz
  go_upto_region 2 with (first
    | (refine wpList_load_mid rfl 111 _ rfl w.heap.size 2 rfl Lx _ g0 Tryz.underlying111 rfl (by rw [nLx]; exact flow_info) ?_)
    | (refine wpList_load_mid rfl 111 _ rfl (w.heap.size + 1) 0 rfl Ly _ g1 Tryz.underlying111 rfl (by rw [nLy]; exact flow_info) ?_)
    | (go_at_call 92; rw [← HLx.out, ← HLy.out]; refine (plus_any _ x y t HX.out HM.out).mono ?_; rintro e wC ⟨rfl, hbC⟩; rw [HLz.out]; have a0 := A0.below hbC l0; have a2 := A2.below hbC l2; have t0 := a0.nthere)
    | (refine wpList_store_mid rfl 111 _ _ rfl w.heap.size 2 Lz.toArray rfl rfl (by show wC.there _ 2 Lz.length; rw [nLz]; exact t0) (by show _ = some Lz.length; rw [nLz]; exact flow_info) (all_oneCell_toArray oLz) ?_))
  have a3 := a0.nset (fun k => x k + y k * t)
  rw [← HEz.out] at a3
  have b3 := ((Only.refl w.heap.size wC).setCs Lz 2)
  have bC := B0.trans (hbC.mono (by omega))
  have sC := hbC.size
  have a4 := a2.only b3 (by omega)
  have b4 := bC.trans (b3.below (Nat.le_refl _))
  have l5 : w.heap.size < (wC.setCells w.heap.size 2 Lz).heap.size := a3.lt
  have l6 : w.heap.size + 1 + 1 < (wC.setCells w.heap.size 2 Lz).heap.size := a4.lt
  obtain ⟨w4, hw4⟩ : ∃ w4, wC.setCells w.heap.size 2 Lz = w4 := ⟨_, rfl⟩
  rw [hw4] at a3 a4 b4 l5 l6 ⊢
  clear hw4 b3 bC a0 a2 t0 hbC A0 A1 A2 B0 g0 g1
  have g5 := a3.nall
  have t5 := a4.there
  have HA4 := Lib.hid a4
  obtain ⟨Lw, eLw⟩ : ∃ L : List Value, nfL s0 s1 (fun k => x k + y k * t) = L := ⟨_, rfl⟩
  have nLw : Lw.length = 42 := by rw [← eLw, nfL_len]
  rw [eLw] at OS g5
  have HEw := Lib.hid eLw
  clear eLw a3 a4
  go_wp2_with (first
    | (refine wpList_load_mid rfl 115 _ rfl w.heap.size 0 rfl Lw _ g5 Tryz.underlying115 rfl (by rw [nLw]; exact nf_info) ?_)
    | (refine wpList_store_mid rfl 115 _ _ rfl (w.heap.size + 1 + 1) 0 Lw.toArray rfl rfl (by show w4.there _ 0 Lw.length; rw [nLw]; exact t5) (by show _ = some Lw.length; rw [nLw]; exact nf_info) (all_oneCell_toArray OS) ?_))
  have a6 := HA4.out.nput s0 s1 (fun k => x k + y k * t)
  rw [HEw.out] at a6
  exact bodyPost_ret (results_nf rfl rfl a6) rfl ⟨rfl, b4.trans (((Only.refl (w.heap.size + 1 + 1) w4).setCs Lw 0).below (by omega))⟩
end Go.Proofs.YtdbgcbkmcbgdiaaGreat.mem

namespace Go.Proofs.YtdbgcbkmcbgdiaaGreat.mem
open Go.RowKit
set_option linter.unusedVariables false

theorem pip_cells (w : World) (q : Pip) (t : TypeId) : (w.alloc (.cells #[.int .i64 q.f, .int .i64 q.t, .int .i64 q.k, .int .i64 q.v, .int .i64 q.l] t)).cell? ⟨w.heap.size, 0, none⟩ = some (.int .i64 q.f) ∧ (w.alloc (.cells #[.int .i64 q.f, .int .i64 q.t, .int .i64 q.k, .int .i64 q.v, .int .i64 q.l] t)).cell? ⟨w.heap.size, 1, none⟩ = some (.int .i64 q.t) ∧ (w.alloc (.cells #[.int .i64 q.f, .int .i64 q.t, .int .i64 q.k, .int .i64 q.v, .int .i64 q.l] t)).cell? ⟨w.heap.size, 2, none⟩ = some (.int .i64 q.k) ∧ (w.alloc (.cells #[.int .i64 q.f, .int .i64 q.t, .int .i64 q.k, .int .i64 q.v, .int .i64 q.l] t)).cell? ⟨w.heap.size, 3, none⟩ = some (.int .i64 q.v) ∧ (w.alloc (.cells #[.int .i64 q.f, .int .i64 q.t, .int .i64 q.k, .int .i64 q.v, .int .i64 q.l] t)).cell? ⟨w.heap.size, 4, none⟩ = some (.int .i64 q.l) := by
  have h := heap_alloc_new w (Obj.cells #[.int .i64 q.f, .int .i64 q.t, .int .i64 q.k, .int .i64 q.v, .int .i64 q.l] t)
  simp only [World.cell?, h]
  exact ⟨rfl, rfl, rfl, rfl, rfl⟩
set_option maxRecDepth 100000 in
set_option maxHeartbeats 8000000 in
theorem residual_any (w : World) (p0 p1 : Option Addr) (c0 c1 : Nat) (n : Nat) (N : Nat → Nod) (m : Nat) (P : Nat → Pip) (lo hi : Nat) (h : NetAt w (.agg #[.slice p0 n c0, .slice p1 m c1]) n N m P lo hi) (hhi : hi ≤ w.heap.size) (hB : netB n N m P = true) (x : Nat → Int) (hx : ∀ k, k < m → -30000 ≤ x k ∧ x k ≤ 30000) (c : Nat) (hc : c < m) (hch : chP n P m c = true) :
    Calls Tryz.prog 159 #[.agg (nfL (.slice p0 n c0) (.slice p1 m c1) x).toArray, .int .i64 (c : Nat)] w fun e w' => e = .returned (.int .i64 (rsS P x (cyc P (fE n P m) (fD n P m) c) m)) ∧ Below w.heap.size w w' := by
  obtain ⟨hn1, hn24, hm40⟩ := net_sz hB
  have HV := Lib.hid h
  have HE := Lib.hid (show ∀ k, k < m → EgB (P k).k ((x k).natAbs : Int) from fun k hk => egB_of (net_pip hB hk) (hx k hk).1 (hx k hk).2)
  have HX := Lib.hid hx
  have HBN := Lib.hid hB
  have HCR := Lib.hid (show ∀ k, -1 ≤ cyc P (fE n P m) (fD n P m) c k ∧ cyc P (fE n P m) (fD n P m) c k ≤ 1 from fun k => cyc_one hB hc hch k)
  have A0 := Ob.newN w (.slice p0 n c0) (.slice p1 m c1) x 115
  have B0 := below_new w (.cells (nfL (.slice p0 n c0) (.slice p1 m c1) x).toArray 115)
  have hs0 : (w.alloc (.cells (nfL (.slice p0 n c0) (.slice p1 m c1) x).toArray 115)).heap.size = w.heap.size + 1 := by simp
  have e0 := A0.n0
  have e1 := A0.n1
  clear h hB hx hch
  go_enter Tryz.func159, Tryz.ntmps159
  go_upto_region 2 with (fail)
  obtain ⟨w1, hw1⟩ : ∃ w1, w.alloc (.cells (nfL (.slice p0 n c0) (.slice p1 m c1) x).toArray 115) = w1 := ⟨_, rfl⟩
  rw [hw1] at A0 B0 hs0 e0 e1 ⊢
  have HA := Lib.hid A0
  have HB := Lib.hid B0
  clear hw1 A0 B0
  generalize hcy : cyc P (fE n P m) (fD n P m) c = y at *
  have HCY := Lib.hid hcy
  clear hcy
  obtain ⟨Ly, hLy, eLy⟩ : ∃ L : List Value, arr y = List.toArray L ∧ L = arrL y := ⟨_, rfl, rfl⟩
  have nLy : Ly.length = 40 := by rw [eLy, arr_len]
  have oLy : ∀ v ∈ Ly, v.oneCell' = true := by rw [eLy]; exact arr_oneL _
  have HLy := Lib.hid hLy
  have HEy := Lib.hid eLy
  clear hLy eLy
  have T0 : ∀ W : World, (W.alloc (.cells #[Value.int IntKind.i64 0, Value.int IntKind.i64 0, Value.int IntKind.i64 0, Value.int IntKind.i64 0, Value.int IntKind.i64 0, Value.int IntKind.i64 0, Value.int IntKind.i64 0, Value.int IntKind.i64 0, Value.int IntKind.i64 0, Value.int IntKind.i64 0, Value.int IntKind.i64 0, Value.int IntKind.i64 0, Value.int IntKind.i64 0, Value.int IntKind.i64 0, Value.int IntKind.i64 0, Value.int IntKind.i64 0, Value.int IntKind.i64 0, Value.int IntKind.i64 0, Value.int IntKind.i64 0, Value.int IntKind.i64 0, Value.int IntKind.i64 0, Value.int IntKind.i64 0, Value.int IntKind.i64 0, Value.int IntKind.i64 0, Value.int IntKind.i64 0, Value.int IntKind.i64 0, Value.int IntKind.i64 0, Value.int IntKind.i64 0, Value.int IntKind.i64 0, Value.int IntKind.i64 0, Value.int IntKind.i64 0, Value.int IntKind.i64 0, Value.int IntKind.i64 0, Value.int IntKind.i64 0, Value.int IntKind.i64 0, Value.int IntKind.i64 0, Value.int IntKind.i64 0, Value.int IntKind.i64 0, Value.int IntKind.i64 0, Value.int IntKind.i64 0] 111)).there W.heap.size 0 40 := fun W => (Ob.new0 W _).there
  go_upto_region 3 with (first
    | (go_at_call 167; refine (cycleOf_any _ _ n N m P lo hi (HV.out.below HB.out hhi) (by omega) HBN.out c hc).mono ?_; rintro e wC ⟨rfl, hbC⟩; rw [HCY.out, HLy.out]; have tC := T0 wC)
    | (refine wpList_store_mid rfl 111 _ _ rfl wC.heap.size 0 Ly.toArray rfl rfl (by show (wC.alloc _).there _ 0 Ly.length; rw [nLy]; exact tC) (by show _ = some Ly.length; rw [nLy]; exact flow_info) (all_oneCell_toArray oLy) ?_))
  clear T0 tC
  have sC := hbC.size
  have C0 := (Ob.new0 wC 111).setArr y
  rw [← HEy.out] at C0
  have lC : wC.heap.size < ((wC.alloc (.cells #[Value.int IntKind.i64 0, Value.int IntKind.i64 0, Value.int IntKind.i64 0, Value.int IntKind.i64 0, Value.int IntKind.i64 0, Value.int IntKind.i64 0, Value.int IntKind.i64 0, Value.int IntKind.i64 0, Value.int IntKind.i64 0, Value.int IntKind.i64 0, Value.int IntKind.i64 0, Value.int IntKind.i64 0, Value.int IntKind.i64 0, Value.int IntKind.i64 0, Value.int IntKind.i64 0, Value.int IntKind.i64 0, Value.int IntKind.i64 0, Value.int IntKind.i64 0, Value.int IntKind.i64 0, Value.int IntKind.i64 0, Value.int IntKind.i64 0, Value.int IntKind.i64 0, Value.int IntKind.i64 0, Value.int IntKind.i64 0, Value.int IntKind.i64 0, Value.int IntKind.i64 0, Value.int IntKind.i64 0, Value.int IntKind.i64 0, Value.int IntKind.i64 0, Value.int IntKind.i64 0, Value.int IntKind.i64 0, Value.int IntKind.i64 0, Value.int IntKind.i64 0, Value.int IntKind.i64 0, Value.int IntKind.i64 0, Value.int IntKind.i64 0, Value.int IntKind.i64 0, Value.int IntKind.i64 0, Value.int IntKind.i64 0, Value.int IntKind.i64 0] 111)).setCells wC.heap.size 0 Ly).heap.size := C0.lt
  have bC := (hbC.mono (Nat.le_refl _)).trans ((below_new wC (.cells #[Value.int IntKind.i64 0, Value.int IntKind.i64 0, Value.int IntKind.i64 0, Value.int IntKind.i64 0, Value.int IntKind.i64 0, Value.int IntKind.i64 0, Value.int IntKind.i64 0, Value.int IntKind.i64 0, Value.int IntKind.i64 0, Value.int IntKind.i64 0, Value.int IntKind.i64 0, Value.int IntKind.i64 0, Value.int IntKind.i64 0, Value.int IntKind.i64 0, Value.int IntKind.i64 0, Value.int IntKind.i64 0, Value.int IntKind.i64 0, Value.int IntKind.i64 0, Value.int IntKind.i64 0, Value.int IntKind.i64 0, Value.int IntKind.i64 0, Value.int IntKind.i64 0, Value.int IntKind.i64 0, Value.int IntKind.i64 0, Value.int IntKind.i64 0, Value.int IntKind.i64 0, Value.int IntKind.i64 0, Value.int IntKind.i64 0, Value.int IntKind.i64 0, Value.int IntKind.i64 0, Value.int IntKind.i64 0, Value.int IntKind.i64 0, Value.int IntKind.i64 0, Value.int IntKind.i64 0, Value.int IntKind.i64 0, Value.int IntKind.i64 0, Value.int IntKind.i64 0, Value.int IntKind.i64 0, Value.int IntKind.i64 0, Value.int IntKind.i64 0] 111)).mono sC)
  have bC2 := bC.trans (((Only.refl wC.heap.size (wC.alloc (.cells #[Value.int IntKind.i64 0, Value.int IntKind.i64 0, Value.int IntKind.i64 0, Value.int IntKind.i64 0, Value.int IntKind.i64 0, Value.int IntKind.i64 0, Value.int IntKind.i64 0, Value.int IntKind.i64 0, Value.int IntKind.i64 0, Value.int IntKind.i64 0, Value.int IntKind.i64 0, Value.int IntKind.i64 0, Value.int IntKind.i64 0, Value.int IntKind.i64 0, Value.int IntKind.i64 0, Value.int IntKind.i64 0, Value.int IntKind.i64 0, Value.int IntKind.i64 0, Value.int IntKind.i64 0, Value.int IntKind.i64 0, Value.int IntKind.i64 0, Value.int IntKind.i64 0, Value.int IntKind.i64 0, Value.int IntKind.i64 0, Value.int IntKind.i64 0, Value.int IntKind.i64 0, Value.int IntKind.i64 0, Value.int IntKind.i64 0, Value.int IntKind.i64 0, Value.int IntKind.i64 0, Value.int IntKind.i64 0, Value.int IntKind.i64 0, Value.int IntKind.i64 0, Value.int IntKind.i64 0, Value.int IntKind.i64 0, Value.int IntKind.i64 0, Value.int IntKind.i64 0, Value.int IntKind.i64 0, Value.int IntKind.i64 0, Value.int IntKind.i64 0] 111))).setCs Ly 0).below sC)
  obtain ⟨w3, hw3⟩ : ∃ w3, (wC.alloc (.cells #[Value.int IntKind.i64 0, Value.int IntKind.i64 0, Value.int IntKind.i64 0, Value.int IntKind.i64 0, Value.int IntKind.i64 0, Value.int IntKind.i64 0, Value.int IntKind.i64 0, Value.int IntKind.i64 0, Value.int IntKind.i64 0, Value.int IntKind.i64 0, Value.int IntKind.i64 0, Value.int IntKind.i64 0, Value.int IntKind.i64 0, Value.int IntKind.i64 0, Value.int IntKind.i64 0, Value.int IntKind.i64 0, Value.int IntKind.i64 0, Value.int IntKind.i64 0, Value.int IntKind.i64 0, Value.int IntKind.i64 0, Value.int IntKind.i64 0, Value.int IntKind.i64 0, Value.int IntKind.i64 0, Value.int IntKind.i64 0, Value.int IntKind.i64 0, Value.int IntKind.i64 0, Value.int IntKind.i64 0, Value.int IntKind.i64 0, Value.int IntKind.i64 0, Value.int IntKind.i64 0, Value.int IntKind.i64 0, Value.int IntKind.i64 0, Value.int IntKind.i64 0, Value.int IntKind.i64 0, Value.int IntKind.i64 0, Value.int IntKind.i64 0, Value.int IntKind.i64 0, Value.int IntKind.i64 0, Value.int IntKind.i64 0, Value.int IntKind.i64 0] 111)).setCells wC.heap.size 0 Ly = w3 := ⟨_, rfl⟩
  obtain ⟨bc, hbc⟩ : ∃ bc, wC.heap.size = bc := ⟨_, rfl⟩
  rw [hw3] at C0 bC2 lC ⊢
  rw [hbc] at C0 sC lC ⊢
  clear hw3 hbc bC hbC e0 e1
  have HA3 := Lib.hid (HA.out.below bC2 (by omega))
  have HB3 := Lib.hid (HB.out.trans (bC2.mono (by omega)))
  have HC3 := Lib.hid C0
  have e1 := HA3.out.n1
  clear bC2 C0 HA HB
  have HDR := Lib.hid (show ∀ k, k < m → -900000000000 ≤ drp (P k) (x k) ∧ drp (P k) (x k) ≤ 900000000000 from fun k hk => drp_bnd (net_pip HBN.out hk) (HX.out k hk).1 (HX.out k hk).2)
  go_upto_region 4 with (fail)
  go_loopw [5, 17] (fun sv iv wr => ∃ k : Nat, sv = .int .i64 (rsS P x y k) ∧ iv = .int .i64 k ∧ k ≤ m ∧ w3.heap.size ≤ wr.heap.size ∧ Below w3.heap.size w3 wr) (fun _ iv _ => m - (intOf iv).toNat)
  case atStart => exact ⟨0, rfl, rfl, Nat.zero_le _, Nat.le_refl _, Below.refl _ _⟩
  case round =>
    obtain ⟨k, rfl, rfl, hk, hsz, hb⟩ := hrel
    have HBB := Lib.hid hb
    clear hb
    have k0 : (0 : Int) ≤ (k : Int) := Int.natCast_nonneg _
    by_cases hlt : k < m
    · have k1 : (k : Int) < (m : Int) := by omega
      have k2 : (k : Int) < 40 := by omega
      have BW := Lib.hid (HB3.out.trans (HBB.out.mono (by omega)))
      have HAW := Lib.hid (HA3.out.below HBB.out (by omega))
      have HCW := Lib.hid (HC3.out.below HBB.out (by omega))
      obtain ⟨bp, op, rfl, q1, q2, r0, r1, r2, r3, r4⟩ := (HV.out.below BW.out hhi).pipe hlt
      have yx := HAW.out.nx k (by omega)
      have yc : wr.cell? ⟨bc, k, none⟩ = some (.int .i64 (y k)) := HCW.out.cell k (by omega)
      have lwr : w.heap.size < wr.heap.size := by omega
      have lwc : bc < wr.heap.size := by omega
      have lwp : bp < wr.heap.size := by omega
      have hpp := net_pip HBN.out hlt
      obtain ⟨z0, z1⟩ := HX.out k hlt
      have hd := mulc (HDR.out k hlt) (HCR.out k)
      have hs := rsS_bnd (P := P) (x := x) (y := y) (k := k) (fun j hj => HDR.out j (by omega)) (fun j _ => HCR.out j)
      have HS := Lib.hid (show rsS P x y (k + 1) = rsS P x y k + drp (P k) (x k) * y k from rfl)
      have wa : IntKind.i64.wrap (drp (P k) (x k) * y k) = drp (P k) (x k) * y k := IntWalk.i64_in _ (by omega)
      have wb : IntKind.i64.wrap (rsS P x y k + drp (P k) (x k) * y k) = rsS P x y k + drp (P k) (x k) * y k := IntWalk.i64_in _ (by omega)
      clear hd hs
      have G0 := pip_cells wr (P k) 121
      have G1 := (below_new wr (.cells #[.int .i64 (P k).f, .int .i64 (P k).t, .int .i64 (P k).k, .int .i64 (P k).v, .int .i64 (P k).l] 121)).cell (p := ⟨w.heap.size, 2 + k, none⟩) lwr
      have G2 := (below_new wr (.cells #[.int .i64 (P k).f, .int .i64 (P k).t, .int .i64 (P k).k, .int .i64 (P k).v, .int .i64 (P k).l] 121)).cell (p := ⟨bc, k, none⟩) lwc
      have G3 := below_new wr (.cells #[.int .i64 (P k).f, .int .i64 (P k).t, .int .i64 (P k).k, .int .i64 (P k).v, .int .i64 (P k).l] 121)
      have G4 : (wr.alloc (.cells #[.int .i64 (P k).f, .int .i64 (P k).t, .int .i64 (P k).k, .int .i64 (P k).v, .int .i64 (P k).l] 121)).heap.size = wr.heap.size + 1 := by simp
      go_upto_region 6 with (fail)
      obtain ⟨w6, hw6⟩ : ∃ w6, wr.alloc (.cells #[.int .i64 (P k).f, .int .i64 (P k).t, .int .i64 (P k).k, .int .i64 (P k).v, .int .i64 (P k).l] 121) = w6 := ⟨_, rfl⟩
      rw [hw6] at G0 G1 G2 G3 G4 ⊢
      clear hw6
      rw [yx] at G1
      rw [yc] at G2
      obtain ⟨f0, f1, f2, f3, f4⟩ := G0
      have l6 : wr.heap.size < w6.heap.size := by omega
      have l7 : w.heap.size < w6.heap.size := by omega
      have l8 : bc < w6.heap.size := by omega
      clear G4 r0 r1 r2 r3 r4 yx yc
      go_region_held3 (fun w' : World => (w'.cell? ⟨wr.heap.size, 0, none⟩ = some (.int .i64 (P k).f) ∧ w'.cell? ⟨wr.heap.size, 1, none⟩ = some (.int .i64 (P k).t) ∧ w'.cell? ⟨wr.heap.size, 2, none⟩ = some (.int .i64 (P k).k) ∧ w'.cell? ⟨wr.heap.size, 3, none⟩ = some (.int .i64 (P k).v) ∧ w'.cell? ⟨wr.heap.size, 4, none⟩ = some (.int .i64 (P k).l)) ∧ w'.cell? ⟨w.heap.size, 2 + k, none⟩ = some (.int .i64 (x k)) ∧ w'.cell? ⟨bc, k, none⟩ = some (.int .i64 (y k)))
        (first | exact ⟨⟨f0, f1, f2, f3, f4⟩, G1, G2⟩ | exact SA)
        (first
          | (go_at_call 115; refine (dropFor_any (P k) (x k) _ n hpp z0 z1).mono ?_; rintro e wA ⟨rfl, hbA⟩; have hbA' := below_dr0 hbA; have SA : (wA.cell? ⟨wr.heap.size, 0, none⟩ = some (.int .i64 (P k).f) ∧ wA.cell? ⟨wr.heap.size, 1, none⟩ = some (.int .i64 (P k).t) ∧ wA.cell? ⟨wr.heap.size, 2, none⟩ = some (.int .i64 (P k).k) ∧ wA.cell? ⟨wr.heap.size, 3, none⟩ = some (.int .i64 (P k).v) ∧ wA.cell? ⟨wr.heap.size, 4, none⟩ = some (.int .i64 (P k).l)) ∧ wA.cell? ⟨w.heap.size, 2 + k, none⟩ = some (.int .i64 (x k)) ∧ wA.cell? ⟨bc, k, none⟩ = some (.int .i64 (y k)) := ⟨⟨(hbA'.cell (p := ⟨wr.heap.size, 0, none⟩) l6).trans f0, (hbA'.cell (p := ⟨wr.heap.size, 1, none⟩) l6).trans f1, (hbA'.cell (p := ⟨wr.heap.size, 2, none⟩) l6).trans f2, (hbA'.cell (p := ⟨wr.heap.size, 3, none⟩) l6).trans f3, (hbA'.cell (p := ⟨wr.heap.size, 4, none⟩) l6).trans f4⟩, (hbA'.cell (p := ⟨w.heap.size, 2 + k, none⟩) l7).trans G1, (hbA'.cell (p := ⟨bc, k, none⟩) l8).trans G2⟩; have zA := hbA'.size))
      go_wp2_with fail
      go_roundw
      case rel => exact ⟨k + 1, by rw [HS.out], by go_num, hlt, by omega, HBB.out.trans ((G3.mono (by omega)).trans (hbA'.mono (by omega)))⟩
      case measure => simp [intOf]; omega
    · have hkn : k = m := by omega
      have k1 : ¬ ((k : Int) < (m : Int)) := by omega
      have HF := Lib.hid (show rsS P x y k = rsS P x (cyc P (fE n P m) (fD n P m) c) m by rw [hkn, HCY.out])
      clear hkn
      go_wp2_with fail
      go_ret
      exact ⟨ret_i HF.out, HB3.out.trans (HBB.out.mono (by omega))⟩
end Go.Proofs.YtdbgcbkmcbgdiaaGreat.mem

namespace Go.Proofs.YtdbgcbkmcbgdiaaGreat.mem
open Go.RowKit
set_option linter.unusedVariables false

set_option maxRecDepth 100000 in
set_option maxHeartbeats 8000000 in
theorem residualBound_any (w : World) (p0 p1 : Option Addr) (c0 c1 : Nat) (n : Nat) (N : Nat → Nod) (m : Nat) (P : Nat → Pip) (lo hi : Nat) (h : NetAt w (.agg #[.slice p0 n c0, .slice p1 m c1]) n N m P lo hi) (hhi : hi ≤ w.heap.size) (hB : netB n N m P = true) (x : Nat → Int) (hx : ∀ k, k < m → -30000 ≤ x k ∧ x k ≤ 30000) (c : Nat) (hc : c < m) (hch : chP n P m c = true) :
    Calls Tryz.prog 160 #[.agg (nfL (.slice p0 n c0) (.slice p1 m c1) x).toArray, .int .i64 (c : Nat)] w fun e w' => e = .returned (.int .i64 (bdS P x (cyc P (fE n P m) (fD n P m) c) m)) ∧ Below w.heap.size w w' := by
  obtain ⟨hn1, hn24, hm40⟩ := net_sz hB
  have HV := Lib.hid h
  have HE := Lib.hid (show ∀ k, k < m → EgB (P k).k ((x k).natAbs : Int) from fun k hk => egB_of (net_pip hB hk) (hx k hk).1 (hx k hk).2)
  have HX := Lib.hid hx
  have HBN := Lib.hid hB
  have HCR := Lib.hid (show ∀ k, -1 ≤ cyc P (fE n P m) (fD n P m) c k ∧ cyc P (fE n P m) (fD n P m) c k ≤ 1 from fun k => cyc_one hB hc hch k)
  have A0 := Ob.newN w (.slice p0 n c0) (.slice p1 m c1) x 115
  have B0 := below_new w (.cells (nfL (.slice p0 n c0) (.slice p1 m c1) x).toArray 115)
  have hs0 : (w.alloc (.cells (nfL (.slice p0 n c0) (.slice p1 m c1) x).toArray 115)).heap.size = w.heap.size + 1 := by simp
  have e0 := A0.n0
  have e1 := A0.n1
  clear h hB hx hch
  go_enter Tryz.func160, Tryz.ntmps160
  go_upto_region 2 with (fail)
  obtain ⟨w1, hw1⟩ : ∃ w1, w.alloc (.cells (nfL (.slice p0 n c0) (.slice p1 m c1) x).toArray 115) = w1 := ⟨_, rfl⟩
  rw [hw1] at A0 B0 hs0 e0 e1 ⊢
  have HA := Lib.hid A0
  have HB := Lib.hid B0
  clear hw1 A0 B0
  generalize hcy : cyc P (fE n P m) (fD n P m) c = y at *
  have HCY := Lib.hid hcy
  clear hcy
  obtain ⟨Ly, hLy, eLy⟩ : ∃ L : List Value, arr y = List.toArray L ∧ L = arrL y := ⟨_, rfl, rfl⟩
  have nLy : Ly.length = 40 := by rw [eLy, arr_len]
  have oLy : ∀ v ∈ Ly, v.oneCell' = true := by rw [eLy]; exact arr_oneL _
  have HLy := Lib.hid hLy
  have HEy := Lib.hid eLy
  clear hLy eLy
  have T0 : ∀ W : World, (W.alloc (.cells #[Value.int IntKind.i64 0, Value.int IntKind.i64 0, Value.int IntKind.i64 0, Value.int IntKind.i64 0, Value.int IntKind.i64 0, Value.int IntKind.i64 0, Value.int IntKind.i64 0, Value.int IntKind.i64 0, Value.int IntKind.i64 0, Value.int IntKind.i64 0, Value.int IntKind.i64 0, Value.int IntKind.i64 0, Value.int IntKind.i64 0, Value.int IntKind.i64 0, Value.int IntKind.i64 0, Value.int IntKind.i64 0, Value.int IntKind.i64 0, Value.int IntKind.i64 0, Value.int IntKind.i64 0, Value.int IntKind.i64 0, Value.int IntKind.i64 0, Value.int IntKind.i64 0, Value.int IntKind.i64 0, Value.int IntKind.i64 0, Value.int IntKind.i64 0, Value.int IntKind.i64 0, Value.int IntKind.i64 0, Value.int IntKind.i64 0, Value.int IntKind.i64 0, Value.int IntKind.i64 0, Value.int IntKind.i64 0, Value.int IntKind.i64 0, Value.int IntKind.i64 0, Value.int IntKind.i64 0, Value.int IntKind.i64 0, Value.int IntKind.i64 0, Value.int IntKind.i64 0, Value.int IntKind.i64 0, Value.int IntKind.i64 0, Value.int IntKind.i64 0] 111)).there W.heap.size 0 40 := fun W => (Ob.new0 W _).there
  go_upto_region 3 with (first
    | (go_at_call 167; refine (cycleOf_any _ _ n N m P lo hi (HV.out.below HB.out hhi) (by omega) HBN.out c hc).mono ?_; rintro e wC ⟨rfl, hbC⟩; rw [HCY.out, HLy.out]; have tC := T0 wC)
    | (refine wpList_store_mid rfl 111 _ _ rfl wC.heap.size 0 Ly.toArray rfl rfl (by show (wC.alloc _).there _ 0 Ly.length; rw [nLy]; exact tC) (by show _ = some Ly.length; rw [nLy]; exact flow_info) (all_oneCell_toArray oLy) ?_))
  clear T0 tC
  have sC := hbC.size
  have C0 := (Ob.new0 wC 111).setArr y
  rw [← HEy.out] at C0
  have lC : wC.heap.size < ((wC.alloc (.cells #[Value.int IntKind.i64 0, Value.int IntKind.i64 0, Value.int IntKind.i64 0, Value.int IntKind.i64 0, Value.int IntKind.i64 0, Value.int IntKind.i64 0, Value.int IntKind.i64 0, Value.int IntKind.i64 0, Value.int IntKind.i64 0, Value.int IntKind.i64 0, Value.int IntKind.i64 0, Value.int IntKind.i64 0, Value.int IntKind.i64 0, Value.int IntKind.i64 0, Value.int IntKind.i64 0, Value.int IntKind.i64 0, Value.int IntKind.i64 0, Value.int IntKind.i64 0, Value.int IntKind.i64 0, Value.int IntKind.i64 0, Value.int IntKind.i64 0, Value.int IntKind.i64 0, Value.int IntKind.i64 0, Value.int IntKind.i64 0, Value.int IntKind.i64 0, Value.int IntKind.i64 0, Value.int IntKind.i64 0, Value.int IntKind.i64 0, Value.int IntKind.i64 0, Value.int IntKind.i64 0, Value.int IntKind.i64 0, Value.int IntKind.i64 0, Value.int IntKind.i64 0, Value.int IntKind.i64 0, Value.int IntKind.i64 0, Value.int IntKind.i64 0, Value.int IntKind.i64 0, Value.int IntKind.i64 0, Value.int IntKind.i64 0, Value.int IntKind.i64 0] 111)).setCells wC.heap.size 0 Ly).heap.size := C0.lt
  have bC := (hbC.mono (Nat.le_refl _)).trans ((below_new wC (.cells #[Value.int IntKind.i64 0, Value.int IntKind.i64 0, Value.int IntKind.i64 0, Value.int IntKind.i64 0, Value.int IntKind.i64 0, Value.int IntKind.i64 0, Value.int IntKind.i64 0, Value.int IntKind.i64 0, Value.int IntKind.i64 0, Value.int IntKind.i64 0, Value.int IntKind.i64 0, Value.int IntKind.i64 0, Value.int IntKind.i64 0, Value.int IntKind.i64 0, Value.int IntKind.i64 0, Value.int IntKind.i64 0, Value.int IntKind.i64 0, Value.int IntKind.i64 0, Value.int IntKind.i64 0, Value.int IntKind.i64 0, Value.int IntKind.i64 0, Value.int IntKind.i64 0, Value.int IntKind.i64 0, Value.int IntKind.i64 0, Value.int IntKind.i64 0, Value.int IntKind.i64 0, Value.int IntKind.i64 0, Value.int IntKind.i64 0, Value.int IntKind.i64 0, Value.int IntKind.i64 0, Value.int IntKind.i64 0, Value.int IntKind.i64 0, Value.int IntKind.i64 0, Value.int IntKind.i64 0, Value.int IntKind.i64 0, Value.int IntKind.i64 0, Value.int IntKind.i64 0, Value.int IntKind.i64 0, Value.int IntKind.i64 0, Value.int IntKind.i64 0] 111)).mono sC)
  have bC2 := bC.trans (((Only.refl wC.heap.size (wC.alloc (.cells #[Value.int IntKind.i64 0, Value.int IntKind.i64 0, Value.int IntKind.i64 0, Value.int IntKind.i64 0, Value.int IntKind.i64 0, Value.int IntKind.i64 0, Value.int IntKind.i64 0, Value.int IntKind.i64 0, Value.int IntKind.i64 0, Value.int IntKind.i64 0, Value.int IntKind.i64 0, Value.int IntKind.i64 0, Value.int IntKind.i64 0, Value.int IntKind.i64 0, Value.int IntKind.i64 0, Value.int IntKind.i64 0, Value.int IntKind.i64 0, Value.int IntKind.i64 0, Value.int IntKind.i64 0, Value.int IntKind.i64 0, Value.int IntKind.i64 0, Value.int IntKind.i64 0, Value.int IntKind.i64 0, Value.int IntKind.i64 0, Value.int IntKind.i64 0, Value.int IntKind.i64 0, Value.int IntKind.i64 0, Value.int IntKind.i64 0, Value.int IntKind.i64 0, Value.int IntKind.i64 0, Value.int IntKind.i64 0, Value.int IntKind.i64 0, Value.int IntKind.i64 0, Value.int IntKind.i64 0, Value.int IntKind.i64 0, Value.int IntKind.i64 0, Value.int IntKind.i64 0, Value.int IntKind.i64 0, Value.int IntKind.i64 0, Value.int IntKind.i64 0] 111))).setCs Ly 0).below sC)
  obtain ⟨w3, hw3⟩ : ∃ w3, (wC.alloc (.cells #[Value.int IntKind.i64 0, Value.int IntKind.i64 0, Value.int IntKind.i64 0, Value.int IntKind.i64 0, Value.int IntKind.i64 0, Value.int IntKind.i64 0, Value.int IntKind.i64 0, Value.int IntKind.i64 0, Value.int IntKind.i64 0, Value.int IntKind.i64 0, Value.int IntKind.i64 0, Value.int IntKind.i64 0, Value.int IntKind.i64 0, Value.int IntKind.i64 0, Value.int IntKind.i64 0, Value.int IntKind.i64 0, Value.int IntKind.i64 0, Value.int IntKind.i64 0, Value.int IntKind.i64 0, Value.int IntKind.i64 0, Value.int IntKind.i64 0, Value.int IntKind.i64 0, Value.int IntKind.i64 0, Value.int IntKind.i64 0, Value.int IntKind.i64 0, Value.int IntKind.i64 0, Value.int IntKind.i64 0, Value.int IntKind.i64 0, Value.int IntKind.i64 0, Value.int IntKind.i64 0, Value.int IntKind.i64 0, Value.int IntKind.i64 0, Value.int IntKind.i64 0, Value.int IntKind.i64 0, Value.int IntKind.i64 0, Value.int IntKind.i64 0, Value.int IntKind.i64 0, Value.int IntKind.i64 0, Value.int IntKind.i64 0, Value.int IntKind.i64 0] 111)).setCells wC.heap.size 0 Ly = w3 := ⟨_, rfl⟩
  obtain ⟨bc, hbc⟩ : ∃ bc, wC.heap.size = bc := ⟨_, rfl⟩
  rw [hw3] at C0 bC2 lC ⊢
  rw [hbc] at C0 sC lC ⊢
  clear hw3 hbc bC hbC e0 e1
  have HA3 := Lib.hid (HA.out.below bC2 (by omega))
  have HB3 := Lib.hid (HB.out.trans (bC2.mono (by omega)))
  have HC3 := Lib.hid C0
  have e1 := HA3.out.n1
  clear bC2 C0 HA HB
  go_upto_region 4 with (fail)
  go_loopw [5, 17] (fun sv iv wr => ∃ k : Nat, sv = .int .i64 (bdS P x y k) ∧ iv = .int .i64 k ∧ k ≤ m ∧ w3.heap.size ≤ wr.heap.size ∧ Below w3.heap.size w3 wr) (fun _ iv _ => m - (intOf iv).toNat)
  case atStart => exact ⟨0, rfl, rfl, Nat.zero_le _, Nat.le_refl _, Below.refl _ _⟩
  case round =>
    obtain ⟨k, rfl, rfl, hk, hsz, hb⟩ := hrel
    have HBB := Lib.hid hb
    clear hb
    have k0 : (0 : Int) ≤ (k : Int) := Int.natCast_nonneg _
    by_cases hlt : k < m
    · have k1 : (k : Int) < (m : Int) := by omega
      have k2 : (k : Int) < 40 := by omega
      have BW := Lib.hid (HB3.out.trans (HBB.out.mono (by omega)))
      have HAW := Lib.hid (HA3.out.below HBB.out (by omega))
      have HCW := Lib.hid (HC3.out.below HBB.out (by omega))
      obtain ⟨bp, op, rfl, q1, q2, r0, r1, r2, r3, r4⟩ := (HV.out.below BW.out hhi).pipe hlt
      have yx := HAW.out.nx k (by omega)
      have yc : wr.cell? ⟨bc, k, none⟩ = some (.int .i64 (y k)) := HCW.out.cell k (by omega)
      have lwr : w.heap.size < wr.heap.size := by omega
      have lwc : bc < wr.heap.size := by omega
      have lwp : bp < wr.heap.size := by omega
      obtain ⟨z0, z1⟩ := HX.out k hlt
      have he := HE.out k hlt
      have hd := bdT_bnd (P := P) (x := x) he
      have hs := bdS_bnd (P := P) (x := x) (y := y) (k := k) (fun j hj => HE.out j (by omega))
      have he1 := he.a1
      have he0 := he.a0
      have wa : IntKind.i64.wrap (3 * ((x k).natAbs : Int)) = 3 * ((x k).natAbs : Int) := IntWalk.i64_in _ (by omega)
      have wb : IntKind.i64.wrap (3 * ((x k).natAbs : Int) + 1) = 3 * ((x k).natAbs : Int) + 1 := IntWalk.i64_in _ (by omega)
      have wc : IntKind.i64.wrap ((P k).k * (3 * ((x k).natAbs : Int) + 1)) = (P k).k * (3 * ((x k).natAbs : Int) + 1) := IntWalk.i64_in _ (by unfold bdT at hd; omega)
      have wd : IntKind.i64.wrap (bdS P x y k + (P k).k * (3 * ((x k).natAbs : Int) + 1)) = bdS P x y k + (P k).k * (3 * ((x k).natAbs : Int) + 1) := IntWalk.i64_in _ (by unfold bdT at hd; omega)
      have G3 := below_new wr (.cells #[.int .i64 (P k).f, .int .i64 (P k).t, .int .i64 (P k).k, .int .i64 (P k).v, .int .i64 (P k).l] 121)
      have G4 : (wr.alloc (.cells #[.int .i64 (P k).f, .int .i64 (P k).t, .int .i64 (P k).k, .int .i64 (P k).v, .int .i64 (P k).l] 121)).heap.size = wr.heap.size + 1 := by simp
      clear hd hs he he1 he0
      by_cases hz : y k = 0
      · have hy : (y k != 0) = false := by rw [hz]; rfl
        have HS := Lib.hid (show bdS P x y (k + 1) = bdS P x y k by rw [show bdS P x y (k + 1) = bdS P x y k + (if y k = 0 then 0 else bdT P x k) from rfl, if_pos hz, Int.add_zero])
        clear hz wa wb wc wd
        go_wp2_with fail
        go_roundw
        case rel => exact ⟨k + 1, by rw [HS.out], by go_num, hlt, by omega, HBB.out.trans (G3.mono (by omega))⟩
        case measure => simp [intOf]; omega
      · have hy : (y k != 0) = true := by simpa using hz
        have HS := Lib.hid (show bdS P x y (k + 1) = bdS P x y k + (P k).k * (3 * ((x k).natAbs : Int) + 1) by rw [show bdS P x y (k + 1) = bdS P x y k + (if y k = 0 then 0 else bdT P x k) from rfl, if_neg hz]; rfl)
        clear hz
        go_wp2_with fail
        go_quiet ((go_at_call 155; exact Calls.quiet_of_same ((absN_any _ _ (by omega) (by omega)).mono fun e w' h => ⟨h.1, h.2.symm⟩)))
        go_wp2_with fail
        go_roundw
        case rel => exact ⟨k + 1, by rw [HS.out], by go_num, hlt, by (first | omega | (simp; omega)), below_drN1 (HBB.out.trans (G3.mono (by omega))) _⟩
        case measure => simp [intOf]; omega
    · have hkn : k = m := by omega
      have k1 : ¬ ((k : Int) < (m : Int)) := by omega
      have HF := Lib.hid (show bdS P x y k = bdS P x (cyc P (fE n P m) (fD n P m) c) m by rw [hkn, HCY.out])
      clear hkn
      go_wp2_with fail
      go_ret
      exact ⟨ret_i HF.out, HB3.out.trans (HBB.out.mono (by omega))⟩
end Go.Proofs.YtdbgcbkmcbgdiaaGreat.mem

namespace Go.Proofs.YtdbgcbkmcbgdiaaGreat.mem
open Go.RowKit
set_option linter.unusedVariables false

end Go.Proofs.YtdbgcbkmcbgdiaaGreat.mem

namespace Go.Proofs.YtdbgcbkmcbgdiaaGreat.mem
open Go.RowKit
set_option linter.unusedVariables false

set_option maxRecDepth 100000 in
set_option maxHeartbeats 8000000 in
theorem isImprovedBy_any (w : World) (p0 p1 : Option Addr) (c0 c1 : Nat) (n : Nat) (N : Nat → Nod) (m : Nat) (P : Nat → Pip) (lo hi : Nat) (h : NetAt w (.agg #[.slice p0 n c0, .slice p1 m c1]) n N m P lo hi) (hhi : hi ≤ w.heap.size) (hB : netB n N m P = true) (x : Nat → Int) (hx : ∀ k, k < 40 → -30000 ≤ x k ∧ x k ≤ 30000) (y : Nat → Int) (hy : ∀ k, k < 40 → -1 ≤ y k ∧ y k ≤ 1) (t : Int) (ht : -100000 ≤ t ∧ t ≤ 100000) :
    Calls Tryz.prog 168 #[.agg (nfL (.slice p0 n c0) (.slice p1 m c1) x).toArray, .agg (arr y), .int .i64 t] w fun e w' => e = .returned (.bool (loA m P x y t)) ∧ Below w.heap.size w w' := by
  obtain ⟨hn1, hn24, hm40⟩ := net_sz hB
  have HV := Lib.hid h
  have HX := Lib.hid hx
  have HBN := Lib.hid hB
  have HYB := Lib.hid (show ∀ k, k < 40 → (-4611686018427387904 ≤ x k + y k * t ∧ x k + y k * t ≤ 4611686018427387904) ∧ (-4611686018427387904 ≤ y k * t ∧ y k * t ≤ 4611686018427387904) from fun k hk => by
    have h1 := mulc ht (hy k hk)
    rw [Int.mul_comm] at h1
    have h2 := hx k hk
    omega)
  have A0 := (Ob.newN w (.slice p0 n c0) (.slice p1 m c1) x 115).keep (Below.heap_alloc _ (.cells (arr y) 111) _ (by rw [szal]; omega))
  have A1 := Ob.newA (w.alloc (.cells (nfL (.slice p0 n c0) (.slice p1 m c1) x).toArray 115)) y 111
  simp only [szal] at A1
  have B0 := (below_new w (.cells (nfL (.slice p0 n c0) (.slice p1 m c1) x).toArray 115)).trans ((below_new _ (.cells (arr y) 111)).mono (by rw [szal]; omega))
  have hs0 : ((w.alloc (.cells (nfL (.slice p0 n c0) (.slice p1 m c1) x).toArray 115)).alloc (.cells (arr y) 111)).heap.size = w.heap.size + 2 := by simp
  clear h hB hx hy
  go_enter Tryz.func168, Tryz.ntmps168
  go_upto_region 1 with (fail)
  obtain ⟨w1, hw1⟩ : ∃ w1, (w.alloc (.cells (nfL (.slice p0 n c0) (.slice p1 m c1) x).toArray 115)).alloc (.cells (arr y) 111) = w1 := ⟨_, rfl⟩
  rw [hw1] at A0 A1 B0 hs0 ⊢
  clear hw1
  have g0 := A0.nall
  have g1 := A1.range
  have HA := Lib.hid A0
  have HB := Lib.hid B0
  obtain ⟨Ly, hLy, eLy⟩ : ∃ L : List Value, arr y = List.toArray L ∧ L = arrL y := ⟨_, rfl, rfl⟩
  rw [← eLy] at g1
  have nLy : Ly.length = 40 := by rw [eLy, arr_len]
  have HLy := Lib.hid hLy
  clear hLy eLy A0 A1 B0
  obtain ⟨z, hz⟩ : ∃ z : Nat → Int, (fun k => x k + y k * t) = z := ⟨_, rfl⟩
  have HZ := Lib.hid hz
  clear hz
  have T0 : ∀ W : World, (W.alloc (.cells #[Value.slice none 0 0, Value.slice none 0 0, Value.int IntKind.i64 0, Value.int IntKind.i64 0, Value.int IntKind.i64 0, Value.int IntKind.i64 0, Value.int IntKind.i64 0, Value.int IntKind.i64 0, Value.int IntKind.i64 0, Value.int IntKind.i64 0, Value.int IntKind.i64 0, Value.int IntKind.i64 0, Value.int IntKind.i64 0, Value.int IntKind.i64 0, Value.int IntKind.i64 0, Value.int IntKind.i64 0, Value.int IntKind.i64 0, Value.int IntKind.i64 0, Value.int IntKind.i64 0, Value.int IntKind.i64 0, Value.int IntKind.i64 0, Value.int IntKind.i64 0, Value.int IntKind.i64 0, Value.int IntKind.i64 0, Value.int IntKind.i64 0, Value.int IntKind.i64 0, Value.int IntKind.i64 0, Value.int IntKind.i64 0, Value.int IntKind.i64 0, Value.int IntKind.i64 0, Value.int IntKind.i64 0, Value.int IntKind.i64 0, Value.int IntKind.i64 0, Value.int IntKind.i64 0, Value.int IntKind.i64 0, Value.int IntKind.i64 0, Value.int IntKind.i64 0, Value.int IntKind.i64 0, Value.int IntKind.i64 0, Value.int IntKind.i64 0, Value.int IntKind.i64 0, Value.int IntKind.i64 0] 115)).there W.heap.size 0 42 := fun W => (Ob.newZ W _).there
  go_upto_region 2 with (first
    | (refine wpList_load_mid rfl 115 _ rfl w.heap.size 0 rfl (nfL (.slice p0 n c0) (.slice p1 m c1) x) _ g0 Tryz.underlying115 rfl (by rw [nfL_len]; exact nf_info) ?_)
    | (refine wpList_load_mid rfl 111 _ rfl (w.heap.size + 1) 0 rfl Ly _ g1 Tryz.underlying111 rfl (by rw [nLy]; exact flow_info) ?_)
    | (go_at_call 146; rw [← HLy.out]; refine (plusCycle_any _ (.slice p0 n c0) (.slice p1 m c1) rfl rfl x y t (fun k hk => (HYB.out k hk).1) (fun k hk => (HYB.out k hk).2)).mono ?_; rintro e wC ⟨rfl, hbC⟩; rw [HZ.out]; have tC := T0 wC)
    | (refine wpList_store_mid rfl 115 _ _ rfl wC.heap.size 0 (nfL (.slice p0 n c0) (.slice p1 m c1) z).toArray rfl rfl (by show (wC.alloc _).there _ 0 (nfL _ _ _).length; rw [nfL_len]; exact tC) (by show _ = some (nfL _ _ _).length; rw [nfL_len]; exact nf_info) (all_oneCell_toArray nf_one) ?_))
  clear T0 tC
  have sC := hbC.size
  have C0 := (Ob.newZ wC 115).nput (.slice p0 n c0) (.slice p1 m c1) z
  have lC : wC.heap.size < ((wC.alloc (.cells #[Value.slice none 0 0, Value.slice none 0 0, Value.int IntKind.i64 0, Value.int IntKind.i64 0, Value.int IntKind.i64 0, Value.int IntKind.i64 0, Value.int IntKind.i64 0, Value.int IntKind.i64 0, Value.int IntKind.i64 0, Value.int IntKind.i64 0, Value.int IntKind.i64 0, Value.int IntKind.i64 0, Value.int IntKind.i64 0, Value.int IntKind.i64 0, Value.int IntKind.i64 0, Value.int IntKind.i64 0, Value.int IntKind.i64 0, Value.int IntKind.i64 0, Value.int IntKind.i64 0, Value.int IntKind.i64 0, Value.int IntKind.i64 0, Value.int IntKind.i64 0, Value.int IntKind.i64 0, Value.int IntKind.i64 0, Value.int IntKind.i64 0, Value.int IntKind.i64 0, Value.int IntKind.i64 0, Value.int IntKind.i64 0, Value.int IntKind.i64 0, Value.int IntKind.i64 0, Value.int IntKind.i64 0, Value.int IntKind.i64 0, Value.int IntKind.i64 0, Value.int IntKind.i64 0, Value.int IntKind.i64 0, Value.int IntKind.i64 0, Value.int IntKind.i64 0, Value.int IntKind.i64 0, Value.int IntKind.i64 0, Value.int IntKind.i64 0, Value.int IntKind.i64 0, Value.int IntKind.i64 0] 115)).setCells wC.heap.size 0 (nfL (.slice p0 n c0) (.slice p1 m c1) z)).heap.size := C0.lt
  have bC := (hbC.mono (Nat.le_refl _)).trans ((below_new wC (.cells #[Value.slice none 0 0, Value.slice none 0 0, Value.int IntKind.i64 0, Value.int IntKind.i64 0, Value.int IntKind.i64 0, Value.int IntKind.i64 0, Value.int IntKind.i64 0, Value.int IntKind.i64 0, Value.int IntKind.i64 0, Value.int IntKind.i64 0, Value.int IntKind.i64 0, Value.int IntKind.i64 0, Value.int IntKind.i64 0, Value.int IntKind.i64 0, Value.int IntKind.i64 0, Value.int IntKind.i64 0, Value.int IntKind.i64 0, Value.int IntKind.i64 0, Value.int IntKind.i64 0, Value.int IntKind.i64 0, Value.int IntKind.i64 0, Value.int IntKind.i64 0, Value.int IntKind.i64 0, Value.int IntKind.i64 0, Value.int IntKind.i64 0, Value.int IntKind.i64 0, Value.int IntKind.i64 0, Value.int IntKind.i64 0, Value.int IntKind.i64 0, Value.int IntKind.i64 0, Value.int IntKind.i64 0, Value.int IntKind.i64 0, Value.int IntKind.i64 0, Value.int IntKind.i64 0, Value.int IntKind.i64 0, Value.int IntKind.i64 0, Value.int IntKind.i64 0, Value.int IntKind.i64 0, Value.int IntKind.i64 0, Value.int IntKind.i64 0, Value.int IntKind.i64 0, Value.int IntKind.i64 0] 115)).mono sC)
  have bC2 := bC.trans (((Only.refl wC.heap.size (wC.alloc (.cells #[Value.slice none 0 0, Value.slice none 0 0, Value.int IntKind.i64 0, Value.int IntKind.i64 0, Value.int IntKind.i64 0, Value.int IntKind.i64 0, Value.int IntKind.i64 0, Value.int IntKind.i64 0, Value.int IntKind.i64 0, Value.int IntKind.i64 0, Value.int IntKind.i64 0, Value.int IntKind.i64 0, Value.int IntKind.i64 0, Value.int IntKind.i64 0, Value.int IntKind.i64 0, Value.int IntKind.i64 0, Value.int IntKind.i64 0, Value.int IntKind.i64 0, Value.int IntKind.i64 0, Value.int IntKind.i64 0, Value.int IntKind.i64 0, Value.int IntKind.i64 0, Value.int IntKind.i64 0, Value.int IntKind.i64 0, Value.int IntKind.i64 0, Value.int IntKind.i64 0, Value.int IntKind.i64 0, Value.int IntKind.i64 0, Value.int IntKind.i64 0, Value.int IntKind.i64 0, Value.int IntKind.i64 0, Value.int IntKind.i64 0, Value.int IntKind.i64 0, Value.int IntKind.i64 0, Value.int IntKind.i64 0, Value.int IntKind.i64 0, Value.int IntKind.i64 0, Value.int IntKind.i64 0, Value.int IntKind.i64 0, Value.int IntKind.i64 0, Value.int IntKind.i64 0, Value.int IntKind.i64 0] 115))).setCs (nfL (.slice p0 n c0) (.slice p1 m c1) z) 0).below sC)
  obtain ⟨w3, hw3⟩ : ∃ w3, (wC.alloc (.cells #[Value.slice none 0 0, Value.slice none 0 0, Value.int IntKind.i64 0, Value.int IntKind.i64 0, Value.int IntKind.i64 0, Value.int IntKind.i64 0, Value.int IntKind.i64 0, Value.int IntKind.i64 0, Value.int IntKind.i64 0, Value.int IntKind.i64 0, Value.int IntKind.i64 0, Value.int IntKind.i64 0, Value.int IntKind.i64 0, Value.int IntKind.i64 0, Value.int IntKind.i64 0, Value.int IntKind.i64 0, Value.int IntKind.i64 0, Value.int IntKind.i64 0, Value.int IntKind.i64 0, Value.int IntKind.i64 0, Value.int IntKind.i64 0, Value.int IntKind.i64 0, Value.int IntKind.i64 0, Value.int IntKind.i64 0, Value.int IntKind.i64 0, Value.int IntKind.i64 0, Value.int IntKind.i64 0, Value.int IntKind.i64 0, Value.int IntKind.i64 0, Value.int IntKind.i64 0, Value.int IntKind.i64 0, Value.int IntKind.i64 0, Value.int IntKind.i64 0, Value.int IntKind.i64 0, Value.int IntKind.i64 0, Value.int IntKind.i64 0, Value.int IntKind.i64 0, Value.int IntKind.i64 0, Value.int IntKind.i64 0, Value.int IntKind.i64 0, Value.int IntKind.i64 0, Value.int IntKind.i64 0] 115)).setCells wC.heap.size 0 (nfL (.slice p0 n c0) (.slice p1 m c1) z) = w3 := ⟨_, rfl⟩
  obtain ⟨bc, hbc⟩ : ∃ bc, wC.heap.size = bc := ⟨_, rfl⟩
  rw [hw3] at C0 bC2 lC ⊢
  rw [hbc] at C0 sC lC ⊢
  clear hw3 hbc bC hbC g0 g1
  have HA3 := Lib.hid (HA.out.below bC2 (by omega))
  have HB3 := Lib.hid (HB.out.trans (bC2.mono (by omega)))
  have HC3 := Lib.hid C0
  have l3 : w.heap.size < w3.heap.size := by omega
  have hi3 : hi ≤ w3.heap.size := by omega
  have hw3 : w.heap.size ≤ w3.heap.size := by omega
  clear bC2 C0 HA HB
  have g0 := HA3.out.nall
  have g1 := HC3.out.nall
  cases hf : flB z 40
  · have KS : ∀ W : World, Below w3.heap.size w3 W → (Below w3.heap.size w3 W ∧ W.rangeAt bc 0 (nfL (.slice p0 n c0) (.slice p1 m c1) z) ∧ W.rangeAt w.heap.size 0 (nfL (.slice p0 n c0) (.slice p1 m c1) x)) := fun W hW => ⟨hW, range_blockN g1 (hW.block _ lC), range_blockN g0 (hW.block _ l3)⟩
    have HL := Lib.hid (show loA m P x y t = false by unfold loA; rw [HZ.out, hf]; rfl)
    refine wp_region_noPanic ?_
    refine wp_region_held_drew (S := fun w' : World => Below w3.heap.size w3 w' ∧ w'.rangeAt bc 0 (nfL (.slice p0 n c0) (.slice p1 m c1) z) ∧ w'.rangeAt w.heap.size 0 (nfL (.slice p0 n c0) (.slice p1 m c1) x)) (by kernel_rfl) (KS _ (below_drw (Below.refl _ _))) (fun sH => ?_)
    refine wpAnyH_take (i := 0) (v := .agg (nfL (.slice p0 n c0) (.slice p1 m c1) z).toArray) nthe0 (by kernel_rfl) (by kernel_rfl) (by kernel_rfl) (fun _ _ _ h => h) (yieldsIf_load_mid (by rfl) _ _ rfl bc 0 rfl (nfL (.slice p0 n c0) (.slice p1 m c1) z) _ (fun _ h => h.2.1) Tryz.underlying115 rfl (by rw [nfL_len]; exact nf_info)) sH ?_
    try simp only [Act.put, List.setIfInBounds_toArray]
    refine wpAnyH_ready (rs := [1]) (by kernel_rfl) (by simp) (AllReadyH.cons nthe1 (fun KX hKX => ?_) AllReadyH.nil)
    clear sH
    go_simp
    refine (areAllowed_any _ _ _ z).mono ?_
    rintro e wX ⟨rfl, hbX⟩
    rw [hf]
    have KX1 := below_dr0 hbX
    refine hKX.out _ _ (KS _ KX1) (fun sH => ?_)
    clear hKX KX
    try simp only [Act.put, List.setIfInBounds_toArray, List.set_cons_succ]
    refine wpAnyH_take (i := 2) (v := ?_) nthe2 (by kernel_rfl) (by kernel_rfl) (by kernel_rfl) (fun _ _ _ h => h) (Or.inl ⟨by rfl, ?_⟩) sH ?_
    rotate_left
    · intro wS hSw; (try dsimp only at hSw); go_simp; try with_reducible rfl
    try simp only [Act.put, List.setIfInBounds_toArray, List.set_cons_zero, List.set_cons_succ]
    refine wpAnyH_take (i := 3) (v := undef) nthe3 (by kernel_rfl) (by kernel_rfl) (by kernel_rfl) (fun _ _ _ h => h) (Or.inr ⟨by rfl, rfl⟩) sH ?_
    try simp only [Act.put, List.setIfInBounds_toArray, List.set_cons_zero, List.set_cons_succ]
    refine wpAnyH_take (i := 4) (v := undef) nthe4 (by kernel_rfl) (by kernel_rfl) (by kernel_rfl) (fun _ _ _ h => h) (Or.inr ⟨by rfl, rfl⟩) sH ?_
    try simp only [Act.put, List.setIfInBounds_toArray, List.set_cons_zero, List.set_cons_succ]
    refine wpAnyH_take (i := 5) (v := undef) nthe5 (by kernel_rfl) (by kernel_rfl) (by kernel_rfl) (fun _ _ _ h => h) (Or.inr ⟨by rfl, rfl⟩) sH ?_
    try simp only [Act.put, List.setIfInBounds_toArray, List.set_cons_zero, List.set_cons_succ]
    refine wpAnyH_take (i := 6) (v := undef) nthe6 (by kernel_rfl) (by kernel_rfl) (by kernel_rfl) (fun _ _ _ h => h) (Or.inr ⟨by rfl, rfl⟩) sH ?_
    try simp only [Act.put, List.setIfInBounds_toArray, List.set_cons_zero, List.set_cons_succ]
    refine wpAnyH_take (i := 7) (v := undef) nthe7 (by kernel_rfl) (by kernel_rfl) (by kernel_rfl) (fun _ _ _ h => h) (Or.inr ⟨by rfl, rfl⟩) sH ?_
    try simp only [Act.put, List.setIfInBounds_toArray, List.set_cons_zero, List.set_cons_succ]
    refine wpAnyH_take (i := 8) (v := ?_) nthe8 (by kernel_rfl) (by kernel_rfl) (by kernel_rfl) (fun _ _ _ h => h) (Or.inl ⟨by rfl, ?_⟩) sH ?_
    rotate_left
    · intro wS hSw; (try dsimp only at hSw); go_simp; try with_reducible rfl
    try simp only [Act.put, List.setIfInBounds_toArray, List.set_cons_zero, List.set_cons_succ]
    refine wpAnyH_take (i := 9) (v := ?_) nthe9 (by kernel_rfl) (by kernel_rfl) (by kernel_rfl) (fun _ _ _ h => h) (Or.inl ⟨by rfl, ?_⟩) sH ?_
    rotate_left
    · intro wS hSw; (try dsimp only at hSw); go_simp; try with_reducible rfl
    try simp only [Act.put, List.setIfInBounds_toArray, List.set_cons_zero, List.set_cons_succ]
    refine wpAnyH_done (by kernel_rfl) ?_ _
    refine NoPanic.normal ?_
    go_wp2_with fail
    go_ret
    exact ⟨ret_b HL.out.symm, HB3.out.trans (KX1.mono (by omega))⟩
  · have KS : ∀ W : World, Below w3.heap.size w3 W → (Below w3.heap.size w3 W ∧ W.rangeAt bc 0 (nfL (.slice p0 n c0) (.slice p1 m c1) z) ∧ W.rangeAt w.heap.size 0 (nfL (.slice p0 n c0) (.slice p1 m c1) x)) := fun W hW => ⟨hW, range_blockN g1 (hW.block _ lC), range_blockN g0 (hW.block _ l3)⟩
    have HL := Lib.hid (show loA m P x y t = decide (egS P z m < egS P x m) by unfold loA; rw [HZ.out, hf]; rfl)
    have HZR := Lib.hid (show ∀ k, k < m → -30000 ≤ z k ∧ z k ≤ 30000 from fun k hk => flQ_iff.1 (flB_iff.1 hf k (by omega)))
    have HX40 := Lib.hid (show ∀ k, k < m → -30000 ≤ x k ∧ x k ≤ 30000 from fun k hk => HX.out k (by omega))
    refine wp_region_noPanic ?_
    refine wp_region_held_drew (S := fun w' : World => Below w3.heap.size w3 w' ∧ w'.rangeAt bc 0 (nfL (.slice p0 n c0) (.slice p1 m c1) z) ∧ w'.rangeAt w.heap.size 0 (nfL (.slice p0 n c0) (.slice p1 m c1) x)) (by kernel_rfl) (KS _ (below_drw (Below.refl _ _))) (fun sH => ?_)
    refine wpAnyH_take (i := 0) (v := .agg (nfL (.slice p0 n c0) (.slice p1 m c1) z).toArray) nthe0 (by kernel_rfl) (by kernel_rfl) (by kernel_rfl) (fun _ _ _ h => h) (yieldsIf_load_mid (by rfl) _ _ rfl bc 0 rfl (nfL (.slice p0 n c0) (.slice p1 m c1) z) _ (fun _ h => h.2.1) Tryz.underlying115 rfl (by rw [nfL_len]; exact nf_info)) sH ?_
    try simp only [Act.put, List.setIfInBounds_toArray, List.set_cons_zero, List.set_cons_succ]
    refine wpAnyH_ready (rs := [1]) (by kernel_rfl) (by simp) (AllReadyH.cons nthe1 (fun KX hKX => ?_) AllReadyH.nil)
    clear sH
    go_simp
    refine (areAllowed_any _ _ _ z).mono ?_
    rintro e wX ⟨rfl, hbX⟩
    rw [hf]
    have KX1 := below_dr0 hbX
    have zX := KX1.size
    refine hKX.out _ _ (KS _ KX1) (fun sH => ?_)
    clear hKX KX
    try simp only [Act.put, List.setIfInBounds_toArray, List.set_cons_zero, List.set_cons_succ]
    refine wpAnyH_take (i := 2) (v := ?_) nthe2 (by kernel_rfl) (by kernel_rfl) (by kernel_rfl) (fun _ _ _ h => h) (Or.inl ⟨by rfl, ?_⟩) sH ?_
    rotate_left
    · intro wS hSw; (try dsimp only at hSw); go_simp; try with_reducible rfl
    try simp only [Act.put, List.setIfInBounds_toArray, List.set_cons_zero, List.set_cons_succ]
    refine wpAnyH_take (i := 3) (v := .agg (nfL (.slice p0 n c0) (.slice p1 m c1) z).toArray) nthe3 (by kernel_rfl) (by kernel_rfl) (by kernel_rfl) (fun _ _ _ h => h) (yieldsIf_load_mid (by rfl) _ _ rfl bc 0 rfl (nfL (.slice p0 n c0) (.slice p1 m c1) z) _ (fun _ h => h.2.1) Tryz.underlying115 rfl (by rw [nfL_len]; exact nf_info)) sH ?_
    try simp only [Act.put, List.setIfInBounds_toArray, List.set_cons_zero, List.set_cons_succ]
    refine wpAnyH_take (i := 5) (v := .agg (nfL (.slice p0 n c0) (.slice p1 m c1) x).toArray) nthe5 (by kernel_rfl) (by kernel_rfl) (by kernel_rfl) (fun _ _ _ h => h) (yieldsIf_load_mid (by rfl) _ _ rfl w.heap.size 0 rfl (nfL (.slice p0 n c0) (.slice p1 m c1) x) _ (fun _ h => h.2.2) Tryz.underlying115 rfl (by rw [nfL_len]; exact nf_info)) sH ?_
    try simp only [Act.put, List.setIfInBounds_toArray, List.set_cons_zero, List.set_cons_succ]
    refine wpAnyH_ready (rs := [4]) (by kernel_rfl) (by simp) (AllReadyH.cons nthe4 (fun KX hKX => ?_) AllReadyH.nil)
    clear sH
    go_simp
    refine (energy_any wX p0 p1 c0 c1 n N m P lo hi (HV.out.below (HB3.out.trans (KX1.mono (by omega))) hhi) (by omega) HBN.out z HZR.out).mono ?_
    rintro e wY ⟨rfl, hbY⟩
    have KX2 := KX1.trans (hbY.mono (by omega))
    have zY := KX2.size
    refine hKX.out _ _ (KS _ KX2) (fun sH => ?_)
    clear hKX KX
    try simp only [Act.put, List.setIfInBounds_toArray, List.set_cons_zero, List.set_cons_succ]
    refine wpAnyH_ready (rs := [6]) (by kernel_rfl) (by simp) (AllReadyH.cons nthe6 (fun KX hKX => ?_) AllReadyH.nil)
    clear sH
    go_simp
    refine (energy_any wY p0 p1 c0 c1 n N m P lo hi (HV.out.below (HB3.out.trans (KX2.mono (by omega))) hhi) (by omega) HBN.out x HX40.out).mono ?_
    rintro e wZ ⟨rfl, hbZ⟩
    have KX3 := KX2.trans (hbZ.mono (by omega))
    refine hKX.out _ _ (KS _ KX3) (fun sH => ?_)
    clear hKX KX
    try simp only [Act.put, List.setIfInBounds_toArray, List.set_cons_zero, List.set_cons_succ]
    refine wpAnyH_take (i := 7) (v := ?_) nthe7 (by kernel_rfl) (by kernel_rfl) (by kernel_rfl) (fun _ _ _ h => h) (Or.inl ⟨by rfl, ?_⟩) sH ?_
    rotate_left
    · intro wS hSw; (try dsimp only at hSw); go_simp; try with_reducible rfl
    try simp only [Act.put, List.setIfInBounds_toArray, List.set_cons_zero, List.set_cons_succ]
    refine wpAnyH_take (i := 8) (v := ?_) nthe8 (by kernel_rfl) (by kernel_rfl) (by kernel_rfl) (fun _ _ _ h => h) (Or.inl ⟨by rfl, ?_⟩) sH ?_
    rotate_left
    · intro wS hSw; (try dsimp only at hSw); go_simp; try with_reducible rfl
    try simp only [Act.put, List.setIfInBounds_toArray, List.set_cons_zero, List.set_cons_succ]
    refine wpAnyH_take (i := 9) (v := ?_) nthe9 (by kernel_rfl) (by kernel_rfl) (by kernel_rfl) (fun _ _ _ h => h) (Or.inl ⟨by rfl, ?_⟩) sH ?_
    rotate_left
    · intro wS hSw; (try dsimp only at hSw); go_simp; try with_reducible rfl
    try simp only [Act.put, List.setIfInBounds_toArray, List.set_cons_zero, List.set_cons_succ]
    refine wpAnyH_done (by kernel_rfl) ?_ _
    refine NoPanic.normal ?_
    go_wp2_with fail
    go_ret
    exact ⟨ret_b HL.out.symm, HB3.out.trans (KX3.mono (by omega))⟩
end Go.Proofs.YtdbgcbkmcbgdiaaGreat.mem

namespace Go.Proofs.YtdbgcbkmcbgdiaaGreat.mem
open Go.RowKit
set_option linter.unusedVariables false

end Go.Proofs.YtdbgcbkmcbgdiaaGreat.mem

namespace Go.Proofs.YtdbgcbkmcbgdiaaGreat.mem
open Go.RowKit
set_option linter.unusedVariables false

end Go.Proofs.YtdbgcbkmcbgdiaaGreat.mem

namespace Go.Proofs.YtdbgcbkmcbgdiaaGreat.mem
open Go.RowKit
set_option linter.unusedVariables false

end Go.Proofs.YtdbgcbkmcbgdiaaGreat.mem

namespace Go.Proofs.YtdbgcbkmcbgdiaaGreat.mem
open Go.RowKit
set_option linter.unusedVariables false

end Go.Proofs.YtdbgcbkmcbgdiaaGreat.mem

namespace Go.Proofs.YtdbgcbkmcbgdiaaGreat.mem
open Go.RowKit
set_option linter.unusedVariables false

end Go.Proofs.YtdbgcbkmcbgdiaaGreat.mem
