/-
  Several texts in one: Ena, Enb, Enc, End, Enf, Eng, Enh, Eni, Enj, Eno, Enp, Enq, Enr.
-/
import Derived.Test.YtdbgcbkmcbgdiaaRows
import Derived.Test.YtdbgcbkmcbgdiaaTvM
import Derived.Deep.RegionHeld3
import Derived.Deep.MidRow
import Derived.IntWalk
import Derived.Deep.CutRange
namespace Go.Proofs.Ytdbgcbkmcbgdiaa.mem
open Go.RowKit
set_option linter.unusedVariables false

/-- a pipe's part of the energy -/
def egT (P : Nat → Pip) (x : Nat → Int) (k : Nat) : Int := (P k).k * ((x k).natAbs : Int) * ((x k).natAbs : Int) * ((x k).natAbs : Int)
/-- the energy of the first pipes -/
def egS (P : Nat → Pip) (x : Nat → Int) : Nat → Int
  | 0 => 0
  | k + 1 => egS P x k + egT P x k
/-- the residual over the first pipes -/
def rsS (P : Nat → Pip) (x y : Nat → Int) : Nat → Int
  | 0 => 0
  | k + 1 => rsS P x y k + drp (P k) (x k) * y k
/-- the residual of a chord, by its place -/
def rsD (n : Nat) (P : Nat → Pip) (m : Nat) (x : Nat → Int) (j : Nat) : Int := rsS P x (cyc P (fE n P m) (fD n P m) (chS n P m j)) m
/-- a pipe's part of the bound -/
def bdT (P : Nat → Pip) (x : Nat → Int) (k : Nat) : Int := (P k).k * (3 * ((x k).natAbs : Int) + 1)
/-- the bound over the first pipes -/
def bdS (P : Nat → Pip) (x y : Nat → Int) : Nat → Int
  | 0 => 0
  | k + 1 => bdS P x y k + (if y k = 0 then 0 else bdT P x k)

theorem egS_congr {P : Nat → Pip} {x y : Nat → Int} : ∀ {n : Nat}, (∀ k, k < n → x k = y k) → egS P x n = egS P y n
  | 0, _ => rfl
  | n + 1, h => by
    unfold egS egT
    rw [egS_congr (fun k hk => h k (by omega)), h n (by omega)]
theorem rsS_congr {P : Nat → Pip} {x y u v : Nat → Int} : ∀ {n : Nat}, (∀ k, k < n → x k = u k) → (∀ k, k < n → y k = v k) → rsS P x y n = rsS P u v n
  | 0, _, _ => rfl
  | n + 1, h, g => by
    unfold rsS
    rw [rsS_congr (fun k hk => h k (by omega)) (fun k hk => g k (by omega)), h n (by omega), g n (by omega)]
theorem bdS_congr {P : Nat → Pip} {x y u v : Nat → Int} : ∀ {n : Nat}, (∀ k, k < n → x k = u k) → (∀ k, k < n → y k = v k) → bdS P x y n = bdS P u v n
  | 0, _, _ => rfl
  | n + 1, h, g => by
    unfold bdS bdT
    rw [bdS_congr (fun k hk => h k (by omega)) (fun k hk => g k (by omega)), h n (by omega), g n (by omega)]

theorem mulc {x b c : Int} (hx : -b ≤ x ∧ x ≤ b) (hc : -1 ≤ c ∧ c ≤ 1) : -b ≤ x * c ∧ x * c ≤ b := by
  rcases (by omega : c = -1 ∨ c = 0 ∨ c = 1) with rfl | rfl | rfl <;> omega
/-- what the pieces of a cube keep within -/
structure EgB (k a : Int) : Prop where
  k0 : 0 ≤ k
  k1 : k ≤ 1000
  a0 : 0 ≤ a
  a1 : a ≤ 30000
theorem EgB.one {k a : Int} (h : EgB k a) : 0 ≤ k * a ∧ k * a ≤ 30000000 := by
  have h1 := Int.mul_le_mul h.k1 h.a1 h.a0 (by omega : (0 : Int) ≤ 1000)
  exact ⟨Int.mul_nonneg h.k0 h.a0, by omega⟩
theorem EgB.two {k a : Int} (h : EgB k a) : 0 ≤ k * a * a ∧ k * a * a ≤ 900000000000 := by
  have h1 := Int.mul_le_mul h.one.2 h.a1 h.a0 (by omega : (0 : Int) ≤ 30000000)
  exact ⟨Int.mul_nonneg h.one.1 h.a0, by omega⟩
theorem EgB.thr {k a : Int} (h : EgB k a) : 0 ≤ k * a * a * a ∧ k * a * a * a ≤ 27000000000000000 := by
  have h1 := Int.mul_le_mul h.two.2 h.a1 h.a0 (by omega : (0 : Int) ≤ 900000000000)
  exact ⟨Int.mul_nonneg h.two.1 h.a0, by omega⟩
theorem egB_of {n : Int} {q : Pip} {x : Int} (hq : pipB n q = true) (h0 : -30000 ≤ x) (h1 : x ≤ 30000) : EgB q.k (x.natAbs : Int) := by
  have hk := pip_k hq
  exact ⟨by omega, by omega, Int.natCast_nonneg _, by omega⟩
theorem egS_bnd {P : Nat → Pip} {x : Nat → Int} : ∀ {k : Nat}, (∀ j, j < k → EgB (P j).k ((x j).natAbs : Int)) → 0 ≤ egS P x k ∧ egS P x k ≤ (k : Int) * 27000000000000000
  | 0, _ => by simp [egS]
  | k + 1, h => by
    have h1 := egS_bnd (k := k) (fun j hj => h j (by omega : j < k + 1))
    have h2 := (h k (by omega)).thr
    unfold egS egT
    omega
theorem rsS_bnd {P : Nat → Pip} {x y : Nat → Int} : ∀ {k : Nat}, (∀ j, j < k → -900000000000 ≤ drp (P j) (x j) ∧ drp (P j) (x j) ≤ 900000000000) → (∀ j, j < k → -1 ≤ y j ∧ y j ≤ 1) → -((k : Int) * 900000000000) ≤ rsS P x y k ∧ rsS P x y k ≤ (k : Int) * 900000000000
  | 0, _, _ => by simp [rsS]
  | k + 1, h, g => by
    have h1 := rsS_bnd (k := k) (fun j hj => h j (by omega : j < k + 1)) (fun j hj => g j (by omega : j < k + 1))
    have h2 := mulc (h k (by omega)) (g k (by omega))
    unfold rsS
    omega
theorem bdT_bnd {P : Nat → Pip} {x : Nat → Int} {k : Nat} (h : EgB (P k).k ((x k).natAbs : Int)) : 0 ≤ bdT P x k ∧ bdT P x k ≤ 90001000 := by
  have h1 := h.one
  have h2 := h.k0
  have h3 := h.k1
  have e : bdT P x k = 3 * ((P k).k * ((x k).natAbs : Int)) + (P k).k := by unfold bdT; grind
  rw [e]
  omega
theorem bdS_bnd {P : Nat → Pip} {x y : Nat → Int} : ∀ {k : Nat}, (∀ j, j < k → EgB (P j).k ((x j).natAbs : Int)) → 0 ≤ bdS P x y k ∧ bdS P x y k ≤ (k : Int) * 90001000
  | 0, _ => by simp [bdS]
  | k + 1, h => by
    have h1 := bdS_bnd (k := k) (y := y) (fun j hj => h j (by omega : j < k + 1))
    have h2 := bdT_bnd (P := P) (x := x) (h k (by omega))
    unfold bdS
    split <;> omega

theorem bdS_abs {P : Nat → Pip} {x y : Nat → Int} {k : Nat} (hy : -1 ≤ y k ∧ y k ≤ 1) : bdS P x y (k + 1) = bdS P x y k + ((y k).natAbs : Int) * (P k).k * (3 * ((x k).natAbs : Int) + 1) := by
  rw [show bdS P x y (k + 1) = bdS P x y k + (if y k = 0 then 0 else bdT P x k) from rfl]
  by_cases h : y k = 0
  · rw [if_pos h, h]
    simp
  · rw [if_neg h, show ((y k).natAbs : Int) = 1 by omega, Int.one_mul]
    rfl
/-! The elements of a chord's cycle are -1, 0 and 1 -/
theorem Fo.asc_sgn {n : Nat} {P : Nat → Pip} {m : Nat} {E D : Int → Int} (h : Fo n P m E D) {y : Int} (hy : 0 ≤ y ∧ y < n) {a : Nat} (ha : a < m) (ey : E y = (a : Int)) {z : Int} (hz : 0 ≤ z ∧ z < n) : asc P E D z a = 0 ∨ asc P E D z a = sgn (P a) y := by
  refine h.ind (Q := fun z => asc P E D z a = 0 ∨ asc P E D z a = sgn (P a) y) (fun z hz e => .inl (h.asc_top e a)) (fun z hz c hc e _ _ ih => ?_) z hz
  rw [h.asc_up hz hc e a]
  by_cases g : a = c
  · subst g
    right
    rw [if_pos rfl, h.asc_own hz hc e, h.uniq hy hz ey e]
    omega
  · rw [if_neg g, Int.zero_add]
    exact ih
theorem Fo.cyc_one {n : Nat} {P : Nat → Pip} {m : Nat} {E D : Int → Int} (h : Fo n P m E D) {c : Nat} (hc : c < m) (hP : pipB n (P c) = true) (hch : ∀ z : Int, 0 ≤ z → z < n → E z ≠ (c : Int)) (a : Nat) : -1 ≤ cyc P E D c a ∧ cyc P E D c a ≤ 1 := by
  obtain ⟨hf, ht, _⟩ := pip_end hP
  by_cases hy : ∃ y : Int, 0 ≤ y ∧ y < n ∧ E y = (a : Int)
  · obtain ⟨y, y0, y1, ey⟩ := hy
    have hne : a ≠ c := fun e => hch y y0 y1 (by rw [ey, e])
    have ham : a < m := by
      rcases h.par y y0 y1 with g | ⟨b, hb, g, _⟩ <;> omega
    have h1 := h.asc_sgn ⟨y0, y1⟩ ham ey ht
    have h2 := h.asc_sgn ⟨y0, y1⟩ ham ey hf
    have h3 := sgn_rng (P a) y
    unfold cyc one1
    rw [if_neg hne]
    omega
  · rw [h.cyc_chord hc (fun z z0 z1 e => hy ⟨z, z0, z1, e⟩)]
    unfold one1
    split <;> omega
theorem cyc_one {n : Nat} {N : Nat → Nod} {P : Nat → Pip} {m : Nat} (hN : netB n N m P = true) {c : Nat} (hc : c < m) (hch : chP n P m c = true) (a : Nat) : -1 ≤ cyc P (fE n P m) (fD n P m) c a ∧ cyc P (fE n P m) (fD n P m) c a ≤ 1 :=
  (fo_net hN).cyc_one hc (net_pip hN hc) (chP_no hN hch) a

/-! What a cycle's adding does to the energy -/
theorem cube_step {a x s : Int} (hs : s = 1 ∨ s = -1) (ha : a = (x.natAbs : Int)) : ((x + s).natAbs : Int) * ((x + s).natAbs : Int) * ((x + s).natAbs : Int) ≤ a * a * a + 3 * (s * (x * a)) + 3 * a + 1 := by
  rcases (by omega : (a = x ∧ ((x + s).natAbs : Int) = a + s) ∨ (a = -x ∧ ((x + s).natAbs : Int) = a - s) ∨ (x = 0 ∧ a = 0 ∧ ((x + s).natAbs : Int) = 1)) with ⟨h1, h2⟩ | ⟨h1, h2⟩ | ⟨h1, h2, h3⟩
  · rw [h2, ← h1]
    rcases hs with rfl | rfl
    · have e : (a + 1) * (a + 1) * (a + 1) = a * a * a + 3 * (1 * (a * a)) + 3 * a + 1 := by grind
      omega
    · have e : (a + -1) * (a + -1) * (a + -1) = a * a * a + 3 * (-1 * (a * a)) + 3 * a - 1 := by grind
      omega
  · have hx : x = -a := by omega
    rw [h2, hx]
    rcases hs with rfl | rfl
    · have e : (a - 1) * (a - 1) * (a - 1) = a * a * a + 3 * (1 * (-a * a)) + 3 * a - 1 := by grind
      omega
    · have e : (a - -1) * (a - -1) * (a - -1) = a * a * a + 3 * (-1 * (-a * a)) + 3 * a + 1 := by grind
      omega
  · rw [h3, h2, h1]
    simp
theorem egT_step {P : Nat → Pip} {x y : Nat → Int} {t : Int} {k : Nat} (hk : 0 ≤ (P k).k) (ht : t = 1 ∨ t = -1) (hy : -1 ≤ y k ∧ y k ≤ 1) :
    egT P (fun j => x j + t * y j) k ≤ egT P x k + 3 * (t * (drp (P k) (x k) * y k)) + (if y k = 0 then 0 else bdT P x k) := by
  unfold egT bdT drp
  dsimp only
  by_cases h0 : y k = 0
  · rw [if_pos h0, h0]
    simp
  · rw [if_neg h0]
    have hs : t * y k = 1 ∨ t * y k = -1 := by
      rcases ht with rfl | rfl <;> omega
    have h1 := cube_step (x := x k) hs rfl
    generalize ((x k + t * y k).natAbs : Int) = b at h1 ⊢
    generalize ((x k).natAbs : Int) = a at h1 ⊢
    have h2 := Int.mul_le_mul_of_nonneg_left h1 hk
    have e1 : (P k).k * b * b * b = (P k).k * (b * b * b) := by grind
    have e2 : (P k).k * a * a * a + 3 * (t * ((P k).k * (x k * a) * y k)) + (P k).k * (3 * a + 1) = (P k).k * (a * a * a + 3 * (t * y k * (x k * a)) + 3 * a + 1) := by grind
    rw [e1, e2]
    exact h2
theorem egS_step {P : Nat → Pip} {x y : Nat → Int} {t : Int} (ht : t = 1 ∨ t = -1) : ∀ {k : Nat}, (∀ j, j < k → 0 ≤ (P j).k) → (∀ j, j < k → -1 ≤ y j ∧ y j ≤ 1) →
    egS P (fun j => x j + t * y j) k ≤ egS P x k + 3 * (t * rsS P x y k) + bdS P x y k
  | 0, _, _ => by simp [egS, rsS, bdS]
  | k + 1, h, g => by
    have h1 := egS_step (k := k) (x := x) ht (fun j hj => h j (by omega : j < k + 1)) (fun j hj => g j (by omega : j < k + 1))
    have h2 := egT_step (x := x) (h k (by omega)) ht (g k (by omega))
    unfold egS rsS bdS
    rw [Int.mul_add]
    omega
/-- where neither adding nor subtracting a cycle lowers the energy, three times its residual is at most its bound -/
theorem res_bound {P : Nat → Pip} {x y : Nat → Int} {k : Nat} (h : ∀ j, j < k → 0 ≤ (P j).k) (g : ∀ j, j < k → -1 ≤ y j ∧ y j ≤ 1)
    (hp : egS P x k ≤ egS P (fun j => x j + 1 * y j) k) (hm : egS P x k ≤ egS P (fun j => x j + -1 * y j) k) : 3 * ((rsS P x y k).natAbs : Int) ≤ bdS P x y k := by
  have h1 := egS_step (x := x) (.inl rfl) h g
  have h2 := egS_step (x := x) (.inr rfl) h g
  omega
theorem egS_neg {P : Nat → Pip} {x : Nat → Int} : ∀ k, egS P (fun j => -x j) k = egS P x k
  | 0 => rfl
  | k + 1 => by
    unfold egS egT
    dsimp only
    rw [egS_neg k, Int.natAbs_neg]

/-- does a multiple of a cycle lower the energy, as arrays? -/
def loA (m : Nat) (P : Nat → Pip) (x y : Nat → Int) (t : Int) : Bool := flB (fun k => x k + y k * t) 40 && decide (egS P (fun k => x k + y k * t) m < egS P x m)
/-- does a multiple of a cycle lower the energy? -/
def loB (m : Nat) (P : Nat → Pip) (x y : Nat → Int) (t : Int) : Bool := flB (fun k => x k + t * y k) m && decide (egS P (fun k => x k + t * y k) m < egS P x m)
/-- does no cycle of the first chords, added or subtracted, lower the energy, as arrays? -/
noncomputable def rxA (n : Nat) (m : Nat) (P : Nat → Pip) (x : Nat → Int) : Nat → Bool
  | 0 => true
  | j + 1 => rxA n m P x j && !(loA m P x (cyc P (fE n P m) (fD n P m) (chS n P m j)) 1 || loA m P x (cyc P (fE n P m) (fD n P m) (chS n P m j)) (-1))
theorem rxA_no {n m : Nat} {P : Nat → Pip} {x : Nat → Int} {j : Nat} (h : (loA m P x (cyc P (fE n P m) (fD n P m) (chS n P m j)) 1 || loA m P x (cyc P (fE n P m) (fD n P m) (chS n P m j)) (-1)) = true) : ∀ {k : Nat}, j < k → rxA n m P x k = false
  | 0, hk => by omega
  | k + 1, hk => by
    unfold rxA
    by_cases e : j = k
    · subst e; rw [h, Bool.not_true, Bool.and_false]
    · rw [rxA_no h (by omega : j < k), Bool.false_and]
/-- does no cycle of the first chords, added or subtracted, lower the energy? -/
noncomputable def rxB (n : Nat) (m : Nat) (P : Nat → Pip) (x : Nat → Int) : Nat → Bool
  | 0 => true
  | j + 1 => rxB n m P x j && !(loB m P x (cyc P (fE n P m) (fD n P m) (chS n P m j)) 1 || loB m P x (cyc P (fE n P m) (fD n P m) (chS n P m j)) (-1))
theorem rxB_no {n m : Nat} {P : Nat → Pip} {x : Nat → Int} {j : Nat} (h : (loB m P x (cyc P (fE n P m) (fD n P m) (chS n P m j)) 1 || loB m P x (cyc P (fE n P m) (fD n P m) (chS n P m j)) (-1)) = true) : ∀ {k : Nat}, j < k → rxB n m P x k = false
  | 0, hk => by omega
  | k + 1, hk => by
    unfold rxB
    by_cases e : j = k
    · subst e; rw [h, Bool.not_true, Bool.and_false]
    · rw [rxB_no h (by omega : j < k), Bool.false_and]
theorem rxB_yes {n m : Nat} {P : Nat → Pip} {x : Nat → Int} : ∀ {k : Nat}, rxB n m P x k = true → ∀ j, j < k → loB m P x (cyc P (fE n P m) (fD n P m) (chS n P m j)) 1 = false ∧ loB m P x (cyc P (fE n P m) (fD n P m) (chS n P m j)) (-1) = false
  | 0, _, j, hj => by omega
  | k + 1, h, j, hj => by
    unfold rxB at h
    rw [Bool.and_eq_true] at h
    by_cases e : j = k
    · subst e
      have := h.2
      rw [Bool.not_eq_true', Bool.or_eq_false_iff] at this
      exact this
    · exact rxB_yes h.1 j (by omega)

/-- the first of the greatest numbers without sign -/
def wsI (r : Nat → Int) : Nat → Nat
  | 0 => 0
  | k + 1 => if (r (wsI r k)).natAbs < (r k).natAbs then k else wsI r k
theorem wsI_lt (r : Nat → Int) : ∀ k, 0 < k → wsI r k < k
  | 0, h => by omega
  | k + 1, _ => by
    unfold wsI
    split
    · omega
    · rcases Nat.eq_zero_or_pos k with e | e
      · subst e; unfold wsI; omega
      · have := wsI_lt r k e
        omega
theorem wsI_max (r : Nat → Int) : ∀ k j, j < k → (r j).natAbs ≤ (r (wsI r k)).natAbs
  | 0, j, h => by omega
  | k + 1, j, h => by
    unfold wsI
    split
    · next g =>
      by_cases e : j = k
      · subst e; omega
      · have := wsI_max r k j (by omega)
        omega
    · next g =>
      by_cases e : j = k
      · subst e; omega
      · exact wsI_max r k j (by omega)
theorem wsI_one (r : Nat → Int) : wsI r 1 = 0 := by
  unfold wsI wsI
  simp

theorem ownS_shE {w : World} {v : Value} {n z b : Nat} {c : Nat → Nat → Value} (h : OwnS w v n z c b) : ∃ p cap, v = .slice p n cap := by
  obtain ⟨p, cap, h1, _⟩ := h.ex
  exact ⟨p, cap, h1⟩
theorem own_rowE {w : World} {p : Option Addr} {n c g : Nat} {x : Nat → Int} (h : OwnS w (.slice p n c) n 1 (fun i _ => .int .i64 (x i)) g) (hn : 0 < n) : p = some ⟨g, 0, none⟩ ∧ g < w.heap.size ∧ n ≤ c ∧ ∀ k, k < n → w.cell? ⟨g, k, none⟩ = some (.int .i64 (x k)) := by
  obtain ⟨p', cap, hv, h1, h2, h3⟩ := h.ex
  injection hv with e1 _ e3
  subst e1
  rcases h3 with h3 | ⟨h3, h4⟩
  · omega
  · refine ⟨h3, h4.lt, by omega, fun k hk => ?_⟩
    have := h4.cell k 0 hk (by omega)
    simpa using this
/-! What the exported functions answer -/
theorem pad_at {m : Nat} {d : Nat → Int} {k : Nat} (h : k < m) : pad m d k = d k := by unfold pad; rw [if_pos h]
theorem pad_rng {m : Nat} {d : Nat → Int} (h : ∀ k, k < m → -30000 ≤ d k ∧ d k ≤ 30000) (k : Nat) : -30000 ≤ pad m d k ∧ pad m d k ≤ 30000 := by
  unfold pad
  split
  · next g => exact h k g
  · omega
noncomputable def eoV (n : Nat) (N : Nat → Nod) (m : Nat) (P : Nat → Pip) (K : Nat) (d : Nat → Int) : Int := if flC n N m P K d = 0 then egS P d m else 0
noncomputable def ecC (n : Nat) (N : Nat → Nod) (m : Nat) (P : Nat → Pip) (K : Nat) (d : Nat → Int) (x y : Int) : Int := if ckC n N m P K d x = 0 then (if flQ y = true then (if flB (adD n P m d x y) m = true then 0 else 5) else 2) else ckC n N m P K d x
noncomputable def ecV (n : Nat) (N : Nat → Nod) (m : Nat) (P : Nat → Pip) (K : Nat) (d : Nat → Int) (x y : Int) : Int := if ecC n N m P K d x y = 0 then egS P (adD n P m d x y) m - egS P d m else 0
noncomputable def rsV (n : Nat) (N : Nat → Nod) (m : Nat) (P : Nat → Pip) (K : Nat) (d : Nat → Int) (x : Int) : Int := if ckC n N m P K d x = 0 then rsS P d (cyD n P m x) m else 0
noncomputable def bdV (n : Nat) (N : Nat → Nod) (m : Nat) (P : Nat → Pip) (K : Nat) (d : Nat → Int) (x : Int) : Int := if ckC n N m P K d x = 0 then bdS P d (cyD n P m x) m else 0
noncomputable def ixB (n : Nat) (N : Nat → Nod) (m : Nat) (P : Nat → Pip) (K : Nat) (d : Nat → Int) : Bool := decide (flC n N m P K d = 0) && rxB n m P d (chN n P m)
noncomputable def woC (n : Nat) (N : Nat → Nod) (m : Nat) (P : Nat → Pip) (K : Nat) (d : Nat → Int) : Int := if flC n N m P K d = 0 then (if chN n P m = 0 then 4 else 0) else flC n N m P K d
noncomputable def woV (n : Nat) (N : Nat → Nod) (m : Nat) (P : Nat → Pip) (K : Nat) (d : Nat → Int) : Int := if woC n N m P K d = 0 then ((chS n P m (wsI (rsD n P m d) (chN n P m)) : Nat) : Int) else 0
theorem rsD_pad {n : Nat} {P : Nat → Pip} {m : Nat} {d : Nat → Int} (j : Nat) : rsD n P m (pad m d) j = rsD n P m d j := rsS_congr (fun k hk => pad_at hk) (fun _ _ => rfl)
theorem ad_pad {n : Nat} {P : Nat → Pip} {m : Nat} {d : Nat → Int} {c : Nat} {y : Int} {k : Nat} (hk : k < m) : pad m d k + cyc P (fE n P m) (fD n P m) c k * y = adD n P m d (c : Int) y k := by
  unfold adD cyD
  rw [pad_at hk, Int.toNat_natCast, Int.mul_comm]
theorem ad_flB {n : Nat} {N : Nat → Nod} {P : Nat → Pip} {m : Nat} (hN : netB n N m P = true) {d : Nat → Int} {c : Nat} {y : Int} (hc : c < m) : flB (fun k => pad m d k + cyc P (fE n P m) (fD n P m) c k * y) 40 = flB (adD n P m d (c : Int) y) m := by
  have hm40 := (net_sz hN).2.2
  rw [flB_ext hm40 (fun k hk => by rw [cyc_off hN hc hk, Int.zero_mul]; unfold pad; rw [if_neg (by omega)]; rfl)]
  exact flB_congr fun k hk => ad_pad hk
theorem loA_pad {n : Nat} {N : Nat → Nod} {P : Nat → Pip} {m : Nat} (hN : netB n N m P = true) {d : Nat → Int} {c : Nat} {t : Int} (hc : c < m) : loA m P (pad m d) (cyc P (fE n P m) (fD n P m) c) t = loB m P d (cyc P (fE n P m) (fD n P m) c) t := by
  unfold loA loB
  rw [ad_flB hN hc, egS_congr (x := fun k => pad m d k + cyc P (fE n P m) (fD n P m) c k * t) (y := adD n P m d (c : Int) t) (fun k hk => ad_pad hk), egS_congr (x := pad m d) (y := d) (fun k hk => pad_at hk)]
  have e : adD n P m d (c : Int) t = fun k => d k + t * cyc P (fE n P m) (fD n P m) c k := by
    funext k
    unfold adD cyD
    rw [Int.toNat_natCast]
  rw [e]
theorem rxA_pad {n : Nat} {N : Nat → Nod} {P : Nat → Pip} {m : Nat} (hN : netB n N m P = true) {d : Nat → Int} : ∀ {k : Nat}, k ≤ chN n P m → rxA n m P (pad m d) k = rxB n m P d k
  | 0, _ => rfl
  | k + 1, h => by
    have hc := (chS_at (n := n) (P := P) (m := m) (j := k) (by omega)).1
    unfold rxA rxB
    rw [rxA_pad hN (by omega : k ≤ chN n P m), loA_pad hN hc, loA_pad hN hc]
theorem wsI_congr {r s : Nat → Int} : ∀ {k : Nat}, (∀ j, j < k → r j = s j) → wsI r k = wsI s k
  | 0, _ => rfl
  | k + 1, h => by
    have h1 := wsI_congr (k := k) (fun j hj => h j (by omega))
    unfold wsI
    rw [h1, h k (by omega)]
    rcases Nat.eq_zero_or_pos k with e | e
    · subst e
      unfold wsI
      simp
    · rw [h _ (by have := wsI_lt s k e; omega)]
end Go.Proofs.Ytdbgcbkmcbgdiaa.mem

namespace Go.Proofs.Ytdbgcbkmcbgdiaa.mem
open Go.RowKit
set_option linter.unusedVariables false

/-- the cells of a network with flows -/
def nfc (s0 s1 : Value) (x : Nat → Int) (k : Nat) : Value := if k = 0 then s0 else if k = 1 then s1 else ia x (k - 2)
def nfL (s0 s1 : Value) (x : Nat → Int) : List Value := s0 :: s1 :: arrL x
theorem nfL_len (s0 s1 : Value) (x : Nat → Int) : (nfL s0 s1 x).length = 42 := by unfold nfL; rw [List.length_cons, List.length_cons, arr_len]
theorem nfL_get (s0 s1 : Value) (x : Nat → Int) (k : Nat) (hk : k < 42) : (nfL s0 s1 x)[k]? = some (nfc s0 s1 x k) := by
  unfold nfL nfc
  match k, hk with
  | 0, _ => rfl
  | 1, _ => rfl
  | k + 2, hk =>
    rw [List.getElem?_cons_succ, List.getElem?_cons_succ, arrL_get x k (by omega), if_neg (by omega), if_neg (by omega)]
    rfl
theorem nfL_one {s0 s1 : Value} (h0 : s0.oneCell' = true) (h1 : s1.oneCell' = true) (x : Nat → Int) : ∀ v ∈ nfL s0 s1 x, v.oneCell' = true := fun v hv => by
  unfold nfL at hv
  rcases List.mem_cons.1 hv with rfl | hv
  · exact h0
  rcases List.mem_cons.1 hv with rfl | hv
  · exact h1
  exact arr_oneL x v hv
theorem nfL_eq {cur : List Value} {s0 s1 : Value} {x : Nat → Int} (h1 : cur.length = 42) (h2 : ∀ k, k < 42 → cur[k]? = some (nfc s0 s1 x k)) : cur = nfL s0 s1 x := by
  apply List.ext_getElem?
  intro k
  by_cases h : k < 42
  · rw [h2 k h, nfL_get s0 s1 x k h]
  · rw [List.getElem?_eq_none (by omega), List.getElem?_eq_none (by rw [nfL_len]; omega)]
theorem Ob.nrow {w : World} {b : Nat} {s0 s1 : Value} {x : Nat → Int} (h : Ob w b 42 (nfc s0 s1 x)) : ∃ t, w.heap[b]? = some (.cells (nfL s0 s1 x).toArray t (0, 0)) := by
  obtain ⟨cur, t, h1, h2, h3⟩ := h.ex
  have e : cur.toList = nfL s0 s1 x := nfL_eq (by rw [Array.length_toList, h2]) (fun k hk => by rw [Array.getElem?_toList]; exact h3 k hk)
  rw [← e, Array.toArray_toList]
  exact ⟨t, h1⟩
theorem Ob.newN (w : World) (s0 s1 : Value) (x : Nat → Int) (t : TypeId) : Ob (w.alloc (.cells (nfL s0 s1 x).toArray t)) w.heap.size 42 (nfc s0 s1 x) := Ob.new w _ t 42 _ (by rw [List.size_toArray, nfL_len]) (fun k hk => by rw [List.getElem?_toArray]; exact nfL_get s0 s1 x k hk)
theorem Ob.n0 {w : World} {b : Nat} {s0 s1 : Value} {x : Nat → Int} (h : Ob w b 42 (nfc s0 s1 x)) : w.cell? ⟨b, 0, none⟩ = some s0 := h.cell 0 (by omega)
theorem Ob.n1 {w : World} {b : Nat} {s0 s1 : Value} {x : Nat → Int} (h : Ob w b 42 (nfc s0 s1 x)) : w.cell? ⟨b, 1, none⟩ = some s1 := h.cell 1 (by omega)
theorem Ob.nx {w : World} {b : Nat} {s0 s1 : Value} {x : Nat → Int} (h : Ob w b 42 (nfc s0 s1 x)) (k : Nat) (hk : k < 40) : w.cell? ⟨b, 2 + k, none⟩ = some (.int .i64 (x k)) := by
  have := h.cell (2 + k) (by omega)
  unfold nfc at this
  rw [if_neg (by omega), if_neg (by omega), show 2 + k - 2 = k by omega] at this
  exact this
theorem Ob.nrange {w : World} {b : Nat} {s0 s1 : Value} {x : Nat → Int} (h : Ob w b 42 (nfc s0 s1 x)) : w.rangeAt b 2 (arrL x) := by
  intro j v hv
  have hj : j < 40 := by have := get_lt hv; rw [arr_len] at this; exact this
  rw [arrL_get x j hj] at hv
  injection hv with hv
  rw [h.nx j hj, ← hv]
  rfl
theorem Ob.nall {w : World} {b : Nat} {s0 s1 : Value} {x : Nat → Int} (h : Ob w b 42 (nfc s0 s1 x)) : w.rangeAt b 0 (nfL s0 s1 x) := by
  intro j v hv
  have hj : j < 42 := by have := get_lt hv; rw [nfL_len] at this; exact this
  rw [nfL_get s0 s1 x j hj] at hv
  injection hv with hv
  rw [Nat.zero_add, h.cell j hj, hv]
theorem Ob.nthere {w : World} {b : Nat} {d : Nat → Value} (h : Ob w b 42 d) : w.there b 2 40 := fun j hj => by
  exact ⟨by rw [h.cell (2 + j) (by omega)]; rfl, h.free (2 + j)⟩
theorem Ob.nset {w : World} {b : Nat} {s0 s1 : Value} {x : Nat → Int} (h : Ob w b 42 (nfc s0 s1 x)) (y : Nat → Int) : Ob (w.setCells b 2 (arrL y)) b 42 (nfc s0 s1 y) := by
  refine (h.setCs (arrL y) 2 (by rw [arr_len]; omega)).congr fun k hk => ?_
  unfold nfc
  by_cases g : 2 ≤ k
  · rw [if_pos g, arrL_get y (k - 2) (by omega), Option.getD_some, if_neg (by omega), if_neg (by omega)]
  · rw [if_neg g, Option.getD_none]
    by_cases e : k = 0
    · rw [if_pos e, if_pos e]
    · rw [if_neg e, if_neg e, if_pos (by omega), if_pos (by omega)]
theorem Ob.nput {w : World} {b : Nat} {d : Nat → Value} (h : Ob w b 42 d) (s0 s1 : Value) (y : Nat → Int) : Ob (w.setCells b 0 (nfL s0 s1 y)) b 42 (nfc s0 s1 y) := by
  refine (h.setCs (nfL s0 s1 y) 0 (by rw [nfL_len]; omega)).congr fun k hk => ?_
  rw [if_pos (Nat.zero_le k), Nat.sub_zero, nfL_get s0 s1 y k hk]
  rfl
theorem Ob.nsl {w : World} {b : Nat} {s0 s1 : Value} {x : Nat → Int} (h : Ob w b 42 (nfc s0 s1 x)) : Sl w (.slice (some ⟨b, 2, none⟩) 40 40) 40 x b (b + 1) :=
  ⟨some ⟨b, 2, none⟩, 40, rfl, .inr ⟨b, 2, rfl, Nat.le_refl _, by omega, fun k hk => h.nx k hk⟩⟩
theorem zeros42 (k : Nat) (hk : k < 42) : (#[Value.slice none 0 0, Value.slice none 0 0, Value.int IntKind.i64 0, Value.int IntKind.i64 0, Value.int IntKind.i64 0, Value.int IntKind.i64 0, Value.int IntKind.i64 0, Value.int IntKind.i64 0, Value.int IntKind.i64 0, Value.int IntKind.i64 0, Value.int IntKind.i64 0, Value.int IntKind.i64 0, Value.int IntKind.i64 0, Value.int IntKind.i64 0, Value.int IntKind.i64 0, Value.int IntKind.i64 0, Value.int IntKind.i64 0, Value.int IntKind.i64 0, Value.int IntKind.i64 0, Value.int IntKind.i64 0, Value.int IntKind.i64 0, Value.int IntKind.i64 0, Value.int IntKind.i64 0, Value.int IntKind.i64 0, Value.int IntKind.i64 0, Value.int IntKind.i64 0, Value.int IntKind.i64 0, Value.int IntKind.i64 0, Value.int IntKind.i64 0, Value.int IntKind.i64 0, Value.int IntKind.i64 0, Value.int IntKind.i64 0, Value.int IntKind.i64 0, Value.int IntKind.i64 0, Value.int IntKind.i64 0, Value.int IntKind.i64 0, Value.int IntKind.i64 0, Value.int IntKind.i64 0, Value.int IntKind.i64 0, Value.int IntKind.i64 0, Value.int IntKind.i64 0, Value.int IntKind.i64 0] : Array Value)[k]? = some (nfc (.slice none 0 0) (.slice none 0 0) (fun _ => 0) k) := by
  rcases (by omega : k = 0 ∨ k = 1 ∨ k = 2 ∨ k = 3 ∨ k = 4 ∨ k = 5 ∨ k = 6 ∨ k = 7 ∨ k = 8 ∨ k = 9 ∨ k = 10 ∨ k = 11 ∨ k = 12 ∨ k = 13 ∨ k = 14 ∨ k = 15 ∨ k = 16 ∨ k = 17 ∨ k = 18 ∨ k = 19 ∨ k = 20 ∨ k = 21 ∨ k = 22 ∨ k = 23 ∨ k = 24 ∨ k = 25 ∨ k = 26 ∨ k = 27 ∨ k = 28 ∨ k = 29 ∨ k = 30 ∨ k = 31 ∨ k = 32 ∨ k = 33 ∨ k = 34 ∨ k = 35 ∨ k = 36 ∨ k = 37 ∨ k = 38 ∨ k = 39 ∨ k = 40 ∨ k = 41) with rfl | rfl | rfl | rfl | rfl | rfl | rfl | rfl | rfl | rfl | rfl | rfl | rfl | rfl | rfl | rfl | rfl | rfl | rfl | rfl | rfl | rfl | rfl | rfl | rfl | rfl | rfl | rfl | rfl | rfl | rfl | rfl | rfl | rfl | rfl | rfl | rfl | rfl | rfl | rfl | rfl | rfl <;> rfl
theorem Ob.newZ (w : World) (t : TypeId) : Ob (w.alloc (.cells #[Value.slice none 0 0, Value.slice none 0 0, Value.int IntKind.i64 0, Value.int IntKind.i64 0, Value.int IntKind.i64 0, Value.int IntKind.i64 0, Value.int IntKind.i64 0, Value.int IntKind.i64 0, Value.int IntKind.i64 0, Value.int IntKind.i64 0, Value.int IntKind.i64 0, Value.int IntKind.i64 0, Value.int IntKind.i64 0, Value.int IntKind.i64 0, Value.int IntKind.i64 0, Value.int IntKind.i64 0, Value.int IntKind.i64 0, Value.int IntKind.i64 0, Value.int IntKind.i64 0, Value.int IntKind.i64 0, Value.int IntKind.i64 0, Value.int IntKind.i64 0, Value.int IntKind.i64 0, Value.int IntKind.i64 0, Value.int IntKind.i64 0, Value.int IntKind.i64 0, Value.int IntKind.i64 0, Value.int IntKind.i64 0, Value.int IntKind.i64 0, Value.int IntKind.i64 0, Value.int IntKind.i64 0, Value.int IntKind.i64 0, Value.int IntKind.i64 0, Value.int IntKind.i64 0, Value.int IntKind.i64 0, Value.int IntKind.i64 0, Value.int IntKind.i64 0, Value.int IntKind.i64 0, Value.int IntKind.i64 0, Value.int IntKind.i64 0, Value.int IntKind.i64 0, Value.int IntKind.i64 0] t)) w.heap.size 42 (nfc (.slice none 0 0) (.slice none 0 0) (fun _ => 0)) := Ob.new w _ t 42 _ rfl (fun k hk => zeros42 k hk)
theorem yieldsIf_build {P : Program} {ops : Array Oper} {S : World → Prop} {op : Oper} {a : Act} (hw : Region.wanted op (yielded ops a.tmps) = true) (t : TypeId) (parts : Array (Nat × Operand)) (ho : op.op = .build t parts) (cells : Array Value) (hb : P.built t (parts.map fun (i, x) => (i, a.eval x)).toList = some cells) : YieldsIf P ops S op (.agg cells) a :=
  .inl ⟨hw, fun w _ => by
    unfold execOp
    simp only [ho, Sem.run_bind, run_build w t _ cells hb, Result.andThen_ok]
    rfl⟩
theorem nthe0 {o0 : Oper} {l : List Oper} : (List.toArray (o0 :: l))[0]? = some o0 := rfl
theorem nthe1 {o0 o1 : Oper} {l : List Oper} : (List.toArray (o0 :: o1 :: l))[1]? = some o1 := rfl
theorem nthe2 {o0 o1 o2 : Oper} {l : List Oper} : (List.toArray (o0 :: o1 :: o2 :: l))[2]? = some o2 := rfl
theorem nthe3 {o0 o1 o2 o3 : Oper} {l : List Oper} : (List.toArray (o0 :: o1 :: o2 :: o3 :: l))[3]? = some o3 := rfl
theorem nthe4 {o0 o1 o2 o3 o4 : Oper} {l : List Oper} : (List.toArray (o0 :: o1 :: o2 :: o3 :: o4 :: l))[4]? = some o4 := rfl
theorem nthe5 {o0 o1 o2 o3 o4 o5 : Oper} {l : List Oper} : (List.toArray (o0 :: o1 :: o2 :: o3 :: o4 :: o5 :: l))[5]? = some o5 := rfl
theorem nthe6 {o0 o1 o2 o3 o4 o5 o6 : Oper} {l : List Oper} : (List.toArray (o0 :: o1 :: o2 :: o3 :: o4 :: o5 :: o6 :: l))[6]? = some o6 := rfl
theorem nthe7 {o0 o1 o2 o3 o4 o5 o6 o7 : Oper} {l : List Oper} : (List.toArray (o0 :: o1 :: o2 :: o3 :: o4 :: o5 :: o6 :: o7 :: l))[7]? = some o7 := rfl
theorem nthe8 {o0 o1 o2 o3 o4 o5 o6 o7 o8 : Oper} {l : List Oper} : (List.toArray (o0 :: o1 :: o2 :: o3 :: o4 :: o5 :: o6 :: o7 :: o8 :: l))[8]? = some o8 := rfl
theorem nthe9 {o0 o1 o2 o3 o4 o5 o6 o7 o8 o9 : Oper} {l : List Oper} : (List.toArray (o0 :: o1 :: o2 :: o3 :: o4 :: o5 :: o6 :: o7 :: o8 :: o9 :: l))[9]? = some o9 := rfl
theorem nthe10 {o0 o1 o2 o3 o4 o5 o6 o7 o8 o9 o10 : Oper} {l : List Oper} : (List.toArray (o0 :: o1 :: o2 :: o3 :: o4 :: o5 :: o6 :: o7 :: o8 :: o9 :: o10 :: l))[10]? = some o10 := rfl
theorem nthe11 {o0 o1 o2 o3 o4 o5 o6 o7 o8 o9 o10 o11 : Oper} {l : List Oper} : (List.toArray (o0 :: o1 :: o2 :: o3 :: o4 :: o5 :: o6 :: o7 :: o8 :: o9 :: o10 :: o11 :: l))[11]? = some o11 := rfl
theorem nthe12 {o0 o1 o2 o3 o4 o5 o6 o7 o8 o9 o10 o11 o12 : Oper} {l : List Oper} : (List.toArray (o0 :: o1 :: o2 :: o3 :: o4 :: o5 :: o6 :: o7 :: o8 :: o9 :: o10 :: o11 :: o12 :: l))[12]? = some o12 := rfl
theorem nthe13 {o0 o1 o2 o3 o4 o5 o6 o7 o8 o9 o10 o11 o12 o13 : Oper} {l : List Oper} : (List.toArray (o0 :: o1 :: o2 :: o3 :: o4 :: o5 :: o6 :: o7 :: o8 :: o9 :: o10 :: o11 :: o12 :: o13 :: l))[13]? = some o13 := rfl
theorem nthe14 {o0 o1 o2 o3 o4 o5 o6 o7 o8 o9 o10 o11 o12 o13 o14 : Oper} {l : List Oper} : (List.toArray (o0 :: o1 :: o2 :: o3 :: o4 :: o5 :: o6 :: o7 :: o8 :: o9 :: o10 :: o11 :: o12 :: o13 :: o14 :: l))[14]? = some o14 := rfl
theorem nthe15 {o0 o1 o2 o3 o4 o5 o6 o7 o8 o9 o10 o11 o12 o13 o14 o15 : Oper} {l : List Oper} : (List.toArray (o0 :: o1 :: o2 :: o3 :: o4 :: o5 :: o6 :: o7 :: o8 :: o9 :: o10 :: o11 :: o12 :: o13 :: o14 :: o15 :: l))[15]? = some o15 := rfl
theorem wpList_load_midG {P : Program} {ops : Array Oper} {rest : List Oper} {op : Oper} {a : Act} {w : World} {Q : Exit → Act → World → Prop} (hw : Region.wanted op (yielded ops a.tmps) = true) (ty : TypeId) (x : Operand) (ho : op.op = .load ty x)
    (b o : Nat) (hx : a.eval x = .pointer (some ⟨b, o, none⟩)) (cs : List Value) (d : TypeDesc) (hc : w.rangeAt b o cs)
    (hu : P.underlying ty = some d) (hd : d.isRow = true) (hi : (P.info? ty).map (·.size) = some cs.length)
    (h : wpList P ops Q rest (a.put op.dst (.agg cs.toArray)) w) : wpList P ops Q (op :: rest) a w := by
  rw [wpList, if_pos hw]
  exact .inl (wp_load_mid ty x ho b o hx cs d hc hu hd hi h)
theorem range2 {w : World} {b : Nat} {s0 s1 : Value} (h0 : w.cell? ⟨b, 0, none⟩ = some s0) (h1 : w.cell? ⟨b, 1, none⟩ = some s1) : w.rangeAt b 0 [s0, s1] := by
  intro j v hv
  match j, hv with
  | 0, hv => injection hv with hv; rw [← hv]; exact h0
  | 1, hv => injection hv with hv; rw [← hv]; exact h1
theorem nf_one {p0 p1 : Option Addr} {n m c0 c1 : Nat} {x : Nat → Int} : ∀ v ∈ nfL (.slice p0 n c0) (.slice p1 m c1) x, v.oneCell' = true := nfL_one rfl rfl x
theorem there_blockN {w w' : World} {b o N : Nat} (h : w.there b o N) (e : w'.heap[b]? = w.heap[b]?) : w'.there b o N := fun j hj => by
  have := h j hj
  rw [World.cell?_of_block (a := ⟨b, o + j, none⟩) e, World.frozen?_of_block (a := ⟨b, o + j, none⟩) e]
  exact this
theorem range_blockN {w w' : World} {b o : Nat} {cs : List Value} (h : w.rangeAt b o cs) (e : w'.heap[b]? = w.heap[b]?) : w'.rangeAt b o cs := fun j v hv => by
  rw [World.cell?_of_block (a := ⟨b, o + j, none⟩) e]
  exact h j v hv
end Go.Proofs.Ytdbgcbkmcbgdiaa.mem

namespace Go.Proofs.Ytdbgcbkmcbgdiaa.mem
open Go.RowKit
set_option linter.unusedVariables false

end Go.Proofs.Ytdbgcbkmcbgdiaa.mem

namespace Go.Proofs.Ytdbgcbkmcbgdiaa.mem
open Go.RowKit
set_option linter.unusedVariables false

end Go.Proofs.Ytdbgcbkmcbgdiaa.mem

namespace Go.Proofs.Ytdbgcbkmcbgdiaa.mem
open Go.RowKit
set_option linter.unusedVariables false

theorem pip_cells (w : World) (q : Pip) (t : TypeId) : (w.alloc (.cells #[.int .i64 q.f, .int .i64 q.t, .int .i64 q.k, .int .i64 q.v, .int .i64 q.l] t)).cell? ⟨w.heap.size, 0, none⟩ = some (.int .i64 q.f) ∧ (w.alloc (.cells #[.int .i64 q.f, .int .i64 q.t, .int .i64 q.k, .int .i64 q.v, .int .i64 q.l] t)).cell? ⟨w.heap.size, 1, none⟩ = some (.int .i64 q.t) ∧ (w.alloc (.cells #[.int .i64 q.f, .int .i64 q.t, .int .i64 q.k, .int .i64 q.v, .int .i64 q.l] t)).cell? ⟨w.heap.size, 2, none⟩ = some (.int .i64 q.k) ∧ (w.alloc (.cells #[.int .i64 q.f, .int .i64 q.t, .int .i64 q.k, .int .i64 q.v, .int .i64 q.l] t)).cell? ⟨w.heap.size, 3, none⟩ = some (.int .i64 q.v) ∧ (w.alloc (.cells #[.int .i64 q.f, .int .i64 q.t, .int .i64 q.k, .int .i64 q.v, .int .i64 q.l] t)).cell? ⟨w.heap.size, 4, none⟩ = some (.int .i64 q.l) := by
  have h := heap_alloc_new w (Obj.cells #[.int .i64 q.f, .int .i64 q.t, .int .i64 q.k, .int .i64 q.v, .int .i64 q.l] t)
  simp only [World.cell?, h]
  exact ⟨rfl, rfl, rfl, rfl, rfl⟩
end Go.Proofs.Ytdbgcbkmcbgdiaa.mem

namespace Go.Proofs.Ytdbgcbkmcbgdiaa.mem
open Go.RowKit
set_option linter.unusedVariables false

end Go.Proofs.Ytdbgcbkmcbgdiaa.mem

namespace Go.Proofs.Ytdbgcbkmcbgdiaa.mem
open Go.RowKit
set_option linter.unusedVariables false

end Go.Proofs.Ytdbgcbkmcbgdiaa.mem

namespace Go.Proofs.Ytdbgcbkmcbgdiaa.mem
open Go.RowKit
set_option linter.unusedVariables false

end Go.Proofs.Ytdbgcbkmcbgdiaa.mem

namespace Go.Proofs.Ytdbgcbkmcbgdiaa.mem
open Go.RowKit
set_option linter.unusedVariables false

end Go.Proofs.Ytdbgcbkmcbgdiaa.mem

namespace Go.Proofs.Ytdbgcbkmcbgdiaa.mem
open Go.RowKit
set_option linter.unusedVariables false

end Go.Proofs.Ytdbgcbkmcbgdiaa.mem

namespace Go.Proofs.Ytdbgcbkmcbgdiaa.mem
open Go.RowKit
set_option linter.unusedVariables false

end Go.Proofs.Ytdbgcbkmcbgdiaa.mem

namespace Go.Proofs.Ytdbgcbkmcbgdiaa.mem
open Go.RowKit
set_option linter.unusedVariables false

end Go.Proofs.Ytdbgcbkmcbgdiaa.mem

namespace Go.Proofs.Ytdbgcbkmcbgdiaa.mem
open Go.RowKit
set_option linter.unusedVariables false

end Go.Proofs.Ytdbgcbkmcbgdiaa.mem
