/-
  Plain arithmetic of chapter 9: flows of drops, the least number that passes, the parts of a flow. No condition.
-/
import Derived.Test.YtpgindeoiibgpaaNumMath
import Derived.Test.YtpgindeoiibgpaaShareMath
namespace Go.Proofs.Ytpgindeoiibgpaa.rst
open Go.Proofs.Ytpgindeoiibgpaa.num Go.Proofs.Ytpgindeoiibgpaa.share
set_option linter.unusedVariables false

theorem root_mono {m n : Int} (h0 : 0 ≤ m) (h : m ≤ n) : root m ≤ root n := by
  obtain ⟨a0, a1, a2⟩ := root_spec m h0
  obtain ⟨b0, b1, b2⟩ := root_spec n (by omega)
  have := sq_lt (a := root m) (b := root n + 1) a0 (by omega) (by omega)
  omega
theorem root_succ {m n : Int} (h0 : 0 ≤ m) (h : n ≤ m + 1) (hn : 0 ≤ n) : root n ≤ root m + 1 := by
  obtain ⟨a0, a1, a2⟩ := root_spec m h0
  obtain ⟨b0, b1, b2⟩ := root_spec n hn
  have e : (root m + 1 + 1) * (root m + 1 + 1) = (root m + 1) * (root m + 1) + 2 * root m + 3 := by
    simp only [Int.mul_add, Int.add_mul, Int.one_mul, Int.mul_one]; omega
  have := sq_lt (a := root n) (b := root m + 1 + 1) b0 (by omega) (by omega)
  omega
theorem root_sq {f : Int} (h : 0 ≤ f) : root (f * f) = f := by
  refine (root_uniq h (Int.le_refl _) ?_).symm
  have : (f + 1) * (f + 1) = f * f + 2 * f + 1 := by simp only [Int.mul_add, Int.add_mul, Int.one_mul, Int.mul_one]; omega
  omega
theorem root_zero : root 0 = 0 := (root_uniq (Int.le_refl 0) (by omega) (by omega)).symm

/-- the flow that a drop drives through a resistance -/
def flw (k x : Int) : Int := root (x / k)
theorem quo_bd {k x m : Int} (hk : 1 ≤ k) (h0 : 0 ≤ x) (h1 : x ≤ m) : 0 ≤ x / k ∧ x / k ≤ m :=
  ⟨Int.ediv_nonneg h0 (by omega), Int.le_trans (Int.ediv_le_self k h0) h1⟩
theorem flw_bd {k x : Int} (hk : 1 ≤ k) (h0 : 0 ≤ x) (h1 : x ≤ 1000000000000000000) : 0 ≤ flw k x ∧ flw k x ≤ 1000000000 := by
  have := quo_bd hk h0 h1
  exact root_le this.1 this.2
theorem flw_mono {k x y : Int} (hk : 1 ≤ k) (h0 : 0 ≤ x) (h : x ≤ y) : flw k x ≤ flw k y :=
  root_mono (Int.ediv_nonneg h0 (by omega)) (Int.ediv_le_ediv (by omega) h)
theorem flw_step {k x : Int} (hk : 1 ≤ k) (h0 : 1 ≤ x) : flw k x ≤ flw k (x - 1) + 1 := by
  refine root_succ (Int.ediv_nonneg (by omega) (by omega)) ?_ (Int.ediv_nonneg (by omega) (by omega))
  have h := Int.ediv_le_ediv (a := x) (b := x - 1 + k) (c := k) (by omega) (by omega)
  rw [Int.add_ediv_of_dvd_right (Int.dvd_refl k), Int.ediv_self (by omega)] at h
  exact h
theorem flw_anti {k l x : Int} (hk : 1 ≤ k) (h : k ≤ l) (h0 : 0 ≤ x) : flw l x ≤ flw k x := by
  refine root_mono (Int.ediv_nonneg h0 (by omega)) ?_
  rw [Int.le_ediv_iff_mul_le (by omega)]
  have a := Int.ediv_mul_le x (show l ≠ 0 by omega)
  have b := Int.mul_le_mul_of_nonneg_left h (Int.ediv_nonneg h0 (show 0 ≤ l by omega))
  omega
theorem flw_zero (k : Int) : flw k 0 = 0 := by unfold flw; rw [Int.zero_ediv]; exact root_zero
theorem flw_enough {k f : Int} (hk : 1 ≤ k) (h0 : 0 ≤ f) : flw k (k * f * f) = f := by
  unfold flw
  rw [Int.mul_assoc, Int.mul_ediv_cancel_left _ (by omega)]
  exact root_sq h0

/-- the flows through a list -/
def fls (d : Nat → Int) (x : Int) : Nat → Int := fun j => flw (d j) x
def Ress (d : Nat → Int) (n : Nat) : Prop := ∀ j, j < n → 1 ≤ d j ∧ d j ≤ 1000
theorem fls_bd {d : Nat → Int} {n : Nat} {x : Int} (h : Ress d n) (h0 : 0 ≤ x) (h1 : x ≤ 1000000000000000000) : ∀ j, j < n → 0 ≤ fls d x j ∧ fls d x j ≤ 1000000000 :=
  fun j hj => flw_bd (h j hj).1 h0 h1
theorem tot_le {d e : Nat → Int} : ∀ {n : Nat}, (∀ k, k < n → d k ≤ e k) → tot d n ≤ tot e n
  | 0, _ => Int.le_refl _
  | n + 1, h => by
    have a := tot_le (n := n) (fun k hk => h k (by omega))
    have b := h n (by omega)
    simp only [tot]
    omega
theorem tot_pos {d : Nat → Int} : ∀ {n : Nat}, (∀ k, k < n → 0 ≤ d k) → 0 ≤ tot d n
  | 0, _ => Int.le_refl _
  | n + 1, h => by
    have a := tot_pos (n := n) (fun k hk => h k (by omega))
    have b := h n (by omega)
    simp only [tot]
    omega
theorem tot_one {d : Nat → Int} : ∀ {n j : Nat}, (∀ k, k < n → 0 ≤ d k) → j < n → d j ≤ tot d n
  | 0, _, _, hj => by omega
  | n + 1, j, h, hj => by
    have b := h n (by omega)
    have c := tot_pos (n := n) (fun k hk => h k (by omega))
    simp only [tot]
    by_cases e : j = n
    · subst e; omega
    · have a := tot_one (n := n) (j := j) (fun k hk => h k (by omega)) (by omega)
      omega
theorem fls_mono {d : Nat → Int} {n : Nat} {x y : Int} (h : Ress d n) (h0 : 0 ≤ x) (hxy : x ≤ y) : tot (fls d x) n ≤ tot (fls d y) n :=
  tot_le fun k hk => flw_mono (h k hk).1 h0 hxy
theorem fls_zero (d : Nat → Int) : ∀ n, tot (fls d 0) n = 0
  | 0 => rfl
  | n + 1 => by
    have h := fls_zero d n
    have e : fls d 0 n = 0 := flw_zero (d n)
    simp only [tot]
    omega

/-- r is the least number from lo on that passes, or hi -/
structure Lst (p : Int → Prop) (lo hi r : Int) : Prop where
  ge : lo ≤ r
  le : r ≤ hi
  no : ∀ x, lo ≤ x → x < r → ¬ p x
  yes : r < hi → p r
theorem lst_ex (p : Int → Prop) (lo : Int) : ∀ (m : Nat) (hi : Int), hi = lo + m → ∃ r, Lst p lo hi r
  | 0, hi, h => ⟨lo, Int.le_refl _, by omega, fun x h1 h2 => by omega, fun h2 => by omega⟩
  | m + 1, hi, h => by
    obtain ⟨r, g⟩ := lst_ex p lo m (hi - 1) (by omega)
    by_cases e : r < hi - 1
    · exact ⟨r, g.ge, by have := g.le; omega, g.no, fun _ => g.yes e⟩
    · have er : r = hi - 1 := by have := g.le; omega
      rcases Classical.em (p r) with hp | hp
      · exact ⟨r, g.ge, by omega, g.no, fun _ => hp⟩
      · refine ⟨hi, by omega, Int.le_refl _, fun x h1 h2 => ?_, fun h2 => by omega⟩
        by_cases e2 : x < r
        · exact g.no x h1 e2
        · have : x = r := by omega
          rw [this]; exact hp
theorem Lst.uniq {p : Int → Prop} {lo hi r s : Int} (h : Lst p lo hi r) (g : Lst p lo hi s) : r = s := by
  rcases Int.lt_trichotomy r s with e | e | e
  · exact absurd (h.yes (by have := g.le; omega)) (g.no r h.ge e)
  · exact e
  · exact absurd (g.yes (by have := h.le; omega)) (h.no s g.ge e)
theorem Lst.wide {p : Int → Prop} {lo hi hi' r : Int} (h : Lst p lo hi r) (hp : p hi) (hh : hi ≤ hi') : Lst p lo hi' r :=
  ⟨h.ge, by have := h.le; omega, h.no, fun _ => by
    by_cases e : r < hi
    · exact h.yes e
    · have : r = hi := by have := h.le; omega
      rw [this]; exact hp⟩
theorem Lst.is {p : Int → Prop} {lo hi r : Int} (h : Lst p lo hi r) (hp : p hi) : p r := by
  by_cases e : r < hi
  · exact h.yes e
  · have : r = hi := by have := h.le; omega
    rw [this]; exact hp
/-- what halving keeps -/
structure Hlv (p : Int → Prop) (lo hi l h : Int) : Prop where
  a : lo ≤ l
  b : l ≤ h
  c : h ≤ hi
  no : ∀ x, lo ≤ x → x < l → ¬ p x
  yes : h < hi → p h
theorem Hlv.start (p : Int → Prop) {lo hi : Int} (h : lo ≤ hi) : Hlv p lo hi lo hi := ⟨Int.le_refl _, h, Int.le_refl _, fun x h1 h2 => by omega, fun h2 => by omega⟩
theorem Hlv.done {p : Int → Prop} {lo hi l h : Int} (g : Hlv p lo hi l h) (e : ¬ l < h) : Lst p lo hi l := by
  have e2 : l = h := by have := g.b; omega
  subst e2
  exact ⟨g.a, g.c, g.no, g.yes⟩
theorem Hlv.up {p : Int → Prop} {lo hi l h m : Int} (hm : ∀ x y, lo ≤ x → x ≤ y → y ≤ hi → p x → p y) (g : Hlv p lo hi l h) (h1 : l ≤ m) (h2 : m < h) (hp : ¬ p m) : Hlv p lo hi (m + 1) h :=
  ⟨by have := g.a; omega, by omega, g.c, fun x a b hx => hp (hm x m a (by omega) (by have := g.c; omega) hx), g.yes⟩
theorem Hlv.down {p : Int → Prop} {lo hi l h m : Int} (g : Hlv p lo hi l h) (h1 : l ≤ m) (h2 : m < h) (hp : p m) : Hlv p lo hi l m :=
  ⟨g.a, h1, by have := g.c; omega, g.no, fun _ => hp⟩

/-- a drop drives a flow through a list -/
def Drv (d : Nat → Int) (n : Nat) (f x : Int) : Prop := f ≤ tot (fls d x) n
theorem Drv.mono {d : Nat → Int} {n : Nat} {f : Int} (h : Ress d n) {x y : Int} (h0 : 0 ≤ x) (hxy : x ≤ y) (g : Drv d n f x) : Drv d n f y := Int.le_trans g (fls_mono h h0 hxy)
theorem enough_bd {k f : Int} (hk : 1 ≤ k ∧ k ≤ 1000) (hf : 0 ≤ f ∧ f ≤ 30000) : (0 ≤ k * f ∧ k * f ≤ 30000000) ∧ (0 ≤ k * f * f ∧ k * f * f ≤ 900000000000) := by
  have a0 := Int.mul_nonneg (show 0 ≤ k by omega) hf.1
  have a1 : k * f ≤ 1000 * 30000 := Int.mul_le_mul hk.2 hf.2 hf.1 (by omega)
  have b0 := Int.mul_nonneg a0 hf.1
  have b1 : k * f * f ≤ 30000000 * 30000 := Int.mul_le_mul (by omega) hf.2 hf.1 (by omega)
  exact ⟨⟨a0, by omega⟩, b0, by omega⟩
theorem drv_enough {d : Nat → Int} {n : Nat} {f : Int} (h : Ress d n) (hn : 0 < n) (hf : 0 ≤ f ∧ f ≤ 30000) : Drv d n f (d 0 * f * f) := by
  have hk := h 0 hn
  have hb := enough_bd hk hf
  have e : fls d (d 0 * f * f) 0 = f := flw_enough hk.1 hf.1
  have := tot_one (d := fls d (d 0 * f * f)) (n := n) (j := 0) (fun k hk => (fls_bd h hb.2.1 (by omega) k hk).1) hn
  rw [e] at this
  exact this
/-- the least drop for a flow -/
def IsDrop (d : Nat → Int) (n : Nat) (f r : Int) : Prop := Lst (Drv d n f) 0 900000000000 r
theorem IsDrop.drives {d : Nat → Int} {n : Nat} {f r : Int} (g : IsDrop d n f r) (h : Ress d n) (hn : 0 < n) (hf : 0 ≤ f ∧ f ≤ 30000) : Drv d n f r := by
  have hb := enough_bd (h 0 hn) hf
  exact Lst.is g ((drv_enough h hn hf).mono h hb.2.1 hb.2.2)

/-- the parts of a flow: what each gets first, what is left before each, the parts -/
def lft (b m : Nat → Int) (l : Int) : Nat → Int
  | 0 => l
  | j + 1 => if 0 < lft b m l j ∧ b j < m j then lft b m l j - 1 else lft b m l j
def prt (b m : Nat → Int) (l : Int) (j : Nat) : Int := if 0 < lft b m l j ∧ b j < m j then b j + 1 else b j
theorem lft_done {b m : Nat → Int} {l : Int} {j : Nat} (h : ¬ 0 < lft b m l j) : ∀ i, j ≤ i → lft b m l i = lft b m l j ∧ prt b m l i = b i := by
  intro i hi
  induction i with
  | zero =>
    obtain rfl : j = 0 := by omega
    exact ⟨rfl, by unfold prt; rw [if_neg (fun g => h g.1)]⟩
  | succ i ih =>
    by_cases e : j = i + 1
    · subst e
      exact ⟨rfl, by unfold prt; rw [if_neg (fun g => h g.1)]⟩
    · have a := (ih (by omega)).1
      have c : lft b m l (i + 1) = lft b m l j := by
        show (if 0 < lft b m l i ∧ b i < m i then lft b m l i - 1 else lft b m l i) = _
        rw [if_neg (fun g => h (by rw [← a]; exact g.1)), a]
      exact ⟨c, by unfold prt; rw [if_neg (fun g => h (by rw [← c]; exact g.1))]⟩
theorem lft_le {b m : Nat → Int} {l : Int} : ∀ j, lft b m l j ≤ l
  | 0 => Int.le_refl _
  | j + 1 => by
    have := lft_le (b := b) (m := m) (l := l) j
    show (if 0 < lft b m l j ∧ b j < m j then lft b m l j - 1 else lft b m l j) ≤ l
    split <;> omega
theorem lft_ge {b m : Nat → Int} {l : Int} (h : 0 ≤ l) : ∀ j, 0 ≤ lft b m l j
  | 0 => h
  | j + 1 => by
    have := lft_ge (b := b) (m := m) h j
    show 0 ≤ (if 0 < lft b m l j ∧ b j < m j then lft b m l j - 1 else lft b m l j)
    split <;> omega
theorem lft_sum {b m : Nat → Int} {l : Int} : ∀ j, tot (prt b m l) j + lft b m l j = tot b j + l
  | 0 => by simp [tot, lft]
  | j + 1 => by
    have := lft_sum (b := b) (m := m) (l := l) j
    simp only [tot]
    show tot (prt b m l) j + (if 0 < lft b m l j ∧ b j < m j then b j + 1 else b j) + (if 0 < lft b m l j ∧ b j < m j then lft b m l j - 1 else lft b m l j) = _
    split <;> omega
/-- there is room for what is left -/
theorem lft_room {b m : Nat → Int} {l : Int} {n : Nat} (h1 : ∀ k, k < n → b k ≤ m k ∧ m k ≤ b k + 1) (h0 : 0 ≤ l) (hl : l ≤ tot m n - tot b n) : ∀ j, j ≤ n → lft b m l j ≤ (tot m n - tot b n) - (tot m j - tot b j) := by
  intro j
  induction j with
  | zero => intro _; simp only [tot, lft]; omega
  | succ j ih =>
    intro hj
    have a := ih (by omega)
    have c := h1 j (by omega)
    have e : 0 ≤ (tot m n - tot b n) - (tot m (j + 1) - tot b (j + 1)) := by
      have e2 : ∀ i, i ≤ n → tot m i - tot b i ≤ tot m n - tot b n := by
        intro i hi
        have : ∀ q, tot m i - tot b i ≤ tot m (i + q) - tot b (i + q) ∨ n < i + q := by
          intro q
          induction q with
          | zero => exact .inl (Int.le_refl _)
          | succ q ihq =>
            rcases ihq with ihq | ihq
            · by_cases hq : i + q < n
              · have := h1 (i + q) hq
                left
                show _ ≤ tot m (i + q) + m (i + q) - (tot b (i + q) + b (i + q))
                omega
              · exact .inr (by omega)
            · exact .inr (by omega)
        rcases this (n - i) with g | g
        · rw [Nat.add_sub_cancel' hi] at g; exact g
        · omega
      have := e2 (j + 1) hj
      omega
    simp only [tot] at e ⊢
    show (if 0 < lft b m l j ∧ b j < m j then lft b m l j - 1 else lft b m l j) ≤ _
    split
    · omega
    · rename_i g
      by_cases g1 : 0 < lft b m l j
      · have : ¬ b j < m j := fun g2 => g ⟨g1, g2⟩
        omega
      · omega
theorem lft_zero {b m : Nat → Int} {l : Int} {n : Nat} (h1 : ∀ k, k < n → b k ≤ m k ∧ m k ≤ b k + 1) (h0 : 0 ≤ l) (hl : l ≤ tot m n - tot b n) : lft b m l n = 0 := by
  have a := lft_room h1 h0 hl n (Nat.le_refl _)
  have c := lft_ge (b := b) (m := m) h0 n
  omega
/-- what each gets first -/
def bas (d : Nat → Int) (r : Int) : Nat → Int := fun j => flw (d j) (max (r - 1) 0)
/-- the parts that SplitFlow tells -/
def pts (d : Nat → Int) (n : Nat) (f r : Int) : Nat → Int := prt (bas d r) (fls d r) (f - tot (bas d r) n)
theorem bas_step {d : Nat → Int} {n : Nat} {r : Int} (h : Ress d n) (hr : 0 ≤ r) : ∀ k, k < n → bas d r k ≤ fls d r k ∧ fls d r k ≤ bas d r k + 1 := by
  intro k hk
  by_cases e : r = 0
  · subst e
    have a : bas d 0 k = 0 := by show flw (d k) (max (0 - 1) 0) = 0; rw [show max ((0 : Int) - 1) 0 = 0 by omega]; exact flw_zero _
    have b : fls d 0 k = 0 := flw_zero _
    omega
  · have e2 : max (r - 1) 0 = r - 1 := by omega
    refine ⟨flw_mono (h k hk).1 (by omega) (by omega), ?_⟩
    have := flw_step (h k hk).1 (show 1 ≤ r by omega)
    show flw (d k) r ≤ flw (d k) (max (r - 1) 0) + 1
    rw [e2]
    exact this
theorem bas_sum {d : Nat → Int} {n : Nat} {f r : Int} (h : Ress d n) (hf : 0 ≤ f) (g : IsDrop d n f r) : tot (bas d r) n ≤ f := by
  by_cases e : r = 0
  · subst e
    have : tot (bas d 0) n = 0 := by
      refine Eq.trans (tot_congr fun k _ => ?_) (fls_zero d n)
      show flw (d k) (max (0 - 1) 0) = flw (d k) 0
      rw [show max ((0 : Int) - 1) 0 = 0 by omega]
    omega
  · have hr := g.ge
    have := g.no (r - 1) (by omega) (by omega)
    have e2 : tot (bas d r) n = tot (fls d (r - 1)) n := tot_congr fun k _ => by
      show flw (d k) (max (r - 1) 0) = flw (d k) (r - 1)
      rw [show max (r - 1) 0 = r - 1 by omega]
    unfold Drv at this
    omega
theorem pts_facts {d : Nat → Int} {n : Nat} {f r : Int} (h : Ress d n) (hn : 0 < n) (hf : 0 ≤ f ∧ f ≤ 30000) (g : IsDrop d n f r) :
    tot (pts d n f r) n = f ∧ ∀ k, k < n → 0 ≤ pts d n f r k ∧ pts d n f r k ≤ fls d r k ∧ fls d r k - 1 ≤ pts d n f r k := by
  have hr := g.ge
  have st := bas_step h hr
  have bs := bas_sum h hf.1 g
  have dr : f ≤ tot (fls d r) n := g.drives h hn hf
  have z := lft_zero st (show 0 ≤ f - tot (bas d r) n by omega) (show f - tot (bas d r) n ≤ tot (fls d r) n - tot (bas d r) n by omega)
  have s := lft_sum (b := bas d r) (m := fls d r) (l := f - tot (bas d r) n) n
  refine ⟨by unfold pts; omega, fun k hk => ?_⟩
  have a := st k hk
  have hmax : 0 ≤ max (r - 1) 0 := by omega
  have b : 0 ≤ bas d r k := (flw_bd (h k hk).1 hmax (by have := g.le; omega)).1
  show 0 ≤ (if 0 < lft (bas d r) (fls d r) (f - tot (bas d r) n) k ∧ bas d r k < fls d r k then bas d r k + 1 else bas d r k) ∧ (if 0 < lft (bas d r) (fls d r) (f - tot (bas d r) n) k ∧ bas d r k < fls d r k then bas d r k + 1 else bas d r k) ≤ _ ∧ _ ≤ (if 0 < lft (bas d r) (fls d r) (f - tot (bas d r) n) k ∧ bas d r k < fls d r k then bas d r k + 1 else bas d r k)
  split <;> omega

/-- too great a resistance -/
def Tgr (f x k : Int) : Prop := flw k x < f
theorem Tgr.mono {f x : Int} (hx : 0 ≤ x) {k l : Int} (h0 : 1 ≤ k) (hkl : k ≤ l) (g : Tgr f x k) : Tgr f x l := by
  have := flw_anti h0 hkl hx
  unfold Tgr at g ⊢
  omega
end Go.Proofs.Ytpgindeoiibgpaa.rst
