/-
  Several texts in one: KpM, KqM, Kpr.
-/
import Derived.Test.YtebbnhnggjmbiaaGreatRows
import Derived.Test.YtebbnhnggjmbiaaGreatTtM
import Derived.MapKept
import Derived.Carry
import Derived.IntWalk
import Derived.BigQuiet
import Derived.WalkKit
import Derived.ProofKit
import Derived.Deep.RegionHeld3
import Derived.OwnWalk
import Derived.Test.YtebbnhnggjmbiaaGreatMake
import Derived.Laws.Cover1
import Derived.Test.YtebbnhnggjmbiaaGreatNum
namespace Go.Proofs.YtebbnhnggjmbiaaGreat.mem
open Go.RowKit
set_option linter.unusedVariables false

def IIIPost (w : World) (a b c : Int) (e : Ending) (w' : World) : Prop := e = .returned (.tuple #[.int .i64 a, .int .i64 b, .int .i64 c]) ∧ Below w.heap.size w w'
theorem ret_3 {a b c d e f : Int} (h : a = b) (g : c = d) (k : e = f) : Ending.returned (.tuple #[.int .i64 a, .int .i64 c, .int .i64 e]) = .returned (.tuple #[.int .i64 b, .int .i64 d, .int .i64 f]) := by rw [h, g, k]
/-- the greatest of s and the first k of f -/
def mxF (f : Nat → Int) (s : Int) : Nat → Int
  | 0 => s
  | k + 1 => max (mxF f s k) (f k)
/-- the least of s and the first k of f -/
def mnF (f : Nat → Int) (s : Int) : Nat → Int
  | 0 => s
  | k + 1 => min (mnF f s k) (f k)
theorem mxF_le {f : Nat → Int} {s b : Int} : ∀ {k : Nat}, mxF f s k ≤ b ↔ s ≤ b ∧ ∀ j, j < k → f j ≤ b
  | 0 => ⟨fun h => ⟨h, fun j hj => absurd hj (Nat.not_lt_zero j)⟩, fun h => h.1⟩
  | k + 1 => by
    have ih := mxF_le (f := f) (s := s) (b := b) (k := k)
    unfold mxF
    constructor
    · intro h
      have h2 : mxF f s k ≤ b ∧ f k ≤ b := by omega
      refine ⟨(ih.1 h2.1).1, fun j hj => ?_⟩
      rcases (by omega : j < k ∨ j = k) with h3 | h3
      · exact (ih.1 h2.1).2 j h3
      · rw [h3]; exact h2.2
    · intro h
      have h1 := ih.2 ⟨h.1, fun j hj => h.2 j (by omega)⟩
      have h2 := h.2 k (by omega)
      omega
theorem le_mnF {f : Nat → Int} {s b : Int} : ∀ {k : Nat}, b ≤ mnF f s k ↔ b ≤ s ∧ ∀ j, j < k → b ≤ f j
  | 0 => ⟨fun h => ⟨h, fun j hj => absurd hj (Nat.not_lt_zero j)⟩, fun h => h.1⟩
  | k + 1 => by
    have ih := le_mnF (f := f) (s := s) (b := b) (k := k)
    unfold mnF
    constructor
    · intro h
      have h2 : b ≤ mnF f s k ∧ b ≤ f k := by omega
      refine ⟨(ih.1 h2.1).1, fun j hj => ?_⟩
      rcases (by omega : j < k ∨ j = k) with h3 | h3
      · exact (ih.1 h2.1).2 j h3
      · rw [h3]; exact h2.2
    · intro h
      have h1 := ih.2 ⟨h.1, fun j hj => h.2 j (by omega)⟩
      have h2 := h.2 k (by omega)
      omega
theorem mxF_one (f : Nat → Int) : mxF f (f 0) 1 = f 0 := by
  unfold mxF mxF
  omega
theorem mnF_one (f : Nat → Int) : mnF f (f 0) 1 = f 0 := by
  unfold mnF mnF
  omega
theorem mxF_ge {f : Nat → Int} {s : Int} {k : Nat} : s ≤ mxF f s k ∧ ∀ j, j < k → f j ≤ mxF f s k := mxF_le.1 (Int.le_refl _)
theorem mnF_ge {f : Nat → Int} {s : Int} {k : Nat} : mnF f s k ≤ s ∧ ∀ j, j < k → mnF f s k ≤ f j := le_mnF.1 (Int.le_refl _)
theorem mxF_swap {f : Nat → Int} {k a b : Nat} (ha : a < k) (hb : b < k) : mxF f (f a) k = mxF f (f b) k := by
  refine Int.le_antisymm (mxF_le.2 ⟨mxF_ge.2 a ha, mxF_ge.2⟩) (mxF_le.2 ⟨mxF_ge.2 b hb, mxF_ge.2⟩)
theorem mnF_swap {f : Nat → Int} {k a b : Nat} (ha : a < k) (hb : b < k) : mnF f (f a) k = mnF f (f b) k := by
  refine Int.le_antisymm (le_mnF.2 ⟨mnF_ge.2 b hb, mnF_ge.2⟩) (le_mnF.2 ⟨mnF_ge.2 a ha, mnF_ge.2⟩)
/-- one of them is the greatest, or it is s -/
theorem mxF_at {f : Nat → Int} {s : Int} : ∀ {k : Nat}, mxF f s k = s ∨ ∃ j, j < k ∧ mxF f s k = f j
  | 0 => .inl rfl
  | k + 1 => by
    unfold mxF
    by_cases h0 : mxF f s k < f k
    · exact .inr ⟨k, by omega, by omega⟩
    · rw [show max (mxF f s k) (f k) = mxF f s k by omega]
      rcases mxF_at (f := f) (s := s) (k := k) with h | ⟨j, hj, h⟩
      · exact .inl h
      · exact .inr ⟨j, by omega, h⟩
theorem mnF_at {f : Nat → Int} {s : Int} : ∀ {k : Nat}, mnF f s k = s ∨ ∃ j, j < k ∧ mnF f s k = f j
  | 0 => .inl rfl
  | k + 1 => by
    unfold mnF
    by_cases h0 : f k < mnF f s k
    · exact .inr ⟨k, by omega, by omega⟩
    · rw [show min (mnF f s k) (f k) = mnF f s k by omega]
      rcases mnF_at (f := f) (s := s) (k := k) with h | ⟨j, hj, h⟩
      · exact .inl h
      · exact .inr ⟨j, by omega, h⟩
/-- the first index below k that meets p, or k -/
def fi (p : Nat → Bool) : Nat → Nat
  | 0 => 0
  | k + 1 => if fi p k < k then fi p k else if p k = true then k else k + 1
theorem fi_le (p : Nat → Bool) : ∀ k, fi p k ≤ k
  | 0 => Nat.le_refl _
  | k + 1 => by
    have := fi_le p k
    unfold fi
    split
    · omega
    · split <;> omega
theorem fi_no {p : Nat → Bool} : ∀ {k : Nat}, (∀ j, j < k → p j = false) → fi p k = k
  | 0, _ => rfl
  | k + 1, h => by
    have := fi_no (p := p) (k := k) (fun j hj => h j (by omega))
    unfold fi
    rw [if_neg (by omega), if_neg (by rw [h k (by omega)]; simp)]
theorem fi_hit {p : Nat → Bool} : ∀ {k : Nat}, (∀ j, j < k → p j = false) → p k = true → ∀ n, k < n → fi p n = k := by
  intro k h1 h2 n
  induction n with
  | zero => intro h; omega
  | succ n ih =>
    intro h
    unfold fi
    rcases (by omega : k < n ∨ k = n) with h3 | h3
    · rw [ih h3, if_pos h3]
    · subst h3
      rw [fi_no h1, if_neg (by omega), if_pos h2]
theorem fi_lt {p : Nat → Bool} : ∀ {k : Nat}, fi p k < k → p (fi p k) = true
  | 0, h => absurd h (Nat.not_lt_zero _)
  | k + 1, h => by
    unfold fi at h ⊢
    split
    · next h1 => exact fi_lt h1
    · next h1 =>
      rw [if_neg h1] at h
      split
      · next h2 => exact h2
      · next h2 => rw [if_neg h2] at h; omega
theorem fi_none {p : Nat → Bool} : ∀ {k : Nat}, ¬ fi p k < k → ∀ j, j < k → p j = false
  | 0, _, j, hj => absurd hj (Nat.not_lt_zero _)
  | k + 1, h, j, hj => by
    unfold fi at h
    split at h
    · omega
    · next h1 =>
      split at h
      · omega
      · next h2 =>
        rcases (by omega : j < k ∨ j = k) with h3 | h3
        · exact fi_none h1 j h3
        · rw [h3]; simpa using h2
theorem fi_iff {p : Nat → Bool} {k : Nat} : fi p k < k ↔ ∃ j, j < k ∧ p j = true := by
  constructor
  · intro h; exact ⟨_, h, fi_lt h⟩
  · rintro ⟨j, hj, h⟩
    by_cases h1 : fi p k < k
    · exact h1
    · have := fi_none h1 j hj
      rw [this] at h
      cases h

/-- the level at which a node's low bound, its high bound puts the root -/
def loF (N : Nat → Nod) (x : Nat → Int) (j : Nat) : Int := (N j).lo - x j
def hiF (N : Nat → Nod) (x : Nat → Int) (j : Nat) : Int := (N j).hi - x j
/-- are the levels within bounds? -/
def inB (N : Nat → Nod) (x : Nat → Int) (j : Nat) : Bool := decide ((N j).lo ≤ x j) && decide (x j ≤ (N j).hi)
def tiB (N : Nat → Nod) (x : Nat → Int) (j : Nat) : Bool := (x j == (N j).lo) || (x j == (N j).hi)
def miF (N : Nat → Nod) (x : Nat → Int) (j : Nat) : Int := max ((N j).lo - x j) (x j - (N j).hi)
/-- the levels of a root at level l -/
noncomputable def xl (n m : Nat) (P : Nat → Pip) (d : Nat → Int) (r l : Int) (j : Nat) : Int := lvl n P m d r l (j : Nat)
noncomputable def iwB (n : Nat) (N : Nat → Nod) (m : Nat) (P : Nat → Pip) (K : Nat) (x : Nat → Int) : Bool := netB n N m P && decide (K = n) && decide ((fl (inB N x) n).length = n)
noncomputable def rrL (n : Nat) (N : Nat → Nod) (m : Nat) (P : Nat → Pip) (d : Nat → Int) (r : Int) : Int := mxF (loF N (xl n m P d r 0)) (loF N (xl n m P d r 0) 0) n
noncomputable def rrH (n : Nat) (N : Nat → Nod) (m : Nat) (P : Nat → Pip) (d : Nat → Int) (r : Int) : Int := mnF (hiF N (xl n m P d r 0)) (hiF N (xl n m P d r 0) 0) n
noncomputable def rrC (n : Nat) (N : Nat → Nod) (m : Nat) (P : Nat → Pip) (K : Nat) (d : Nat → Int) (r : Int) : Int := if fvC n N m P K d r 0 = 0 then (if rrH n N m P d r < rrL n N m P d r then 7 else 0) else fvC n N m P K d r 0
noncomputable def rrA (n : Nat) (N : Nat → Nod) (m : Nat) (P : Nat → Pip) (K : Nat) (d : Nat → Int) (r : Int) : Int := if rrC n N m P K d r = 0 then rrL n N m P d r else 0
noncomputable def rrZ (n : Nat) (N : Nat → Nod) (m : Nat) (P : Nat → Pip) (K : Nat) (d : Nat → Int) (r : Int) : Int := if rrC n N m P K d r = 0 then rrH n N m P d r else 0
noncomputable def mdA (n : Nat) (N : Nat → Nod) (m : Nat) (P : Nat → Pip) (K : Nat) (d : Nat → Int) (r : Int) : Int := if rrC n N m P K d r = 0 then (rrL n N m P d r + rrH n N m P d r) / 2 else 0
noncomputable def tnN (n : Nat) (N : Nat → Nod) (m : Nat) (P : Nat → Pip) (K : Nat) (d : Nat → Int) (r l : Int) : Nat := if fvC n N m P K d r l = 0 then (fl (tiB N (xl n m P d r l)) n).length else 0
noncomputable def tnD (n : Nat) (N : Nat → Nod) (m : Nat) (P : Nat → Pip) (d : Nat → Int) (r l : Int) : Nat → Int := fd (tiB N (xl n m P d r l)) n
noncomputable def msA (n : Nat) (N : Nat → Nod) (m : Nat) (P : Nat → Pip) (K : Nat) (d : Nat → Int) (r l : Int) : Int := if fvC n N m P K d r l = 0 then mxF (miF N (xl n m P d r l)) 0 n else 0
/-- the bounds of a and b cannot both be kept -/
def bdB (N : Nat → Nod) (x : Nat → Int) (a b : Nat) : Bool := decide (hiF N x b < loF N x a)
def bdR (n : Nat) (N : Nat → Nod) (x : Nat → Int) (a : Nat) : Nat := fi (bdB N x a) n
def bdA (n : Nat) (N : Nat → Nod) (x : Nat → Int) : Nat := fi (fun a => decide (bdR n N x a < n)) n
noncomputable def bpC (n : Nat) (N : Nat → Nod) (m : Nat) (P : Nat → Pip) (K : Nat) (d : Nat → Int) : Int := if fvC n N m P K d 0 0 = 0 then (if bdA n N (xl n m P d 0 0) < n then 0 else 4) else fvC n N m P K d 0 0
noncomputable def bpA (n : Nat) (N : Nat → Nod) (m : Nat) (P : Nat → Pip) (K : Nat) (d : Nat → Int) : Int := if bpC n N m P K d = 0 then (bdA n N (xl n m P d 0 0) : Nat) else 0
noncomputable def bpB (n : Nat) (N : Nat → Nod) (m : Nat) (P : Nat → Pip) (K : Nat) (d : Nat → Int) : Int := if bpC n N m P K d = 0 then (bdR n N (xl n m P d 0 0) (bdA n N (xl n m P d 0 0)) : Nat) else 0
theorem tnN_le (n : Nat) (N : Nat → Nod) (m : Nat) (P : Nat → Pip) (K : Nat) (d : Nat → Int) (r l : Int) (hn : n ≤ 2000000) : tnN n N m P K d r l ≤ 2000000 := by
  unfold tnN
  have := fl_le (tiB N (xl n m P d r l)) n
  split <;> omega
theorem fv_ok {n : Nat} {N : Nat → Nod} {m : Nat} {P : Nat → Pip} {K : Nat} {d : Nat → Int} {r l : Int} (h : fvC n N m P K d r l = 0) : netB n N m P = true ∧ K = m ∧ 1 ≤ n ∧ n ≤ 24 ∧ 0 ≤ r ∧ r < n ∧ -500000000000000000 ≤ l ∧ l ≤ 500000000000000000 ∧ fvN n N m P K d r l = n ∧ ∀ j : Nat, j < n → -600000000000000000 ≤ lvl n P m d r l (j : Nat) ∧ lvl n P m d r l (j : Nat) ≤ 600000000000000000 := by
  have hN : fvN n N m P K d r l = n := by unfold fvN; rw [if_pos h]
  unfold fvC at h
  split at h
  · next hf =>
    split at h
    · next hz =>
      rw [Bool.and_eq_true] at hz
      obtain ⟨hB, hK, hF⟩ := flC_ok hf
      obtain ⟨a, b, c⟩ := net_sz hB
      have h1 := inR_iff.1 hz.1
      have h2 : -500000000000000000 ≤ l ∧ l ≤ 500000000000000000 := inR_iff.1 hz.2
      subst hK
      refine ⟨hB, rfl, a, b, h1.1, by omega, h2.1, h2.2, hN, fun j hj => ?_⟩
      have := lvl_bnd (x := d) (root := r) (level := l) (z := ((j : Nat) : Int)) hB b (flB_rng hF) ⟨h1.1, by omega⟩ ⟨Int.natCast_nonneg _, by omega⟩
      omega
    · omega
  · next hf => exact absurd h hf
theorem own_row {w : World} {p : Option Addr} {n c g : Nat} {x : Nat → Int} (h : OwnS w (.slice p n c) n 1 (fun i _ => .int .i64 (x i)) g) (hn : 0 < n) : p = some ⟨g, 0, none⟩ ∧ g < w.heap.size ∧ n ≤ c ∧ ∀ k, k < n → w.cell? ⟨g, k, none⟩ = some (.int .i64 (x k)) := by
  obtain ⟨p', cap, hv, h1, h2, h3⟩ := h.ex
  injection hv with e1 _ e3
  subst e1
  rcases h3 with h3 | ⟨h3, h4⟩
  · omega
  · refine ⟨h3, h4.lt, by omega, fun k hk => ?_⟩
    have := h4.cell k 0 hk (by omega)
    simpa using this
theorem nod_bounds {n : Nat} {N : Nat → Nod} {m : Nat} {P : Nat → Pip} (h : netB n N m P = true) : ∀ i, i < n → 0 ≤ (N i).lo ∧ (N i).lo ≤ 100000000 ∧ 0 ≤ (N i).hi ∧ (N i).hi ≤ 100000000 := by
  intro i hi
  have h1 := h
  unfold netB at h1
  simp only [Bool.and_eq_true] at h1
  have h2 := (nodesB_iff.1 h1.1.2).1 i hi
  unfold nodB at h2
  simp only [Bool.and_eq_true, decide_eq_true_eq] at h2
  omega
theorem inB_iff {N : Nat → Nod} {x : Nat → Int} {j : Nat} : inB N x j = true ↔ (N j).lo ≤ x j ∧ x j ≤ (N j).hi := by
  unfold inB
  simp
theorem fv_con {n : Nat} {N : Nat → Nod} {m : Nat} {P : Nat → Pip} {K : Nat} {d : Nat → Int} {r l : Int} (h : fvC n N m P K d r l = 0) : cnt n P m = 1 ∧ ∀ a, a < m → -30000 ≤ d a ∧ d a ≤ 30000 := by
  unfold fvC at h
  split at h
  · next hf =>
    split at h
    · split at h
      · next hc =>
        obtain ⟨_, hK, hF⟩ := flC_ok hf
        subst hK
        exact ⟨(conB_one hc).2, flB_rng hF⟩
      · omega
    · omega
  · next hf => exact absurd h hf
theorem fvC_ne7 (n : Nat) (N : Nat → Nod) (m : Nat) (P : Nat → Pip) (K : Nat) (d : Nat → Int) (r l : Int) : fvC n N m P K d r l ≠ 7 ∧ fvC n N m P K d r l ≠ 4 := by
  unfold fvC flC
  split
  · split
    · split <;> omega
    · omega
  · split
    · split <;> omega
    · omega
theorem rr_ok {n : Nat} {N : Nat → Nod} {m : Nat} {P : Nat → Pip} {K : Nat} {d : Nat → Int} {r : Int} (h : rrC n N m P K d r = 0) : fvC n N m P K d r 0 = 0 ∧ rrL n N m P d r ≤ rrH n N m P d r := by
  unfold rrC at h
  split at h
  · next hf =>
    split at h
    · omega
    · next hl => exact ⟨hf, by omega⟩
  · next hf => exact absurd h hf
theorem rr_bnd {n : Nat} {N : Nat → Nod} {m : Nat} {P : Nat → Pip} {K : Nat} {d : Nat → Int} {r : Int} (h : rrC n N m P K d r = 0) : rrL n N m P d r ≤ rrH n N m P d r ∧ -700000000000000000 ≤ rrL n N m P d r ∧ rrH n N m P d r ≤ 700000000000000000 := by
  obtain ⟨hf, hl⟩ := rr_ok h
  obtain ⟨hB, hKm, hn1, hn24, hr0, hr1, hl0, hl1, hfn, hbd⟩ := fv_ok hf
  have h0 := hbd 0 (by omega)
  have hn := nod_bounds hB 0 (by omega)
  have a := (mxF_ge (f := loF N (xl n m P d r 0)) (s := loF N (xl n m P d r 0) 0) (k := n)).1
  have b := (mnF_ge (f := hiF N (xl n m P d r 0)) (s := hiF N (xl n m P d r 0) 0) (k := n)).1
  refine ⟨hl, ?_, ?_⟩
  · unfold rrL
    unfold loF xl at a ⊢
    omega
  · unfold rrH
    unfold hiF xl at b ⊢
    omega
/-- all pass exactly if none is left out -/
theorem fl_all {p : Nat → Bool} : ∀ {k : Nat}, (fl p k).length = k ↔ ∀ j, j < k → p j = true
  | 0 => ⟨fun _ j hj => absurd hj (Nat.not_lt_zero _), fun _ => rfl⟩
  | k + 1 => by
    have ih := fl_all (p := p) (k := k)
    have hl := fl_le p k
    cases hp : p k
    · rw [fl_no hp]
      constructor
      · intro h; omega
      · intro h
        have := h k (by omega)
        rw [hp] at this
        cases this
    · rw [fl_yes hp]
      constructor
      · intro h j hj
        rw [List.length_append] at h
        simp only [List.length_cons, List.length_nil] at h
        rcases (by omega : j < k ∨ j = k) with h3 | h3
        · exact ih.1 (by omega) j h3
        · rw [h3]; exact hp
      · intro h
        rw [List.length_append, ih.2 (fun j hj => h j (by omega))]
        rfl
end Go.Proofs.YtebbnhnggjmbiaaGreat.mem

namespace Go.Proofs.YtebbnhnggjmbiaaGreat.mem
open Go.RowKit
set_option linter.unusedVariables false

theorem bd_iff {n : Nat} {N : Nat → Nod} {x : Nat → Int} : bdA n N x < n ↔ ∃ a, a < n ∧ ∃ b, b < n ∧ hiF N x b < loF N x a := by
  unfold bdA
  rw [fi_iff]
  constructor
  · rintro ⟨a, ha, h⟩
    have h2 : bdR n N x a < n := by simpa using h
    unfold bdR at h2
    obtain ⟨b, hb, h3⟩ := fi_iff.1 h2
    unfold bdB at h3
    exact ⟨a, ha, b, hb, by simpa using h3⟩
  · rintro ⟨a, ha, b, hb, h⟩
    refine ⟨a, ha, ?_⟩
    have h2 : bdR n N x a < n := by
      unfold bdR
      exact fi_iff.2 ⟨b, hb, by unfold bdB; simpa using h⟩
    simpa using h2
theorem bd_at {n : Nat} {N : Nat → Nod} {x : Nat → Int} (h : bdA n N x < n) : bdR n N x (bdA n N x) < n ∧ hiF N x (bdR n N x (bdA n N x)) < loF N x (bdA n N x) := by
  have h1 := fi_lt (p := fun a => decide (bdR n N x a < n)) (k := n) h
  have h2 : bdR n N x (bdA n N x) < n := by simpa [bdA] using h1
  refine ⟨h2, ?_⟩
  have h3 := fi_lt (p := bdB N x (bdA n N x)) (k := n) h2
  exact of_decide_eq_true h3
theorem mx_at0 {f : Nat → Int} {n : Nat} (hn : 0 < n) : ∃ j, j < n ∧ mxF f (f 0) n = f j := by
  rcases mxF_at (f := f) (s := f 0) (k := n) with h | h
  · exact ⟨0, hn, h⟩
  · exact h
theorem mn_at0 {f : Nat → Int} {n : Nat} (hn : 0 < n) : ∃ j, j < n ∧ mnF f (f 0) n = f j := by
  rcases mnF_at (f := f) (s := f 0) (k := n) with h | h
  · exact ⟨0, hn, h⟩
  · exact h
/-- the range is empty exactly if there is a blocking pair, whatever constant lies between the levels -/
theorem rng_bd {n : Nat} {N : Nat → Nod} {x y : Nat → Int} (hn : 0 < n) (c : Int) (hy : ∀ j, j < n → y j = x j + c) : mnF (hiF N y) (hiF N y 0) n < mxF (loF N y) (loF N y 0) n ↔ bdA n N x < n := by
  rw [bd_iff]
  constructor
  · intro h
    obtain ⟨a, ha, e1⟩ := mx_at0 (f := loF N y) hn
    obtain ⟨b, hb, e2⟩ := mn_at0 (f := hiF N y) hn
    refine ⟨a, ha, b, hb, ?_⟩
    rw [e1, e2] at h
    unfold hiF loF at h ⊢
    rw [hy a ha, hy b hb] at h
    omega
  · rintro ⟨a, ha, b, hb, h⟩
    have h1 := (mxF_ge (f := loF N y) (s := loF N y 0) (k := n)).2 a ha
    have h2 := (mnF_ge (f := hiF N y) (s := hiF N y 0) (k := n)).2 b hb
    have h3 : hiF N y b < loF N y a := by
      unfold hiF loF at h ⊢
      rw [hy a ha, hy b hb]
      omega
    omega
/-- the levels at l are within bounds exactly if l lies in the range -/
theorem rng_in {n : Nat} {N : Nat → Nod} {x y : Nat → Int} (hn : 0 < n) (l : Int) (hy : ∀ j, j < n → y j = x j + l) : (fl (inB N y) n).length = n ↔ mxF (loF N x) (loF N x 0) n ≤ l ∧ l ≤ mnF (hiF N x) (hiF N x 0) n := by
  rw [fl_all, mxF_le, le_mnF]
  constructor
  · intro h
    have h2 : ∀ j, j < n → loF N x j ≤ l ∧ l ≤ hiF N x j := fun j hj => by
      have := inB_iff.1 (h j hj)
      rw [hy j hj] at this
      unfold loF hiF
      omega
    exact ⟨⟨(h2 0 hn).1, fun j hj => (h2 j hj).1⟩, (h2 0 hn).2, fun j hj => (h2 j hj).2⟩
  · rintro ⟨⟨_, h1⟩, _, h2⟩ j hj
    rw [inB_iff, hy j hj]
    have a := h1 j hj
    have b := h2 j hj
    unfold loF at a
    unfold hiF at b
    omega
/-- nothing is missed exactly if all are within bounds -/
theorem mis_in {n : Nat} {N : Nat → Nod} {y : Nat → Int} : mxF (miF N y) 0 n = 0 ↔ (fl (inB N y) n).length = n := by
  rw [fl_all]
  have h0 := (mxF_ge (f := miF N y) (s := 0) (k := n)).1
  constructor
  · intro h j hj
    have := (mxF_ge (f := miF N y) (s := 0) (k := n)).2 j hj
    rw [h] at this
    rw [inB_iff]
    unfold miF at this
    omega
  · intro h
    refine Int.le_antisymm (mxF_le.2 ⟨Int.le_refl _, fun j hj => ?_⟩) h0
    have := inB_iff.1 (h j hj)
    unfold miF
    omega
theorem fl_pos {p : Nat → Bool} {j : Nat} (hp : p j = true) : ∀ {k : Nat}, j < k → 0 < (fl p k).length
  | 0, h => absurd h (Nat.not_lt_zero _)
  | k + 1, h => by
    cases hk : p k
    · rw [fl_no hk]
      rcases (by omega : j < k ∨ j = k) with h1 | h1
      · exact fl_pos hp h1
      · rw [h1, hk] at hp; cases hp
    · rw [fl_yes hk, List.length_append]
      simp only [List.length_cons, List.length_nil]
      omega
/-- at both ends of the range some node is tight -/
theorem tight_end {n : Nat} {N : Nat → Nod} {x y : Nat → Int} (hn : 0 < n) (l : Int) (hy : ∀ j, j < n → y j = x j + l) (h : l = mxF (loF N x) (loF N x 0) n ∨ l = mnF (hiF N x) (hiF N x 0) n) : 0 < (fl (tiB N y) n).length := by
  rcases h with h | h
  · obtain ⟨j, hj, e⟩ := mx_at0 (f := loF N x) hn
    refine fl_pos (j := j) ?_ hj
    unfold tiB
    rw [hy j hj, h, e]
    unfold loF
    simp only [Bool.or_eq_true, beq_iff_eq]
    omega
  · obtain ⟨j, hj, e⟩ := mn_at0 (f := hiF N x) hn
    refine fl_pos (j := j) ?_ hj
    unfold tiB
    rw [hy j hj, h, e]
    unfold hiF
    simp only [Bool.or_eq_true, beq_iff_eq]
    omega
theorem xl_shift (n m : Nat) (P : Nat → Pip) (d : Nat → Int) (r l : Int) (j : Nat) : xl n m P d r l j = xl n m P d r 0 j + l := by unfold xl lvl; omega
theorem xl_root (n m : Nat) (P : Nat → Pip) (d : Nat → Int) (r : Nat) (j : Nat) : xl n m P d (r : Nat) 0 j = xl n m P d 0 0 j + -xl n m P d 0 0 r := by
  unfold xl lvl
  omega
end Go.Proofs.YtebbnhnggjmbiaaGreat.mem

namespace Go.Proofs.YtebbnhnggjmbiaaGreat.mem
open Go.RowKit
set_option linter.unusedVariables false

theorem boxN (w : World) (x : Nod) (t : TypeId) : Ob (w.alloc (.cells #[.string x.s, .int .i64 x.lo, .int .i64 x.hi] t)) w.heap.size 3 (fun k => if k = 0 then .string x.s else if k = 1 then .int .i64 x.lo else .int .i64 x.hi) :=
  Ob.new w _ _ 3 _ rfl (by intro k hk; rcases (by omega : k = 0 ∨ k = 1 ∨ k = 2) with rfl | rfl | rfl <;> rfl)
theorem box2 (w : World) (a b : Int) (t : TypeId) : Ob (w.alloc (.cells #[.int .i64 a, .int .i64 b] t)) w.heap.size 2 (bx (.int .i64 a) (.int .i64 b)) := boxed w _ _ t
theorem b2new (w : World) (o p : Obj) : Below w.heap.size w ((w.alloc o).alloc p) := (below_new w o).trans ((below_new _ p).mono (by rw [szal]; omega))

set_option maxHeartbeats 4000000 in
theorem levelBounds_any (q : Nod) (w : World) : Calls Tryz.prog 42 #[.agg #[.string q.s, .int .i64 q.lo, .int .i64 q.hi]] w fun e w' => e = .returned (.agg #[.int .i64 q.lo, .int .i64 q.hi]) ∧ Below w.heap.size w w' := by
  have R0 := (boxN w q 59).next (below_new _ (.cells #[.int .i64 0, .int .i64 0] 65))
  have R1 := box2 (w.alloc (.cells #[.string q.s, .int .i64 q.lo, .int .i64 q.hi] 59)) 0 0 65
  have hsz : (w.alloc (.cells #[.string q.s, .int .i64 q.lo, .int .i64 q.hi] 59)).heap.size = w.heap.size + 1 := by simp
  rw [hsz] at R1
  go_enter Tryz.func42, Tryz.ntmps42
  have y1 := R0.cell 1 (by omega)
  have y2 := R0.cell 2 (by omega)
  have f0 := R1.free 0
  have f1 := R1.free 1
  have r0 := R1.b0
  have r1 := R1.b1
  have HF := Lib.hid (b2new w (.cells #[.string q.s, .int .i64 q.lo, .int .i64 q.hi] 59) (.cells #[.int .i64 q.lo, .int .i64 q.hi] 65))
  clear R0 R1
  go_wp2_with fail
  refine bodyPost_ret (v := .agg #[.int .i64 q.lo, .int .i64 q.hi]) (by simp [results, Tryz.results42, go_sem]) rfl ⟨rfl, HF.out⟩

set_option maxHeartbeats 4000000 in
theorem commonWith_any (a b c d : Int) (w : World) : Calls Tryz.prog 44 #[.agg #[.int .i64 a, .int .i64 b], .agg #[.int .i64 c, .int .i64 d]] w fun e w' => e = .returned (.agg #[.int .i64 (max a c), .int .i64 (min b d)]) ∧ Below w.heap.size w w' := by
  obtain ⟨w1, hw1⟩ : ∃ w1, w1 = w.alloc (.cells #[.int .i64 a, .int .i64 b] 65) := ⟨_, rfl⟩
  obtain ⟨w2, hw2⟩ : ∃ w2, w2 = w1.alloc (.cells #[.int .i64 c, .int .i64 d] 65) := ⟨_, rfl⟩
  obtain ⟨w3, hw3⟩ : ∃ w3, w3 = w2.alloc (.cells #[.int .i64 0, .int .i64 0] 65) := ⟨_, rfl⟩
  have s1 : w1.heap.size = w.heap.size + 1 := by rw [hw1]; simp
  have s2 : w2.heap.size = w.heap.size + 1 + 1 := by rw [hw2]; simp [s1]
  have B1 : Below w.heap.size w w1 := by rw [hw1]; exact below_new _ _
  have B2 : Below w1.heap.size w1 w2 := by rw [hw2]; exact below_new _ _
  have B3 : Below w2.heap.size w2 w3 := by rw [hw3]; exact below_new _ _
  have R0 : Ob w3 w.heap.size 2 (bx (.int .i64 a) (.int .i64 b)) := ((by rw [hw1]; exact box2 w a b _ : Ob w1 w.heap.size 2 (bx (.int .i64 a) (.int .i64 b))).next B2).next B3
  have R1 : Ob w3 (w.heap.size + 1) 2 (bx (.int .i64 c) (.int .i64 d)) := by
    have := box2 w1 c d 65
    rw [← hw2, s1] at this
    exact this.next B3
  have R2 : Ob w3 (w.heap.size + 1 + 1) 2 (bx (.int .i64 0) (.int .i64 0)) := by
    have := box2 w2 0 0 65
    rw [← hw3, s2] at this
    exact this
  have C1 : Below w.heap.size w w3 := (B1.trans (B2.mono (by omega))).trans (B3.mono (by omega))
  have e3 : ((w.alloc (.cells #[.int .i64 a, .int .i64 b] 65)).alloc (.cells #[.int .i64 c, .int .i64 d] 65)).alloc (.cells #[.int .i64 0, .int .i64 0] 65) = w3 := by rw [hw3, hw2, hw1]
  clear hw1 hw2 hw3 B1 B2 B3 s1 s2
  go_enter Tryz.func44, Tryz.ntmps44
  have x0 := R0.b0
  have x1 := R0.b1
  have y0 := R1.b0
  have y1 := R1.b1
  have f0 := R2.free 0
  have f1 := R2.free 1
  have r0 := R2.b0
  have r1 := R2.b1
  have hO := ((Only.refl (w.heap.size + 1 + 1) w3).setCell 0 (.int .i64 (max a c))).setCell 1 (.int .i64 (min b d))
  have HF := Lib.hid (C1.trans (hO.below (by omega)))
  clear hO R0 R1 R2 C1
  go_wp2_with fail
  refine bodyPost_ret (v := .agg #[.int .i64 (max a c), .int .i64 (min b d)]) (by simp [results, Tryz.results44, go_sem, r0, r1]) rfl ⟨rfl, HF.out⟩
set_option maxHeartbeats 4000000 in
theorem areEmpty_any (a b : Int) (w : World) : Calls Tryz.prog 45 #[.agg #[.int .i64 a, .int .i64 b]] w fun e w' => e = .returned (.bool (decide (b < a))) ∧ Below w.heap.size w w' := by
  have R0 := box2 w a b 65
  have C0 := below_new w (.cells #[.int .i64 a, .int .i64 b] 65)
  have HC := Lib.hid C0
  clear C0
  go_enter Tryz.func45, Tryz.ntmps45
  have x0 := R0.b0
  have x1 := R0.b1
  go_wp2_with fail
  go_ret
  exact ⟨rfl, HC.out⟩
theorem eql_lb (a b c d : Int) (w : World) : (binOp .eql 65 (.agg #[.int .i64 a, .int .i64 b]) (.agg #[.int .i64 c, .int .i64 d])).run Tryz.prog w = .ok (.bool ((a == c) && (b == d))) w := by
  rw [run_eql_struct]
  have key : (Op.equalIn 10000 65 (.agg #[.int .i64 a, .int .i64 b]) (.agg #[.int .i64 c, .int .i64 d])).run Tryz.prog w = .ok ((a == c) && (b == d)) w := by
    rw [Op.equalIn]
    have pe : ∀ x y : Int, (Op.equalIn 9999 2 (.int .i64 x) (.int .i64 y)).run Tryz.prog w = .ok (x == y) w := fun x y => run_equalIn_int w 9998 2 .i64 .i64 _ _ Tryz.underlying2
    simp [Sem.run_bind, run_underlying Tryz.underlying65, Result.andThen_ok, part, isAgg, run_underlying Tryz.underlying2, pe]
    by_cases h1 : a = c <;> by_cases h2 : b = d <;> simp [h1, h2]
  simp [key]
/-- the map that lies in block b -/
def chkMap : Obj := .map #[{ key := .int .i64 0, val := .func (.func 103) #[] #[], born := 0 }, { key := .int .i64 1, val := .func (.func 104) #[] #[], born := 1 }] 2
set_option maxRecDepth 100000 in
theorem map_put (w : World) (r : Nat) (es : Array MapEntry) (clock : Nat) (k : Int) (v : Value) (hb : w.heap[r]? = some (.map es clock)) (hno : Instr.findNow (.int .i64) (.int .i64 k) es.toList 0 = some none) :
    (Instr.mapUpdate 104 (.map (some r)) (.int .i64 k) v).run Tryz.prog w = .ok () { w with heap := w.heap.setIfInBounds r (.map (es.push { key := .int .i64 k, val := v, born := clock }) (clock + 1)) } := by
  simp only [Instr.mapUpdate, Sem.run_bind, run_underlying Tryz.underlying104, Result.andThen_ok, MapKept.run_getObj_map hb, MapKept.run_checkKey Tryz.underlying3 (show MapKept.IsKey (.int .i64) (.int .i64 k) by simp [MapKept.IsKey]), MapKept.run_findKey Tryz.underlying3 hno, MapKept.run_setObj_map _ hb]
set_option maxRecDepth 100000 in
theorem map_get (w : World) (r : Nat) (es : Array MapEntry) (clock : Nat) (k : Int) (v : Value) (i : Nat) (hb : w.heap[r]? = some (.map es clock)) (hyes : Instr.findNow (.int .i64) (.int .i64 k) es.toList 0 = some (some (i, v))) :
    (Instr.lookup 104 (.map (some r)) (.int .i64 k) false).run Tryz.prog w = .ok v w := by
  simp only [Instr.lookup, Sem.run_bind, run_underlying Tryz.underlying104, Result.andThen_ok, MapKept.run_getObj_map hb, MapKept.run_checkKey Tryz.underlying3 (show MapKept.IsKey (.int .i64) (.int .i64 k) by simp [MapKept.IsKey]), Sem.run_pure, MapKept.run_findKey Tryz.underlying3 hyes]
  rfl
theorem set_new (w : World) (o p : Obj) : { w.alloc o with heap := (w.alloc o).heap.setIfInBounds w.heap.size p } = w.alloc p := by
  have h : (w.heap.push o).setIfInBounds w.heap.size p = w.heap.push p := by
    apply Array.ext_getElem?
    intro i
    rw [Array.getElem?_setIfInBounds, Array.getElem?_push, Array.getElem?_push]
    by_cases e : w.heap.size = i
    · subst e
      simp
    · rw [if_neg e]
      simp [Ne.symm e]
  show ({ w with heap := (w.heap.push o).setIfInBounds w.heap.size p } : World) = { w with heap := w.heap.push p }
  rw [h]
theorem put_new (w : World) (es es' : Array MapEntry) (clock : Nat) (k : Int) (v : Value) (hno : Instr.findNow (.int .i64) (.int .i64 k) es.toList 0 = some none) (he : es.push { key := .int .i64 k, val := v, born := clock } = es') :
    (Instr.mapUpdate 104 (.map (some w.heap.size)) (.int .i64 k) v).run Tryz.prog (w.alloc (.map es clock)) = .ok () (w.alloc (.map es' (clock + 1))) := by
  rw [map_put (w.alloc (.map es clock)) w.heap.size es clock k v (heap_alloc_new w _) hno, set_new, he]
set_option maxRecDepth 100000 in
theorem levelChecks_any (w : World) : Calls Tryz.prog 77 #[] w fun e w' => e = .returned (.map (some w.heap.size)) ∧ w' = w.alloc chkMap := by
  have hmm := @run_makeMap Tryz.prog
  have u1 := put_new w #[] #[{ key := .int .i64 0, val := .func (.func 103) #[] #[], born := 0 }] 0 0 (.func (.func 103) #[] #[]) rfl rfl
  have u2 := put_new w #[{ key := .int .i64 0, val := .func (.func 103) #[] #[], born := 0 }] #[{ key := .int .i64 0, val := .func (.func 103) #[] #[], born := 0 }, { key := .int .i64 1, val := .func (.func 104) #[] #[], born := 1 }] 1 1 (.func (.func 104) #[] #[]) rfl rfl
  go_enter Tryz.func77, Tryz.ntmps77
  go_wp2_with fail
  go_ret
  exact ⟨rfl, rfl⟩
theorem two_lb (lo hi l : Int) : ((max lo l == l) && (min hi l == l)) = (decide (lo ≤ l) && decide (l ≤ hi)) := by
  rw [Bool.eq_iff_iff]
  simp only [Bool.and_eq_true, beq_iff_eq, decide_eq_true_eq]
  omega
set_option maxRecDepth 100000 in
set_option maxHeartbeats 4000000 in
theorem within_any (lo hi l : Int) (w : World) : Calls Tryz.prog 103 #[.agg #[.int .i64 lo, .int .i64 hi], .int .i64 l] w fun e w' => e = .returned (.bool (decide (lo ≤ l) && decide (l ≤ hi))) ∧ Below w.heap.size w w' := by
  obtain ⟨w1, hw1⟩ : ∃ w1, w1 = w.alloc (.cells #[.int .i64 lo, .int .i64 hi] 65) := ⟨_, rfl⟩
  obtain ⟨w2, hw2⟩ : ∃ w2, w2 = w1.alloc (.cells #[.int .i64 l, .int .i64 l] 65) := ⟨_, rfl⟩
  have s1 : w1.heap.size = w.heap.size + 1 := by rw [hw1]; simp
  have s2 : w2.heap.size = w.heap.size + 1 + 1 := by rw [hw2]; simp [s1]
  have B1 : Below w.heap.size w w1 := by rw [hw1]; exact below_new _ _
  have B2 : Below w1.heap.size w1 w2 := by rw [hw2]; exact below_new _ _
  have R0 : Ob w2 w.heap.size 2 (bx (.int .i64 lo) (.int .i64 hi)) := (by rw [hw1]; exact box2 w lo hi _ : Ob w1 w.heap.size 2 (bx (.int .i64 lo) (.int .i64 hi))).next B2
  have R1 : Ob w2 (w.heap.size + 1) 2 (bx (.int .i64 l) (.int .i64 l)) := by
    have := box2 w1 l l 65
    rw [← hw2, s1] at this
    exact this
  have C1 := Lib.hid (B1.trans (B2.mono (by omega)))
  have e2 : (w.alloc (.cells #[.int .i64 lo, .int .i64 hi] 65)).alloc (.cells #[.int .i64 l, .int .i64 l] 65) = w2 := by rw [hw2, hw1]
  clear hw1 hw2 B1 B2 s1
  have heq := eql_lb (max lo l) (min hi l) l l
  rw [two_lb] at heq
  go_enter Tryz.func103, Tryz.ntmps103
  go_wp2_with fail
  have x0 := R0.b0
  have x1 := R0.b1
  have y0 := R1.b0
  have y1 := R1.b1
  have K0 : Below w2.heap.size w2 w2.drew := ⟨rfl, rfl, rfl, Nat.le_refl _, fun _ _ => rfl⟩
  have HK : ∀ X : World, Below w2.heap.size w2 X → X.cell? ⟨w.heap.size, 0, none⟩ = some (.int .i64 lo) ∧ X.cell? ⟨w.heap.size, 1, none⟩ = some (.int .i64 hi) ∧ X.cell? ⟨w.heap.size + 1, 0, none⟩ = some (.int .i64 l) ∧ X.cell? ⟨w.heap.size + 1, 1, none⟩ = some (.int .i64 l) := fun X h => ⟨(R0.next h).b0, (R0.next h).b1, (R1.next h).b0, (R1.next h).b1⟩
  go_region_held3 (fun X : World => X.cell? ⟨w.heap.size, 0, none⟩ = some (.int .i64 lo) ∧ X.cell? ⟨w.heap.size, 1, none⟩ = some (.int .i64 hi) ∧ X.cell? ⟨w.heap.size + 1, 0, none⟩ = some (.int .i64 l) ∧ X.cell? ⟨w.heap.size + 1, 1, none⟩ = some (.int .i64 l)) (first | exact HK _ K0 | exact HK _ KX)
    (first | (go_at_call 44; refine (commonWith_any lo hi l l _).mono ?_; rintro e wC ⟨rfl, hbC⟩; have KX : Below w2.heap.size w2 wC := K0.trans hbC))
  have HX := Lib.hid (C1.out.trans (KX.mono (by omega)))
  clear KX HK K0
  go_wp2_with fail
  go_ret
  exact ⟨rfl, HX.out⟩
set_option maxRecDepth 100000 in
set_option maxHeartbeats 4000000 in
theorem atBounds_any (lo hi l : Int) (w : World) : Calls Tryz.prog 104 #[.agg #[.int .i64 lo, .int .i64 hi], .int .i64 l] w fun e w' => e = .returned (.bool ((l == lo) || (l == hi))) ∧ Below w.heap.size w w' := by
  have R0 := box2 w lo hi 65
  have HC := Lib.hid (below_new w (.cells #[.int .i64 lo, .int .i64 hi] 65))
  cases h1 : (l == lo)
  all_goals
    go_enter Tryz.func104, Tryz.ntmps104
    have x0 := R0.b0
    have x1 := R0.b1
    go_wp2_with fail
    go_ret
    exact ⟨by simp, HC.out⟩
end Go.Proofs.YtebbnhnggjmbiaaGreat.mem

namespace Go.Proofs.YtebbnhnggjmbiaaGreat.mem
open Go.RowKit
set_option linter.unusedVariables false

set_option maxRecDepth 100000 in
set_option maxHeartbeats 8000000 in
theorem passIn_any (w : World) (v : Value) (n : Nat) (N : Nat → Nod) (m : Nat) (P : Nat → Pip) (lo hi : Nat) (h : NetAt w v n N m P lo hi) (hhi : hi ≤ w.heap.size) (hN : ∀ i, i < n → (N i).s.size ≤ 9223372036854775807) (va : Value) (x : Nat → Int) (la ha : Nat) (hv : Sl w va n x la ha) (hha : ha ≤ w.heap.size) (hn1 : 0 < n) (hn : n ≤ 1000000) :
    Calls Tryz.prog 48 #[v, va, .int .i64 0] w (fun e w' => ∃ v' g, e = .returned v' ∧ Own w' v' (fl (inB N x) n).length (fd (inB N x) n) g ∧ w.heap.size ≤ g ∧ Below w.heap.size w w') := by
  obtain ⟨p0, c0, p1, c1, rfl, hn9, hm9⟩ := h.parts
  have hat0 : ∃ b o, p0 = some ⟨b, o, none⟩ ∧ lo ≤ b ∧ b < hi ∧ At w b o n 3 (nodC N) := by
    obtain ⟨v0, v1, he, g0, g1⟩ := h.ex
    simp only [Value.agg.injEq, Array.mk.injEq, List.cons.injEq, and_true] at he
    obtain ⟨rfl, rfl⟩ := he
    obtain ⟨p, cap, hv, _, _, hc⟩ := g0.ex
    injection hv with e1 _ e2
    subst e1
    rcases hc with h0 | h0
    · omega
    · exact h0
  obtain ⟨bn, on, rfl, hbl, hbh, hat⟩ := hat0
  have HAT := Lib.hid hat
  have hsl : ∃ ca b o, va = .slice (some ⟨b, o, none⟩) n ca ∧ la ≤ b ∧ b < ha ∧ ∀ k, k < n → w.cell? ⟨b, o + k, none⟩ = some (.int .i64 (x k)) := by
    obtain ⟨p, cap, hv0, h1⟩ := hv.ex
    rcases h1 with h1 | ⟨b, o, h1, h2, h3, h4⟩
    · omega
    · subst h1
      exact ⟨cap, b, o, hv0, h2, h3, h4⟩
  obtain ⟨ca, ba, oa, rfl, hla, hba, hrow⟩ := hsl
  have HR := Lib.hid hrow
  clear h hN hv hat hrow
  have A0 := boxed w (.slice (some ⟨bn, on, none⟩) n c0) (.slice p1 m c1) 33
  have B0 := below_new w (.cells #[.slice (some ⟨bn, on, none⟩) n c0, .slice p1 m c1] 33)
  have hs0 : (w.alloc (.cells #[.slice (some ⟨bn, on, none⟩) n c0, .slice p1 m c1] 33)).heap.size = w.heap.size + 1 := by simp
  go_enter Tryz.func48, Tryz.ntmps48
  go_wp2_with fail
  refine (levelChecks_any _).mono ?_
  rintro e w1 ⟨rfl, hw1⟩
  have hg1 := map_get w1 (w.heap.size + 1) #[{ key := .int .i64 0, val := .func (.func 103) #[] #[], born := 0 }, { key := .int .i64 1, val := .func (.func 104) #[] #[], born := 1 }] 2 0 (.func (.func 103) #[] #[]) 0 (by rw [hw1, ← hs0]; exact heap_alloc_new _ _) rfl
  have A1 := A0.next (below_new _ chkMap)
  rw [← hw1] at A1
  have B1 : Below w.heap.size w w1 := by rw [hw1]; exact B0.trans ((below_new _ _).mono (by rw [hs0]; omega))
  have hs1 : w1.heap.size = w.heap.size + 1 + 1 := by rw [hw1]; simp
  rw [hs0]
  clear A0 B0 hs0 hw1
  have e0 := A1.b0
  have f2 : w.heap.size < w1.heap.size := by omega
  replace hs1 := Nat.le_antisymm_iff.1 hs1
  have F0 := Own.nilled w1 (fd (inB N x) 0)
  have N0 := below_new w1 (.cells #[] 2)
  have hs2 : (w1.alloc (.cells #[] 2)).heap.size = w1.heap.size + 1 := by simp
  go_wp2_with fail
  generalize hW : (w1.alloc (Obj.cells #[] 2)) = W2 at *
  clear hW hg1
  replace hs2 := Nat.le_antisymm_iff.1 hs2
  go_loopw [18, 8, 9, 10] (fun iv ov _ _ wr => ∃ (k go : Nat) (ov' : Value), iv = .int .i64 (k : Nat) ∧ ov' = ov ∧ k ≤ n ∧ Own wr ov' (fl (inB N x) k).length (fd (inB N x) k) go ∧ w1.heap.size ≤ go ∧ w1.heap.size ≤ wr.heap.size ∧ Below w1.heap.size w1 wr) (fun iv _ _ _ _ => n - (intOf iv).toNat)
  case atStart => exact ⟨0, w1.heap.size, _, rfl, rfl, Nat.zero_le _, F0, Nat.le_refl _, by omega, N0⟩
  case round =>
    obtain ⟨k, go, ov, rfl, rfl, hk, ho, hgo, hsz, hb⟩ := hrel
    obtain ⟨co, rfl⟩ := ho.shape
    have HO := Lib.hid ho
    have hgol := ho.lt
    clear ho F0 N0
    have HBB := Lib.hid hb
    clear hb
    have k0 : (0 : Int) ≤ (k : Int) := Int.natCast_nonneg _
    by_cases hlt : k < n
    · have k1 : (k : Int) < (n : Int) := by omega
      have HLT := hlt
      have BW := Lib.hid (B1.trans (HBB.out.mono (by omega)))
      have yn0 : wr.cell? ⟨bn, on + k * 3, none⟩ = some (.string (N k).s) := (BW.out.cell (p := ⟨bn, on + k * 3, none⟩) (Nat.lt_of_lt_of_le hbh hhi)).trans (HAT.out.cell k 0 HLT (by omega))
      have yn1 : wr.cell? ⟨bn, on + k * 3 + 1, none⟩ = some (.int .i64 (N k).lo) := (BW.out.cell (p := ⟨bn, on + k * 3 + 1, none⟩) (Nat.lt_of_lt_of_le hbh hhi)).trans (HAT.out.cell k 1 HLT (by omega))
      have yn2 : wr.cell? ⟨bn, on + k * 3 + 2, none⟩ = some (.int .i64 (N k).hi) := (BW.out.cell (p := ⟨bn, on + k * 3 + 2, none⟩) (Nat.lt_of_lt_of_le hbh hhi)).trans (HAT.out.cell k 2 HLT (by omega))
      have yl : wr.cell? ⟨ba, oa + k, none⟩ = some (.int .i64 (x k)) := (BW.out.cell (p := ⟨ba, oa + k, none⟩) (Nat.lt_of_lt_of_le hba hha)).trans (HR.out k hlt)
      have hbaw : ba < wr.heap.size := by omega
      obtain ⟨wn, hwn⟩ : ∃ wn, wn = wr.alloc (.cells #[.string (N k).s, .int .i64 (N k).lo, .int .i64 (N k).hi] 59) := ⟨_, rfl⟩
      have RN : Ob wn wr.heap.size 3 (fun k' => if k' = 0 then .string (N k).s else if k' = 1 then .int .i64 (N k).lo else .int .i64 (N k).hi) := by rw [hwn]; exact boxN wr (N k) _
      have BN : Below wr.heap.size wr wn := by rw [hwn]; exact below_new _ _
      have zn : wn.heap.size = wr.heap.size + 1 := by rw [hwn]; simp
      have yl2 : wn.cell? ⟨ba, oa + k, none⟩ = some (.int .i64 (x k)) := (BN.cell (p := ⟨ba, oa + k, none⟩) hbaw).trans yl
      have hwn2 := hwn.symm
      clear hwn yl
      cases hp : inB N x k
      all_goals
        have HPK := Lib.hid hp
        have hpe : (decide ((N k).lo ≤ x k) && decide (x k ≤ (N k).hi)) = _ := hp
        clear hp
        go_wp2_with fail
        have q0 := RN.cell 0 (by omega)
        have q1 := RN.cell 1 (by omega)
        have q2 := RN.cell 2 (by omega)
        simp only [if_true, Nat.one_ne_zero, if_false, show ¬ ((2 : Nat) = 0) by omega, show ¬ ((2 : Nat) = 1) by omega] at q0 q1 q2
        have K0 : Below wn.heap.size wn wn.drew := ⟨rfl, rfl, rfl, Nat.le_refl _, fun _ _ => rfl⟩
        have HK : ∀ X : World, Below wn.heap.size wn X → X.cell? ⟨wr.heap.size, 0, none⟩ = some (.string (N k).s) ∧ X.cell? ⟨wr.heap.size, 1, none⟩ = some (.int .i64 (N k).lo) ∧ X.cell? ⟨wr.heap.size, 2, none⟩ = some (.int .i64 (N k).hi) ∧ X.cell? ⟨ba, oa + k, none⟩ = some (.int .i64 (x k)) := fun X h => ⟨(h.cell (p := ⟨wr.heap.size, 0, none⟩) (by show wr.heap.size < _; omega)).trans q0, (h.cell (p := ⟨wr.heap.size, 1, none⟩) (by show wr.heap.size < _; omega)).trans q1, (h.cell (p := ⟨wr.heap.size, 2, none⟩) (by show wr.heap.size < _; omega)).trans q2, (h.cell (p := ⟨ba, oa + k, none⟩) (by show ba < _; omega)).trans yl2⟩
        go_region_held3 (fun X : World => X.cell? ⟨wr.heap.size, 0, none⟩ = some (.string (N k).s) ∧ X.cell? ⟨wr.heap.size, 1, none⟩ = some (.int .i64 (N k).lo) ∧ X.cell? ⟨wr.heap.size, 2, none⟩ = some (.int .i64 (N k).hi) ∧ X.cell? ⟨ba, oa + k, none⟩ = some (.int .i64 (x k))) (first | exact HK _ K0 | exact HK _ KC | exact HK _ KX)
          (first | (go_at_call 42; refine (levelBounds_any (N k) _).mono ?_; rintro e wC ⟨rfl, hbC⟩; have KX : Below wn.heap.size wn wC := K0.trans (hbC.mono K0.size); clear hbC) | (go_at_call 103; refine (within_any (N k).lo (N k).hi (x k) _).mono ?_; rintro e wD ⟨rfl, hbD⟩; have KC : Below wn.heap.size wn wD := KX.trans (hbD.mono KX.size); clear hbD))
        have hbD2 := BN.trans (KC.mono (by omega))
        have HO4 := Lib.hid (HO.out.below hbD2 (Nat.le_refl _))
        have HB4 := Lib.hid (HBB.out.trans (hbD2.mono (by omega)))
        have hs4 := hbD2.size
        clear hbD2 KX KC K0 HK RN BN q0 q1 q2 yn0 yn1 yn2 yl2 hwn2
      · go_wp2_with fail
        go_roundw
        case rel => exact ⟨k + 1, go, _, by go_num, rfl, hlt, fl_keep HPK.out HO4.out, hgo, by omega, HB4.out⟩
        case measure => simp [intOf]; omega
      · obtain ⟨v5, w5, g5, hr, ap⟩ := coll_run wD _ (inB N x) k go HO4.out (by omega)
        have Y := Lib.hid (coll_below ap hgo (by omega))
        have O5 := Lib.hid (fl_app HPK.out ap)
        have hs5 := Y.out.2.2
        clear ap
        go_wp2_with (at_builtin; refine wpList_app hr rfl _ _ rfl rfl rfl rfl ?_)
        go_roundw
        case rel => exact ⟨k + 1, g5, v5, by go_num, rfl, hlt, O5.out, Y.out.2.1, by omega, HB4.out.trans Y.out.1⟩
        case measure => simp [intOf]; omega
    · have hkn : n = k := by omega
      subst hkn
      have k1 : ¬ ((n : Int) < (n : Int)) := by omega
      go_wp2_with fail
      go_ret
      exact ⟨_, rfl, go, HO.out, by omega, B1.trans (HBB.out.mono (by omega))⟩
set_option maxRecDepth 100000 in
set_option maxHeartbeats 8000000 in
theorem passTi_any (w : World) (v : Value) (n : Nat) (N : Nat → Nod) (m : Nat) (P : Nat → Pip) (lo hi : Nat) (h : NetAt w v n N m P lo hi) (hhi : hi ≤ w.heap.size) (hN : ∀ i, i < n → (N i).s.size ≤ 9223372036854775807) (va : Value) (x : Nat → Int) (la ha : Nat) (hv : Sl w va n x la ha) (hha : ha ≤ w.heap.size) (hn1 : 0 < n) (hn : n ≤ 1000000) :
    Calls Tryz.prog 48 #[v, va, .int .i64 1] w (fun e w' => ∃ v' g, e = .returned v' ∧ Own w' v' (fl (tiB N x) n).length (fd (tiB N x) n) g ∧ w.heap.size ≤ g ∧ Below w.heap.size w w') := by
  obtain ⟨p0, c0, p1, c1, rfl, hn9, hm9⟩ := h.parts
  have hat0 : ∃ b o, p0 = some ⟨b, o, none⟩ ∧ lo ≤ b ∧ b < hi ∧ At w b o n 3 (nodC N) := by
    obtain ⟨v0, v1, he, g0, g1⟩ := h.ex
    simp only [Value.agg.injEq, Array.mk.injEq, List.cons.injEq, and_true] at he
    obtain ⟨rfl, rfl⟩ := he
    obtain ⟨p, cap, hv, _, _, hc⟩ := g0.ex
    injection hv with e1 _ e2
    subst e1
    rcases hc with h0 | h0
    · omega
    · exact h0
  obtain ⟨bn, on, rfl, hbl, hbh, hat⟩ := hat0
  have HAT := Lib.hid hat
  have hsl : ∃ ca b o, va = .slice (some ⟨b, o, none⟩) n ca ∧ la ≤ b ∧ b < ha ∧ ∀ k, k < n → w.cell? ⟨b, o + k, none⟩ = some (.int .i64 (x k)) := by
    obtain ⟨p, cap, hv0, h1⟩ := hv.ex
    rcases h1 with h1 | ⟨b, o, h1, h2, h3, h4⟩
    · omega
    · subst h1
      exact ⟨cap, b, o, hv0, h2, h3, h4⟩
  obtain ⟨ca, ba, oa, rfl, hla, hba, hrow⟩ := hsl
  have HR := Lib.hid hrow
  clear h hN hv hat hrow
  have A0 := boxed w (.slice (some ⟨bn, on, none⟩) n c0) (.slice p1 m c1) 33
  have B0 := below_new w (.cells #[.slice (some ⟨bn, on, none⟩) n c0, .slice p1 m c1] 33)
  have hs0 : (w.alloc (.cells #[.slice (some ⟨bn, on, none⟩) n c0, .slice p1 m c1] 33)).heap.size = w.heap.size + 1 := by simp
  go_enter Tryz.func48, Tryz.ntmps48
  go_wp2_with fail
  refine (levelChecks_any _).mono ?_
  rintro e w1 ⟨rfl, hw1⟩
  have hg1 := map_get w1 (w.heap.size + 1) #[{ key := .int .i64 0, val := .func (.func 103) #[] #[], born := 0 }, { key := .int .i64 1, val := .func (.func 104) #[] #[], born := 1 }] 2 1 (.func (.func 104) #[] #[]) 1 (by rw [hw1, ← hs0]; exact heap_alloc_new _ _) rfl
  have A1 := A0.next (below_new _ chkMap)
  rw [← hw1] at A1
  have B1 : Below w.heap.size w w1 := by rw [hw1]; exact B0.trans ((below_new _ _).mono (by rw [hs0]; omega))
  have hs1 : w1.heap.size = w.heap.size + 1 + 1 := by rw [hw1]; simp
  rw [hs0]
  clear A0 B0 hs0 hw1
  have e0 := A1.b0
  have f2 : w.heap.size < w1.heap.size := by omega
  replace hs1 := Nat.le_antisymm_iff.1 hs1
  have F0 := Own.nilled w1 (fd (tiB N x) 0)
  have N0 := below_new w1 (.cells #[] 2)
  have hs2 : (w1.alloc (.cells #[] 2)).heap.size = w1.heap.size + 1 := by simp
  go_wp2_with fail
  generalize hW : (w1.alloc (Obj.cells #[] 2)) = W2 at *
  clear hW hg1
  replace hs2 := Nat.le_antisymm_iff.1 hs2
  go_loopw [18, 8, 9, 10] (fun iv ov _ _ wr => ∃ (k go : Nat) (ov' : Value), iv = .int .i64 (k : Nat) ∧ ov' = ov ∧ k ≤ n ∧ Own wr ov' (fl (tiB N x) k).length (fd (tiB N x) k) go ∧ w1.heap.size ≤ go ∧ w1.heap.size ≤ wr.heap.size ∧ Below w1.heap.size w1 wr) (fun iv _ _ _ _ => n - (intOf iv).toNat)
  case atStart => exact ⟨0, w1.heap.size, _, rfl, rfl, Nat.zero_le _, F0, Nat.le_refl _, by omega, N0⟩
  case round =>
    obtain ⟨k, go, ov, rfl, rfl, hk, ho, hgo, hsz, hb⟩ := hrel
    obtain ⟨co, rfl⟩ := ho.shape
    have HO := Lib.hid ho
    have hgol := ho.lt
    clear ho F0 N0
    have HBB := Lib.hid hb
    clear hb
    have k0 : (0 : Int) ≤ (k : Int) := Int.natCast_nonneg _
    by_cases hlt : k < n
    · have k1 : (k : Int) < (n : Int) := by omega
      have HLT := hlt
      have BW := Lib.hid (B1.trans (HBB.out.mono (by omega)))
      have yn0 : wr.cell? ⟨bn, on + k * 3, none⟩ = some (.string (N k).s) := (BW.out.cell (p := ⟨bn, on + k * 3, none⟩) (Nat.lt_of_lt_of_le hbh hhi)).trans (HAT.out.cell k 0 HLT (by omega))
      have yn1 : wr.cell? ⟨bn, on + k * 3 + 1, none⟩ = some (.int .i64 (N k).lo) := (BW.out.cell (p := ⟨bn, on + k * 3 + 1, none⟩) (Nat.lt_of_lt_of_le hbh hhi)).trans (HAT.out.cell k 1 HLT (by omega))
      have yn2 : wr.cell? ⟨bn, on + k * 3 + 2, none⟩ = some (.int .i64 (N k).hi) := (BW.out.cell (p := ⟨bn, on + k * 3 + 2, none⟩) (Nat.lt_of_lt_of_le hbh hhi)).trans (HAT.out.cell k 2 HLT (by omega))
      have yl : wr.cell? ⟨ba, oa + k, none⟩ = some (.int .i64 (x k)) := (BW.out.cell (p := ⟨ba, oa + k, none⟩) (Nat.lt_of_lt_of_le hba hha)).trans (HR.out k hlt)
      have hbaw : ba < wr.heap.size := by omega
      obtain ⟨wn, hwn⟩ : ∃ wn, wn = wr.alloc (.cells #[.string (N k).s, .int .i64 (N k).lo, .int .i64 (N k).hi] 59) := ⟨_, rfl⟩
      have RN : Ob wn wr.heap.size 3 (fun k' => if k' = 0 then .string (N k).s else if k' = 1 then .int .i64 (N k).lo else .int .i64 (N k).hi) := by rw [hwn]; exact boxN wr (N k) _
      have BN : Below wr.heap.size wr wn := by rw [hwn]; exact below_new _ _
      have zn : wn.heap.size = wr.heap.size + 1 := by rw [hwn]; simp
      have yl2 : wn.cell? ⟨ba, oa + k, none⟩ = some (.int .i64 (x k)) := (BN.cell (p := ⟨ba, oa + k, none⟩) hbaw).trans yl
      have hwn2 := hwn.symm
      clear hwn yl
      cases hp : tiB N x k
      all_goals
        have HPK := Lib.hid hp
        have hpe : ((x k == (N k).lo) || (x k == (N k).hi)) = _ := hp
        clear hp
        go_wp2_with fail
        have q0 := RN.cell 0 (by omega)
        have q1 := RN.cell 1 (by omega)
        have q2 := RN.cell 2 (by omega)
        simp only [if_true, Nat.one_ne_zero, if_false, show ¬ ((2 : Nat) = 0) by omega, show ¬ ((2 : Nat) = 1) by omega] at q0 q1 q2
        have K0 : Below wn.heap.size wn wn.drew := ⟨rfl, rfl, rfl, Nat.le_refl _, fun _ _ => rfl⟩
        have HK : ∀ X : World, Below wn.heap.size wn X → X.cell? ⟨wr.heap.size, 0, none⟩ = some (.string (N k).s) ∧ X.cell? ⟨wr.heap.size, 1, none⟩ = some (.int .i64 (N k).lo) ∧ X.cell? ⟨wr.heap.size, 2, none⟩ = some (.int .i64 (N k).hi) ∧ X.cell? ⟨ba, oa + k, none⟩ = some (.int .i64 (x k)) := fun X h => ⟨(h.cell (p := ⟨wr.heap.size, 0, none⟩) (by show wr.heap.size < _; omega)).trans q0, (h.cell (p := ⟨wr.heap.size, 1, none⟩) (by show wr.heap.size < _; omega)).trans q1, (h.cell (p := ⟨wr.heap.size, 2, none⟩) (by show wr.heap.size < _; omega)).trans q2, (h.cell (p := ⟨ba, oa + k, none⟩) (by show ba < _; omega)).trans yl2⟩
        go_region_held3 (fun X : World => X.cell? ⟨wr.heap.size, 0, none⟩ = some (.string (N k).s) ∧ X.cell? ⟨wr.heap.size, 1, none⟩ = some (.int .i64 (N k).lo) ∧ X.cell? ⟨wr.heap.size, 2, none⟩ = some (.int .i64 (N k).hi) ∧ X.cell? ⟨ba, oa + k, none⟩ = some (.int .i64 (x k))) (first | exact HK _ K0 | exact HK _ KC | exact HK _ KX)
          (first | (go_at_call 42; refine (levelBounds_any (N k) _).mono ?_; rintro e wC ⟨rfl, hbC⟩; have KX : Below wn.heap.size wn wC := K0.trans (hbC.mono K0.size); clear hbC) | (go_at_call 104; refine (atBounds_any (N k).lo (N k).hi (x k) _).mono ?_; rintro e wD ⟨rfl, hbD⟩; have KC : Below wn.heap.size wn wD := KX.trans (hbD.mono KX.size); clear hbD))
        have hbD2 := BN.trans (KC.mono (by omega))
        have HO4 := Lib.hid (HO.out.below hbD2 (Nat.le_refl _))
        have HB4 := Lib.hid (HBB.out.trans (hbD2.mono (by omega)))
        have hs4 := hbD2.size
        clear hbD2 KX KC K0 HK RN BN q0 q1 q2 yn0 yn1 yn2 yl2 hwn2
      · go_wp2_with fail
        go_roundw
        case rel => exact ⟨k + 1, go, _, by go_num, rfl, hlt, fl_keep HPK.out HO4.out, hgo, by omega, HB4.out⟩
        case measure => simp [intOf]; omega
      · obtain ⟨v5, w5, g5, hr, ap⟩ := coll_run wD _ (tiB N x) k go HO4.out (by omega)
        have Y := Lib.hid (coll_below ap hgo (by omega))
        have O5 := Lib.hid (fl_app HPK.out ap)
        have hs5 := Y.out.2.2
        clear ap
        go_wp2_with (at_builtin; refine wpList_app hr rfl _ _ rfl rfl rfl rfl ?_)
        go_roundw
        case rel => exact ⟨k + 1, g5, v5, by go_num, rfl, hlt, O5.out, Y.out.2.1, by omega, HB4.out.trans Y.out.1⟩
        case measure => simp [intOf]; omega
    · have hkn : n = k := by omega
      subst hkn
      have k1 : ¬ ((n : Int) < (n : Int)) := by omega
      go_wp2_with fail
      go_ret
      exact ⟨_, rfl, go, HO.out, by omega, B1.trans (HBB.out.mono (by omega))⟩
end Go.Proofs.YtebbnhnggjmbiaaGreat.mem

namespace Go.Proofs.YtebbnhnggjmbiaaGreat.mem
open Go.RowKit
set_option linter.unusedVariables false

/-- the bounds of the root, element by element: the first k of them are written -/
def lbC (N : Nat → Nod) (x : Nat → Int) (k : Nat) (q : Nat) : Value := .int .i64 (if q / 2 < k then (if q % 2 = 0 then loF N x (q / 2) else hiF N x (q / 2)) else 0)
def lbZ (n : Nat) : Array Value := madeCells #[.int .i64 0, .int .i64 0] (n * 2)
theorem lbZ_get (n q : Nat) (h : q < n * 2) : (lbZ n)[q]? = some (.int .i64 0) := by
  unfold lbZ madeCells
  have : q % 2 = 0 ∨ q % 2 = 1 := by omega
  rcases this with e | e <;> simp [h, e]
theorem info_lb : (Tryz.prog.info? 65).map (fun i => (i.zero, i.size, i.bytes)) = some (some (.agg #[.int .i64 0, .int .i64 0]), 2, 16) := by kernel_rfl
theorem make_lb (W : World) (n : Nat) (hn : n ≤ 2000000) : Sem.run Tryz.prog (Instr.makeSlice 67 (.int .i64 n) (.int .i64 n)) W = .ok (.slice (some ⟨W.heap.size, 0, none⟩) n n) (W.alloc (.cells (lbZ n) 65)) := by
  obtain ⟨i0, hi, hz0, hz1, hz2⟩ := info_parts info_lb
  have h := run_make (P := Tryz.prog) W 67 65 i0 (.agg #[.int .i64 0, .int .i64 0]) Tryz.underlying67 hi hz0 .i64 .i64 (n : Int) (n : Int) (by omega) (Int.le_refl _) (by rw [hz2]; omega) (by omega)
  rw [hz1] at h
  simpa [lbZ, Value.cells] using h
theorem lbNew (w : World) (n : Nat) (t : TypeId) (N : Nat → Nod) (x : Nat → Int) : Ob (w.alloc (.cells (lbZ n) t)) w.heap.size (n * 2) (lbC N x 0) :=
  Ob.new w _ t _ _ (by unfold lbZ; simp [madeCells]) (fun q hq => by rw [lbZ_get n q hq]; unfold lbC; rw [if_neg (Nat.not_lt_zero _)])
theorem lbSet {wn : World} {b n k : Nat} {N : Nat → Nod} {x : Nat → Int} (h : Ob wn b (n * 2) (lbC N x k)) (hk : k < n) : Ob ((wn.setCell ⟨b, k * 2, none⟩ (.int .i64 ((N k).lo - x k))).setCell ⟨b, k * 2 + 1, none⟩ (.int .i64 ((N k).hi - x k))) b (n * 2) (lbC N x (k + 1)) := by
  refine ((h.set (k * 2) _ (by omega)).set (k * 2 + 1) _ (by omega)).congr fun q hq => ?_
  unfold updV
  by_cases e1 : q = k * 2 + 1
  · subst e1
    rw [if_pos rfl]
    unfold lbC hiF
    rw [if_pos (by omega), if_neg (by omega), show (k * 2 + 1) / 2 = k by omega]
  · rw [if_neg e1]
    by_cases e2 : q = k * 2
    · subst e2
      rw [if_pos rfl]
      unfold lbC loF
      rw [if_pos (by omega), if_pos (by omega), show k * 2 / 2 = k by omega]
    · rw [if_neg e2]
      unfold lbC
      by_cases e3 : q / 2 < k
      · simp only [if_pos e3, if_pos (show q / 2 < k + 1 by omega)]
      · simp only [if_neg e3, if_neg (show ¬ q / 2 < k + 1 by omega)]
theorem lbRow {w : World} {b n : Nat} {N : Nat → Nod} {x : Nat → Int} (h : Ob w b (n * 2) (lbC N x n)) {k : Nat} (hk : k < n) : w.cell? ⟨b, k * 2, none⟩ = some (.int .i64 (loF N x k)) ∧ w.cell? ⟨b, k * 2 + 1, none⟩ = some (.int .i64 (hiF N x k)) := by
  have h0 := h.cell (k * 2) (by omega)
  have h1 := h.cell (k * 2 + 1) (by omega)
  unfold lbC at h0 h1
  rw [if_pos (by omega), if_pos (by omega), show k * 2 / 2 = k by omega] at h0
  rw [if_pos (by omega), if_neg (by omega), show (k * 2 + 1) / 2 = k by omega] at h1
  exact ⟨h0, h1⟩
set_option maxRecDepth 100000 in
set_option maxHeartbeats 8000000 in
theorem boundsOfRoot_any (w : World) (v : Value) (n : Nat) (N : Nat → Nod) (m : Nat) (P : Nat → Pip) (lo hi : Nat) (h : NetAt w v n N m P lo hi) (hhi : hi ≤ w.heap.size) (hN : ∀ i, i < n → (N i).s.size ≤ 9223372036854775807) (va : Value) (x : Nat → Int) (la ha : Nat) (hv : Sl w va n x la ha) (hha : ha ≤ w.heap.size) (hn1 : 0 < n) (hn : n ≤ 1000000) (hnb : ∀ i, i < n → 0 ≤ (N i).lo ∧ (N i).lo ≤ 100000000 ∧ 0 ≤ (N i).hi ∧ (N i).hi ≤ 100000000) (hxb : ∀ i, i < n → -600000000000000000 ≤ x i ∧ x i ≤ 600000000000000000) :
    Calls Tryz.prog 43 #[v, va] w (fun e w' => ∃ g, e = .returned (.slice (some ⟨g, 0, none⟩) n n) ∧ Ob w' g (n * 2) (lbC N x n) ∧ w.heap.size ≤ g ∧ Below w.heap.size w w') := by
  obtain ⟨p0, c0, p1, c1, rfl, hn9, hm9⟩ := h.parts
  have hat0 : ∃ b o, p0 = some ⟨b, o, none⟩ ∧ lo ≤ b ∧ b < hi ∧ At w b o n 3 (nodC N) := by
    obtain ⟨v0, v1, he, g0, g1⟩ := h.ex
    simp only [Value.agg.injEq, Array.mk.injEq, List.cons.injEq, and_true] at he
    obtain ⟨rfl, rfl⟩ := he
    obtain ⟨p, cap, hv, _, _, hc⟩ := g0.ex
    injection hv with e1 _ e2
    subst e1
    rcases hc with h0 | h0
    · omega
    · exact h0
  obtain ⟨bn, on, rfl, hbl, hbh, hat⟩ := hat0
  have HAT := Lib.hid hat
  have hsl : ∃ ca b o, va = .slice (some ⟨b, o, none⟩) n ca ∧ la ≤ b ∧ b < ha ∧ ∀ k, k < n → w.cell? ⟨b, o + k, none⟩ = some (.int .i64 (x k)) := by
    obtain ⟨p, cap, hv0, h1⟩ := hv.ex
    rcases h1 with h1 | ⟨b, o, h1, h2, h3, h4⟩
    · omega
    · subst h1
      exact ⟨cap, b, o, hv0, h2, h3, h4⟩
  obtain ⟨ca, ba, oa, rfl, hla, hba, hrow⟩ := hsl
  have HR := Lib.hid hrow
  clear h hN hv hat hrow
  have HND := Lib.hid hnb
  have HBD := Lib.hid hxb
  clear hnb hxb
  have A0 := boxed w (.slice (some ⟨bn, on, none⟩) n c0) (.slice p1 m c1) 33
  have B0 := below_new w (.cells #[.slice (some ⟨bn, on, none⟩) n c0, .slice p1 m c1] 33)
  have hs0 : (w.alloc (.cells #[.slice (some ⟨bn, on, none⟩) n c0, .slice p1 m c1] 33)).heap.size = w.heap.size + 1 := by simp
  obtain ⟨w0, hw0⟩ : ∃ w0, w0 = w.alloc (.cells #[.slice (some ⟨bn, on, none⟩) n c0, .slice p1 m c1] 33) := ⟨_, rfl⟩
  rw [← hw0] at A0 B0 hs0
  have hw0' := hw0.symm
  have mk := make_lb w0 n (by omega)
  rw [hs0] at mk
  obtain ⟨w1, hw1⟩ : ∃ w1, w1 = w0.alloc (.cells (lbZ n) 65) := ⟨_, rfl⟩
  rw [← hw1] at mk
  have O1 : Ob w1 (w.heap.size + 1) (n * 2) (lbC N x 0) := by
    have := lbNew w0 n 65 N x
    rw [← hw1, hs0] at this
    exact this
  have A1 := A0.next (below_new w0 (.cells (lbZ n) 65))
  rw [← hw1] at A1
  have B1 : Below w.heap.size w w1 := by rw [hw1]; exact B0.trans ((below_new _ _).mono (by omega))
  have hs1 : w1.heap.size = w.heap.size + 1 + 1 := by rw [hw1]; simp [hs0]
  clear B0 hw0 hw1 hs0
  replace hs1 := Nat.le_antisymm_iff.1 hs1
  have e0' := A0.b0
  have e0 := A1.b0
  go_enter Tryz.func43, Tryz.ntmps43
  go_wp2_with fail
  have HA1 := Lib.hid A1
  clear mk A0 hw0' e0' A1
  go_loopw [15, 6, 7] (fun iv _ _ wr => ∃ k : Nat, iv = .int .i64 (k : Nat) ∧ k ≤ n ∧ Ob wr (w.heap.size + 1) (n * 2) (lbC N x k) ∧ w1.heap.size ≤ wr.heap.size ∧ Below w.heap.size w wr) (fun iv _ _ _ => n - (intOf iv).toNat)
  case atStart => exact ⟨0, rfl, Nat.zero_le _, O1, Nat.le_refl _, B1⟩
  case round =>
    obtain ⟨k, rfl, hk, ho, hsz, hb⟩ := hrel
    clear O1 e0
    have HBB := Lib.hid hb
    have HO := Lib.hid ho
    clear hb ho
    have k0 : (0 : Int) ≤ (k : Int) := Int.natCast_nonneg _
    by_cases hlt : k < n
    · have k1 : (k : Int) < (n : Int) := by omega
      have HLT := hlt
      have yn0 : wr.cell? ⟨bn, on + k * 3, none⟩ = some (.string (N k).s) := (HBB.out.cell (p := ⟨bn, on + k * 3, none⟩) (Nat.lt_of_lt_of_le hbh hhi)).trans (HAT.out.cell k 0 HLT (by omega))
      have yn1 : wr.cell? ⟨bn, on + k * 3 + 1, none⟩ = some (.int .i64 (N k).lo) := (HBB.out.cell (p := ⟨bn, on + k * 3 + 1, none⟩) (Nat.lt_of_lt_of_le hbh hhi)).trans (HAT.out.cell k 1 HLT (by omega))
      have yn2 : wr.cell? ⟨bn, on + k * 3 + 2, none⟩ = some (.int .i64 (N k).hi) := (HBB.out.cell (p := ⟨bn, on + k * 3 + 2, none⟩) (Nat.lt_of_lt_of_le hbh hhi)).trans (HAT.out.cell k 2 HLT (by omega))
      have yl : wr.cell? ⟨ba, oa + k, none⟩ = some (.int .i64 (x k)) := (HBB.out.cell (p := ⟨ba, oa + k, none⟩) (Nat.lt_of_lt_of_le hba hha)).trans (HR.out k hlt)
      obtain ⟨b0, b1, b2, b3⟩ := HND.out k hlt
      obtain ⟨x0, x1⟩ := HBD.out k hlt
      have wa : IntKind.i64.wrap ((N k).lo - x k) = (N k).lo - x k := IntWalk.i64_in _ (by omega)
      have wb : IntKind.i64.wrap ((N k).hi - x k) = (N k).hi - x k := IntWalk.i64_in _ (by omega)
      obtain ⟨wn, hwn⟩ : ∃ wn, wn = wr.alloc (.cells #[.string (N k).s, .int .i64 (N k).lo, .int .i64 (N k).hi] 59) := ⟨_, rfl⟩
      have RN : Ob wn wr.heap.size 3 (fun k' => if k' = 0 then .string (N k).s else if k' = 1 then .int .i64 (N k).lo else .int .i64 (N k).hi) := by rw [hwn]; exact boxN wr (N k) _
      have BN : Below wr.heap.size wr wn := by rw [hwn]; exact below_new _ _
      have zn : wn.heap.size = wr.heap.size + 1 := by rw [hwn]; simp
      have hbaw : ba < wr.heap.size := by have := HBB.out.size; omega
      have yl2 : wn.cell? ⟨ba, oa + k, none⟩ = some (.int .i64 (x k)) := (BN.cell (p := ⟨ba, oa + k, none⟩) hbaw).trans yl
      have hwn2 := hwn.symm
      clear hwn yl x0 x1 b0 b1 b2 b3
      have ON := HO.out.next BN
      have r0 := ON.cell (k * 2) (by omega)
      have r1 := ON.cell (k * 2 + 1) (by omega)
      have g0 := ON.free (k * 2)
      have g1 := ON.free (k * 2 + 1)
      have HF := Lib.hid (lbSet (wn := wn) ON hlt)
      have hO := ((Only.refl (w.heap.size + 1) wn).setCell (k * 2) (.int .i64 ((N k).lo - x k))).setCell (k * 2 + 1) (.int .i64 ((N k).hi - x k))
      have HB9 := Lib.hid ((HBB.out.trans (BN.mono (by have := HBB.out.size; omega))).trans (hO.below (by omega)))
      have HS9 := Lib.hid hO.size
      clear hO ON
      go_wp2_with fail
      have q1 := RN.cell 1 (by omega)
      have q2 := RN.cell 2 (by omega)
      simp only [Nat.one_ne_zero, if_true, if_false, show ¬ ((2 : Nat) = 0) by omega, show ¬ ((2 : Nat) = 1) by omega] at q1 q2
      clear RN BN
      go_region
      go_wp2_with fail
      go_roundw
      case rel => exact ⟨k + 1, by go_num, hlt, HF.out.keep rfl, Nat.le_trans (by omega) (Nat.le_of_eq HS9.out), below_drw HB9.out⟩
      case measure => simp [intOf]; omega
    · have hkn : n = k := by omega
      subst hkn
      have k1 : ¬ ((n : Int) < (n : Int)) := by omega
      go_wp2_with fail
      go_ret
      exact ⟨_, rfl, HO.out, by omega, HBB.out⟩
end Go.Proofs.YtebbnhnggjmbiaaGreat.mem

namespace Go.Proofs.YtebbnhnggjmbiaaGreat.mem
open Go.RowKit
set_option linter.unusedVariables false

set_option maxRecDepth 100000 in
set_option maxHeartbeats 8000000 in
theorem tightNodesI_any (w : World) (v : Value) (n : Nat) (N : Nat → Nod) (m : Nat) (P : Nat → Pip) (lo hi : Nat) (h : NetAt w v n N m P lo hi) (hhi : hi ≤ w.heap.size) (hN : ∀ i, i < n → (N i).s.size ≤ 9223372036854775807) (va : Value) (K : Nat) (d : Nat → Int) (la ha : Nat) (hv : Sl w va K d la ha) (hha : ha ≤ w.heap.size) (hK9 : K ≤ 9223372036854775807) (r l : Int) :
    Calls Tryz.prog 17 #[v, va, .int .i64 r, .int .i64 l] w (LIPost w (tnN n N m P K d r l) (tnD n N m P d r l) (fvC n N m P K d r l)) := by
  obtain ⟨p0, c0, p1, c1, rfl, hn9, hm9⟩ := h.parts
  have HC0 : Hid (n = 0 ∨ ∃ b o, p0 = some ⟨b, o, none⟩ ∧ lo ≤ b ∧ b < hi ∧ At w b o n 3 (nodC N)) := by
    obtain ⟨v0, v1, he, g0, g1⟩ := h.ex
    simp only [Value.agg.injEq, Array.mk.injEq, List.cons.injEq, and_true] at he
    obtain ⟨rfl, rfl⟩ := he
    obtain ⟨p, cap, hv, _, _, hc⟩ := g0.ex
    injection hv with e1 _ e2
    subst e1
    exact Lib.hid hc
  have HV := Lib.hid h
  have HN := Lib.hid hN
  obtain ⟨pa, ca, rfl⟩ := hv.sh
  have HSV := Lib.hid hv
  have A0 := boxed w (.slice p0 n c0) (.slice p1 m c1) 33
  have B0 := below_new w (.cells #[.slice p0 n c0, .slice p1 m c1] 33)
  have hs0 : (w.alloc (.cells #[.slice p0 n c0, .slice p1 m c1] 33)).heap.size = w.heap.size + 1 := by simp
  clear h hN hv
  go_enter Tryz.func17, Tryz.ntmps17
  have e0 := A0.b0
  have e1 := A0.b1
  go_wp2_with fail
  refine (forestLevelsI_any _ _ n N m P lo hi (HV.out.below B0 hhi) (by omega) HN.out _ K d la ha (HSV.out.below B0 hha) (by omega) hK9 r l).mono ?_
  rintro e w1 ⟨vl, g, rfl, ol, hg, b1⟩
  have A1 := A0.below b1 (by omega)
  have B1 := B0.trans (b1.mono (by omega))
  have hs1 := b1.size
  have f2 : w.heap.size < w1.heap.size := by omega
  clear A0 B0 b1 e0 e1 hs0 hs1
  have e0 := A1.b0
  have e1 := A1.b1
  by_cases hc : fvC n N m P K d r l = 0
  rotate_left 1
  · obtain ⟨p9, c9, rfl⟩ := ownS_sh ol
    have hb1 : (fvC n N m P K d r l != 0) = true := by simpa using hc
    have HE := Lib.hid hc
    clear hc ol
    go_wp2_with fail
    go_ret2
    have H3 := Lib.hid (show tnN n N m P K d r l = 0 by unfold tnN; rw [if_neg HE.out])
    exact li_err H3.out rfl rfl B1
  obtain ⟨hB, hKm, hn1, hn24, hr0, hr1, hl0, hl1, hfn, hbd⟩ := fv_ok hc
  rw [hfn] at ol
  obtain ⟨p9, c9, rfl⟩ := ownS_sh ol
  obtain ⟨rfl, hgl, hgc, hrow⟩ := own_row ol (by omega)
  have HOL := Lib.hid ol
  have HC := Lib.hid hc
  rw [hc]
  obtain ⟨x, hx⟩ : ∃ x : Nat → Int, (fun j : Nat => lvl n P m d r l (j : Nat)) = x := ⟨_, rfl⟩
  have HX := Lib.hid (show xl n m P d r l = x from hx)
  have hbd2 : ∀ j, j < n → -600000000000000000 ≤ x j ∧ x j ≤ 600000000000000000 := fun j hj => by rw [← hx]; exact hbd j hj
  have hrow2 : ∀ k, k < n → w1.cell? ⟨g, k, none⟩ = some (.int .i64 (x k)) := fun k hk => by rw [← hx]; exact hrow k hk
  have HR := Lib.hid hrow2
  have HBD := Lib.hid hbd2
  have HND := Lib.hid (nod_bounds hB)
  rw [hx] at HOL
  clear hc ol hrow hrow2 hbd hbd2 hx hfn
  obtain ⟨bn, on, rfl, hbl, hbh, hat⟩ : ∃ b o, p0 = some ⟨b, o, none⟩ ∧ lo ≤ b ∧ b < hi ∧ At w b o n 3 (nodC N) := by
    rcases HC0.out with h0 | h0
    · omega
    · exact h0
  have HAT := Lib.hid hat
  clear hat HC0
  clear hKm
  have H3 := Lib.hid (show tnN n N m P K d r l = (fl (tiB N x) n).length by unfold tnN; rw [if_pos HC.out, HX.out])
  have H5 := Lib.hid (show tnD n N m P d r l = fd (tiB N x) n by unfold tnD; rw [HX.out])
  go_wp2_with fail
  refine (passTi_any _ _ n N m P lo hi (HV.out.below B1 hhi) (by omega) HN.out _ x 0 w1.heap.size (owns_sl0 HOL.out) (Nat.le_refl _) (by omega) (by omega)).mono ?_
  rintro e w2 ⟨v2, g2, rfl, o2, hg2, b2⟩
  obtain ⟨c2, rfl⟩ := o2.shape
  have HO2 := Lib.hid o2
  have HB2 := Lib.hid (B1.trans (b2.mono (by omega)))
  clear o2 b2
  go_wp2_with fail
  go_ret2
  exact li_ok H3.out.symm (by rw [HC.out]; rfl) (by rw [H5.out]; exact HO2.out) (by omega) HB2.out
set_option maxRecDepth 100000 in
set_option maxHeartbeats 8000000 in
theorem missedByI_any (w : World) (v : Value) (n : Nat) (N : Nat → Nod) (m : Nat) (P : Nat → Pip) (lo hi : Nat) (h : NetAt w v n N m P lo hi) (hhi : hi ≤ w.heap.size) (hN : ∀ i, i < n → (N i).s.size ≤ 9223372036854775807) (va : Value) (K : Nat) (d : Nat → Int) (la ha : Nat) (hv : Sl w va K d la ha) (hha : ha ≤ w.heap.size) (hK9 : K ≤ 9223372036854775807) (r l : Int) :
    Calls Tryz.prog 29 #[v, va, .int .i64 r, .int .i64 l] w (IIPost w (msA n N m P K d r l) (fvC n N m P K d r l)) := by
  obtain ⟨p0, c0, p1, c1, rfl, hn9, hm9⟩ := h.parts
  have HC0 : Hid (n = 0 ∨ ∃ b o, p0 = some ⟨b, o, none⟩ ∧ lo ≤ b ∧ b < hi ∧ At w b o n 3 (nodC N)) := by
    obtain ⟨v0, v1, he, g0, g1⟩ := h.ex
    simp only [Value.agg.injEq, Array.mk.injEq, List.cons.injEq, and_true] at he
    obtain ⟨rfl, rfl⟩ := he
    obtain ⟨p, cap, hv, _, _, hc⟩ := g0.ex
    injection hv with e1 _ e2
    subst e1
    exact Lib.hid hc
  have HV := Lib.hid h
  have HN := Lib.hid hN
  obtain ⟨pa, ca, rfl⟩ := hv.sh
  have HSV := Lib.hid hv
  have A0 := boxed w (.slice p0 n c0) (.slice p1 m c1) 33
  have B0 := below_new w (.cells #[.slice p0 n c0, .slice p1 m c1] 33)
  have hs0 : (w.alloc (.cells #[.slice p0 n c0, .slice p1 m c1] 33)).heap.size = w.heap.size + 1 := by simp
  clear h hN hv
  go_enter Tryz.func29, Tryz.ntmps29
  have e0 := A0.b0
  have e1 := A0.b1
  go_wp2_with fail
  refine (forestLevelsI_any _ _ n N m P lo hi (HV.out.below B0 hhi) (by omega) HN.out _ K d la ha (HSV.out.below B0 hha) (by omega) hK9 r l).mono ?_
  rintro e w1 ⟨vl, g, rfl, ol, hg, b1⟩
  have A1 := A0.below b1 (by omega)
  have B1 := B0.trans (b1.mono (by omega))
  have hs1 := b1.size
  have f2 : w.heap.size < w1.heap.size := by omega
  clear A0 B0 b1 e0 e1 hs0 hs1
  have e0 := A1.b0
  have e1 := A1.b1
  by_cases hc : fvC n N m P K d r l = 0
  rotate_left 1
  · obtain ⟨p9, c9, rfl⟩ := ownS_sh ol
    have hb1 : (fvC n N m P K d r l != 0) = true := by simpa using hc
    have HE := Lib.hid hc
    clear hc ol
    go_wp2_with fail
    go_ret2
    have H3 := Lib.hid (show msA n N m P K d r l = 0 by unfold msA; rw [if_neg HE.out])
    exact ⟨ret_2 H3.out.symm rfl, B1⟩
  obtain ⟨hB, hKm, hn1, hn24, hr0, hr1, hl0, hl1, hfn, hbd⟩ := fv_ok hc
  rw [hfn] at ol
  obtain ⟨p9, c9, rfl⟩ := ownS_sh ol
  obtain ⟨rfl, hgl, hgc, hrow⟩ := own_row ol (by omega)
  have HOL := Lib.hid ol
  have HC := Lib.hid hc
  rw [hc]
  obtain ⟨x, hx⟩ : ∃ x : Nat → Int, (fun j : Nat => lvl n P m d r l (j : Nat)) = x := ⟨_, rfl⟩
  have HX := Lib.hid (show xl n m P d r l = x from hx)
  have hbd2 : ∀ j, j < n → -600000000000000000 ≤ x j ∧ x j ≤ 600000000000000000 := fun j hj => by rw [← hx]; exact hbd j hj
  have hrow2 : ∀ k, k < n → w1.cell? ⟨g, k, none⟩ = some (.int .i64 (x k)) := fun k hk => by rw [← hx]; exact hrow k hk
  have HR := Lib.hid hrow2
  have HBD := Lib.hid hbd2
  have HND := Lib.hid (nod_bounds hB)
  rw [hx] at HOL
  clear hc ol hrow hrow2 hbd hbd2 hx hfn
  obtain ⟨bn, on, rfl, hbl, hbh, hat⟩ : ∃ b o, p0 = some ⟨b, o, none⟩ ∧ lo ≤ b ∧ b < hi ∧ At w b o n 3 (nodC N) := by
    rcases HC0.out with h0 | h0
    · omega
    · exact h0
  have HAT := Lib.hid hat
  clear hat HC0
  clear hKm
  have H3 := Lib.hid (show msA n N m P K d r l = mxF (miF N x) 0 n by unfold msA; rw [if_pos HC.out, HX.out])
  go_wp2_with fail
  go_loopw [29, 12, 13, 14] (fun iv mv _ _ wr => ∃ k : Nat, iv = .int .i64 (k : Nat) ∧ mv = .int .i64 (mxF (miF N x) 0 k) ∧ k ≤ n ∧ w1.heap.size ≤ wr.heap.size ∧ Below w1.heap.size w1 wr) (fun iv _ _ _ _ => n - (intOf iv).toNat)
  case atStart => exact ⟨0, rfl, rfl, Nat.zero_le _, Nat.le_refl _, Below.refl _ _⟩
  case round =>
    obtain ⟨k, rfl, rfl, hk, hsz, hb⟩ := hrel
    have HBB := Lib.hid hb
    clear hb
    have k0 : (0 : Int) ≤ (k : Int) := Int.natCast_nonneg _
    by_cases hlt : k < n
    · have k1 : (k : Int) < (n : Int) := by omega
      have HLT := hlt
      have BW := Lib.hid (B1.trans (HBB.out.mono (by omega)))
      have yn0 : wr.cell? ⟨bn, on + k * 3, none⟩ = some (.string (N k).s) := (BW.out.cell (p := ⟨bn, on + k * 3, none⟩) (Nat.lt_of_lt_of_le hbh hhi)).trans (HAT.out.cell k 0 HLT (by omega))
      have yn1 : wr.cell? ⟨bn, on + k * 3 + 1, none⟩ = some (.int .i64 (N k).lo) := (BW.out.cell (p := ⟨bn, on + k * 3 + 1, none⟩) (Nat.lt_of_lt_of_le hbh hhi)).trans (HAT.out.cell k 1 HLT (by omega))
      have yn2 : wr.cell? ⟨bn, on + k * 3 + 2, none⟩ = some (.int .i64 (N k).hi) := (BW.out.cell (p := ⟨bn, on + k * 3 + 2, none⟩) (Nat.lt_of_lt_of_le hbh hhi)).trans (HAT.out.cell k 2 HLT (by omega))
      have yl : wr.cell? ⟨g, k, none⟩ = some (.int .i64 (x k)) := (HBB.out.cell (p := ⟨g, k, none⟩) hgl).trans (HR.out k hlt)
      obtain ⟨b0, b1, b2, b3⟩ := HND.out k hlt
      obtain ⟨x0, x1⟩ := HBD.out k hlt
      have HS := Lib.hid (show mxF (miF N x) 0 (k + 1) = max (max (mxF (miF N x) 0 k) ((N k).lo - x k)) (x k - (N k).hi) by
        show max (mxF (miF N x) 0 k) (max ((N k).lo - x k) (x k - (N k).hi)) = _
        omega)
      have HS2 := Lib.hid (show mxF (miF N x) 0 (k + 1) = if x k - (N k).hi > (if (N k).lo - x k > mxF (miF N x) 0 k then (N k).lo - x k else mxF (miF N x) 0 k) then x k - (N k).hi else if (N k).lo - x k > mxF (miF N x) 0 k then (N k).lo - x k else mxF (miF N x) 0 k by
        rw [HS.out]
        split <;> split at * <;> omega)
      have wa : IntKind.i64.wrap ((N k).lo - x k) = (N k).lo - x k := IntWalk.i64_in _ (by omega)
      have wb : IntKind.i64.wrap (x k - (N k).hi) = x k - (N k).hi := IntWalk.i64_in _ (by omega)
      obtain ⟨wn, hwn⟩ : ∃ wn, wn = wr.alloc (.cells #[.string (N k).s, .int .i64 (N k).lo, .int .i64 (N k).hi] 59) := ⟨_, rfl⟩
      have RN : Ob wn wr.heap.size 3 (fun k' => if k' = 0 then .string (N k).s else if k' = 1 then .int .i64 (N k).lo else .int .i64 (N k).hi) := by rw [hwn]; exact boxN wr (N k) _
      have BN : Below wr.heap.size wr wn := by rw [hwn]; exact below_new _ _
      have zn : wn.heap.size = wr.heap.size + 1 := by rw [hwn]; simp
      have yl2 : wn.cell? ⟨g, k, none⟩ = some (.int .i64 (x k)) := (BN.cell (p := ⟨g, k, none⟩) (by show g < _; omega)).trans yl
      have HB9 := Lib.hid (HBB.out.trans (BN.mono (by omega)))
      have q1 := RN.cell 1 (by omega)
      have q2 := RN.cell 2 (by omega)
      simp only [Nat.one_ne_zero, if_true, if_false, show ¬ ((2 : Nat) = 0) by omega, show ¬ ((2 : Nat) = 1) by omega] at q1 q2
      have hwn2 := hwn.symm
      clear hwn yl RN BN
      generalize mxF (miF N x) 0 k = M at *
      clear x0 x1 b0 b1 b2 b3
      go_wp2_with fail
      go_quiet (fail)
      go_wp2_with fail
      go_roundw
      case rel => exact ⟨k + 1, by go_num, by rw [HS2.out], hlt, by show w1.heap.size ≤ wn.heap.size; omega, below_drN1 HB9.out _⟩
      case measure => simp [intOf]; omega
    · have hkn : n = k := by omega
      subst hkn
      have k1 : ¬ ((n : Int) < (n : Int)) := by omega
      go_wp2_with fail
      go_ret2
      exact ⟨ret_2 H3.out.symm HC.out.symm, B1.trans (HBB.out.mono (by omega))⟩
end Go.Proofs.YtebbnhnggjmbiaaGreat.mem

namespace Go.Proofs.YtebbnhnggjmbiaaGreat.mem
open Go.RowKit
set_option linter.unusedVariables false

set_option maxRecDepth 100000 in
set_option maxHeartbeats 8000000 in
theorem rootRangeI_any (w : World) (v : Value) (n : Nat) (N : Nat → Nod) (m : Nat) (P : Nat → Pip) (lo hi : Nat) (h : NetAt w v n N m P lo hi) (hhi : hi ≤ w.heap.size) (hN : ∀ i, i < n → (N i).s.size ≤ 9223372036854775807) (va : Value) (K : Nat) (d : Nat → Int) (la ha : Nat) (hv : Sl w va K d la ha) (hha : ha ≤ w.heap.size) (hK9 : K ≤ 9223372036854775807) (r : Int) :
    Calls Tryz.prog 13 #[v, va, .int .i64 r] w (IIIPost w (rrA n N m P K d r) (rrZ n N m P K d r) (rrC n N m P K d r)) := by
  obtain ⟨p0, c0, p1, c1, rfl, hn9, hm9⟩ := h.parts
  have HC0 : Hid (n = 0 ∨ ∃ b o, p0 = some ⟨b, o, none⟩ ∧ lo ≤ b ∧ b < hi ∧ At w b o n 3 (nodC N)) := by
    obtain ⟨v0, v1, he, g0, g1⟩ := h.ex
    simp only [Value.agg.injEq, Array.mk.injEq, List.cons.injEq, and_true] at he
    obtain ⟨rfl, rfl⟩ := he
    obtain ⟨p, cap, hv, _, _, hc⟩ := g0.ex
    injection hv with e1 _ e2
    subst e1
    exact Lib.hid hc
  have HV := Lib.hid h
  have HN := Lib.hid hN
  obtain ⟨pa, ca, rfl⟩ := hv.sh
  have HSV := Lib.hid hv
  have A0 := boxed w (.slice p0 n c0) (.slice p1 m c1) 33
  have B0 := below_new w (.cells #[.slice p0 n c0, .slice p1 m c1] 33)
  have hs0 : (w.alloc (.cells #[.slice p0 n c0, .slice p1 m c1] 33)).heap.size = w.heap.size + 1 := by simp
  clear h hN hv
  go_enter Tryz.func13, Tryz.ntmps13
  have e0 := A0.b0
  have e1 := A0.b1
  go_wp2_with fail
  refine (forestLevelsI_any _ _ n N m P lo hi (HV.out.below B0 hhi) (by omega) HN.out _ K d la ha (HSV.out.below B0 hha) (by omega) hK9 r 0).mono ?_
  rintro e w1 ⟨vl, g, rfl, ol, hg, b1⟩
  have A1 := A0.below b1 (by omega)
  have B1 := B0.trans (b1.mono (by omega))
  have hs1 := b1.size
  have f2 : w.heap.size < w1.heap.size := by omega
  clear A0 B0 b1 e0 e1 hs0 hs1
  have e0 := A1.b0
  have e1 := A1.b1
  by_cases hc : fvC n N m P K d r 0 = 0
  rotate_left 1
  · obtain ⟨p9, c9, rfl⟩ := ownS_sh ol
    have hb1 : (fvC n N m P K d r 0 != 0) = true := by simpa using hc
    have HE := Lib.hid hc
    clear hc ol
    go_wp2_with fail
    go_ret3
    have H3 := Lib.hid (show rrC n N m P K d r = fvC n N m P K d r 0 by unfold rrC; rw [if_neg HE.out])
    have H4 := Lib.hid (show rrA n N m P K d r = 0 by unfold rrA; rw [H3.out, if_neg HE.out])
    have H5 := Lib.hid (show rrZ n N m P K d r = 0 by unfold rrZ; rw [H3.out, if_neg HE.out])
    exact ⟨ret_3 H4.out.symm H5.out.symm H3.out.symm, B1⟩
  obtain ⟨hB, hKm, hn1, hn24, hr0, hr1, hl0, hl1, hfn, hbd⟩ := fv_ok hc
  rw [hfn] at ol
  obtain ⟨p9, c9, rfl⟩ := ownS_sh ol
  obtain ⟨rfl, hgl, hgc, hrow⟩ := own_row ol (by omega)
  have HOL := Lib.hid ol
  have HC := Lib.hid hc
  rw [hc]
  obtain ⟨x, hx⟩ : ∃ x : Nat → Int, (fun j : Nat => lvl n P m d r 0 (j : Nat)) = x := ⟨_, rfl⟩
  have HX := Lib.hid (show xl n m P d r 0 = x from hx)
  have hbd2 : ∀ j, j < n → -600000000000000000 ≤ x j ∧ x j ≤ 600000000000000000 := fun j hj => by rw [← hx]; exact hbd j hj
  have hrow2 : ∀ k, k < n → w1.cell? ⟨g, k, none⟩ = some (.int .i64 (x k)) := fun k hk => by rw [← hx]; exact hrow k hk
  have HR := Lib.hid hrow2
  have HBD := Lib.hid hbd2
  have HND := Lib.hid (nod_bounds hB)
  rw [hx] at HOL
  clear hc ol hrow hrow2 hbd hbd2 hx hfn
  obtain ⟨bn, on, rfl, hbl, hbh, hat⟩ : ∃ b o, p0 = some ⟨b, o, none⟩ ∧ lo ≤ b ∧ b < hi ∧ At w b o n 3 (nodC N) := by
    rcases HC0.out with h0 | h0
    · omega
    · exact h0
  have HAT := Lib.hid hat
  clear hat HC0
  clear hKm
  obtain ⟨R, rfl⟩ := Int.eq_ofNat_of_zero_le hr0
  have hRn : R < n := by omega
  have hxR : x R = 0 := by
    rw [← HX.out]
    exact lvl_root _ _ _ _ _ _
  have HL0 := Lib.hid (show loF N x R = (N R).lo by unfold loF; rw [hxR]; omega)
  have HH0 := Lib.hid (show hiF N x R = (N R).hi by unfold hiF; rw [hxR]; omega)
  have HRL := Lib.hid (show rrL n N m P d (R : Nat) = mxF (loF N x) (loF N x R) n by unfold rrL; rw [HX.out]; exact mxF_swap (by omega) hRn)
  have HRH := Lib.hid (show rrH n N m P d (R : Nat) = mnF (hiF N x) (hiF N x R) n by unfold rrH; rw [HX.out]; exact mnF_swap (by omega) hRn)
  clear hxR
  have HLT := hRn
  have yn0 : w1.cell? ⟨bn, on + R * 3, none⟩ = some (.string (N R).s) := (B1.cell (p := ⟨bn, on + R * 3, none⟩) (Nat.lt_of_lt_of_le hbh hhi)).trans (HAT.out.cell R 0 HLT (by omega))
  have yn1 : w1.cell? ⟨bn, on + R * 3 + 1, none⟩ = some (.int .i64 (N R).lo) := (B1.cell (p := ⟨bn, on + R * 3 + 1, none⟩) (Nat.lt_of_lt_of_le hbh hhi)).trans (HAT.out.cell R 1 HLT (by omega))
  have yn2 : w1.cell? ⟨bn, on + R * 3 + 2, none⟩ = some (.int .i64 (N R).hi) := (B1.cell (p := ⟨bn, on + R * 3 + 2, none⟩) (Nat.lt_of_lt_of_le hbh hhi)).trans (HAT.out.cell R 2 HLT (by omega))
  have R0 : (0 : Int) ≤ (R : Int) := Int.natCast_nonneg _
  go_wp2_with fail
  refine (levelBounds_any (N R) _).mono ?_
  rintro e w2 ⟨rfl, b2⟩
  have hs2 := b2.size
  have B2 := B1.trans (b2.mono (by omega))
  have A2 := A1.below b2 (by omega)
  have HOL2 := Lib.hid (HOL.out.next b2)
  clear yn0 yn1 yn2 e0 e1 A1 B1 b2
  obtain ⟨w3, hw3⟩ : ∃ w3, w3 = w2.alloc (.cells #[.int .i64 (N R).lo, .int .i64 (N R).hi] 65) := ⟨_, rfl⟩
  have B3' := below_new w2 (.cells #[.int .i64 (N R).lo, .int .i64 (N R).hi] 65)
  have O3 := box2 w2 (N R).lo (N R).hi 65
  rw [← hw3] at B3' O3
  have hs3 : w3.heap.size = w2.heap.size + 1 := by rw [hw3]; simp
  have A3 := A2.next B3'
  have B3 := B2.trans (B3'.mono (by omega))
  have HOL3 := Lib.hid (HOL2.out.next B3')
  have hw3' := hw3.symm
  have e0 := A3.b0
  have e1 := A3.b1
  clear hw3 A2
  go_wp2_with fail
  refine (boundsOfRoot_any _ _ n N m P lo hi (HV.out.below B3 hhi) (by omega) HN.out _ x 0 w3.heap.size (owns_sl0 HOL3.out) (Nat.le_refl _) (by omega) (by omega) HND.out HBD.out).mono ?_
  rintro e w4 ⟨g9, rfl, o9, hg9, b4⟩
  have hs4 := b4.size
  have O4 := O3.next b4
  have B4 := Lib.hid (B3'.trans (b4.mono (by omega)))
  have HO9 := Lib.hid o9
  clear e0 e1 o9 b4 O3 hw3' B3' B3 A3
  go_wp2_with fail
  go_loopw [34, 13] (fun iv _ wr => ∃ k : Nat, iv = .int .i64 (k : Nat) ∧ k ≤ n ∧ Ob wr w2.heap.size 2 (bx (.int .i64 (mxF (loF N x) (loF N x R) k)) (.int .i64 (mnF (hiF N x) (hiF N x R) k))) ∧ Ob wr g9 (n * 2) (lbC N x n) ∧ w4.heap.size ≤ wr.heap.size ∧ Below w2.heap.size w2 wr) (fun iv _ _ => n - (intOf iv).toNat)
  case atStart => exact ⟨0, rfl, Nat.zero_le _, by show Ob w4 _ 2 (bx (.int .i64 (loF N x R)) (.int .i64 (hiF N x R))); rw [HL0.out, HH0.out]; exact O4, HO9.out, Nat.le_refl _, B4.out⟩
  case round =>
    obtain ⟨k, rfl, hk, oc, o9, hsz, hb⟩ := hrel
    clear O4 HO9
    have HOC := Lib.hid oc
    have HO9 := Lib.hid o9
    have HBB := Lib.hid hb
    clear oc o9 hb
    have k0 : (0 : Int) ≤ (k : Int) := Int.natCast_nonneg _
    by_cases hlt : k < n
    · have k1 : (k : Int) < (n : Int) := by omega
      have HS := Lib.hid (show mxF (loF N x) (loF N x R) (k + 1) = max (mxF (loF N x) (loF N x R) k) (loF N x k) from rfl)
      have HZ := Lib.hid (show mnF (hiF N x) (hiF N x R) (k + 1) = min (mnF (hiF N x) (hiF N x R) k) (hiF N x k) from rfl)
      obtain ⟨y0, y1⟩ := lbRow HO9.out hlt
      have l9 := HO9.out.lt
      have lc := HOC.out.lt
      generalize loF N x k = L at *
      generalize hiF N x k = H at *
      generalize mxF (loF N x) (loF N x R) k = M at *
      generalize mnF (hiF N x) (hiF N x R) k = M2 at *
      obtain ⟨wn, hwn⟩ : ∃ wn, wn = wr.alloc (.cells #[.int .i64 L, .int .i64 H] 65) := ⟨_, rfl⟩
      have BN := below_new wr (.cells #[.int .i64 L, .int .i64 H] 65)
      have RN := box2 wr L H 65
      rw [← hwn] at BN RN
      have zn : wn.heap.size = wr.heap.size + 1 := by rw [hwn]; simp
      have hwn2 := hwn.symm
      clear hwn
      have q0 := RN.b0
      have q1 := RN.b1
      have c0' := (HOC.out.next BN).b0
      have c1' := (HOC.out.next BN).b1
      clear RN
      go_wp2_with fail
      refine (commonWith_any M M2 L H _).mono ?_
      rintro e w6 ⟨rfl, b6⟩
      have hs6 := b6.size
      have O6 := (HOC.out.next BN).next b6
      have P6 := (HO9.out.next BN).next b6
      have B6 := BN.trans (b6.mono (by omega))
      have r0 := O6.b0
      have r1 := O6.b1
      have f0 := O6.free 0
      have f1 := O6.free 1
      have hO := ((Only.refl w2.heap.size w6).setCell 0 (.int .i64 (max M L))).setCell 1 (.int .i64 (min M2 H))
      have HP := Lib.hid (P6.only hO (by omega))
      have HQ2 := Lib.hid (((O6.set 0 (.int .i64 (max M L)) (by omega)).set 1 (.int .i64 (min M2 H)) (by omega)).congr (e := bx (.int .i64 (max M L)) (.int .i64 (min M2 H))) (fun q hq => by rcases (by omega : q = 0 ∨ q = 1) with rfl | rfl <;> rfl))
      have HB9 := Lib.hid ((HBB.out.trans (B6.mono (by have := HBB.out.size; omega))).trans (hO.below (Nat.le_refl _)))
      have HS9 := Lib.hid hO.size
      clear hO O6 P6 B6 b6 c0' c1' q0 q1 hwn2
      go_wp2_with fail
      go_roundw
      case rel => exact ⟨k + 1, by go_num, hlt, by rw [HS.out, HZ.out]; exact HQ2.out, HP.out, Nat.le_trans (by omega) (Nat.le_of_eq HS9.out), HB9.out⟩
      case measure => simp [intOf]; omega
    · have hkn : n = k := by omega
      subst hkn
      have k1 : ¬ ((n : Int) < (n : Int)) := by omega
      have HRL2 := HRL
      have HRH2 := HRH
      obtain ⟨L, hL⟩ : ∃ L, L = mxF (loF N x) (loF N x R) n := ⟨_, rfl⟩
      obtain ⟨H, hH⟩ : ∃ H, H = mnF (hiF N x) (hiF N x R) n := ⟨_, rfl⟩
      rw [← hL, ← hH] at HOC
      rw [← hL] at HRL2
      rw [← hH] at HRH2
      clear hL hH HRL HRH
      have y0 := HOC.out.b0
      have y1 := HOC.out.b1
      have lc := HOC.out.lt
      go_wp2_with fail
      refine (areEmpty_any L H _).mono ?_
      rintro e w6 ⟨rfl, b6⟩
      have O6 := HOC.out.next b6
      have HB6 := Lib.hid (B2.trans ((HBB.out.trans (b6.mono (by have := HBB.out.size; omega))).mono (by omega)))
      clear b6 y0 y1
      have y0 := O6.b0
      have y1 := O6.b1
      clear O6
      by_cases hlt : H < L
      · have hde : decide (H < L) = true := decide_eq_true hlt
        have H3 := Lib.hid (show rrC n N m P K d (R : Nat) = 7 by unfold rrC; rw [if_pos HC.out, if_pos (by rw [HRL2.out, HRH2.out]; exact hlt)])
        have H4 := Lib.hid (show rrA n N m P K d (R : Nat) = 0 by unfold rrA; rw [H3.out]; rfl)
        have H5 := Lib.hid (show rrZ n N m P K d (R : Nat) = 0 by unfold rrZ; rw [H3.out]; rfl)
        clear hlt
        go_wp2_with fail
        go_ret3
        exact ⟨ret_3 H4.out.symm H5.out.symm H3.out.symm, HB6.out⟩
      · have hde : decide (H < L) = false := decide_eq_false hlt
        have H3 := Lib.hid (show rrC n N m P K d (R : Nat) = 0 by unfold rrC; rw [if_pos HC.out, if_neg (by rw [HRL2.out, HRH2.out]; exact hlt)])
        have H4 := Lib.hid (show rrA n N m P K d (R : Nat) = L by unfold rrA; rw [H3.out, HRL2.out]; rfl)
        have H5 := Lib.hid (show rrZ n N m P K d (R : Nat) = H by unfold rrZ; rw [H3.out, HRH2.out]; rfl)
        clear hlt
        go_wp2_with fail
        go_quiet (fail)
        go_wp2_with fail
        go_ret3
        exact ⟨ret_3 H4.out.symm H5.out.symm H3.out.symm, below_drN1 HB6.out _⟩
set_option maxRecDepth 100000 in
set_option maxHeartbeats 8000000 in
theorem middleLevelI_any (w : World) (v : Value) (n : Nat) (N : Nat → Nod) (m : Nat) (P : Nat → Pip) (lo hi : Nat) (h : NetAt w v n N m P lo hi) (hhi : hi ≤ w.heap.size) (hN : ∀ i, i < n → (N i).s.size ≤ 9223372036854775807) (va : Value) (K : Nat) (d : Nat → Int) (la ha : Nat) (hv : Sl w va K d la ha) (hha : ha ≤ w.heap.size) (hK9 : K ≤ 9223372036854775807) (r : Int) :
    Calls Tryz.prog 22 #[v, va, .int .i64 r] w (IIPost w (mdA n N m P K d r) (rrC n N m P K d r)) := by
  obtain ⟨p0, c0, p1, c1, rfl, hn9, hm9⟩ := h.parts
  have HC0 : Hid (n = 0 ∨ ∃ b o, p0 = some ⟨b, o, none⟩ ∧ lo ≤ b ∧ b < hi ∧ At w b o n 3 (nodC N)) := by
    obtain ⟨v0, v1, he, g0, g1⟩ := h.ex
    simp only [Value.agg.injEq, Array.mk.injEq, List.cons.injEq, and_true] at he
    obtain ⟨rfl, rfl⟩ := he
    obtain ⟨p, cap, hv, _, _, hc⟩ := g0.ex
    injection hv with e1 _ e2
    subst e1
    exact Lib.hid hc
  have HV := Lib.hid h
  have HN := Lib.hid hN
  obtain ⟨pa, ca, rfl⟩ := hv.sh
  have HSV := Lib.hid hv
  have A0 := boxed w (.slice p0 n c0) (.slice p1 m c1) 33
  have B0 := below_new w (.cells #[.slice p0 n c0, .slice p1 m c1] 33)
  have hs0 : (w.alloc (.cells #[.slice p0 n c0, .slice p1 m c1] 33)).heap.size = w.heap.size + 1 := by simp
  clear h hN hv
  go_enter Tryz.func22, Tryz.ntmps22
  have e0 := A0.b0
  have e1 := A0.b1
  go_wp2_with fail
  refine (rootRangeI_any _ _ n N m P lo hi (HV.out.below B0 hhi) (by omega) HN.out _ K d la ha (HSV.out.below B0 hha) (by omega) hK9 r).mono ?_
  rintro e w1 ⟨rfl, b1⟩
  have HB1 := Lib.hid (B0.trans (b1.mono (by omega)))
  clear A0 B0 b1 e0 e1 hs0 HC0
  by_cases hc : rrC n N m P K d r = 0
  · have hcb : (rrC n N m P K d r != 0) = false := by simp [hc]
    obtain ⟨q1, q2, q3⟩ := rr_bnd hc
    have H1 := Lib.hid (show rrA n N m P K d r = rrL n N m P d r by unfold rrA; rw [if_pos hc])
    have H2 := Lib.hid (show rrZ n N m P K d r = rrH n N m P d r by unfold rrZ; rw [if_pos hc])
    have H3 := Lib.hid (show mdA n N m P K d r = (rrL n N m P d r + rrH n N m P d r) / 2 by unfold mdA; rw [if_pos hc])
    have HC := Lib.hid hc
    rw [H1.out, H2.out, hc]
    clear hc hcb
    generalize rrL n N m P d r = L at *
    generalize rrH n N m P d r = H at *
    have wa : IntKind.i64.wrap (L + H) = L + H := IntWalk.i64_in _ (by omega)
    go_wp2_with fail
    refine (num.floorQuotient_any (L + H) 2 _ (by omega) (by omega) (by omega) (by omega) (by omega)).mono ?_
    rintro e w' ⟨rfl, rfl⟩
    go_wp2_with fail
    go_ret2
    exact ⟨ret_2 H3.out.symm HC.out.symm, HB1.out⟩
  · have hcb : (rrC n N m P K d r != 0) = true := by simp [hc]
    have H3 := Lib.hid (show mdA n N m P K d r = 0 by unfold mdA; rw [if_neg hc])
    clear hc
    go_wp2_with fail
    go_ret2
    exact ⟨ret_2 H3.out.symm rfl, HB1.out⟩
end Go.Proofs.YtebbnhnggjmbiaaGreat.mem

namespace Go.Proofs.YtebbnhnggjmbiaaGreat.mem
open Go.RowKit
set_option linter.unusedVariables false

set_option maxRecDepth 100000 in
set_option maxHeartbeats 8000000 in
theorem blockingPairI_any (w : World) (v : Value) (n : Nat) (N : Nat → Nod) (m : Nat) (P : Nat → Pip) (lo hi : Nat) (h : NetAt w v n N m P lo hi) (hhi : hi ≤ w.heap.size) (hN : ∀ i, i < n → (N i).s.size ≤ 9223372036854775807) (va : Value) (K : Nat) (d : Nat → Int) (la ha : Nat) (hv : Sl w va K d la ha) (hha : ha ≤ w.heap.size) (hK9 : K ≤ 9223372036854775807) :
    Calls Tryz.prog 25 #[v, va] w (IIIPost w (bpA n N m P K d) (bpB n N m P K d) (bpC n N m P K d)) := by
  obtain ⟨p0, c0, p1, c1, rfl, hn9, hm9⟩ := h.parts
  have HC0 : Hid (n = 0 ∨ ∃ b o, p0 = some ⟨b, o, none⟩ ∧ lo ≤ b ∧ b < hi ∧ At w b o n 3 (nodC N)) := by
    obtain ⟨v0, v1, he, g0, g1⟩ := h.ex
    simp only [Value.agg.injEq, Array.mk.injEq, List.cons.injEq, and_true] at he
    obtain ⟨rfl, rfl⟩ := he
    obtain ⟨p, cap, hv, _, _, hc⟩ := g0.ex
    injection hv with e1 _ e2
    subst e1
    exact Lib.hid hc
  have HV := Lib.hid h
  have HN := Lib.hid hN
  obtain ⟨pa, ca, rfl⟩ := hv.sh
  have HSV := Lib.hid hv
  have A0 := boxed w (.slice p0 n c0) (.slice p1 m c1) 33
  have B0 := below_new w (.cells #[.slice p0 n c0, .slice p1 m c1] 33)
  have hs0 : (w.alloc (.cells #[.slice p0 n c0, .slice p1 m c1] 33)).heap.size = w.heap.size + 1 := by simp
  clear h hN hv
  go_enter Tryz.func25, Tryz.ntmps25
  have e0 := A0.b0
  have e1 := A0.b1
  go_wp2_with fail
  refine (forestLevelsI_any _ _ n N m P lo hi (HV.out.below B0 hhi) (by omega) HN.out _ K d la ha (HSV.out.below B0 hha) (by omega) hK9 0 0).mono ?_
  rintro e w1 ⟨vl, g, rfl, ol, hg, b1⟩
  have A1 := A0.below b1 (by omega)
  have B1 := B0.trans (b1.mono (by omega))
  have hs1 := b1.size
  have f2 : w.heap.size < w1.heap.size := by omega
  clear A0 B0 b1 e0 e1 hs0 hs1
  have e0 := A1.b0
  have e1 := A1.b1
  by_cases hc : fvC n N m P K d 0 0 = 0
  rotate_left 1
  · obtain ⟨p9, c9, rfl⟩ := ownS_sh ol
    have hb1 : (fvC n N m P K d 0 0 != 0) = true := by simpa using hc
    have HE := Lib.hid hc
    clear hc ol
    go_wp2_with fail
    go_ret3
    have H3 := Lib.hid (show bpC n N m P K d = fvC n N m P K d 0 0 by unfold bpC; rw [if_neg HE.out])
    have H4 := Lib.hid (show bpA n N m P K d = 0 by unfold bpA; rw [H3.out, if_neg HE.out])
    have H5 := Lib.hid (show bpB n N m P K d = 0 by unfold bpB; rw [H3.out, if_neg HE.out])
    exact ⟨ret_3 H4.out.symm H5.out.symm H3.out.symm, B1⟩
  obtain ⟨hB, hKm, hn1, hn24, hr0, hr1, hl0, hl1, hfn, hbd⟩ := fv_ok hc
  rw [hfn] at ol
  obtain ⟨p9, c9, rfl⟩ := ownS_sh ol
  obtain ⟨rfl, hgl, hgc, hrow⟩ := own_row ol (by omega)
  have HOL := Lib.hid ol
  have HC := Lib.hid hc
  rw [hc]
  obtain ⟨x, hx⟩ : ∃ x : Nat → Int, (fun j : Nat => lvl n P m d 0 0 (j : Nat)) = x := ⟨_, rfl⟩
  have HX := Lib.hid (show xl n m P d 0 0 = x from hx)
  have hbd2 : ∀ j, j < n → -600000000000000000 ≤ x j ∧ x j ≤ 600000000000000000 := fun j hj => by rw [← hx]; exact hbd j hj
  have hrow2 : ∀ k, k < n → w1.cell? ⟨g, k, none⟩ = some (.int .i64 (x k)) := fun k hk => by rw [← hx]; exact hrow k hk
  have HR := Lib.hid hrow2
  have HBD := Lib.hid hbd2
  have HND := Lib.hid (nod_bounds hB)
  rw [hx] at HOL
  clear hc ol hrow hrow2 hbd hbd2 hx hfn
  obtain ⟨bn, on, rfl, hbl, hbh, hat⟩ : ∃ b o, p0 = some ⟨b, o, none⟩ ∧ lo ≤ b ∧ b < hi ∧ At w b o n 3 (nodC N) := by
    rcases HC0.out with h0 | h0
    · omega
    · exact h0
  have HAT := Lib.hid hat
  clear hat HC0
  clear hKm
  go_wp2_with fail
  refine (boundsOfRoot_any _ _ n N m P lo hi (HV.out.below B1 hhi) (by omega) HN.out _ x 0 w1.heap.size (owns_sl0 HOL.out) (Nat.le_refl _) (by omega) (by omega) HND.out HBD.out).mono ?_
  rintro e w4 ⟨g9, rfl, o9, hg9, b4⟩
  have hs4 := b4.size
  have B4 := B1.trans (b4.mono (by omega))
  have HO9 := Lib.hid o9
  clear o9 b4
  go_wp2_with fail
  go_loopw [26, 10, 11] (fun iv _ _ wr => ∃ a : Nat, iv = .int .i64 (a : Nat) ∧ a ≤ n ∧ (∀ i, i < a → bdR n N x i = n) ∧ w4.heap.size ≤ wr.heap.size ∧ Below w4.heap.size w4 wr) (fun iv _ _ _ => n - (intOf iv).toNat)
  case atStart => exact ⟨0, rfl, Nat.zero_le _, fun i hi => absurd hi (Nat.not_lt_zero _), Nat.le_refl _, Below.refl _ _⟩
  case round =>
    obtain ⟨a, rfl, ha, hall, hsz, hb⟩ := hrel
    have HA := Lib.hid hall
    have HB1 := Lib.hid hb
    clear hall hb
    have a0 : (0 : Int) ≤ (a : Int) := Int.natCast_nonneg _
    by_cases hlt : a < n
    · have a1 : (a : Int) < (n : Int) := by omega
      go_wp2_with fail
      go_loopw [31, 11] (fun iv _ wr => ∃ b : Nat, iv = .int .i64 (b : Nat) ∧ b ≤ n ∧ (∀ j, j < b → bdB N x a j = false) ∧ w4.heap.size ≤ wr.heap.size ∧ Below w4.heap.size w4 wr) (fun iv _ _ => n - (intOf iv).toNat)
      case atStart => exact ⟨0, rfl, Nat.zero_le _, fun i hi => absurd hi (Nat.not_lt_zero _), hsz, HB1.out⟩
      case round =>
        obtain ⟨b, rfl, hbn, hno, hsz2, hb2⟩ := hrel
        have HNO := Lib.hid hno
        have HBB := Lib.hid hb2
        clear hno hb2 HB1
        have b0 : (0 : Int) ≤ (b : Int) := Int.natCast_nonneg _
        by_cases hlt2 : b < n
        · have b1 : (b : Int) < (n : Int) := by omega
          obtain ⟨ya, _⟩ := lbRow (HO9.out.next HBB.out) hlt
          obtain ⟨_, yb⟩ := lbRow (HO9.out.next HBB.out) hlt2
          cases hp : bdB N x a b
          all_goals
            have HP := Lib.hid hp
            have hde : decide (hiF N x b < loF N x a) = _ := hp
            clear hp
            go_wp2_with fail
            go_quiet (fail)
            go_wp2_with fail
          · go_roundw
            case rel => exact ⟨b + 1, by go_num, hlt2, fun j hj => by
              rcases (by omega : j < b ∨ j = b) with h1 | h1
              · exact HNO.out j h1
              · rw [h1]; exact HP.out, hsz2, below_drN1 HBB.out _⟩
            case measure => simp [intOf]; omega
          · have hR := fi_hit HNO.out HP.out n hlt2
            have hA := fi_hit (p := fun i => decide (bdR n N x i < n)) (k := a) (fun j hj => by rw [HA.out j hj]; simp) (by show decide (bdR n N x a < n) = true; unfold bdR; rw [hR]; simpa using hlt2) n hlt
            have HAA := Lib.hid (show bdA n N x = a from hA)
            have HRR := Lib.hid (show bdR n N x a = b from hR)
            have H3 := Lib.hid (show bpC n N m P K d = 0 by unfold bpC; rw [if_pos HC.out, HX.out, HAA.out, if_pos hlt])
            have H4 := Lib.hid (show bpA n N m P K d = (a : Nat) by unfold bpA; rw [H3.out, HX.out, HAA.out]; rfl)
            have H5 := Lib.hid (show bpB n N m P K d = (b : Nat) by unfold bpB; rw [H3.out, HX.out, HAA.out, HRR.out]; rfl)
            clear hR hA
            have HW := Lib.hid (B4.trans (HBB.out.mono (by omega)))
            go_ret3
            exact ⟨ret_3 H4.out.symm H5.out.symm H3.out.symm, below_drN1 HW.out _⟩
        · have hbn2 : n = b := by omega
          subst hbn2
          have b1 : ¬ ((n : Int) < (n : Int)) := by omega
          go_wp2_with fail
          go_roundw
          case rel => exact ⟨a + 1, by go_num, hlt, fun i hi => by
            rcases (by omega : i < a ∨ i = a) with h1 | h1
            · exact HA.out i h1
            · rw [h1]; exact fi_no HNO.out, hsz2, HBB.out⟩
          case measure => simp [intOf]; omega
    · have han : n = a := by omega
      subst han
      have a1 : ¬ ((n : Int) < (n : Int)) := by omega
      have H0 := Lib.hid (show bdA n N x = n from fi_no (fun i hi => by rw [HA.out i hi]; simp))
      have H3 := Lib.hid (show bpC n N m P K d = 4 by unfold bpC; rw [if_pos HC.out, HX.out, H0.out, if_neg (Nat.lt_irrefl _)])
      have H4 := Lib.hid (show bpA n N m P K d = 0 by unfold bpA; rw [H3.out]; rfl)
      have H5 := Lib.hid (show bpB n N m P K d = 0 by unfold bpB; rw [H3.out]; rfl)
      go_wp2_with fail
      go_ret3
      exact ⟨ret_3 H4.out.symm H5.out.symm H3.out.symm, B4.trans (HB1.out.mono (by omega))⟩
end Go.Proofs.YtebbnhnggjmbiaaGreat.mem

namespace Go.Proofs.YtebbnhnggjmbiaaGreat.mem
open Go.RowKit
set_option linter.unusedVariables false

set_option maxRecDepth 100000 in
set_option maxHeartbeats 8000000 in
theorem isWithinI_any (w : World) (v : Value) (n : Nat) (N : Nat → Nod) (m : Nat) (P : Nat → Pip) (lo hi : Nat) (h : NetAt w v n N m P lo hi) (hhi : hi ≤ w.heap.size) (hN : ∀ i, i < n → (N i).s.size ≤ 9223372036854775807) (va : Value) (K : Nat) (d : Nat → Int) (la ha : Nat) (hv : Sl w va K d la ha) (hha : ha ≤ w.heap.size) (hK9 : K ≤ 9223372036854775807) :
    Calls Tryz.prog 27 #[v, va] w (BPost w (iwB n N m P K d)) := by
  obtain ⟨p0, c0, p1, c1, rfl, hn9, hm9⟩ := h.parts
  have HC0 : Hid (n = 0 ∨ ∃ b o, p0 = some ⟨b, o, none⟩ ∧ lo ≤ b ∧ b < hi ∧ At w b o n 3 (nodC N)) := by
    obtain ⟨v0, v1, he, g0, g1⟩ := h.ex
    simp only [Value.agg.injEq, Array.mk.injEq, List.cons.injEq, and_true] at he
    obtain ⟨rfl, rfl⟩ := he
    obtain ⟨p, cap, hv, _, _, hc⟩ := g0.ex
    injection hv with e1 _ e2
    subst e1
    exact Lib.hid hc
  have HV := Lib.hid h
  have HN := Lib.hid hN
  obtain ⟨pa, ca, rfl⟩ := hv.sh
  have HSV := Lib.hid hv
  have A0 := boxed w (.slice p0 n c0) (.slice p1 m c1) 33
  have B0 := below_new w (.cells #[.slice p0 n c0, .slice p1 m c1] 33)
  have hs0 : (w.alloc (.cells #[.slice p0 n c0, .slice p1 m c1] 33)).heap.size = w.heap.size + 1 := by simp
  clear h hN hv
  go_enter Tryz.func27, Tryz.ntmps27
  have e0 := A0.b0
  have e1 := A0.b1
  go_wp2_with fail
  refine (isNetwork_any _ _ n N m P lo hi (HV.out.below B0 hhi) (by omega) HN.out).mono ?_
  rintro e w1 ⟨rfl, b1⟩
  have A1 := A0.below b1 (by omega)
  have B1 := B0.trans (b1.mono (by omega))
  have hs1 := b1.size
  have f2 : w.heap.size < w1.heap.size := by omega
  clear A0 B0 b1 e0 e1 hs0 hs1 HC0
  have e0 := A1.b0
  have e1 := A1.b1
  cases hB : netB n N m P
  · have H := Lib.hid (show iwB n N m P K d = false by unfold iwB; rw [hB]; rfl)
    clear hB
    go_wp2_with fail
    go_ret
    exact ⟨by rw [H.out]; rfl, B1⟩
  obtain ⟨hn1, hn24, hm40⟩ := net_sz hB
  have HB := Lib.hid hB
  by_cases hK : K = n
  rotate_left 1
  · have hne : ((K : Int) != (n : Int)) = true := by simp; omega
    have H := Lib.hid (show iwB n N m P K d = false by unfold iwB; rw [hB, decide_eq_false hK]; rfl)
    clear hK hB
    go_wp2_with fail
    go_ret
    exact ⟨by rw [H.out]; rfl, B1⟩
  have hnK : n = K := hK.symm
  clear hK
  subst hnK
  have hne : ((n : Int) != (n : Int)) = false := by simp
  have H := Lib.hid (show iwB n N m P n d = decide ((fl (inB N d) n).length = n) by unfold iwB; rw [hB, decide_eq_true rfl]; rfl)
  clear hB
  go_wp2_with fail
  have K0 : Below w1.heap.size w1 w1.drew := ⟨rfl, rfl, rfl, Nat.le_refl _, fun _ _ => rfl⟩
  have BD := B1.trans (K0.mono (by omega))
  have HK : ∀ X : World, Below w1.heap.size w1 X → X.cell? ⟨w.heap.size, 0, none⟩ = some (.slice p0 n c0) ∧ X.cell? ⟨w.heap.size, 1, none⟩ = some (.slice p1 m c1) := fun X h => ⟨(A1.next h).b0, (A1.next h).b1⟩
  go_region_held3 (fun X : World => X.cell? ⟨w.heap.size, 0, none⟩ = some (.slice p0 n c0) ∧ X.cell? ⟨w.heap.size, 1, none⟩ = some (.slice p1 m c1)) (first | exact HK _ K0 | exact HK _ KX)
    (first | (go_at_call 48; refine (passIn_any _ _ n N m P lo hi (HV.out.below BD hhi) (by show hi ≤ w1.heap.size; omega) HN.out _ d la ha (HSV.out.below BD hha) (by show ha ≤ w1.heap.size; omega) (by omega) (by omega)).mono ?_; rintro e wC ⟨v2, g2, rfl, o2, hg2, b2⟩; obtain ⟨c2, rfl⟩ := o2.shape; have KX : Below w1.heap.size w1 wC := K0.trans (b2.mono K0.size); clear b2 o2))
  have HX := Lib.hid (B1.trans (KX.mono (by omega)))
  have hq : (((fl (inB N d) n).length : Int) == (n : Int)) = decide ((fl (inB N d) n).length = n) := by
    rw [Bool.eq_iff_iff, beq_iff_eq, decide_eq_true_eq]
    omega
  clear KX HK K0 BD
  go_wp2_with fail
  go_ret
  exact ⟨by rw [H.out, ← hq]; rfl, HX.out⟩
end Go.Proofs.YtebbnhnggjmbiaaGreat.mem

namespace Go.Proofs.YtebbnhnggjmbiaaGreat.mem
open Go.RowKit
set_option linter.unusedVariables false

set_option maxRecDepth 100000 in
set_option maxHeartbeats 8000000 in
theorem missedByS_any (w : World) (v : Value) (n : Nat) (N : Nat → Nod) (m : Nat) (P : Nat → Pip) (lo hi : Nat) (h : NetAt w v n N m P lo hi) (hhi : hi ≤ w.heap.size) (hN : ∀ i, i < n → (N i).s.size ≤ 9223372036854775807) (va : Value) (K : Nat) (d : Nat → Int) (la ha : Nat) (hv : Sl w va K d la ha) (hha : ha ≤ w.heap.size) (hK9 : K ≤ 9223372036854775807) (r l : Int) :
    Calls Tryz.prog 30 #[v, va, .int .i64 r, .int .i64 l] w (IIPost w (msA n N m P K d r l) (fvC n N m P K d r l)) := by
  obtain ⟨p0, c0, p1, c1, rfl, hn9, hm9⟩ := h.parts
  have HC0 : Hid (n = 0 ∨ ∃ b o, p0 = some ⟨b, o, none⟩ ∧ lo ≤ b ∧ b < hi ∧ At w b o n 3 (nodC N)) := by
    obtain ⟨v0, v1, he, g0, g1⟩ := h.ex
    simp only [Value.agg.injEq, Array.mk.injEq, List.cons.injEq, and_true] at he
    obtain ⟨rfl, rfl⟩ := he
    obtain ⟨p, cap, hv, _, _, hc⟩ := g0.ex
    injection hv with e1 _ e2
    subst e1
    exact Lib.hid hc
  have HV := Lib.hid h
  have HN := Lib.hid hN
  obtain ⟨pa, ca, rfl⟩ := hv.sh
  have HSV := Lib.hid hv
  have A0 := boxed w (.slice p0 n c0) (.slice p1 m c1) 33
  have B0 := below_new w (.cells #[.slice p0 n c0, .slice p1 m c1] 33)
  have hs0 : (w.alloc (.cells #[.slice p0 n c0, .slice p1 m c1] 33)).heap.size = w.heap.size + 1 := by simp
  clear h hN hv
  go_enter Tryz.func30, Tryz.ntmps30
  have e0 := A0.b0
  have e1 := A0.b1
  go_wp2_with fail
  refine (forestLevelsS_any _ _ n N m P lo hi (HV.out.below B0 hhi) (by omega) HN.out _ K d la ha (HSV.out.below B0 hha) (by omega) hK9 r l).mono ?_
  rintro e w1 ⟨vl, g, rfl, ol, hg, b1⟩
  have A1 := A0.below b1 (by omega)
  have B1 := B0.trans (b1.mono (by omega))
  have hs1 := b1.size
  have f2 : w.heap.size < w1.heap.size := by omega
  clear A0 B0 b1 e0 e1 hs0 hs1
  have e0 := A1.b0
  have e1 := A1.b1
  by_cases hc : fvC n N m P K d r l = 0
  rotate_left 1
  · obtain ⟨p9, c9, rfl⟩ := ownS_sh ol
    have hb1 : (fvC n N m P K d r l != 0) = true := by simpa using hc
    have HE := Lib.hid hc
    clear hc ol
    go_wp2_with fail
    go_ret2
    have H3 := Lib.hid (show msA n N m P K d r l = 0 by unfold msA; rw [if_neg HE.out])
    exact ⟨ret_2 H3.out.symm rfl, B1⟩
  obtain ⟨hB, hKm, hn1, hn24, hr0, hr1, hl0, hl1, hfn, hbd⟩ := fv_ok hc
  rw [hfn] at ol
  obtain ⟨p9, c9, rfl⟩ := ownS_sh ol
  obtain ⟨rfl, hgl, hgc, hrow⟩ := own_row ol (by omega)
  have HOL := Lib.hid ol
  have HC := Lib.hid hc
  rw [hc]
  obtain ⟨x, hx⟩ : ∃ x : Nat → Int, (fun j : Nat => lvl n P m d r l (j : Nat)) = x := ⟨_, rfl⟩
  have HX := Lib.hid (show xl n m P d r l = x from hx)
  have hbd2 : ∀ j, j < n → -600000000000000000 ≤ x j ∧ x j ≤ 600000000000000000 := fun j hj => by rw [← hx]; exact hbd j hj
  have hrow2 : ∀ k, k < n → w1.cell? ⟨g, k, none⟩ = some (.int .i64 (x k)) := fun k hk => by rw [← hx]; exact hrow k hk
  have HR := Lib.hid hrow2
  have HBD := Lib.hid hbd2
  have HND := Lib.hid (nod_bounds hB)
  rw [hx] at HOL
  clear hc ol hrow hrow2 hbd hbd2 hx hfn
  obtain ⟨bn, on, rfl, hbl, hbh, hat⟩ : ∃ b o, p0 = some ⟨b, o, none⟩ ∧ lo ≤ b ∧ b < hi ∧ At w b o n 3 (nodC N) := by
    rcases HC0.out with h0 | h0
    · omega
    · exact h0
  have HAT := Lib.hid hat
  clear hat HC0
  clear hKm
  have H3 := Lib.hid (show msA n N m P K d r l = mxF (miF N x) 0 n by unfold msA; rw [if_pos HC.out, HX.out])
  go_wp2_with fail
  go_loopw [12, 13] (fun mv iv wr => ∃ k : Nat, iv = .int .i64 (k : Nat) ∧ mv = .int .i64 (mxF (miF N x) 0 k) ∧ k ≤ n ∧ w1.heap.size ≤ wr.heap.size ∧ Below w1.heap.size w1 wr) (fun _ iv _ => n - (intOf iv).toNat)
  case atStart => exact ⟨0, rfl, rfl, Nat.zero_le _, Nat.le_refl _, Below.refl _ _⟩
  case round =>
    obtain ⟨k, rfl, rfl, hk, hsz, hb⟩ := hrel
    have HBB := Lib.hid hb
    clear hb
    have k0 : (0 : Int) ≤ (k : Int) := Int.natCast_nonneg _
    by_cases hlt : k < n
    · have k1 : (k : Int) < (n : Int) := by omega
      have HLT := hlt
      have BW := Lib.hid (B1.trans (HBB.out.mono (by omega)))
      have f0 : wr.cell? ⟨w.heap.size, 0, none⟩ = some (.slice (some ⟨bn, on, none⟩) n c0) := (HBB.out.cell (p := ⟨w.heap.size, 0, none⟩) f2).trans e0
      have yn1 : wr.cell? ⟨bn, on + k * 3 + 1, none⟩ = some (.int .i64 (N k).lo) := (BW.out.cell (p := ⟨bn, on + k * 3 + 1, none⟩) (Nat.lt_of_lt_of_le hbh hhi)).trans (HAT.out.cell k 1 HLT (by omega))
      have yn2 : wr.cell? ⟨bn, on + k * 3 + 2, none⟩ = some (.int .i64 (N k).hi) := (BW.out.cell (p := ⟨bn, on + k * 3 + 2, none⟩) (Nat.lt_of_lt_of_le hbh hhi)).trans (HAT.out.cell k 2 HLT (by omega))
      have yl : wr.cell? ⟨g, k, none⟩ = some (.int .i64 (x k)) := (HBB.out.cell (p := ⟨g, k, none⟩) hgl).trans (HR.out k hlt)
      obtain ⟨b0, b1, b2, b3⟩ := HND.out k hlt
      obtain ⟨x0, x1⟩ := HBD.out k hlt
      have HS := Lib.hid (show mxF (miF N x) 0 (k + 1) = max (mxF (miF N x) 0 k) (max ((N k).lo - x k) (x k - (N k).hi)) by rfl)
      have wa : IntKind.i64.wrap ((N k).lo - x k) = (N k).lo - x k := IntWalk.i64_in _ (by omega)
      have wb : IntKind.i64.wrap (x k - (N k).hi) = x k - (N k).hi := IntWalk.i64_in _ (by omega)
      generalize (N k).lo = lo' at *
      generalize (N k).hi = hi' at *
      generalize x k = xk at *
      generalize mxF (miF N x) 0 k = M at *
      clear x0 x1 b0 b1 b2 b3
      go_wp2_with fail
      go_quiet (fail)
      go_wp2_with fail
      go_roundw
      case rel => exact ⟨k + 1, by go_num, by rw [HS.out], hlt, hsz, below_drN1 HBB.out _⟩
      case measure => simp [intOf]; omega
    · have hkn : n = k := by omega
      subst hkn
      have k1 : ¬ ((n : Int) < (n : Int)) := by omega
      have HM := H3
      go_wp2_with fail
      go_ret2
      exact ⟨ret_2 HM.out.symm HC.out.symm, B1.trans (HBB.out.mono (by omega))⟩
end Go.Proofs.YtebbnhnggjmbiaaGreat.mem

namespace Go.Proofs.YtebbnhnggjmbiaaGreat.mem
open Go.RowKit
set_option linter.unusedVariables false

set_option maxRecDepth 100000 in
set_option maxHeartbeats 8000000 in
theorem tightNodesS_any (w : World) (v : Value) (n : Nat) (N : Nat → Nod) (m : Nat) (P : Nat → Pip) (lo hi : Nat) (h : NetAt w v n N m P lo hi) (hhi : hi ≤ w.heap.size) (hN : ∀ i, i < n → (N i).s.size ≤ 9223372036854775807) (va : Value) (K : Nat) (d : Nat → Int) (la ha : Nat) (hv : Sl w va K d la ha) (hha : ha ≤ w.heap.size) (hK9 : K ≤ 9223372036854775807) (r l : Int) :
    Calls Tryz.prog 16 #[v, va, .int .i64 r, .int .i64 l] w (LIPost w (tnN n N m P K d r l) (tnD n N m P d r l) (fvC n N m P K d r l)) := by
  obtain ⟨p0, c0, p1, c1, rfl, hn9, hm9⟩ := h.parts
  have HC0 : Hid (n = 0 ∨ ∃ b o, p0 = some ⟨b, o, none⟩ ∧ lo ≤ b ∧ b < hi ∧ At w b o n 3 (nodC N)) := by
    obtain ⟨v0, v1, he, g0, g1⟩ := h.ex
    simp only [Value.agg.injEq, Array.mk.injEq, List.cons.injEq, and_true] at he
    obtain ⟨rfl, rfl⟩ := he
    obtain ⟨p, cap, hv, _, _, hc⟩ := g0.ex
    injection hv with e1 _ e2
    subst e1
    exact Lib.hid hc
  have HV := Lib.hid h
  have HN := Lib.hid hN
  obtain ⟨pa, ca, rfl⟩ := hv.sh
  have HSV := Lib.hid hv
  have A0 := boxed w (.slice p0 n c0) (.slice p1 m c1) 33
  have B0 := below_new w (.cells #[.slice p0 n c0, .slice p1 m c1] 33)
  have hs0 : (w.alloc (.cells #[.slice p0 n c0, .slice p1 m c1] 33)).heap.size = w.heap.size + 1 := by simp
  clear h hN hv
  go_enter Tryz.func16, Tryz.ntmps16
  have e0 := A0.b0
  have e1 := A0.b1
  go_wp2_with fail
  refine (forestLevelsS_any _ _ n N m P lo hi (HV.out.below B0 hhi) (by omega) HN.out _ K d la ha (HSV.out.below B0 hha) (by omega) hK9 r l).mono ?_
  rintro e w1 ⟨vl, g, rfl, ol, hg, b1⟩
  have A1 := A0.below b1 (by omega)
  have B1 := B0.trans (b1.mono (by omega))
  have hs1 := b1.size
  have f2 : w.heap.size < w1.heap.size := by omega
  clear A0 B0 b1 e0 e1 hs0 hs1
  have e0 := A1.b0
  have e1 := A1.b1
  by_cases hc : fvC n N m P K d r l = 0
  rotate_left 1
  · obtain ⟨p9, c9, rfl⟩ := ownS_sh ol
    have hb1 : (fvC n N m P K d r l != 0) = true := by simpa using hc
    have HE := Lib.hid hc
    clear hc ol
    go_wp2_with fail
    go_ret2
    have H3 := Lib.hid (show tnN n N m P K d r l = 0 by unfold tnN; rw [if_neg HE.out])
    exact li_err H3.out rfl rfl B1
  obtain ⟨hB, hKm, hn1, hn24, hr0, hr1, hl0, hl1, hfn, hbd⟩ := fv_ok hc
  rw [hfn] at ol
  obtain ⟨p9, c9, rfl⟩ := ownS_sh ol
  obtain ⟨rfl, hgl, hgc, hrow⟩ := own_row ol (by omega)
  have HOL := Lib.hid ol
  have HC := Lib.hid hc
  rw [hc]
  obtain ⟨x, hx⟩ : ∃ x : Nat → Int, (fun j : Nat => lvl n P m d r l (j : Nat)) = x := ⟨_, rfl⟩
  have HX := Lib.hid (show xl n m P d r l = x from hx)
  have hbd2 : ∀ j, j < n → -600000000000000000 ≤ x j ∧ x j ≤ 600000000000000000 := fun j hj => by rw [← hx]; exact hbd j hj
  have hrow2 : ∀ k, k < n → w1.cell? ⟨g, k, none⟩ = some (.int .i64 (x k)) := fun k hk => by rw [← hx]; exact hrow k hk
  have HR := Lib.hid hrow2
  have HBD := Lib.hid hbd2
  have HND := Lib.hid (nod_bounds hB)
  rw [hx] at HOL
  clear hc ol hrow hrow2 hbd hbd2 hx hfn
  obtain ⟨bn, on, rfl, hbl, hbh, hat⟩ : ∃ b o, p0 = some ⟨b, o, none⟩ ∧ lo ≤ b ∧ b < hi ∧ At w b o n 3 (nodC N) := by
    rcases HC0.out with h0 | h0
    · omega
    · exact h0
  have HAT := Lib.hid hat
  clear hat HC0
  clear hKm
  have H3 := Lib.hid (show tnN n N m P K d r l = (fl (tiB N x) n).length by unfold tnN; rw [if_pos HC.out, HX.out])
  have H5 := Lib.hid (show tnD n N m P d r l = fd (tiB N x) n by unfold tnD; rw [HX.out])
  have F0 := Own.nilled w1 (fd (tiB N x) 0)
  have N0 := below_new w1 (.cells #[] 2)
  have hs2 : (w1.alloc (.cells #[] 2)).heap.size = w1.heap.size + 1 := by simp
  go_wp2_with fail
  generalize hW : (w1.alloc (Obj.cells #[] 2)) = W2 at *
  clear hW
  go_loopw [12, 13] (fun ov iv wr => ∃ (k go : Nat) (ov' : Value), iv = .int .i64 (k : Nat) ∧ ov' = ov ∧ k ≤ n ∧ Own wr ov' (fl (tiB N x) k).length (fd (tiB N x) k) go ∧ w1.heap.size ≤ go ∧ w1.heap.size ≤ wr.heap.size ∧ Below w1.heap.size w1 wr) (fun _ iv _ => n - (intOf iv).toNat)
  case atStart => exact ⟨0, w1.heap.size, _, rfl, rfl, Nat.zero_le _, F0, Nat.le_refl _, by omega, N0⟩
  case round =>
    obtain ⟨k, go, ov, rfl, rfl, hk, ho, hgo, hsz, hb⟩ := hrel
    obtain ⟨co, rfl⟩ := ho.shape
    have HO := Lib.hid ho
    have hgol := ho.lt
    clear ho F0 N0
    have HBB := Lib.hid hb
    clear hb
    have k0 : (0 : Int) ≤ (k : Int) := Int.natCast_nonneg _
    by_cases hlt : k < n
    · have k1 : (k : Int) < (n : Int) := by omega
      have HLT := hlt
      have BW := Lib.hid (B1.trans (HBB.out.mono (by omega)))
      have f0 : wr.cell? ⟨w.heap.size, 0, none⟩ = some (.slice (some ⟨bn, on, none⟩) n c0) := (HBB.out.cell (p := ⟨w.heap.size, 0, none⟩) f2).trans e0
      have yn1 : wr.cell? ⟨bn, on + k * 3 + 1, none⟩ = some (.int .i64 (N k).lo) := (BW.out.cell (p := ⟨bn, on + k * 3 + 1, none⟩) (Nat.lt_of_lt_of_le hbh hhi)).trans (HAT.out.cell k 1 HLT (by omega))
      have yn2 : wr.cell? ⟨bn, on + k * 3 + 2, none⟩ = some (.int .i64 (N k).hi) := (BW.out.cell (p := ⟨bn, on + k * 3 + 2, none⟩) (Nat.lt_of_lt_of_le hbh hhi)).trans (HAT.out.cell k 2 HLT (by omega))
      have yl : wr.cell? ⟨g, k, none⟩ = some (.int .i64 (x k)) := (HBB.out.cell (p := ⟨g, k, none⟩) hgl).trans (HR.out k hlt)
      obtain ⟨a, ha⟩ : ∃ a, a = (x k == (N k).lo) := ⟨_, rfl⟩
      obtain ⟨b, hb⟩ : ∃ b, b = (x k == (N k).hi) := ⟨_, rfl⟩
      have HT := Lib.hid (show tiB N x k = (a || b) by rw [ha, hb]; rfl)
      have ha2 := ha.symm
      have hb2 := hb.symm
      clear ha hb
      generalize (N k).lo = lo' at *
      generalize (N k).hi = hi' at *
      generalize x k = xk at *
      cases a
      · cases b
        · have HP := Lib.hid (show tiB N x k = false from HT.out)
          go_wp2_with fail
          go_quiet (fail)
          go_wp2_with fail
          go_roundw
          case rel => exact ⟨k + 1, go, _, by go_num, rfl, hlt, fl_keep HP.out (HO.out.keep rfl), hgo, hsz, below_drN1 HBB.out _⟩
          case measure => simp [intOf]; omega
        · have HP := Lib.hid (show tiB N x k = true from HT.out)
          go_wp2_with fail
          go_quiet (fail)
          obtain ⟨v5, w5, g5, hr, ap⟩ := coll_run (wr.drewN nq) _ (tiB N x) k go (HO.out.keep rfl) (by omega)
          have Y := Lib.hid (coll_below ap hgo (show go < wr.heap.size from hgol))
          have O5 := Lib.hid (fl_app HP.out ap)
          clear ap
          go_wp2_with (at_builtin; refine mem.wpList_app hr rfl _ _ rfl rfl rfl rfl ?_)
          go_roundw
          case rel => exact ⟨k + 1, g5, v5, by go_num, rfl, hlt, O5.out, Y.out.2.1, Nat.le_trans hsz Y.out.2.2, (below_drN1 HBB.out nq).trans Y.out.1⟩
          case measure => simp [intOf]; omega
      · have HP := Lib.hid (show tiB N x k = true from HT.out)
        go_wp2_with fail
        go_quiet (fail)
        obtain ⟨v5, w5, g5, hr, ap⟩ := coll_run (wr.drewN nq) _ (tiB N x) k go (HO.out.keep rfl) (by omega)
        have Y := Lib.hid (coll_below ap hgo (show go < wr.heap.size from hgol))
        have O5 := Lib.hid (fl_app HP.out ap)
        clear ap
        go_wp2_with (at_builtin; refine mem.wpList_app hr rfl _ _ rfl rfl rfl rfl ?_)
        go_roundw
        case rel => exact ⟨k + 1, g5, v5, by go_num, rfl, hlt, O5.out, Y.out.2.1, Nat.le_trans hsz Y.out.2.2, (below_drN1 HBB.out nq).trans Y.out.1⟩
        case measure => simp [intOf]; omega
    · have hkn : n = k := by omega
      subst hkn
      have k1 : ¬ ((n : Int) < (n : Int)) := by omega
      go_wp2_with fail
      go_ret2
      exact li_ok H3.out.symm (by rw [HC.out]; rfl) (by rw [H5.out]; exact HO.out) (by omega) (B1.trans (HBB.out.mono (by omega)))
end Go.Proofs.YtebbnhnggjmbiaaGreat.mem

namespace Go.Proofs.YtebbnhnggjmbiaaGreat.mem
open Go.RowKit
set_option linter.unusedVariables false

set_option maxRecDepth 100000 in
set_option maxHeartbeats 8000000 in
theorem l08Range_any (w : World) (v : Value) (n : Nat) (N : Nat → Nod) (m : Nat) (P : Nat → Pip) (lo hi : Nat) (h : NetAt w v n N m P lo hi) (hhi : hi ≤ w.heap.size) (hN : ∀ i, i < n → (N i).s.size ≤ 9223372036854775807) (hB : netB n N m P = true) (hone : cnt n P m = 1) (va : Value) (d : Nat → Int) (la ha : Nat) (hv : Sl w va m d la ha) (hha : ha ≤ w.heap.size) (hx : ∀ a, a < m → -30000 ≤ d a ∧ d a ≤ 30000) (R : Nat) (hR : R < n) :
    Calls Tryz.prog 39 #[v, va, .int .i64 (R : Nat)] w (fun e w' => e = .returned (.tuple #[.int .i64 (rrL n N m P d (R : Nat)), .int .i64 (rrH n N m P d (R : Nat))]) ∧ Below w.heap.size w w') := by
  obtain ⟨p0, c0, p1, c1, rfl, hn9, hm9⟩ := h.parts
  have HC0 : Hid (n = 0 ∨ ∃ b o, p0 = some ⟨b, o, none⟩ ∧ lo ≤ b ∧ b < hi ∧ At w b o n 3 (nodC N)) := by
    obtain ⟨v0, v1, he, g0, g1⟩ := h.ex
    simp only [Value.agg.injEq, Array.mk.injEq, List.cons.injEq, and_true] at he
    obtain ⟨rfl, rfl⟩ := he
    obtain ⟨p, cap, hv, _, _, hc⟩ := g0.ex
    injection hv with e1 _ e2
    subst e1
    exact Lib.hid hc
  have HV := Lib.hid h
  have HN := Lib.hid hN
  obtain ⟨pa, ca, rfl⟩ := hv.sh
  have HSV := Lib.hid hv
  have A0 := boxed w (.slice p0 n c0) (.slice p1 m c1) 33
  have B0 := below_new w (.cells #[.slice p0 n c0, .slice p1 m c1] 33)
  have hs0 : (w.alloc (.cells #[.slice p0 n c0, .slice p1 m c1] 33)).heap.size = w.heap.size + 1 := by simp
  clear h hN hv
  go_enter Tryz.func39, Tryz.ntmps39
  have e0 := A0.b0
  have e1 := A0.b1
  go_wp2_with fail
  obtain ⟨hn1, hn24, hm40⟩ := net_sz hB
  refine (l07Levels_any _ _ n N m P lo hi (HV.out.below B0 hhi) (by omega) HN.out hB hone _ d la ha (HSV.out.below B0 hha) (by omega) hx R hR 0 (by omega) (by omega)).mono ?_
  rintro e w1 ⟨vl, g, rfl, ol, hg, b1⟩
  obtain ⟨c9, rfl⟩ := ol.shape
  have A1 := A0.below b1 (by omega)
  have B1 := B0.trans (b1.mono (by omega))
  have hs1 := b1.size
  have f2 : w.heap.size < w1.heap.size := by omega
  have hgl := ol.lt
  clear A0 B0 b1 e0 e1 hs0 hs1
  have e0 := A1.b0
  have e1 := A1.b1
  obtain ⟨x, hx9⟩ : ∃ x : Nat → Int, (fun j : Nat => lvl n P m d (R : Nat) 0 (j : Nat)) = x := ⟨_, rfl⟩
  have HX := Lib.hid (show xl n m P d (R : Nat) 0 = x from hx9)
  have hbd2 : ∀ j, j < n → -600000000000000000 ≤ x j ∧ x j ≤ 600000000000000000 := fun j hj => by
    rw [← hx9]
    have := lvl_bnd (x := d) (root := ((R : Nat) : Int)) (level := 0) (z := ((j : Nat) : Int)) hB hn24 hx ⟨Int.natCast_nonneg _, by omega⟩ ⟨Int.natCast_nonneg _, by omega⟩
    exact ⟨by show _ ≤ lvl n P m d (R : Nat) 0 (j : Nat); omega, by show lvl n P m d (R : Nat) 0 (j : Nat) ≤ _; omega⟩
  rw [hx9] at ol
  have HR := Lib.hid (show ∀ k, k < n → w1.cell? ⟨g, k, none⟩ = some (.int .i64 (x k)) from fun k hk => ol.row.cell k hk)
  have HBD := Lib.hid hbd2
  have HND := Lib.hid (nod_bounds hB)
  clear ol hbd2 hx9 hx
  have HRL := Lib.hid (show rrL n N m P d (R : Nat) = mxF (loF N x) (loF N x 0) n by unfold rrL; rw [HX.out])
  have HRH := Lib.hid (show rrH n N m P d (R : Nat) = mnF (hiF N x) (hiF N x 0) n by unfold rrH; rw [HX.out])
  obtain ⟨bn, on, rfl, hbl, hbh, hat⟩ : ∃ b o, p0 = some ⟨b, o, none⟩ ∧ lo ≤ b ∧ b < hi ∧ At w b o n 3 (nodC N) := by
    rcases HC0.out with h0 | h0
    · omega
    · exact h0
  have HAT := Lib.hid hat
  clear hat HC0
  have hp0 : (0 : Int) < (n : Int) := by omega
  have HLT : 0 < n := by omega
  have yn1 : w1.cell? ⟨bn, on + 0 * 3 + 1, none⟩ = some (.int .i64 (N 0).lo) := (B1.cell (p := ⟨bn, on + 0 * 3 + 1, none⟩) (Nat.lt_of_lt_of_le hbh hhi)).trans (HAT.out.cell 0 1 HLT (by omega))
  have yn2 : w1.cell? ⟨bn, on + 0 * 3 + 2, none⟩ = some (.int .i64 (N 0).hi) := (B1.cell (p := ⟨bn, on + 0 * 3 + 2, none⟩) (Nat.lt_of_lt_of_le hbh hhi)).trans (HAT.out.cell 0 2 HLT (by omega))
  have yl : w1.cell? ⟨g, 0, none⟩ = some (.int .i64 (x 0)) := HR.out 0 HLT
  obtain ⟨b0, b1, b2, b3⟩ := HND.out 0 HLT
  obtain ⟨x0, x1⟩ := HBD.out 0 HLT
  have wa : IntKind.i64.wrap ((N 0).lo - x 0) = (N 0).lo - x 0 := IntWalk.i64_in _ (by omega)
  have wb : IntKind.i64.wrap ((N 0).hi - x 0) = (N 0).hi - x 0 := IntWalk.i64_in _ (by omega)
  have HL0 := Lib.hid (show loF N x 0 = (N 0).lo - x 0 from rfl)
  have HH0 := Lib.hid (show hiF N x 0 = (N 0).hi - x 0 from rfl)
  simp only [Nat.zero_mul, Nat.add_zero] at yn1 yn2
  clear x0 x1 b0 b1 b2 b3
  go_wp2_with fail
  go_quiet (fail)
  go_wp2_with fail
  go_loopw [9, 10, 11] (fun lv hv iv wr => ∃ k : Nat, iv = .int .i64 (k : Nat) ∧ lv = .int .i64 (mxF (loF N x) (loF N x 0) k) ∧ hv = .int .i64 (mnF (hiF N x) (hiF N x 0) k) ∧ 1 ≤ k ∧ k ≤ n ∧ w1.heap.size ≤ wr.heap.size ∧ Below w1.heap.size w1 wr) (fun _ _ iv _ => n - (intOf iv).toNat)
  case atStart => exact ⟨1, rfl, by rw [mxF_one, HL0.out], by rw [mnF_one, HH0.out], Nat.le_refl _, by omega, Nat.le_refl _, below_drN1 (Below.refl _ _) _⟩
  case round =>
    obtain ⟨k, rfl, rfl, rfl, hk1, hk, hsz, hb⟩ := hrel
    clear yn1 yn2 yl wa wb
    have HBB := Lib.hid hb
    clear hb
    have k0 : (0 : Int) ≤ (k : Int) := Int.natCast_nonneg _
    by_cases hlt : k < n
    · have k1 : (k : Int) < (n : Int) := by omega
      have HLT := hlt
      have BW := Lib.hid (B1.trans (HBB.out.mono (by omega)))
      have f0 : wr.cell? ⟨w.heap.size, 0, none⟩ = some (.slice (some ⟨bn, on, none⟩) n c0) := (HBB.out.cell (p := ⟨w.heap.size, 0, none⟩) f2).trans e0
      have yn1 : wr.cell? ⟨bn, on + k * 3 + 1, none⟩ = some (.int .i64 (N k).lo) := (BW.out.cell (p := ⟨bn, on + k * 3 + 1, none⟩) (Nat.lt_of_lt_of_le hbh hhi)).trans (HAT.out.cell k 1 HLT (by omega))
      have yn2 : wr.cell? ⟨bn, on + k * 3 + 2, none⟩ = some (.int .i64 (N k).hi) := (BW.out.cell (p := ⟨bn, on + k * 3 + 2, none⟩) (Nat.lt_of_lt_of_le hbh hhi)).trans (HAT.out.cell k 2 HLT (by omega))
      have yl : wr.cell? ⟨g, k, none⟩ = some (.int .i64 (x k)) := (HBB.out.cell (p := ⟨g, k, none⟩) hgl).trans (HR.out k hlt)
      obtain ⟨b0, b1, b2, b3⟩ := HND.out k hlt
      obtain ⟨x0, x1⟩ := HBD.out k hlt
      have HS := Lib.hid (show mxF (loF N x) (loF N x 0) (k + 1) = max (mxF (loF N x) (loF N x 0) k) ((N k).lo - x k) by rfl)
      have HZ := Lib.hid (show mnF (hiF N x) (hiF N x 0) (k + 1) = min (mnF (hiF N x) (hiF N x 0) k) ((N k).hi - x k) by rfl)
      have wa : IntKind.i64.wrap ((N k).lo - x k) = (N k).lo - x k := IntWalk.i64_in _ (by omega)
      have wb : IntKind.i64.wrap ((N k).hi - x k) = (N k).hi - x k := IntWalk.i64_in _ (by omega)
      generalize (N k).lo = lo' at *
      generalize (N k).hi = hi' at *
      generalize x k = xk at *
      generalize mxF (loF N x) (loF N x 0) k = M at *
      generalize mnF (hiF N x) (hiF N x 0) k = M2 at *
      clear x0 x1 b0 b1 b2 b3
      go_wp2_with fail
      go_quiet (fail)
      go_wp2_with fail
      go_quiet (fail)
      go_wp2_with fail
      go_roundw
      case rel => exact ⟨k + 1, by go_num, by rw [HS.out], by rw [HZ.out], by omega, hlt, hsz, below_drN1 HBB.out _⟩
      case measure => simp [intOf]; omega
    · have hkn : n = k := by omega
      subst hkn
      have k1 : ¬ ((n : Int) < (n : Int)) := by omega
      have HM := HRL
      have HM2 := HRH
      go_wp2_with fail
      go_ret2
      exact ⟨ret_2 HM.out.symm HM2.out.symm, B1.trans (HBB.out.mono (by omega))⟩
set_option maxRecDepth 100000 in
set_option maxHeartbeats 8000000 in
theorem rootRangeS_any (w : World) (v : Value) (n : Nat) (N : Nat → Nod) (m : Nat) (P : Nat → Pip) (lo hi : Nat) (h : NetAt w v n N m P lo hi) (hhi : hi ≤ w.heap.size) (hN : ∀ i, i < n → (N i).s.size ≤ 9223372036854775807) (va : Value) (K : Nat) (d : Nat → Int) (la ha : Nat) (hv : Sl w va K d la ha) (hha : ha ≤ w.heap.size) (hK9 : K ≤ 9223372036854775807) (r : Int) :
    Calls Tryz.prog 10 #[v, va, .int .i64 r] w (IIIPost w (rrA n N m P K d r) (rrZ n N m P K d r) (rrC n N m P K d r)) := by
  obtain ⟨p0, c0, p1, c1, rfl, hn9, hm9⟩ := h.parts
  have HC0 : Hid (n = 0 ∨ ∃ b o, p0 = some ⟨b, o, none⟩ ∧ lo ≤ b ∧ b < hi ∧ At w b o n 3 (nodC N)) := by
    obtain ⟨v0, v1, he, g0, g1⟩ := h.ex
    simp only [Value.agg.injEq, Array.mk.injEq, List.cons.injEq, and_true] at he
    obtain ⟨rfl, rfl⟩ := he
    obtain ⟨p, cap, hv, _, _, hc⟩ := g0.ex
    injection hv with e1 _ e2
    subst e1
    exact Lib.hid hc
  have HV := Lib.hid h
  have HN := Lib.hid hN
  obtain ⟨pa, ca, rfl⟩ := hv.sh
  have HSV := Lib.hid hv
  have A0 := boxed w (.slice p0 n c0) (.slice p1 m c1) 33
  have B0 := below_new w (.cells #[.slice p0 n c0, .slice p1 m c1] 33)
  have hs0 : (w.alloc (.cells #[.slice p0 n c0, .slice p1 m c1] 33)).heap.size = w.heap.size + 1 := by simp
  clear h hN hv
  go_enter Tryz.func10, Tryz.ntmps10
  have e0 := A0.b0
  have e1 := A0.b1
  go_wp2_with fail
  refine (forestLevelsS_any _ _ n N m P lo hi (HV.out.below B0 hhi) (by omega) HN.out _ K d la ha (HSV.out.below B0 hha) (by omega) hK9 r 0).mono ?_
  rintro e w1 ⟨vl, g, rfl, ol, hg, b1⟩
  have A1 := A0.below b1 (by omega)
  have B1 := B0.trans (b1.mono (by omega))
  have hs1 := b1.size
  have f2 : w.heap.size < w1.heap.size := by omega
  clear A0 B0 b1 e0 e1 hs0 hs1
  have e0 := A1.b0
  have e1 := A1.b1
  by_cases hc : fvC n N m P K d r 0 = 0
  rotate_left 1
  · obtain ⟨p9, c9, rfl⟩ := ownS_sh ol
    have hb1 : (fvC n N m P K d r 0 != 0) = true := by simpa using hc
    have HE := Lib.hid hc
    clear hc ol
    go_wp2_with fail
    go_ret3
    have H3 := Lib.hid (show rrC n N m P K d r = fvC n N m P K d r 0 by unfold rrC; rw [if_neg HE.out])
    have H4 := Lib.hid (show rrA n N m P K d r = 0 by unfold rrA; rw [H3.out, if_neg HE.out])
    have H5 := Lib.hid (show rrZ n N m P K d r = 0 by unfold rrZ; rw [H3.out, if_neg HE.out])
    exact ⟨ret_3 H4.out.symm H5.out.symm H3.out.symm, B1⟩
  obtain ⟨hB, hKm, hn1, hn24, hr0, hr1, hl0, hl1, hfn, hbd⟩ := fv_ok hc
  rw [hfn] at ol
  obtain ⟨p9, c9, rfl⟩ := ownS_sh ol
  obtain ⟨rfl, hgl, hgc, hrow⟩ := own_row ol (by omega)
  have HOL := Lib.hid ol
  have HC := Lib.hid hc
  rw [hc]
  obtain ⟨x, hx⟩ : ∃ x : Nat → Int, (fun j : Nat => lvl n P m d r 0 (j : Nat)) = x := ⟨_, rfl⟩
  have HX := Lib.hid (show xl n m P d r 0 = x from hx)
  have hbd2 : ∀ j, j < n → -600000000000000000 ≤ x j ∧ x j ≤ 600000000000000000 := fun j hj => by rw [← hx]; exact hbd j hj
  have hrow2 : ∀ k, k < n → w1.cell? ⟨g, k, none⟩ = some (.int .i64 (x k)) := fun k hk => by rw [← hx]; exact hrow k hk
  have HR := Lib.hid hrow2
  have HBD := Lib.hid hbd2
  have HND := Lib.hid (nod_bounds hB)
  rw [hx] at HOL
  clear hc ol hrow hrow2 hbd hbd2 hx hfn
  obtain ⟨bn, on, rfl, hbl, hbh, hat⟩ : ∃ b o, p0 = some ⟨b, o, none⟩ ∧ lo ≤ b ∧ b < hi ∧ At w b o n 3 (nodC N) := by
    rcases HC0.out with h0 | h0
    · omega
    · exact h0
  have HAT := Lib.hid hat
  clear hat HC0
  subst hKm
  obtain ⟨R, rfl⟩ := Int.eq_ofNat_of_zero_le hr0
  have hRn : R < n := by omega
  have hcon := fv_con HC.out
  go_wp2_with fail
  refine (l08Range_any _ _ n N K P lo hi (HV.out.below B1 hhi) (by omega) HN.out hB hcon.1 _ d la ha (HSV.out.below B1 hha) (by omega) hcon.2 R hRn).mono ?_
  rintro e w2 ⟨rfl, b2⟩
  have HB2 := Lib.hid (B1.trans (b2.mono (by omega)))
  clear b2 hcon
  obtain ⟨L, hL⟩ : ∃ L, L = rrL n N K P d (R : Nat) := ⟨_, rfl⟩
  obtain ⟨H, hH⟩ : ∃ H, H = rrH n N K P d (R : Nat) := ⟨_, rfl⟩
  rw [← hL, ← hH]
  by_cases hlt : H < L
  · have H3 := Lib.hid (show rrC n N K P K d (R : Nat) = 7 by unfold rrC; rw [if_pos HC.out, if_pos (by rw [← hL, ← hH]; exact hlt)])
    have H4 := Lib.hid (show rrA n N K P K d (R : Nat) = 0 by unfold rrA; rw [H3.out]; rfl)
    have H5 := Lib.hid (show rrZ n N K P K d (R : Nat) = 0 by unfold rrZ; rw [H3.out]; rfl)
    clear hL hH
    go_wp2_with fail
    go_ret3
    exact ⟨ret_3 H4.out.symm H5.out.symm H3.out.symm, HB2.out⟩
  · have H3 := Lib.hid (show rrC n N K P K d (R : Nat) = 0 by unfold rrC; rw [if_pos HC.out, if_neg (by rw [← hL, ← hH]; exact hlt)])
    have H4 := Lib.hid (show rrA n N K P K d (R : Nat) = L by unfold rrA; rw [H3.out, hL]; rfl)
    have H5 := Lib.hid (show rrZ n N K P K d (R : Nat) = H by unfold rrZ; rw [H3.out, hH]; rfl)
    clear hL hH
    go_wp2_with fail
    go_ret3
    exact ⟨ret_3 H4.out.symm H5.out.symm H3.out.symm, HB2.out⟩
set_option maxRecDepth 100000 in
set_option maxHeartbeats 8000000 in
theorem middleLevelS_any (w : World) (v : Value) (n : Nat) (N : Nat → Nod) (m : Nat) (P : Nat → Pip) (lo hi : Nat) (h : NetAt w v n N m P lo hi) (hhi : hi ≤ w.heap.size) (hN : ∀ i, i < n → (N i).s.size ≤ 9223372036854775807) (va : Value) (K : Nat) (d : Nat → Int) (la ha : Nat) (hv : Sl w va K d la ha) (hha : ha ≤ w.heap.size) (hK9 : K ≤ 9223372036854775807) (r : Int) :
    Calls Tryz.prog 21 #[v, va, .int .i64 r] w (IIPost w (mdA n N m P K d r) (rrC n N m P K d r)) := by
  obtain ⟨p0, c0, p1, c1, rfl, hn9, hm9⟩ := h.parts
  have HC0 : Hid (n = 0 ∨ ∃ b o, p0 = some ⟨b, o, none⟩ ∧ lo ≤ b ∧ b < hi ∧ At w b o n 3 (nodC N)) := by
    obtain ⟨v0, v1, he, g0, g1⟩ := h.ex
    simp only [Value.agg.injEq, Array.mk.injEq, List.cons.injEq, and_true] at he
    obtain ⟨rfl, rfl⟩ := he
    obtain ⟨p, cap, hv, _, _, hc⟩ := g0.ex
    injection hv with e1 _ e2
    subst e1
    exact Lib.hid hc
  have HV := Lib.hid h
  have HN := Lib.hid hN
  obtain ⟨pa, ca, rfl⟩ := hv.sh
  have HSV := Lib.hid hv
  have A0 := boxed w (.slice p0 n c0) (.slice p1 m c1) 33
  have B0 := below_new w (.cells #[.slice p0 n c0, .slice p1 m c1] 33)
  have hs0 : (w.alloc (.cells #[.slice p0 n c0, .slice p1 m c1] 33)).heap.size = w.heap.size + 1 := by simp
  clear h hN hv
  go_enter Tryz.func21, Tryz.ntmps21
  have e0 := A0.b0
  have e1 := A0.b1
  go_wp2_with fail
  refine (rootRangeS_any _ _ n N m P lo hi (HV.out.below B0 hhi) (by omega) HN.out _ K d la ha (HSV.out.below B0 hha) (by omega) hK9 r).mono ?_
  rintro e w1 ⟨rfl, b1⟩
  have HB1 := Lib.hid (B0.trans (b1.mono (by omega)))
  clear A0 B0 b1 e0 e1 hs0 HC0
  by_cases hc : rrC n N m P K d r = 0
  · have hcb : (rrC n N m P K d r != 0) = false := by simp [hc]
    obtain ⟨q1, q2, q3⟩ := rr_bnd hc
    have H1 := Lib.hid (show rrA n N m P K d r = rrL n N m P d r by unfold rrA; rw [if_pos hc])
    have H2 := Lib.hid (show rrZ n N m P K d r = rrH n N m P d r by unfold rrZ; rw [if_pos hc])
    have H3 := Lib.hid (show mdA n N m P K d r = (rrL n N m P d r + rrH n N m P d r) / 2 by unfold mdA; rw [if_pos hc])
    have HC := Lib.hid hc
    rw [H1.out, H2.out, hc]
    clear hc hcb
    generalize rrL n N m P d r = L at *
    generalize rrH n N m P d r = H at *
    have wa : IntKind.i64.wrap (L + H) = L + H := IntWalk.i64_in _ (by omega)
    go_wp2_with fail
    refine (num.l01Floor_any (L + H) 2 _ (by omega) (by omega) (by omega) (by omega) (by omega)).mono ?_
    rintro e w' ⟨rfl, rfl⟩
    go_wp2_with fail
    go_ret2
    exact ⟨ret_2 H3.out.symm HC.out.symm, HB1.out⟩
  · have hcb : (rrC n N m P K d r != 0) = true := by simp [hc]
    have H3 := Lib.hid (show mdA n N m P K d r = 0 by unfold mdA; rw [if_neg hc])
    clear hc
    go_wp2_with fail
    go_ret2
    exact ⟨ret_2 H3.out.symm rfl, HB1.out⟩
end Go.Proofs.YtebbnhnggjmbiaaGreat.mem

namespace Go.Proofs.YtebbnhnggjmbiaaGreat.mem
open Go.RowKit
set_option linter.unusedVariables false

set_option maxRecDepth 100000 in
set_option maxHeartbeats 8000000 in
theorem blockingPairS_any (w : World) (v : Value) (n : Nat) (N : Nat → Nod) (m : Nat) (P : Nat → Pip) (lo hi : Nat) (h : NetAt w v n N m P lo hi) (hhi : hi ≤ w.heap.size) (hN : ∀ i, i < n → (N i).s.size ≤ 9223372036854775807) (va : Value) (K : Nat) (d : Nat → Int) (la ha : Nat) (hv : Sl w va K d la ha) (hha : ha ≤ w.heap.size) (hK9 : K ≤ 9223372036854775807) :
    Calls Tryz.prog 33 #[v, va] w (IIIPost w (bpA n N m P K d) (bpB n N m P K d) (bpC n N m P K d)) := by
  obtain ⟨p0, c0, p1, c1, rfl, hn9, hm9⟩ := h.parts
  have HC0 : Hid (n = 0 ∨ ∃ b o, p0 = some ⟨b, o, none⟩ ∧ lo ≤ b ∧ b < hi ∧ At w b o n 3 (nodC N)) := by
    obtain ⟨v0, v1, he, g0, g1⟩ := h.ex
    simp only [Value.agg.injEq, Array.mk.injEq, List.cons.injEq, and_true] at he
    obtain ⟨rfl, rfl⟩ := he
    obtain ⟨p, cap, hv, _, _, hc⟩ := g0.ex
    injection hv with e1 _ e2
    subst e1
    exact Lib.hid hc
  have HV := Lib.hid h
  have HN := Lib.hid hN
  obtain ⟨pa, ca, rfl⟩ := hv.sh
  have HSV := Lib.hid hv
  have A0 := boxed w (.slice p0 n c0) (.slice p1 m c1) 33
  have B0 := below_new w (.cells #[.slice p0 n c0, .slice p1 m c1] 33)
  have hs0 : (w.alloc (.cells #[.slice p0 n c0, .slice p1 m c1] 33)).heap.size = w.heap.size + 1 := by simp
  clear h hN hv
  go_enter Tryz.func33, Tryz.ntmps33
  have e0 := A0.b0
  have e1 := A0.b1
  go_wp2_with fail
  refine (forestLevelsS_any _ _ n N m P lo hi (HV.out.below B0 hhi) (by omega) HN.out _ K d la ha (HSV.out.below B0 hha) (by omega) hK9 0 0).mono ?_
  rintro e w1 ⟨vl, g, rfl, ol, hg, b1⟩
  have A1 := A0.below b1 (by omega)
  have B1 := B0.trans (b1.mono (by omega))
  have hs1 := b1.size
  have f2 : w.heap.size < w1.heap.size := by omega
  clear A0 B0 b1 e0 e1 hs0 hs1
  have e0 := A1.b0
  have e1 := A1.b1
  by_cases hc : fvC n N m P K d 0 0 = 0
  rotate_left 1
  · obtain ⟨p9, c9, rfl⟩ := ownS_sh ol
    have hb1 : (fvC n N m P K d 0 0 != 0) = true := by simpa using hc
    have HE := Lib.hid hc
    clear hc ol
    go_wp2_with fail
    go_ret3
    have H3 := Lib.hid (show bpC n N m P K d = fvC n N m P K d 0 0 by unfold bpC; rw [if_neg HE.out])
    have H4 := Lib.hid (show bpA n N m P K d = 0 by unfold bpA; rw [H3.out, if_neg HE.out])
    have H5 := Lib.hid (show bpB n N m P K d = 0 by unfold bpB; rw [H3.out, if_neg HE.out])
    exact ⟨ret_3 H4.out.symm H5.out.symm H3.out.symm, B1⟩
  obtain ⟨hB, hKm, hn1, hn24, hr0, hr1, hl0, hl1, hfn, hbd⟩ := fv_ok hc
  rw [hfn] at ol
  obtain ⟨p9, c9, rfl⟩ := ownS_sh ol
  obtain ⟨rfl, hgl, hgc, hrow⟩ := own_row ol (by omega)
  have HOL := Lib.hid ol
  have HC := Lib.hid hc
  rw [hc]
  obtain ⟨x, hx⟩ : ∃ x : Nat → Int, (fun j : Nat => lvl n P m d 0 0 (j : Nat)) = x := ⟨_, rfl⟩
  have HX := Lib.hid (show xl n m P d 0 0 = x from hx)
  have hbd2 : ∀ j, j < n → -600000000000000000 ≤ x j ∧ x j ≤ 600000000000000000 := fun j hj => by rw [← hx]; exact hbd j hj
  have hrow2 : ∀ k, k < n → w1.cell? ⟨g, k, none⟩ = some (.int .i64 (x k)) := fun k hk => by rw [← hx]; exact hrow k hk
  have HR := Lib.hid hrow2
  have HBD := Lib.hid hbd2
  have HND := Lib.hid (nod_bounds hB)
  rw [hx] at HOL
  clear hc ol hrow hrow2 hbd hbd2 hx hfn
  obtain ⟨bn, on, rfl, hbl, hbh, hat⟩ : ∃ b o, p0 = some ⟨b, o, none⟩ ∧ lo ≤ b ∧ b < hi ∧ At w b o n 3 (nodC N) := by
    rcases HC0.out with h0 | h0
    · omega
    · exact h0
  have HAT := Lib.hid hat
  clear hat HC0
  clear hKm
  go_wp2_with fail
  go_loopw [9, 10] (fun iv _ wr => ∃ a : Nat, iv = .int .i64 (a : Nat) ∧ a ≤ n ∧ (∀ i, i < a → bdR n N x i = n) ∧ w1.heap.size ≤ wr.heap.size ∧ Below w1.heap.size w1 wr) (fun iv _ _ => n - (intOf iv).toNat)
  case atStart => exact ⟨0, rfl, Nat.zero_le _, fun i hi => absurd hi (Nat.not_lt_zero _), Nat.le_refl _, Below.refl _ _⟩
  case round =>
    obtain ⟨a, rfl, ha, hall, hsz, hb⟩ := hrel
    have HA := Lib.hid hall
    have HB1 := Lib.hid hb
    clear hall hb
    have a0 : (0 : Int) ≤ (a : Int) := Int.natCast_nonneg _
    by_cases hlt : a < n
    · have a1 : (a : Int) < (n : Int) := by omega
      go_wp2_with fail
      go_loopw [10] (fun iv wr => ∃ b : Nat, iv = .int .i64 (b : Nat) ∧ b ≤ n ∧ (∀ j, j < b → bdB N x a j = false) ∧ w1.heap.size ≤ wr.heap.size ∧ Below w1.heap.size w1 wr) (fun iv _ => n - (intOf iv).toNat)
      case atStart => exact ⟨0, rfl, Nat.zero_le _, fun i hi => absurd hi (Nat.not_lt_zero _), hsz, HB1.out⟩
      case round =>
        obtain ⟨b, rfl, hbn, hno, hsz2, hb2⟩ := hrel
        have HNO := Lib.hid hno
        have HBB := Lib.hid hb2
        clear hno hb2 HB1
        have b0 : (0 : Int) ≤ (b : Int) := Int.natCast_nonneg _
        by_cases hlt2 : b < n
        · have b1 : (b : Int) < (n : Int) := by omega
          have BW := Lib.hid (B1.trans (HBB.out.mono (by omega)))
          have f0 : wr.cell? ⟨w.heap.size, 0, none⟩ = some (.slice (some ⟨bn, on, none⟩) n c0) := (HBB.out.cell (p := ⟨w.heap.size, 0, none⟩) f2).trans e0
          have HLT := hlt
          have yna1 : wr.cell? ⟨bn, on + a * 3 + 1, none⟩ = some (.int .i64 (N a).lo) := (BW.out.cell (p := ⟨bn, on + a * 3 + 1, none⟩) (Nat.lt_of_lt_of_le hbh hhi)).trans (HAT.out.cell a 1 HLT (by omega))
          have HLT := hlt2
          have ynb2 : wr.cell? ⟨bn, on + b * 3 + 2, none⟩ = some (.int .i64 (N b).hi) := (BW.out.cell (p := ⟨bn, on + b * 3 + 2, none⟩) (Nat.lt_of_lt_of_le hbh hhi)).trans (HAT.out.cell b 2 HLT (by omega))
          have yla : wr.cell? ⟨g, a, none⟩ = some (.int .i64 (x a)) := (HBB.out.cell (p := ⟨g, a, none⟩) hgl).trans (HR.out a hlt)
          have ylb : wr.cell? ⟨g, b, none⟩ = some (.int .i64 (x b)) := (HBB.out.cell (p := ⟨g, b, none⟩) hgl).trans (HR.out b hlt2)
          obtain ⟨c0', c1', c2', c3'⟩ := HND.out a hlt
          obtain ⟨d0', d1', d2', d3'⟩ := HND.out b hlt2
          obtain ⟨x0, x1⟩ := HBD.out a hlt
          obtain ⟨x2, x3⟩ := HBD.out b hlt2
          obtain ⟨A, hA⟩ : ∃ A, A = (N a).lo - (N b).hi := ⟨_, rfl⟩
          obtain ⟨D, hD⟩ : ∃ D, D = x a - x b := ⟨_, rfl⟩
          have wa : IntKind.i64.wrap ((N a).lo - (N b).hi) = A := by rw [hA]; exact IntWalk.i64_in _ (by omega)
          have wb : IntKind.i64.wrap (x a - x b) = D := by rw [hD]; exact IntWalk.i64_in _ (by omega)
          have hiff : (D < A) ↔ (hiF N x b < loF N x a) := by unfold hiF loF; omega
          clear hA hD
          clear c0' c1' c2' c3' d0' d1' d2' d3' x0 x1 x2 x3
          cases hp : bdB N x a b
          all_goals
            have HP := Lib.hid hp
            have hde : decide (D < A) = _ := (decide_eq_decide.2 hiff).trans hp
            clear hp hiff
            go_wp2_with fail
            go_quiet (fail)
            go_wp2_with fail
          · go_roundw
            case rel => exact ⟨b + 1, by go_num, hlt2, fun j hj => by
              rcases (by omega : j < b ∨ j = b) with h1 | h1
              · exact HNO.out j h1
              · rw [h1]; exact HP.out, hsz2, below_drN1 HBB.out _⟩
            case measure => simp [intOf]; omega
          · have hR := fi_hit HNO.out HP.out n hlt2
            have hA := fi_hit (p := fun i => decide (bdR n N x i < n)) (k := a) (fun j hj => by rw [HA.out j hj]; simp) (by show decide (bdR n N x a < n) = true; unfold bdR; rw [hR]; simpa using hlt2) n hlt
            have HAA := Lib.hid (show bdA n N x = a from hA)
            have HRR := Lib.hid (show bdR n N x a = b from hR)
            have H3 := Lib.hid (show bpC n N m P K d = 0 by unfold bpC; rw [if_pos HC.out, HX.out, HAA.out, if_pos hlt])
            have H4 := Lib.hid (show bpA n N m P K d = (a : Nat) by unfold bpA; rw [H3.out, HX.out, HAA.out]; rfl)
            have H5 := Lib.hid (show bpB n N m P K d = (b : Nat) by unfold bpB; rw [H3.out, HX.out, HAA.out, HRR.out]; rfl)
            clear hR hA
            have HW := Lib.hid (B1.trans (HBB.out.mono (by omega)))
            go_ret3
            exact ⟨ret_3 H4.out.symm H5.out.symm H3.out.symm, below_drN1 HW.out _⟩
        · have hbn2 : n = b := by omega
          subst hbn2
          have b1 : ¬ ((n : Int) < (n : Int)) := by omega
          go_wp2_with fail
          go_roundw
          case rel => exact ⟨a + 1, by go_num, hlt, fun i hi => by
            rcases (by omega : i < a ∨ i = a) with h1 | h1
            · exact HA.out i h1
            · rw [h1]; exact fi_no HNO.out, hsz2, HBB.out⟩
          case measure => simp [intOf]; omega
    · have han : n = a := by omega
      subst han
      have a1 : ¬ ((n : Int) < (n : Int)) := by omega
      have H0 := Lib.hid (show bdA n N x = n from fi_no (fun i hi => by rw [HA.out i hi]; simp))
      have H3 := Lib.hid (show bpC n N m P K d = 4 by unfold bpC; rw [if_pos HC.out, HX.out, H0.out, if_neg (Nat.lt_irrefl _)])
      have H4 := Lib.hid (show bpA n N m P K d = 0 by unfold bpA; rw [H3.out]; rfl)
      have H5 := Lib.hid (show bpB n N m P K d = 0 by unfold bpB; rw [H3.out]; rfl)
      go_wp2_with fail
      go_ret3
      exact ⟨ret_3 H4.out.symm H5.out.symm H3.out.symm, B1.trans (HB1.out.mono (by omega))⟩
end Go.Proofs.YtebbnhnggjmbiaaGreat.mem

namespace Go.Proofs.YtebbnhnggjmbiaaGreat.mem
open Go.RowKit
set_option linter.unusedVariables false

end Go.Proofs.YtebbnhnggjmbiaaGreat.mem

namespace Go.Proofs.YtebbnhnggjmbiaaGreat.mem
open Go.RowKit
set_option linter.unusedVariables false

theorem agreeRootRange (n : Nat) (N : Nat → Nod) (m : Nat) (P : Nat → Pip) (K : Nat) (d : Nat → Int) (r : Int) (hN : ∀ i, i < n → (N i).s.size ≤ 9223372036854775807) (_hn : n ≤ 2000000) (hm : m ≤ 2000000) (hK : K ≤ 2000000) :
    ∃ ra rb rc, (∀ w v va, NetAt w v n N m P 0 w.heap.size → Sl w va K d 0 w.heap.size → Calls Tryz.prog 13 #[v, va, .int .i64 r] w (IIIPost w ra rb rc)) ∧ (∀ w v va, NetAt w v n N m P 0 w.heap.size → Sl w va K d 0 w.heap.size → Calls Tryz.prog 10 #[v, va, .int .i64 r] w (IIIPost w ra rb rc)) :=
  ⟨rrA n N m P K d r, rrZ n N m P K d r, rrC n N m P K d r, fun w v va h hv => rootRangeI_any w v n N m P 0 _ h (Nat.le_refl _) hN va K d 0 _ hv (Nat.le_refl _) (by omega) r, fun w v va h hv => rootRangeS_any w v n N m P 0 _ h (Nat.le_refl _) hN va K d 0 _ hv (Nat.le_refl _) (by omega) r⟩
theorem agreeTightNodes (n : Nat) (N : Nat → Nod) (m : Nat) (P : Nat → Pip) (K : Nat) (d : Nat → Int) (r : Int) (l : Int) (hN : ∀ i, i < n → (N i).s.size ≤ 9223372036854775807) (_hn : n ≤ 2000000) (hm : m ≤ 2000000) (hK : K ≤ 2000000) :
    ∃ rn rd rc, rn ≤ 2000000 ∧ (∀ w v va, NetAt w v n N m P 0 w.heap.size → Sl w va K d 0 w.heap.size → Calls Tryz.prog 17 #[v, va, .int .i64 r, .int .i64 l] w (LIPost w rn rd rc)) ∧ (∀ w v va, NetAt w v n N m P 0 w.heap.size → Sl w va K d 0 w.heap.size → Calls Tryz.prog 16 #[v, va, .int .i64 r, .int .i64 l] w (LIPost w rn rd rc)) :=
  ⟨tnN n N m P K d r l, tnD n N m P d r l, fvC n N m P K d r l, tnN_le n N m P K d r l _hn, fun w v va h hv => tightNodesI_any w v n N m P 0 _ h (Nat.le_refl _) hN va K d 0 _ hv (Nat.le_refl _) (by omega) r l, fun w v va h hv => tightNodesS_any w v n N m P 0 _ h (Nat.le_refl _) hN va K d 0 _ hv (Nat.le_refl _) (by omega) r l⟩
theorem agreeMissedBy (n : Nat) (N : Nat → Nod) (m : Nat) (P : Nat → Pip) (K : Nat) (d : Nat → Int) (r : Int) (l : Int) (hN : ∀ i, i < n → (N i).s.size ≤ 9223372036854775807) (_hn : n ≤ 2000000) (hm : m ≤ 2000000) (hK : K ≤ 2000000) :
    ∃ ra rc, (∀ w v va, NetAt w v n N m P 0 w.heap.size → Sl w va K d 0 w.heap.size → Calls Tryz.prog 29 #[v, va, .int .i64 r, .int .i64 l] w (IIPost w ra rc)) ∧ (∀ w v va, NetAt w v n N m P 0 w.heap.size → Sl w va K d 0 w.heap.size → Calls Tryz.prog 30 #[v, va, .int .i64 r, .int .i64 l] w (IIPost w ra rc)) :=
  ⟨msA n N m P K d r l, fvC n N m P K d r l, fun w v va h hv => missedByI_any w v n N m P 0 _ h (Nat.le_refl _) hN va K d 0 _ hv (Nat.le_refl _) (by omega) r l, fun w v va h hv => missedByS_any w v n N m P 0 _ h (Nat.le_refl _) hN va K d 0 _ hv (Nat.le_refl _) (by omega) r l⟩
theorem agreeBlockingPair (n : Nat) (N : Nat → Nod) (m : Nat) (P : Nat → Pip) (K : Nat) (d : Nat → Int) (hN : ∀ i, i < n → (N i).s.size ≤ 9223372036854775807) (_hn : n ≤ 2000000) (hm : m ≤ 2000000) (hK : K ≤ 2000000) :
    ∃ ra rb rc, (∀ w v va, NetAt w v n N m P 0 w.heap.size → Sl w va K d 0 w.heap.size → Calls Tryz.prog 25 #[v, va] w (IIIPost w ra rb rc)) ∧ (∀ w v va, NetAt w v n N m P 0 w.heap.size → Sl w va K d 0 w.heap.size → Calls Tryz.prog 33 #[v, va] w (IIIPost w ra rb rc)) :=
  ⟨bpA n N m P K d, bpB n N m P K d, bpC n N m P K d, fun w v va h hv => blockingPairI_any w v n N m P 0 _ h (Nat.le_refl _) hN va K d 0 _ hv (Nat.le_refl _) (by omega), fun w v va h hv => blockingPairS_any w v n N m P 0 _ h (Nat.le_refl _) hN va K d 0 _ hv (Nat.le_refl _) (by omega)⟩
theorem agreeMiddleLevel (n : Nat) (N : Nat → Nod) (m : Nat) (P : Nat → Pip) (K : Nat) (d : Nat → Int) (r : Int) (hN : ∀ i, i < n → (N i).s.size ≤ 9223372036854775807) (_hn : n ≤ 2000000) (hm : m ≤ 2000000) (hK : K ≤ 2000000) :
    ∃ ra rc, (∀ w v va, NetAt w v n N m P 0 w.heap.size → Sl w va K d 0 w.heap.size → Calls Tryz.prog 22 #[v, va, .int .i64 r] w (IIPost w ra rc)) ∧ (∀ w v va, NetAt w v n N m P 0 w.heap.size → Sl w va K d 0 w.heap.size → Calls Tryz.prog 21 #[v, va, .int .i64 r] w (IIPost w ra rc)) :=
  ⟨mdA n N m P K d r, rrC n N m P K d r, fun w v va h hv => middleLevelI_any w v n N m P 0 _ h (Nat.le_refl _) hN va K d 0 _ hv (Nat.le_refl _) (by omega) r, fun w v va h hv => middleLevelS_any w v n N m P 0 _ h (Nat.le_refl _) hN va K d 0 _ hv (Nat.le_refl _) (by omega) r⟩
end Go.Proofs.YtebbnhnggjmbiaaGreat.mem

namespace Go.Proofs.YtebbnhnggjmbiaaGreat.num
open Go.RowKit
set_option linter.unusedVariables false

theorem pressureOfI_any (n : Int) (w : World) : Calls Tryz.prog 35 #[.int .i64 n] w fun e w' => e = .returned (.tuple #[.int .i64 (rootV n), .int .i64 (rootE n)]) ∧ w = w' := by
  go_enter Tryz.func35, Tryz.ntmps35
  go_wp2_with (go_at_call 66; refine (RootOf_any _ _).mono ?_; rintro e w' ⟨rfl, rfl⟩)
  go_ret2
  exact ⟨rfl, rfl⟩
end Go.Proofs.YtebbnhnggjmbiaaGreat.num
