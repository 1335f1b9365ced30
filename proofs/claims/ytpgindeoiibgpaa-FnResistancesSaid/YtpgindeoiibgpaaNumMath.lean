/-
  Plain arithmetic of chapter 1: quotients rounded down, roots, ranges. No condition.
-/
import GoSem.Claim
namespace Go.Proofs.Ytpgindeoiibgpaa.num

/-- within a range -/
def inR (x lo hi : Int) : Bool := decide (lo ≤ x) && decide (x ≤ hi)
theorem inR_iff {x lo hi : Int} : inR x lo hi = true ↔ lo ≤ x ∧ x ≤ hi := by simp [inR]
theorem inR_no {x lo hi : Int} : inR x lo hi = false ↔ x < lo ∨ hi < x := by
  unfold inR; by_cases h : lo ≤ x <;> simp [h] <;> omega

theorem tdivmod (a b : Int) (hb : 1 ≤ b) : (a.tmod b < 0 → a.tdiv b - 1 = a / b) ∧ (0 ≤ a.tmod b → a.tdiv b = a / b) := by
  have e7 := Int.tdiv_eq_ediv (a := a) (b := b)
  have e8 := Int.tmod_eq_emod (a := a) (b := b)
  have e3 := Int.emod_nonneg a (show b ≠ 0 by omega)
  have e4 := Int.emod_lt_of_pos a (show 0 < b by omega)
  have hs : b.sign = 1 := Int.sign_eq_one_of_pos (by omega)
  rw [hs] at e7
  by_cases hc : 0 ≤ a ∨ b ∣ a
  · rw [if_pos hc] at e7 e8
    constructor <;> intro h <;> omega
  · rw [if_neg hc] at e7 e8
    constructor <;> intro h <;> omega
theorem ediv_bd (a b : Int) (hb : 1 ≤ b) (m : Int) (h1 : -m ≤ a) (h2 : a ≤ m) : -m ≤ a / b ∧ a / b ≤ m := by
  have hm : 0 ≤ m := by omega
  constructor
  · rw [Int.le_ediv_iff_mul_le (by omega)]
    have : m * 1 ≤ m * b := Int.mul_le_mul_of_nonneg_left hb hm
    have e : -m * b = -(m * b) := Int.neg_mul m b
    omega
  · have := Int.ediv_le_ediv (show 0 < b by omega) h2
    have h3 : m / b ≤ m := Int.ediv_le_self b hm
    omega

/-- the greatest integer whose square is at most n -/
def rootN : Nat → Nat
  | 0 => 0
  | n + 1 => if (rootN n + 1) * (rootN n + 1) ≤ n + 1 then rootN n + 1 else rootN n
theorem rootN_spec (n : Nat) : rootN n * rootN n ≤ n ∧ n < (rootN n + 1) * (rootN n + 1) := by
  induction n with
  | zero => simp [rootN]
  | succ n ih =>
    obtain ⟨h1, h2⟩ := ih
    unfold rootN
    split
    · rename_i h
      refine ⟨h, ?_⟩
      have : (rootN n + 1 + 1) * (rootN n + 1 + 1) = (rootN n + 1) * (rootN n + 1) + 2 * rootN n + 3 := by
        simp only [Nat.mul_add, Nat.add_mul, Nat.one_mul, Nat.mul_one]; omega
      omega
    · rename_i h
      exact ⟨by omega, by omega⟩
def root (n : Int) : Int := rootN n.toNat
theorem root_spec (n : Int) (h : 0 ≤ n) : 0 ≤ root n ∧ root n * root n ≤ n ∧ n < (root n + 1) * (root n + 1) := by
  obtain ⟨h1, h2⟩ := rootN_spec n.toNat
  unfold root
  refine ⟨by omega, ?_, ?_⟩
  · have : ((rootN n.toNat * rootN n.toNat : Nat) : Int) ≤ n := by omega
    simpa using this
  · have : n < (((rootN n.toNat + 1) * (rootN n.toNat + 1) : Nat) : Int) := by omega
    simpa using this
theorem sq_lt {a b : Int} (ha : 0 ≤ a) (hb : 0 ≤ b) (h : a * a < b * b) : a < b := by
  rcases Int.lt_or_le a b with h1 | h1
  · exact h1
  · have := Int.mul_le_mul h1 h1 hb ha
    omega
theorem sq_le {a b : Int} (ha : 0 ≤ a) (h : a ≤ b) : a * a ≤ b * b :=
  Int.mul_le_mul h h ha (by omega)
theorem root_uniq {n r : Int} (h0 : 0 ≤ r) (h1 : r * r ≤ n) (h2 : n < (r + 1) * (r + 1)) : r = root n := by
  have hn : 0 ≤ n := Int.le_trans (Int.mul_nonneg h0 h0) h1
  obtain ⟨g0, g1, g2⟩ := root_spec n hn
  have a1 := sq_lt h0 (show 0 ≤ root n + 1 by omega) (by omega)
  have a2 := sq_lt g0 (show 0 ≤ r + 1 by omega) (by omega)
  omega
theorem root_le {n : Int} (h : 0 ≤ n) (hn : n ≤ 1000000000000000000) : 0 ≤ root n ∧ root n ≤ 1000000000 := by
  obtain ⟨g0, g1, _⟩ := root_spec n h
  have := sq_lt (a := root n) (b := 1000000001) g0 (by omega) (by omega)
  exact ⟨g0, by omega⟩
/-- halving: the middle of a search -/
theorem mid_bd {l h : Int} (hl : 0 ≤ l) (hlt : l < h) (hh : h ≤ 1000000000) : 1 ≤ (l + h + 1) / 2 ∧ l < (l + h + 1) / 2 ∧ (l + h + 1) / 2 ≤ h ∧ 0 ≤ (l + h + 1) / 2 * ((l + h + 1) / 2) ∧ (l + h + 1) / 2 * ((l + h + 1) / 2) ≤ 1000000000000000000 := by
  have h1 : 1 ≤ (l + h + 1) / 2 := by omega
  have h2 : (l + h + 1) / 2 ≤ 1000000000 := by omega
  have h3 := sq_le (a := (l + h + 1) / 2) (b := 1000000000) (by omega) h2
  exact ⟨h1, by omega, by omega, Int.mul_nonneg (by omega) (by omega), by omega⟩
/-- the absolute value -/
def abs (x : Int) : Int := if x < 0 then -x else x
theorem abs_bd {x m : Int} (h1 : -m ≤ x) (h2 : x ≤ m) : 0 ≤ abs x ∧ abs x ≤ m := by unfold abs; split <;> omega
/-- the root with a sign -/
def sroot (x : Int) : Int := if x < 0 then -root (-x) else root x
theorem mul_bd {a b m k : Int} (h1 : -m ≤ a) (h2 : a ≤ m) (h3 : -k ≤ b) (h4 : b ≤ k) : -(m * k) ≤ a * b ∧ a * b ≤ m * k := by
  have hm : 0 ≤ m := by omega
  have hk : 0 ≤ k := by omega
  have n1 : a.natAbs ≤ m.natAbs := by omega
  have n2 : b.natAbs ≤ k.natAbs := by omega
  have n3 := Nat.mul_le_mul n1 n2
  rw [← Int.natAbs_mul, ← Int.natAbs_mul] at n3
  have e : ((m * k).natAbs : Int) = m * k := Int.natAbs_of_nonneg (Int.mul_nonneg hm hk)
  omega

def floorV (a b : Int) : Int := if inR a (-1000000000000000000) 1000000000000000000 && inR b 1 1000000000 then a / b else 0
def nearV (a b : Int) : Int := if inR a (-1000000000000000000) 1000000000000000000 && inR b 1 1000000000 then (2 * a + b) / (2 * b) else 0
def floorE (a b : Int) : Int := if inR a (-1000000000000000000) 1000000000000000000 && inR b 1 1000000000 then 0 else 2
def mulOk (a b c : Int) : Bool := inR a (-1000000000) 1000000000 && inR b (-1000000000) 1000000000 && inR c 1 1000000000
def mulV (a b c : Int) : Int := if mulOk a b c then a * b / c else 0
def mulE (a b c : Int) : Int := if mulOk a b c then 0 else 2
def rootV (n : Int) : Int := if inR n 0 1000000000000000000 then root n else 0
def rootE (n : Int) : Int := if inR n 0 1000000000000000000 then 0 else 2
def ssqV (q : Int) : Int := if inR q (-1000000000) 1000000000 then q * abs q else 0
def ssqE (q : Int) : Int := if inR q (-1000000000) 1000000000 then 0 else 2
def srootV (x : Int) : Int := if inR x (-1000000000000000000) 1000000000000000000 then sroot x else 0
def srootE (x : Int) : Int := if inR x (-1000000000000000000) 1000000000000000000 then 0 else 2
end Go.Proofs.Ytpgindeoiibgpaa.num
