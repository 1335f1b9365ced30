/-
  LoopError, both. Conditions: as each states.
-/
import Derived.Test.YtdbgcbkmcbgdiaaRows
import Derived.Test.YtdbgcbkmcbgdiaaLop
import Derived.Test.YtdbgcbkmcbgdiaaEsM
import Derived.Lib.MinMax
namespace Go.Proofs.Ytdbgcbkmcbgdiaa.mem
open Go.RowKit
set_option linter.unusedVariables false

/-- the greatest of the first numbers without sign -/
def leS (r : Nat → Int) : Nat → Int
  | 0 => 0
  | k + 1 => max (leS r k) ((r k).natAbs : Int)
theorem leS_congr {r s : Nat → Int} : ∀ {k : Nat}, (∀ j, j < k → r j = s j) → leS r k = leS s k
  | 0, _ => rfl
  | k + 1, h => by
    unfold leS
    rw [leS_congr (fun j hj => h j (by omega)), h k (by omega)]
theorem leS_bnd {r : Nat → Int} {B : Int} (hB : 0 ≤ B) : ∀ {k : Nat}, (∀ j, j < k → -B ≤ r j ∧ r j ≤ B) → 0 ≤ leS r k ∧ leS r k ≤ B
  | 0, _ => by unfold leS; omega
  | k + 1, h => by
    have ih := leS_bnd hB (k := k) (fun j hj => h j (by omega))
    have h1 := h k (by omega)
    unfold leS
    omega
theorem leS_max (r : Nat → Int) : ∀ k j, j < k → ((r j).natAbs : Int) ≤ leS r k
  | 0, j, h => by omega
  | k + 1, j, h => by
    unfold leS
    by_cases e : j = k
    · subst e; omega
    · have := leS_max r k j (by omega)
      omega
theorem leS_ws (r : Nat → Int) : ∀ k, 0 < k → leS r k = ((r (wsI r k)).natAbs : Int)
  | 0, h => by omega
  | k + 1, _ => by
    rcases Nat.eq_zero_or_pos k with e | e
    · subst e
      rw [wsI_one]
      unfold leS leS
      omega
    · have ih := leS_ws r k e
      unfold leS wsI
      rw [ih]
      split <;> omega
noncomputable def leV (n : Nat) (N : Nat → Nod) (m : Nat) (P : Nat → Pip) (K : Nat) (d : Nat → Int) : Int := if flC n N m P K d = 0 then leS (rsD n P m d) (chN n P m) else 0
theorem rsD_bnd {n : Nat} {N : Nat → Nod} {m : Nat} {P : Nat → Pip} (hB : netB n N m P = true) {d : Nat → Int} (hd : ∀ a, a < m → -30000 ≤ d a ∧ d a ≤ 30000) (j : Nat) (hj : j < chN n P m) : -36000000000000 ≤ rsD n P m d j ∧ rsD n P m d j ≤ 36000000000000 := by
  obtain ⟨hjm, hjp⟩ := chS_at (n := n) (P := P) (m := m) hj
  have := rsS_bnd (P := P) (x := d) (y := cyc P (fE n P m) (fD n P m) (chS n P m j)) (k := m) (fun a ha => drp_bnd (net_pip hB ha) (hd a ha).1 (hd a ha).2) (fun a _ => cyc_one hB hjm hjp a)
  have hm := (net_sz hB).2.2
  unfold rsD
  omega
end Go.Proofs.Ytdbgcbkmcbgdiaa.mem
