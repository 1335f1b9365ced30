/-
  OtherEnd: one answer, and the contracts of the program and of the specification. Conditions: as each states.
-/
import Derived.Test.YtdbgcbkmcbgdiaaDoorRows
import Derived.Test.YtdbgcbkmcbgdiaaDoorNetF
import Derived.Test.YtdbgcbkmcbgdiaaDoorNetX
import Derived.WalkKit
import Derived.ProofKit
import Derived.Outline
import Derived.OwnWalk
import Derived.Lib.Hide
import Derived.Deep.QuietTactic
import Derived.BigQuiet
namespace Go.Proofs.YtdbgcbkmcbgdiaaDoor.mem
open Go.RowKit
set_option linter.unusedVariables false

def endB (q : Pip) (x : Int) : Bool := (q.f == x) || (q.t == x)
def othV (q : Pip) (x : Int) : Int := if q.f = x then q.t else q.f
/-- OtherEnd's code and answer -/
noncomputable def oeC (n : Nat) (N : Nat → Nod) (m : Nat) (P : Nat → Pip) (x y : Int) : Int :=
  if codeB (netB n N m P) (inR x 0 (m - 1) && inR y 0 (n - 1)) = 0 then (if endB (P x.toNat) y = true then 0 else 5) else codeB (netB n N m P) (inR x 0 (m - 1) && inR y 0 (n - 1))
noncomputable def oeV (n : Nat) (N : Nat → Nod) (m : Nat) (P : Nat → Pip) (x y : Int) : Int := if oeC n N m P x y = 0 then othV (P x.toNat) y else 0
theorem pipB_parts {n : Int} {q : Pip} (h : pipB n q = true) : (0 ≤ q.f ∧ q.f ≤ n - 1) ∧ (0 ≤ q.t ∧ q.t ≤ n - 1) ∧ q.f ≠ q.t := by
  rw [pipB_eq] at h
  simp only [Bool.and_eq_true, inR_iff, bne_iff_ne] at h
  exact ⟨h.1.1.1, h.1.1.2, h.1.2⟩
theorem net_pip {n : Nat} {N : Nat → Nod} {m : Nat} {P : Nat → Pip} (h : netB n N m P = true) {k : Nat} (hk : k < m) : pipB n (P k) = true := by
  unfold netB at h
  simp only [Bool.and_eq_true] at h
  exact pipesB_iff.1 h.2 k hk
theorem net_sz {n : Nat} {N : Nat → Nod} {m : Nat} {P : Nat → Pip} (h : netB n N m P = true) : 1 ≤ n ∧ n ≤ 24 ∧ m ≤ 40 := by
  unfold netB at h
  simp only [Bool.and_eq_true] at h
  exact szB_iff.1 h.1.1
theorem ret_2 {a b c d : Int} (h : a = b) (g : c = d) : Ending.returned (.tuple #[.int .i64 a, .int .i64 c]) = .returned (.tuple #[.int .i64 b, .int .i64 d]) := by rw [h, g]
theorem sum_other {q : Pip} {n y : Int} (h : pipB n q = true) (he : endB q y = true) : q.f + q.t - y = othV q y := by
  have := pipB_parts h
  unfold endB at he
  unfold othV
  simp only [Bool.or_eq_true, beq_iff_eq] at he
  split <;> omega

end Go.Proofs.YtdbgcbkmcbgdiaaDoor.mem
