/-
  The pipes of a shortest path: pure facts, and the specification's path. Conditions: as each states.
-/
import Derived.Test.YtdbgcbkmcbgdiaaDoorRows
import Derived.Test.YtdbgcbkmcbgdiaaDoorGrM
import Derived.Test.YtdbgcbkmcbgdiaaDoorTwo
import Derived.Test.YtdbgcbkmcbgdiaaDoorApm
namespace Go.Proofs.YtdbgcbkmcbgdiaaDoor.mem
open Go.RowKit
set_option linter.unusedVariables false

noncomputable def spC (n : Nat) (N : Nat → Nod) (m : Nat) (P : Nat → Pip) (x y : Int) : Int :=
  if codeB (netB n N m P) (inR x 0 (n - 1) && inR y 0 (n - 1)) = 0 then (if vhas (vis n P m x) y = true then 0 else 4) else codeB (netB n N m P) (inR x 0 (n - 1) && inR y 0 (n - 1))
def spL (n : Nat) (P : Nat → Pip) (m : Nat) (x y : Int) : List Int := pth P (vis n P m x) x n y
def spD (n : Nat) (P : Nat → Pip) (m : Nat) (x y : Int) (k : Nat) : Int := ((spL n P m x y).reverse[k]?).getD 0
noncomputable def spN (n : Nat) (N : Nat → Nod) (m : Nat) (P : Nat → Pip) (x y : Int) : Nat := if spC n N m P x y = 0 then (spL n P m x y).length else 0
/-- at a node on the way back that isn't the first one -/
theorem Vok.step {n : Nat} {N : Nat → Nod} {P : Nat → Pip} {m : Nat} {x : Int} {fs : List Vs} (hN : netB n N m P = true) (h : Vok n P m x fs) {y : Int} (hy : vhas fs y = true) (hne : y ≠ x) :
    ∃ (a Y Z : Nat), y = (Z : Int) ∧ Z < n ∧ a < m ∧ pipB n (P a) = true ∧ vval (·.en) fs (Z : Int) = (a : Int) ∧ othV (P a) (Z : Int) = (Y : Int) ∧ (P a).f + (P a).t - (Z : Int) = (Y : Int) ∧ Y < n ∧ vhas fs (Y : Int) = true ∧ pth P fs x n (Z : Int) = (a : Int) :: pth P fs x n (Y : Int) := by
  obtain ⟨i, v, hv, rfl⟩ := vhas_get hy
  obtain ⟨j, u, a, hj, hu, ha, hen, he, ho, hp⟩ := h.back hN hv hne
  obtain ⟨hz0, hz1⟩ := h.rng v (List.mem_of_getElem? hv)
  obtain ⟨Z, hZ⟩ := Int.eq_ofNat_of_zero_le hz0
  obtain ⟨hy0, hy1⟩ := h.rng u (List.mem_of_getElem? hu)
  obtain ⟨Y, hY⟩ := Int.eq_ofNat_of_zero_le hy0
  have hpa := net_pip hN ha
  refine ⟨a, Y, Z, hZ, by omega, ha, hpa, by rw [← hZ]; exact hen, by rw [← hZ, ← hY]; exact ho, by rw [← hZ, ← hY, sum_other hpa he, ho], by omega, by rw [← hY]; exact get_vhas hu, by rw [← hZ, ← hY]; exact hp⟩
theorem Vok.plen {n : Nat} {N : Nat → Nod} {P : Nat → Pip} {m : Nat} {x : Int} {fs : List Vs} (hN : netB n N m P = true) (h : Vok n P m x fs) {y : Int} (hy : vhas fs y = true) : (pth P fs x n y).length < n := by
  obtain ⟨i, v, hv, rfl⟩ := vhas_get hy
  have h1 := h.pth_len hN i v hv
  have h2 := get_lt hv
  have h3 := h.len
  omega

end Go.Proofs.YtdbgcbkmcbgdiaaDoor.mem
