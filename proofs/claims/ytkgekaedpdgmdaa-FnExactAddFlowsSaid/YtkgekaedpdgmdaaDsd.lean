/-
  The distances of the specification, and that both sides of DistancesFrom agree. Conditions: as each states.
-/
import Derived.Test.YtkgekaedpdgmdaaRows
import Derived.Test.YtkgekaedpdgmdaaDss
namespace Go.Proofs.Ytkgekaedpdgmdaa.mem
open Go.RowKit
set_option linter.unusedVariables false

/-- a visit behind the first one: where it came from -/
theorem Vok.from {n : Nat} {N : Nat → Nod} {P : Nat → Pip} {m : Nat} {x : Int} {fs : List Vs} (hN : netB n N m P = true) (h : Vok n P m x fs) {k : Nat} {v : Vs} (hk : 0 < k) (hv : fs[k]? = some v) :
    ∃ (a Y Z : Nat), a < m ∧ pipB n (P a) = true ∧ v.nd = (Z : Int) ∧ Z < n ∧ Y < n ∧ Y ≠ Z ∧ vval (·.en) fs (Z : Int) = (a : Int) ∧ (P a).f + (P a).t - (Z : Int) = (Y : Int) ∧ vval (·.ds) (fs.take k) (Y : Int) = v.ds - 1 ∧ 1 ≤ v.ds ∧ v.ds ≤ k := by
  obtain ⟨j, u, a, hj, hu, ha, hen, he, hnd, hds⟩ := h.par k v hk hv
  have hp := net_pip hN ha
  have hoo := oth_oth hp he
  obtain ⟨hz0, hz1⟩ := h.rng v (List.mem_of_getElem? hv)
  obtain ⟨Z, hZ⟩ := Int.eq_ofNat_of_zero_le hz0
  obtain ⟨hy0, hy1⟩ := h.rng u (List.mem_of_getElem? hu)
  obtain ⟨Y, hY⟩ := Int.eq_ofNat_of_zero_le hy0
  have d0 := h.ds0 j u hu
  have d1 := h.dsle k v hv
  have hval : vval (·.en) fs v.nd = (a : Int) := by rw [h.val (·.en) hv]; exact hen
  have hoth : (P a).f + (P a).t - v.nd = u.nd := by
    rw [hnd, sum_other hp hoo.2.1]
    exact hoo.1
  have hne : u.nd ≠ v.nd := by rw [hnd]; exact fun e => hoo.2.2 e.symm
  have hut : (fs.take k)[j]? = some u := by rw [List.getElem?_take_of_lt hj]; exact hu
  have okt : vval (·.ds) (fs.take k) u.nd = u.ds := by
    unfold vval
    have hjl := get_lt hut
    have : (fs.take k).find? (fun w => w.nd == u.nd) = some u := by
      rw [List.find?_eq_some_iff_getElem]
      have hg : (fs.take k)[j] = u := by
        rw [List.getElem?_eq_getElem hjl] at hut
        injection hut
      refine ⟨by simp, j, hjl, hg, fun i hi => ?_⟩
      have hil : i < fs.length := by simp at hjl; omega
      have hjl2 : j < fs.length := by simp at hjl; omega
      have := List.pairwise_iff_getElem.1 h.dis i j hil hjl2 hi
      have hg2 : fs[j] = u := by rw [List.getElem_take] at hg; exact hg
      rw [hg2] at this
      simpa using this
    rw [this]
  refine ⟨a, Y, Z, ha, hp, hZ, by omega, by omega, by omega, by rw [← hZ]; exact hval, by rw [← hZ, ← hY]; exact hoth, by rw [← hY, okt]; omega, by omega, d1⟩

theorem keep5 {W : World} {b g g2 ge k Y Z : Nat} {v0 v1 v2 v3 v4 q : Value} (h : W.cell? ⟨b, 0, none⟩ = some v0 ∧ W.cell? ⟨b, 1, none⟩ = some v1 ∧ W.cell? ⟨g2, k, none⟩ = some v2 ∧ W.cell? ⟨ge, Z, none⟩ = some v3 ∧ W.cell? ⟨g, Y, none⟩ = some v4)
    (h1 : b ≠ g) (h2 : g2 ≠ g) (h3 : ge ≠ g) (h4 : Y ≠ Z) : (W.setCell ⟨g, Z, none⟩ q).cell? ⟨b, 0, none⟩ = some v0 ∧ (W.setCell ⟨g, Z, none⟩ q).cell? ⟨b, 1, none⟩ = some v1 ∧ (W.setCell ⟨g, Z, none⟩ q).cell? ⟨g2, k, none⟩ = some v2 ∧ (W.setCell ⟨g, Z, none⟩ q).cell? ⟨ge, Z, none⟩ = some v3 ∧ (W.setCell ⟨g, Z, none⟩ q).cell? ⟨g, Y, none⟩ = some v4 :=
  ⟨(World.cell?_setCell_other _ _ _ _ (by intro e; injection e; omega)).trans h.1, (World.cell?_setCell_other _ _ _ _ (by intro e; injection e; omega)).trans h.2.1, (World.cell?_setCell_other _ _ _ _ (by intro e; injection e; omega)).trans h.2.2.1, (World.cell?_setCell_other _ _ _ _ (by intro e; injection e; omega)).trans h.2.2.2.1, (World.cell?_setCell_other _ _ _ _ (by intro e; injection e; omega)).trans h.2.2.2.2⟩
end Go.Proofs.Ytkgekaedpdgmdaa.mem
