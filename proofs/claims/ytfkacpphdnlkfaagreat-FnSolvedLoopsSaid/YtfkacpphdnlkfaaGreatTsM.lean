/-
  Several texts in one: Lss, Lsl, Lsq, Lst.
-/
import Derived.Test.YtfkacpphdnlkfaaGreatRows
import Derived.Test.YtfkacpphdnlkfaaGreatBsM
import Derived.Test.YtfkacpphdnlkfaaGreatTvM
import Derived.IntWalk
import Derived.Deep.RegionHeld3
namespace Go.Proofs.YtfkacpphdnlkfaaGreat.mem
open Go.RowKit
set_option linter.unusedVariables false

end Go.Proofs.YtfkacpphdnlkfaaGreat.mem

namespace Go.Proofs.YtfkacpphdnlkfaaGreat.mem
open Go.RowKit
set_option linter.unusedVariables false

/-- the levels of the nodes visited so far -/
def lvK (fs : List Vs) (lv : Int → Int) (k : Nat) (j : Nat) : Int := if vhas (fs.take k) ((j : Nat) : Int) = true then lv ((j : Nat) : Int) else 0
theorem lvK_step {fs : List Vs} {lv : Int → Int} {k Z : Nat} {v : Vs} (hv : fs[k]? = some v) (hz : v.nd = ((Z : Nat) : Int)) (j : Nat) : upd (lvK fs lv k) Z (lv (Z : Nat)) j = lvK fs lv (k + 1) j := by
  unfold upd lvK
  rw [take_one hv, vhas_app, hz]
  by_cases e : j = Z
  · subst e; simp
  · rw [if_neg e]
    have e2 : (((Z : Nat) : Int) == ((j : Nat) : Int)) = false := by simp; omega
    rw [e2, Bool.or_false]
/-- a visit behind the first: the pipe that it came by, and the node before it -/
theorem vis_back {n : Nat} {N : Nat → Nod} {P : Nat → Pip} {m : Nat} (hN : netB n N m P = true) {X : Nat} (hX : X < n) {k : Nat} (h0 : 0 < k) (hk : k < (vis n (frP n P m) (forest n P m).length (X : Nat)).length) :
    ∃ (v : Vs) (Z U j b : Nat), (vis n (frP n P m) (forest n P m).length (X : Nat))[k]? = some v ∧ v.nd = ((Z : Nat) : Int) ∧ Z < n ∧ U < n ∧ j < (forest n P m).length ∧ b < m ∧ inF n P m (fl (rts n P m) n) b = true ∧ lD (forest n P m) j = ((b : Nat) : Int) ∧ frP n P m j = P b ∧
      vval (·.en) (vis n (frP n P m) (forest n P m).length (X : Nat)) (Z : Nat) = ((j : Nat) : Int) ∧ othV (frP n P m j) (Z : Nat) = ((U : Nat) : Int) ∧ endB (frP n P m j) (Z : Nat) = true ∧ vhas ((vis n (frP n P m) (forest n P m).length (X : Nat)).take k) (U : Nat) = true ∧ U ≠ Z ∧ vhas ((vis n (frP n P m) (forest n P m).length (X : Nat)).take k) (Z : Nat) = false := by
  have hT := net_forest hN
  have ok := vis_ok (P := frP n P m) (m := (forest n P m).length) (x := ((X : Nat) : Int)) hT (by omega)
  generalize hfs : vis n (frP n P m) (forest n P m).length (X : Nat) = fs at *
  have hv : fs[k]? = some fs[k] := List.getElem?_eq_getElem hk
  obtain ⟨i, u, j, hi, hu, hj, hen, he, hn, _⟩ := ok.par k _ h0 hv
  have rv := ok.rng _ (List.mem_of_getElem? hv)
  have ru := ok.rng _ (List.mem_of_getElem? hu)
  obtain ⟨Z, hZ⟩ := Int.eq_ofNat_of_zero_le rv.1
  obtain ⟨U, hU⟩ := Int.eq_ofNat_of_zero_le ru.1
  obtain ⟨b, hb, hbF, hbL, _, hFb⟩ := forest_at hj
  obtain ⟨o1, o2, o3⟩ := oth_oth (net_pip hT hj) he
  have hnt := ok.has_take hv
  refine ⟨fs[k], Z, U, j, b, hv, hZ, by omega, by omega, hj, hb, hbF, hbL, hFb, ?_, ?_, ?_, ?_, ?_, ?_⟩
  · rw [← hZ, ok.val (·.en) hv]; exact hen
  · rw [← hZ, hn, o1]; exact hU
  · rw [← hZ, hn]; exact o2
  · have : (fs.take k)[i]? = some u := by rw [List.getElem?_take_of_lt hi]; exact hu
    rw [← hU]
    exact get_vhas this
  · intro e
    subst e
    exact o3 (by rw [← hn, hZ, hU])
  · rw [← hZ]; exact hnt
end Go.Proofs.YtfkacpphdnlkfaaGreat.mem

namespace Go.Proofs.YtfkacpphdnlkfaaGreat.mem
open Go.RowKit
set_option linter.unusedVariables false

end Go.Proofs.YtfkacpphdnlkfaaGreat.mem

namespace Go.Proofs.YtfkacpphdnlkfaaGreat.mem
open Go.RowKit
set_option linter.unusedVariables false

end Go.Proofs.YtfkacpphdnlkfaaGreat.mem
