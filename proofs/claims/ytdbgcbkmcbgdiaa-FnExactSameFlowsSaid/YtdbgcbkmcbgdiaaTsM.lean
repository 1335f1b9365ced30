/-
  Several texts in one: Lss, Lsl, Lsq, Lst.
-/
import Derived.Test.YtdbgcbkmcbgdiaaRows
import Derived.Test.YtdbgcbkmcbgdiaaBsM
import Derived.Test.YtdbgcbkmcbgdiaaTvM
import Derived.IntWalk
import Derived.Deep.RegionHeld3
namespace Go.Proofs.Ytdbgcbkmcbgdiaa.mem
open Go.RowKit
set_option linter.unusedVariables false

theorem l01Signed_any (x : Int) (w : World) (h0 : -30000 ≤ x) (h1 : x ≤ 30000) : Calls Try.prog 51 #[.int .i64 x] w fun e w' => e = .returned (.int .i64 (x * (x.natAbs : Int))) ∧ w = w' := by
  obtain ⟨s0, s1⟩ := sq_bnd h0 h1
  have e : (30000 : Int) * 30000 = 900000000 := by decide
  rw [e] at s0 s1
  have W1 : IntKind.i64.wrap (x * (x.natAbs : Int)) = x * (x.natAbs : Int) := IntWalk.i64_in _ (by omega)
  clear e s0 s1
  go_enter Try.func51, Try.ntmps51
  go_wp2_with (go_at_call 33; refine (absS_any _ _ (by omega) (by omega)).mono ?_; rintro e w' ⟨rfl, rfl⟩)
  go_ret
  exact ⟨by first | rfl | (rw [W1]; rfl), rfl⟩
set_option maxRecDepth 100000 in
set_option maxHeartbeats 4000000 in
theorem l07Drop_any (w : World) (v : Value) (n : Nat) (N : Nat → Nod) (m : Nat) (P : Nat → Pip) (lo hi : Nat) (h : NetAt w v n N m P lo hi) (hhi : hi ≤ w.heap.size) (hB : netB n N m P = true) (a : Nat) (ha : a < m) (x : Int) (h0 : -30000 ≤ x) (h1 : x ≤ 30000) :
    Calls Try.prog 40 #[v, .int .i64 (a : Nat), .int .i64 x] w fun e w' => e = .returned (.int .i64 (drp (P a) x)) ∧ Below w.heap.size w w' := by
  obtain ⟨p0, c0, p1, c1, rfl, hn9, hm9⟩ := h.parts
  have hd := drp_bnd (net_pip hB ha) h0 h1
  have W2 : IntKind.i64.wrap ((P a).k * (x * (x.natAbs : Int))) = drp (P a) x := IntWalk.i64_in _ (by unfold drp at hd; omega)
  have A0 := boxed w (.slice p0 n c0) (.slice p1 m c1) 36
  have B0 := below_new w (.cells #[.slice p0 n c0, .slice p1 m c1] 36)
  obtain ⟨bp, op, rfl, q1, q2, r0, r1, r2, r3, r4⟩ := (h.below B0 hhi).pipe ha
  have e0 := A0.b0
  have e1 := A0.b1
  have a0 : (0 : Int) ≤ (a : Int) := Int.natCast_nonneg _
  have a1 : (a : Int) < (m : Int) := by omega
  have HBB := Lib.hid B0
  clear h hB hd B0 A0
  go_enter Try.func40, Try.ntmps40
  go_wp2_with fail
  go_quiet ((go_at_call 51; exact Calls.quiet_of_same ((l01Signed_any _ _ (by omega) (by omega)).mono fun e w' h => ⟨h.1, h.2.symm⟩)))
  go_wp2_with fail
  go_ret
  exact ⟨rfl, below_drN1 HBB.out _⟩

end Go.Proofs.Ytdbgcbkmcbgdiaa.mem

namespace Go.Proofs.Ytdbgcbkmcbgdiaa.mem
open Go.RowKit
set_option linter.unusedVariables false

/-- the levels of the nodes visited so far -/
def lvK (fs : List Vs) (lv : Int → Int) (k : Nat) (j : Nat) : Int := if vhas (fs.take k) ((j : Nat) : Int) = true then lv ((j : Nat) : Int) else 0
theorem lvK_step {fs : List Vs} {lv : Int → Int} {k Z : Nat} {v : Vs} (hv : fs[k]? = some v) (hz : v.nd = ((Z : Nat) : Int)) (j : Nat) : upd (lvK fs lv k) Z (lv (Z : Nat)) j = lvK fs lv (k + 1) j := by
  unfold upd lvK
  rw [take_one hv, vhas_app, hz]
  by_cases e : j = Z
  · subst e; simp
  · rw [if_neg e]
    have e2 : (((Z : Nat) : Int) == ((j : Nat) : Int)) = false := by simp; omega
    rw [e2, Bool.or_false]
/-- a visit behind the first: the pipe that it came by, and the node before it -/
theorem vis_back {n : Nat} {N : Nat → Nod} {P : Nat → Pip} {m : Nat} (hN : netB n N m P = true) {X : Nat} (hX : X < n) {k : Nat} (h0 : 0 < k) (hk : k < (vis n (frP n P m) (forest n P m).length (X : Nat)).length) :
    ∃ (v : Vs) (Z U j b : Nat), (vis n (frP n P m) (forest n P m).length (X : Nat))[k]? = some v ∧ v.nd = ((Z : Nat) : Int) ∧ Z < n ∧ U < n ∧ j < (forest n P m).length ∧ b < m ∧ inF n P m (fl (rts n P m) n) b = true ∧ lD (forest n P m) j = ((b : Nat) : Int) ∧ frP n P m j = P b ∧
      vval (·.en) (vis n (frP n P m) (forest n P m).length (X : Nat)) (Z : Nat) = ((j : Nat) : Int) ∧ othV (frP n P m j) (Z : Nat) = ((U : Nat) : Int) ∧ endB (frP n P m j) (Z : Nat) = true ∧ vhas ((vis n (frP n P m) (forest n P m).length (X : Nat)).take k) (U : Nat) = true ∧ U ≠ Z ∧ vhas ((vis n (frP n P m) (forest n P m).length (X : Nat)).take k) (Z : Nat) = false := by
  have hT := net_forest hN
  have ok := vis_ok (P := frP n P m) (m := (forest n P m).length) (x := ((X : Nat) : Int)) hT (by omega)
  generalize hfs : vis n (frP n P m) (forest n P m).length (X : Nat) = fs at *
  have hv : fs[k]? = some fs[k] := List.getElem?_eq_getElem hk
  obtain ⟨i, u, j, hi, hu, hj, hen, he, hn, _⟩ := ok.par k _ h0 hv
  have rv := ok.rng _ (List.mem_of_getElem? hv)
  have ru := ok.rng _ (List.mem_of_getElem? hu)
  obtain ⟨Z, hZ⟩ := Int.eq_ofNat_of_zero_le rv.1
  obtain ⟨U, hU⟩ := Int.eq_ofNat_of_zero_le ru.1
  obtain ⟨b, hb, hbF, hbL, _, hFb⟩ := forest_at hj
  obtain ⟨o1, o2, o3⟩ := oth_oth (net_pip hT hj) he
  have hnt := ok.has_take hv
  refine ⟨fs[k], Z, U, j, b, hv, hZ, by omega, by omega, hj, hb, hbF, hbL, hFb, ?_, ?_, ?_, ?_, ?_, ?_⟩
  · rw [← hZ, ok.val (·.en) hv]; exact hen
  · rw [← hZ, hn, o1]; exact hU
  · rw [← hZ, hn]; exact o2
  · have : (fs.take k)[i]? = some u := by rw [List.getElem?_take_of_lt hi]; exact hu
    rw [← hU]
    exact get_vhas this
  · intro e
    subst e
    exact o3 (by rw [← hn, hZ, hU])
  · rw [← hZ]; exact hnt
end Go.Proofs.Ytdbgcbkmcbgdiaa.mem

namespace Go.Proofs.Ytdbgcbkmcbgdiaa.mem
open Go.RowKit
set_option linter.unusedVariables false

end Go.Proofs.Ytdbgcbkmcbgdiaa.mem

namespace Go.Proofs.Ytdbgcbkmcbgdiaa.mem
open Go.RowKit
set_option linter.unusedVariables false

end Go.Proofs.Ytdbgcbkmcbgdiaa.mem
