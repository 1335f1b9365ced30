/-
  FnDivisions returns true at every slice of bytes, and leaves it as it was. No condition.
-/
import Derived.Test.YthijndeppniaoaaRows
import Derived.Test.YthijndeppniaoaaLaw
import Derived.Test.YthijndeppniaoaaCode
import Derived.Test.YthijndeppniaoaaDrawC
import Derived.Test.YthijndeppniaoaaNum
import Derived.WalkKit
import Derived.ProofKit
import Derived.OpenShut
import Derived.Lib.Hide
import Derived.Deep.QuietTactic
import Derived.BigQuiet
namespace Go.Proofs.Ythijndeppniaoaa.fnDivisions
open Go.ChangeShapes Go.WideShapes Go.ChangeAt Go.RowKit Go.Proofs.Ythijndeppniaoaa.draw
set_option linter.unusedVariables false

theorem own : ownKnob Try.prog.godebug = none := by kernel_rfl
theorem laidOut : laidOutB Try.prog = true := by kernel_rfl

theorem ediv_mul {a b : Int} (hb : 1 ≤ b) : 0 ≤ a - a / b * b ∧ a - a / b * b < b := by
  have e2 := Int.mul_ediv_add_emod a b
  have e3 := Int.emod_nonneg a (show b ≠ 0 by omega)
  have e4 := Int.emod_lt_of_pos a (show 0 < b by omega)
  rw [Int.mul_comm] at e2
  omega
theorem near_mul {a b : Int} (hb : 1 ≤ b) : -b ≤ 2 * (a - (2 * a + b) / (2 * b) * b) ∧ 2 * (a - (2 * a + b) / (2 * b) * b) ≤ b := by
  have e2 := Int.mul_ediv_add_emod (2 * a + b) (2 * b)
  have e3 := Int.emod_nonneg (2 * a + b) (show 2 * b ≠ 0 by omega)
  have e4 := Int.emod_lt_of_pos (2 * a + b) (show 0 < 2 * b by omega)
  generalize (2 * a + b) / (2 * b) = q at *
  have e5 : 2 * b * q = 2 * (q * b) := by rw [Int.mul_assoc, Int.mul_comm b q]
  omega
def okFloor (a b : Int) : Bool := num.inR a (-1000000000000000000) 1000000000000000000 && num.inR b 1 1000000000

set_option maxHeartbeats 1000000 in
theorem walk (v : Value) (w : World) (hc : CodeArg w v) :
    Calls Try.prog 3 #[v] w fun e w' => e = .returned (.bool true) ∧ Below w.heap.size w w' := by
  obtain ⟨p, len, cap, rfl, hlen, hcode⟩ := hc
  by_cases h4 : (4096 : Int) < len
  · go_enter Try.func3, Try.ntmps3
    go_wp2_with (go_at_call 14; refine (big_any _ _ _ _).mono ?_; rintro e w' ⟨rfl, rfl⟩)
    go_ret
    exact ⟨rfl, Below.refl _ _⟩
  · have hc := hcode (by omega)
    clear hcode
    go_enter Try.func3, Try.ntmps3
    go_wp2_with (go_at_call 14; refine (big_any _ _ _ _).mono ?_; rintro e w' ⟨rfl, rfl⟩)
    refine (drawFloorDiv_any w _ len hc).mono ?_
    rintro e w1 ⟨a, b, rfl, ha, hb, hbel⟩
    have hB := Lib.hid hbel
    clear hbel hc
    unfold I64 at ha hb
    cases hok : okFloor a b
    · have e1 : num.floorE a b = 2 := by unfold okFloor at hok; simp only [num.floorE, hok]; rfl
      go_wp2_with (first | (go_at_call 16; refine (num.FloorDiv_any _ _ _).mono ?_; rintro e w' ⟨rfl, rfl⟩) | (go_at_call 17; refine (num.sFloorDiv_any _ _ _).mono ?_; rintro e w' ⟨rfl, rfl⟩) | (go_at_call 18; refine (num.NearestDiv_any _ _ _).mono ?_; rintro e w' ⟨rfl, rfl⟩) | (go_at_call 19; refine (num.sNearestDiv_any _ _ _).mono ?_; rintro e w' ⟨rfl, rfl⟩))
      go_ret
      exact ⟨rfl, hB.out⟩
    · have e1 : num.floorE a b = 0 := by unfold okFloor at hok; simp only [num.floorE, hok]; rfl
      have e2 : num.floorV a b = a / b := by unfold okFloor at hok; simp only [num.floorV, hok]; rfl
      have e3 : num.nearV a b = (2 * a + b) / (2 * b) := by unfold okFloor at hok; simp only [num.nearV, hok]; rfl
      simp only [okFloor, Bool.and_eq_true, num.inR_iff] at hok
      obtain ⟨⟨a1, a2⟩, b1, b2⟩ := hok
      have ab := num.abs_bd a1 a2
      have g1 := ediv_mul (a := a) b1
      have g2 := near_mul (a := a) b1
      have g3 := num.ediv_bd a b b1 _ a1 a2
      have g4 := num.ediv_bd (2 * a + b) (2 * b) (by omega) 2000000001000000000 (by omega) (by omega)
      have E2 := Lib.hid e2
      have E3 := Lib.hid e3
      rw [← e2] at g1 g3
      rw [← e3] at g2 g4
      clear e2 e3
      clear E2 E3 g4
      have g5 := num.abs_bd (x := a - num.nearV a b * b) (m := b / 2) (by omega) (by omega)
      by_cases hs : 1000000000000 < num.abs a
      · go_wp2_with (first | (go_at_call 16; refine (num.FloorDiv_any _ _ _).mono ?_; rintro e w' ⟨rfl, rfl⟩) | (go_at_call 17; refine (num.sFloorDiv_any _ _ _).mono ?_; rintro e w' ⟨rfl, rfl⟩) | (go_at_call 18; refine (num.NearestDiv_any _ _ _).mono ?_; rintro e w' ⟨rfl, rfl⟩) | (go_at_call 19; refine (num.sNearestDiv_any _ _ _).mono ?_; rintro e w' ⟨rfl, rfl⟩) | (go_at_call 20; refine (size_any _ _ (by omega) (by omega)).mono ?_; rintro e w' ⟨rfl, rfl⟩))
        go_ret
        exact ⟨rfl, hB.out⟩
      · have ha2 : -1000000000000 ≤ a ∧ a ≤ 1000000000000 := by unfold num.abs at hs; split at hs <;> omega
        have g6 : 2 * num.abs (a - num.nearV a b * b) ≤ b := by omega
        go_wp2_with (first | (go_at_call 16; refine (num.FloorDiv_any _ _ _).mono ?_; rintro e w' ⟨rfl, rfl⟩) | (go_at_call 17; refine (num.sFloorDiv_any _ _ _).mono ?_; rintro e w' ⟨rfl, rfl⟩) | (go_at_call 18; refine (num.NearestDiv_any _ _ _).mono ?_; rintro e w' ⟨rfl, rfl⟩) | (go_at_call 19; refine (num.sNearestDiv_any _ _ _).mono ?_; rintro e w' ⟨rfl, rfl⟩) | (go_at_call 20; refine (size_any _ _ (by omega) (by omega)).mono ?_; rintro e w' ⟨rfl, rfl⟩))
        go_ret
        exact ⟨rfl, hB.out⟩

set_option maxRecDepth 100000 in
theorem lifted (os : Os) (started : os.Started) (H : Type) (enc : TypeId × Value → H) :
    ReturnsInHanded {} Try.checked os 3 .any (Rows.fnDivisionsSpec.pre6 enc Try.prog Try.f3 Rows.fnDivisionsRow.domain false) (Rows.fnDivisionsSpec.post enc Try.prog Try.f3 false true false false) := by
  refine returnsInHanded_of_change (C := Try.checked) own started (by kernel_rfl) Try.func3
    (ChangeSpec.witness6 (enc := enc) (C := Try.checked) false ⟨#[], #[.slice none 0 0], []⟩ 8 (by kernel_rfl) (by kernel_rfl) (by kernel_rfl) (by kernel_rfl)) ?_
  intro W base args ds gs before hval0 hW hcnd _
  have hval : ∀ (j : Nat) t v, Try.f3.params[j]? = some t → args[j]? = some v → Value.okWide Try.prog W .any base t v := hval0
  have hW' := hW
  obtain ⟨p, q, hA0, hV, rfl, hfz, hnd⟩ := hW
  have hA : DataW.TrodAll enc Try.prog W 0 (fun _ => true) true Try.f3.params.toList args.toList ds p := hA0
  rw [Try.params3] at hA hval
  obtain ⟨v0, vs0, d0, ds0, p0, q0, hargs, rfl, rfl, h0, r0⟩ := trodAll_cons hA
  obtain ⟨rfl, rfl, rfl⟩ := trodAll_nil r0
  obtain rfl : args = #[v0] := by cases args; simp_all
  obtain ⟨rfl, rfl⟩ := trodVars_none hV
  have hc := open_code (hval 0 22 v0 rfl rfl) h0
  refine (walk v0 W hc).mono fun e W' ⟨he, hg⟩ => ?_
  subst he
  exact ⟨_, rfl, law.law_post hW' hg laidOut (by kernel_rfl) rfl rfl (by kernel_rfl) Try.underlying4⟩

theorem over : Rows.fnDivisionsRow.holds Try.pinned (OpenSpec.ofChange Rows.fnDivisionsSpec) :=
  OpenClaim.holds_of_wide 3 Try.f3 rfl rfl rfl rfl rfl rfl rfl ⟨rfl, rfl, rfl, rfl, rfl⟩ rfl rfl rfl rfl rfl (by kernel_rfl) Try.func3 (by kernel_rfl)
    (of_decide_eq_true (by kernel_rfl)) (by unfold Func.isWrapper; first | (rw [if_pos (by decide +kernel)]; kernel_rfl) | (rw [if_neg (by decide +kernel)]; exact ⟨rfl, rfl⟩))
    (fun os started H enc _ => lifted os started H enc)

theorem proved : Rows.FnDivisionsSaid :=
  over
#print axioms proved
end Go.Proofs.Ythijndeppniaoaa.fnDivisions
