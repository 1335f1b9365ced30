/-
  FnMulDiv returns true at every slice of bytes, and leaves it as it was. No condition.
-/
import Derived.Test.YthijndeppniaoaaRows
import Derived.Test.YthijndeppniaoaaLaw
import Derived.Test.YthijndeppniaoaaCode
import Derived.Test.YthijndeppniaoaaDrawC
import Derived.Test.YthijndeppniaoaaNum
import Derived.WalkKit
import Derived.ProofKit
import Derived.OpenShut
import Derived.Lib.Hide
import Derived.Deep.QuietTactic
import Derived.BigQuiet
namespace Go.Proofs.Ythijndeppniaoaa.fnMulDiv
open Go.ChangeShapes Go.WideShapes Go.ChangeAt Go.RowKit Go.Proofs.Ythijndeppniaoaa.draw
set_option linter.unusedVariables false

theorem own : ownKnob Try.prog.godebug = none := by kernel_rfl
theorem laidOut : laidOutB Try.prog = true := by kernel_rfl

theorem mulOk_cc {a b c : Int} (h : num.mulOk a b c = true) : num.mulE a c c = 0 ∧ num.mulV a c c = a ∧ num.floorE (a * b) c = 0 ∧ num.floorV (a * b) c = num.mulV a b c := by
  have h' := h
  simp only [num.mulOk, Bool.and_eq_true, num.inR_iff] at h'
  obtain ⟨⟨⟨a1, a2⟩, b1, b2⟩, c1, c2⟩ := h'
  have hm := num.mul_bd a1 a2 b1 b2
  have k1 : num.inR a (-1000000000) 1000000000 = true := num.inR_iff.2 ⟨a1, a2⟩
  have k2 : num.inR c (-1000000000) 1000000000 = true := num.inR_iff.2 ⟨by omega, c2⟩
  have k3 : num.inR c 1 1000000000 = true := num.inR_iff.2 ⟨c1, c2⟩
  have k4 : num.inR (a * b) (-1000000000000000000) 1000000000000000000 = true := num.inR_iff.2 ⟨by omega, by omega⟩
  refine ⟨by simp [num.mulE, num.mulOk, k1, k2, k3], ?_, by simp [num.floorE, k4, k3], by simp [num.floorV, num.mulV, h, k4, k3]⟩
  simp [num.mulV, num.mulOk, k1, k2, k3, Int.mul_ediv_cancel _ (show c ≠ 0 by omega)]

set_option maxHeartbeats 1000000 in
theorem walk (v : Value) (w : World) (hc : CodeArg w v) :
    Calls Try.prog 4 #[v] w fun e w' => e = .returned (.bool true) ∧ Below w.heap.size w w' := by
  obtain ⟨p, len, cap, rfl, hlen, hcode⟩ := hc
  by_cases h4 : (4096 : Int) < len
  · go_enter Try.func4, Try.ntmps4
    go_wp2_with (go_at_call 14; refine (big_any _ _ _ _).mono ?_; rintro e w' ⟨rfl, rfl⟩)
    go_ret
    exact ⟨rfl, Below.refl _ _⟩
  · have hc := hcode (by omega)
    clear hcode
    go_enter Try.func4, Try.ntmps4
    go_wp2_with (go_at_call 14; refine (big_any _ _ _ _).mono ?_; rintro e w' ⟨rfl, rfl⟩)
    refine (drawMulDiv_any w _ len hc).mono ?_
    rintro e w1 ⟨a, b, c, rfl, ha, hb, hcc, hbel⟩
    have hB := Lib.hid hbel
    clear hbel hc
    cases hok : num.mulOk a b c
    · have e1 : num.mulE a b c = 2 := by simp [num.mulE, hok]
      go_wp2_with (first | (go_at_call 23; refine (num.sMulDiv_any _ _ _ _).mono ?_; rintro e w' ⟨rfl, rfl⟩) | (go_at_call 22; refine (num.MulDiv_any _ _ _ _).mono ?_; rintro e w' ⟨rfl, rfl⟩))
      go_ret
      exact ⟨rfl, hB.out⟩
    · have e1 : num.mulE a b c = 0 := by simp [num.mulE, hok]
      obtain ⟨e2, e3, e4, e5⟩ := mulOk_cc hok
      have hm : -1000000000000000000 ≤ a * b ∧ a * b ≤ 1000000000000000000 := by
        simp only [num.mulOk, Bool.and_eq_true, num.inR_iff] at hok
        have := num.mul_bd hok.1.1.1 hok.1.1.2 hok.1.2.1 hok.1.2.2
        omega
      go_wp2_with (first | (go_at_call 23; refine (num.sMulDiv_any _ _ _ _).mono ?_; rintro e w' ⟨rfl, rfl⟩) | (go_at_call 22; refine (num.MulDiv_any _ _ _ _).mono ?_; rintro e w' ⟨rfl, rfl⟩) | (go_at_call 16; refine (num.FloorDiv_any _ _ _).mono ?_; rintro e w' ⟨rfl, rfl⟩))
      go_ret
      exact ⟨rfl, hB.out⟩

set_option maxRecDepth 100000 in
theorem lifted (os : Os) (started : os.Started) (H : Type) (enc : TypeId × Value → H) :
    ReturnsInHanded {} Try.checked os 4 .any (Rows.fnMulDivSpec.pre6 enc Try.prog Try.f4 Rows.fnMulDivRow.domain false) (Rows.fnMulDivSpec.post enc Try.prog Try.f4 false true false false) := by
  refine returnsInHanded_of_change (C := Try.checked) own started (by kernel_rfl) Try.func4
    (ChangeSpec.witness6 (enc := enc) (C := Try.checked) false ⟨#[], #[.slice none 0 0], []⟩ 8 (by kernel_rfl) (by kernel_rfl) (by kernel_rfl) (by kernel_rfl)) ?_
  intro W base args ds gs before hval0 hW hcnd _
  have hval : ∀ (j : Nat) t v, Try.f4.params[j]? = some t → args[j]? = some v → Value.okWide Try.prog W .any base t v := hval0
  have hW' := hW
  obtain ⟨p, q, hA0, hV, rfl, hfz, hnd⟩ := hW
  have hA : DataW.TrodAll enc Try.prog W 0 (fun _ => true) true Try.f4.params.toList args.toList ds p := hA0
  rw [Try.params4] at hA hval
  obtain ⟨v0, vs0, d0, ds0, p0, q0, hargs, rfl, rfl, h0, r0⟩ := trodAll_cons hA
  obtain ⟨rfl, rfl, rfl⟩ := trodAll_nil r0
  obtain rfl : args = #[v0] := by cases args; simp_all
  obtain ⟨rfl, rfl⟩ := trodVars_none hV
  have hc := open_code (hval 0 22 v0 rfl rfl) h0
  refine (walk v0 W hc).mono fun e W' ⟨he, hg⟩ => ?_
  subst he
  exact ⟨_, rfl, law.law_post hW' hg laidOut (by kernel_rfl) rfl rfl (by kernel_rfl) Try.underlying4⟩

theorem over : Rows.fnMulDivRow.holds Try.pinned (OpenSpec.ofChange Rows.fnMulDivSpec) :=
  OpenClaim.holds_of_wide 4 Try.f4 rfl rfl rfl rfl rfl rfl rfl ⟨rfl, rfl, rfl, rfl, rfl⟩ rfl rfl rfl rfl rfl (by kernel_rfl) Try.func4 (by kernel_rfl)
    (of_decide_eq_true (by kernel_rfl)) (by unfold Func.isWrapper; first | (rw [if_pos (by decide +kernel)]; kernel_rfl) | (rw [if_neg (by decide +kernel)]; exact ⟨rfl, rfl⟩))
    (fun os started H enc _ => lifted os started H enc)

theorem proved : Rows.FnMulDivSaid :=
  over
#print axioms proved
end Go.Proofs.Ythijndeppniaoaa.fnMulDiv
