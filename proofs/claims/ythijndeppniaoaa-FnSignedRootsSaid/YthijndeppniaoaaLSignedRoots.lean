/-
  FnSignedRoots returns true at every slice of bytes, and leaves it as it was. No condition.
-/
import Derived.Test.YthijndeppniaoaaRows
import Derived.Test.YthijndeppniaoaaLaw
import Derived.Test.YthijndeppniaoaaCode
import Derived.Test.YthijndeppniaoaaDrawC
import Derived.Test.YthijndeppniaoaaNum
import Derived.WalkKit
import Derived.ProofKit
import Derived.OpenShut
import Derived.Lib.Hide
import Derived.Deep.QuietTactic
import Derived.BigQuiet
namespace Go.Proofs.Ythijndeppniaoaa.fnSignedRoots
open Go.ChangeShapes Go.WideShapes Go.ChangeAt Go.RowKit Go.Proofs.Ythijndeppniaoaa.draw
set_option linter.unusedVariables false

theorem own : ownKnob Try.prog.godebug = none := by kernel_rfl
theorem laidOut : laidOutB Try.prog = true := by kernel_rfl

theorem ssq_facts {q : Int} (h : num.inR q (-1000000000) 1000000000 = true) : num.ssqE q = 0 ∧ num.srootE (num.ssqV q) = 0 ∧ num.srootV (num.ssqV q) = q ∧ num.ssqE (-q) = 0 ∧ num.ssqV (-q) = -num.ssqV q ∧ -1000000000000000000 ≤ num.ssqV q ∧ num.ssqV q ≤ 1000000000000000000 := by
  have g := num.inR_iff.1 h
  have i1 : num.inR (-q) (-1000000000) 1000000000 = true := num.inR_iff.2 ⟨by omega, by omega⟩
  have e : num.ssqV q = q * num.abs q := by simp [num.ssqV, h]
  have ha := num.abs_bd g.1 g.2
  have hm := num.mul_bd g.1 g.2 (show -1000000000 ≤ num.abs q by omega) ha.2
  have hn : num.abs (-q) = num.abs q := by unfold num.abs; split <;> split <;> omega
  have i2 : num.inR (q * num.abs q) (-1000000000000000000) 1000000000000000000 = true := num.inR_iff.2 ⟨by omega, by omega⟩
  refine ⟨by simp [num.ssqE, h], by simp [num.srootE, e, i2], ?_, by simp [num.ssqE, i1], by simp [num.ssqV, h, i1, hn, Int.neg_mul], by omega, by omega⟩
  rw [e]
  simp only [num.srootV, i2, if_true, num.sroot]
  by_cases hq : q < 0
  · have e2 : num.abs q = -q := by unfold num.abs; rw [if_pos hq]
    rw [e2]
    have hpos : 0 < (-q) * (-q) := Int.mul_pos (by omega) (by omega)
    have e3 : q * -q = -((-q) * (-q)) := by rw [Int.neg_mul, Int.neg_neg]
    rw [e3, if_pos (by omega), Int.neg_neg]
    have := num.root_uniq (n := (-q) * (-q)) (r := -q) (by omega) (by omega) (by
      have : (-q + 1) * (-q + 1) = (-q) * (-q) + 2 * (-q) + 1 := by simp only [Int.mul_add, Int.add_mul, Int.one_mul, Int.mul_one]; omega
      omega)
    omega
  · have e2 : num.abs q = q := by unfold num.abs; rw [if_neg hq]
    rw [e2]
    have hnn : 0 ≤ q * q := Int.mul_nonneg (by omega) (by omega)
    rw [if_neg (by omega)]
    exact (num.root_uniq (n := q * q) (r := q) (by omega) (by omega) (by
      have : (q + 1) * (q + 1) = q * q + 2 * q + 1 := by simp only [Int.mul_add, Int.add_mul, Int.one_mul, Int.mul_one]; omega
      omega)).symm

set_option maxHeartbeats 1000000 in
theorem walk (v : Value) (w : World) (hc : CodeArg w v) :
    Calls Try.prog 6 #[v] w fun e w' => e = .returned (.bool true) ∧ Below w.heap.size w w' := by
  obtain ⟨p, len, cap, rfl, hlen, hcode⟩ := hc
  by_cases h4 : (4096 : Int) < len
  · go_enter Try.func6, Try.ntmps6
    go_wp2_with (go_at_call 14; refine (big_any _ _ _ _).mono ?_; rintro e w' ⟨rfl, rfl⟩)
    go_ret
    exact ⟨rfl, Below.refl _ _⟩
  · have hc := hcode (by omega)
    clear hcode
    go_enter Try.func6, Try.ntmps6
    go_wp2_with (go_at_call 14; refine (big_any _ _ _ _).mono ?_; rintro e w' ⟨rfl, rfl⟩)
    refine (drawSignedSquare_any w _ len hc).mono ?_
    rintro e w1 ⟨q, rfl, ha, hbel⟩
    have hB := Lib.hid hbel
    clear hbel hc
    unfold I64 at ha
    cases hok : num.inR q (-1000000000) 1000000000
    · have e1 : num.ssqE q = 2 := by simp [num.ssqE, hok]
      go_wp2_with (first | (go_at_call 27; refine (num.SignedSquare_any _ _).mono ?_; rintro e w' ⟨rfl, rfl⟩) | (go_at_call 30; refine (num.sSignedSquare_any _ _).mono ?_; rintro e w' ⟨rfl, rfl⟩))
      go_ret
      exact ⟨rfl, hB.out⟩
    · obtain ⟨e1, e2, e3, e4, e5, e6, e7⟩ := ssq_facts hok
      have g := num.inR_iff.1 hok
      clear hok
      go_wp2_with (first | (go_at_call 27; refine (num.SignedSquare_any _ _).mono ?_; rintro e w' ⟨rfl, rfl⟩) | (go_at_call 30; refine (num.sSignedSquare_any _ _).mono ?_; rintro e w' ⟨rfl, rfl⟩) | (go_at_call 28; refine (num.SignedRoot_any _ _).mono ?_; rintro e w' ⟨rfl, rfl⟩))
      go_ret
      exact ⟨rfl, hB.out⟩

set_option maxRecDepth 100000 in
theorem lifted (os : Os) (started : os.Started) (H : Type) (enc : TypeId × Value → H) :
    ReturnsInHanded {} Try.checked os 6 .any (Rows.fnSignedRootsSpec.pre6 enc Try.prog Try.f6 Rows.fnSignedRootsRow.domain false) (Rows.fnSignedRootsSpec.post enc Try.prog Try.f6 false true false false) := by
  refine returnsInHanded_of_change (C := Try.checked) own started (by kernel_rfl) Try.func6
    (ChangeSpec.witness6 (enc := enc) (C := Try.checked) false ⟨#[], #[.slice none 0 0], []⟩ 8 (by kernel_rfl) (by kernel_rfl) (by kernel_rfl) (by kernel_rfl)) ?_
  intro W base args ds gs before hval0 hW hcnd _
  have hval : ∀ (j : Nat) t v, Try.f6.params[j]? = some t → args[j]? = some v → Value.okWide Try.prog W .any base t v := hval0
  have hW' := hW
  obtain ⟨p, q, hA0, hV, rfl, hfz, hnd⟩ := hW
  have hA : DataW.TrodAll enc Try.prog W 0 (fun _ => true) true Try.f6.params.toList args.toList ds p := hA0
  rw [Try.params6] at hA hval
  obtain ⟨v0, vs0, d0, ds0, p0, q0, hargs, rfl, rfl, h0, r0⟩ := trodAll_cons hA
  obtain ⟨rfl, rfl, rfl⟩ := trodAll_nil r0
  obtain rfl : args = #[v0] := by cases args; simp_all
  obtain ⟨rfl, rfl⟩ := trodVars_none hV
  have hc := open_code (hval 0 22 v0 rfl rfl) h0
  refine (walk v0 W hc).mono fun e W' ⟨he, hg⟩ => ?_
  subst he
  exact ⟨_, rfl, law.law_post hW' hg laidOut (by kernel_rfl) rfl rfl (by kernel_rfl) Try.underlying4⟩

theorem over : Rows.fnSignedRootsRow.holds Try.pinned (OpenSpec.ofChange Rows.fnSignedRootsSpec) :=
  OpenClaim.holds_of_wide 6 Try.f6 rfl rfl rfl rfl rfl rfl rfl ⟨rfl, rfl, rfl, rfl, rfl⟩ rfl rfl rfl rfl rfl (by kernel_rfl) Try.func6 (by kernel_rfl)
    (of_decide_eq_true (by kernel_rfl)) (by unfold Func.isWrapper; first | (rw [if_pos (by decide +kernel)]; kernel_rfl) | (rw [if_neg (by decide +kernel)]; exact ⟨rfl, rfl⟩))
    (fun os started H enc _ => lifted os started H enc)

theorem proved : Rows.FnSignedRootsSaid :=
  over
#print axioms proved
end Go.Proofs.Ythijndeppniaoaa.fnSignedRoots
