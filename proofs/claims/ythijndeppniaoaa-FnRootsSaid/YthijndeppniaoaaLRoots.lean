/-
  FnRoots returns true at every slice of bytes, and leaves it as it was. No condition.
-/
import Derived.Test.YthijndeppniaoaaRows
import Derived.Test.YthijndeppniaoaaLaw
import Derived.Test.YthijndeppniaoaaCode
import Derived.Test.YthijndeppniaoaaDrawC
import Derived.Test.YthijndeppniaoaaNum
import Derived.WalkKit
import Derived.ProofKit
import Derived.OpenShut
import Derived.Lib.Hide
import Derived.Deep.QuietTactic
import Derived.BigQuiet
namespace Go.Proofs.Ythijndeppniaoaa.fnRoots
open Go.ChangeShapes Go.WideShapes Go.ChangeAt Go.RowKit Go.Proofs.Ythijndeppniaoaa.draw
set_option linter.unusedVariables false

theorem own : ownKnob Try.prog.godebug = none := by kernel_rfl
theorem laidOut : laidOutB Try.prog = true := by kernel_rfl

theorem root_facts {n : Int} (h : num.inR n 0 1000000000000000000 = true) : num.rootE n = 0 ∧ num.ssqE (num.rootV n) = 0 ∧ num.ssqV (num.rootV n) = num.root n * num.root n ∧ num.srootE (-n) = 0 ∧ num.srootV (-n) = -num.rootV n ∧ num.rootV n = num.root n := by
  have g := num.inR_iff.1 h
  have r := num.root_le g.1 g.2
  have e : num.rootV n = num.root n := by simp [num.rootV, h]
  have i1 : num.inR (num.root n) (-1000000000) 1000000000 = true := num.inR_iff.2 ⟨by omega, by omega⟩
  have i2 : num.inR (-n) (-1000000000000000000) 1000000000000000000 = true := num.inR_iff.2 ⟨by omega, by omega⟩
  refine ⟨by simp [num.rootE, h], by simp [num.ssqE, e, i1], ?_, by simp [num.srootE, i2], ?_, e⟩
  · rw [e]
    simp only [num.ssqV, i1, if_true, num.abs]
    rw [if_neg (by omega)]
  · rw [e]
    simp only [num.srootV, i2, if_true, num.sroot]
    split
    · rw [Int.neg_neg]
    · have : n = 0 := by omega
      subst this
      have := num.root_le (n := 0) (by omega) (by omega)
      have s := num.root_spec 0 (by omega)
      have : num.root 0 = 0 := by
        rcases Int.lt_or_le 0 (num.root 0) with h | h
        · have := Int.mul_pos h h
          omega
        · omega
      simp [this]

set_option maxHeartbeats 1000000 in
theorem walk (v : Value) (w : World) (hc : CodeArg w v) :
    Calls Try.prog 5 #[v] w fun e w' => e = .returned (.bool true) ∧ Below w.heap.size w w' := by
  obtain ⟨p, len, cap, rfl, hlen, hcode⟩ := hc
  by_cases h4 : (4096 : Int) < len
  · go_enter Try.func5, Try.ntmps5
    go_wp2_with (go_at_call 14; refine (big_any _ _ _ _).mono ?_; rintro e w' ⟨rfl, rfl⟩)
    go_ret
    exact ⟨rfl, Below.refl _ _⟩
  · have hc := hcode (by omega)
    clear hcode
    go_enter Try.func5, Try.ntmps5
    go_wp2_with (go_at_call 14; refine (big_any _ _ _ _).mono ?_; rintro e w' ⟨rfl, rfl⟩)
    refine (drawRootOf_any w _ len hc).mono ?_
    rintro e w1 ⟨n, rfl, ha, hbel⟩
    have hB := Lib.hid hbel
    clear hbel hc
    unfold I64 at ha
    cases hok : num.inR n 0 1000000000000000000
    · have e1 : num.rootE n = 2 := by simp [num.rootE, hok]
      go_wp2_with (first | (go_at_call 25; refine (num.RootOf_any _ _).mono ?_; rintro e w' ⟨rfl, rfl⟩) | (go_at_call 26; refine (num.sRootOf_any _ _).mono ?_; rintro e w' ⟨rfl, rfl⟩))
      go_ret
      exact ⟨rfl, hB.out⟩
    · obtain ⟨e1, e2, e3, e4, e5, e6⟩ := root_facts hok
      have g := num.inR_iff.1 hok
      have r := num.root_le g.1 g.2
      obtain ⟨s0, s1, s2⟩ := num.root_spec n g.1
      clear hok
      have k1 := num.sq_le (a := num.root n + 1) (b := 1000000001) (by omega) (by omega)
      have k0 := Int.mul_nonneg (show 0 ≤ num.root n + 1 by omega) (show 0 ≤ num.root n + 1 by omega)
      have e3' : num.ssqV (num.rootV n) ≤ n := by omega
      rw [← e6] at k0 k1 r s2
      clear e3 e6 s0 s1
      by_cases h9 : num.rootV n = 1000000000
      · have h9' : (num.rootV n == 1000000000) = true := beq_iff_eq.2 h9
        clear h9
        go_wp2_with (first | (go_at_call 25; refine (num.RootOf_any _ _).mono ?_; rintro e w' ⟨rfl, rfl⟩) | (go_at_call 26; refine (num.sRootOf_any _ _).mono ?_; rintro e w' ⟨rfl, rfl⟩) | (go_at_call 27; refine (num.SignedSquare_any _ _).mono ?_; rintro e w' ⟨rfl, rfl⟩) | (go_at_call 28; refine (num.SignedRoot_any _ _).mono ?_; rintro e w' ⟨rfl, rfl⟩))
        go_ret
        exact ⟨rfl, hB.out⟩
      · have h9' : (num.rootV n == 1000000000) = false := beq_eq_false_iff_ne.2 h9
        go_wp2_with (first | (go_at_call 25; refine (num.RootOf_any _ _).mono ?_; rintro e w' ⟨rfl, rfl⟩) | (go_at_call 26; refine (num.sRootOf_any _ _).mono ?_; rintro e w' ⟨rfl, rfl⟩) | (go_at_call 27; refine (num.SignedSquare_any _ _).mono ?_; rintro e w' ⟨rfl, rfl⟩) | (go_at_call 28; refine (num.SignedRoot_any _ _).mono ?_; rintro e w' ⟨rfl, rfl⟩))
        go_ret
        exact ⟨rfl, hB.out⟩

set_option maxRecDepth 100000 in
theorem lifted (os : Os) (started : os.Started) (H : Type) (enc : TypeId × Value → H) :
    ReturnsInHanded {} Try.checked os 5 .any (Rows.fnRootsSpec.pre6 enc Try.prog Try.f5 Rows.fnRootsRow.domain false) (Rows.fnRootsSpec.post enc Try.prog Try.f5 false true false false) := by
  refine returnsInHanded_of_change (C := Try.checked) own started (by kernel_rfl) Try.func5
    (ChangeSpec.witness6 (enc := enc) (C := Try.checked) false ⟨#[], #[.slice none 0 0], []⟩ 8 (by kernel_rfl) (by kernel_rfl) (by kernel_rfl) (by kernel_rfl)) ?_
  intro W base args ds gs before hval0 hW hcnd _
  have hval : ∀ (j : Nat) t v, Try.f5.params[j]? = some t → args[j]? = some v → Value.okWide Try.prog W .any base t v := hval0
  have hW' := hW
  obtain ⟨p, q, hA0, hV, rfl, hfz, hnd⟩ := hW
  have hA : DataW.TrodAll enc Try.prog W 0 (fun _ => true) true Try.f5.params.toList args.toList ds p := hA0
  rw [Try.params5] at hA hval
  obtain ⟨v0, vs0, d0, ds0, p0, q0, hargs, rfl, rfl, h0, r0⟩ := trodAll_cons hA
  obtain ⟨rfl, rfl, rfl⟩ := trodAll_nil r0
  obtain rfl : args = #[v0] := by cases args; simp_all
  obtain ⟨rfl, rfl⟩ := trodVars_none hV
  have hc := open_code (hval 0 22 v0 rfl rfl) h0
  refine (walk v0 W hc).mono fun e W' ⟨he, hg⟩ => ?_
  subst he
  exact ⟨_, rfl, law.law_post hW' hg laidOut (by kernel_rfl) rfl rfl (by kernel_rfl) Try.underlying4⟩

theorem over : Rows.fnRootsRow.holds Try.pinned (OpenSpec.ofChange Rows.fnRootsSpec) :=
  OpenClaim.holds_of_wide 5 Try.f5 rfl rfl rfl rfl rfl rfl rfl ⟨rfl, rfl, rfl, rfl, rfl⟩ rfl rfl rfl rfl rfl (by kernel_rfl) Try.func5 (by kernel_rfl)
    (of_decide_eq_true (by kernel_rfl)) (by unfold Func.isWrapper; first | (rw [if_pos (by decide +kernel)]; kernel_rfl) | (rw [if_neg (by decide +kernel)]; exact ⟨rfl, rfl⟩))
    (fun os started H enc _ => lifted os started H enc)

theorem proved : Rows.FnRootsSaid :=
  over
#print axioms proved
end Go.Proofs.Ythijndeppniaoaa.fnRoots
