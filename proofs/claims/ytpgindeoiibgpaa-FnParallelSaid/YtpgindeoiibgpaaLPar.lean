/-
  FnParallel returns true at every slice of bytes, and leaves it as it was. No condition.
-/
import Derived.Test.YtpgindeoiibgpaaRows
import Derived.Test.YtpgindeoiibgpaaLaw
import Derived.Test.YtpgindeoiibgpaaCode
import Derived.Test.YtpgindeoiibgpaaRsa
import Derived.Test.YtpgindeoiibgpaaRdw
import Derived.WalkKit
import Derived.ProofKit
import Derived.OpenShut
import Derived.Lib.Hide
import Derived.Deep.QuietTactic
import Derived.BigQuiet
import Derived.OwnWalk
import Derived.Outline
import Derived.Deep.RegionHeld3
import Derived.Deep.RegionHeldLaw
import Derived.IntWalk
namespace Go.Proofs.Ytpgindeoiibgpaa.fnParallel
open Go.ChangeShapes Go.WideShapes Go.ChangeAt Go.RowKit Go.Proofs.Ytpgindeoiibgpaa.draw Go.Proofs.Ytpgindeoiibgpaa.mem Go.Proofs.Ytpgindeoiibgpaa.num Go.Proofs.Ytpgindeoiibgpaa.share Go.Proofs.Ytpgindeoiibgpaa.rst
set_option linter.unusedVariables false

theorem own : ownKnob Try.prog.godebug = none := by kernel_rfl
theorem laidOut : laidOutB Try.prog = true := by kernel_rfl

set_option maxRecDepth 100000 in
set_option maxHeartbeats 20000000 in
theorem walk (v : Value) (w : World) (hc : CodeArg w v) :
    Calls Try.prog 3 #[v] w fun e w' => e = .returned (.bool true) ∧ Below w.heap.size w w' := by
  obtain ⟨p, len, cap, rfl, hlen, hcode⟩ := hc
  by_cases h4 : (4096 : Int) < len
  · clear hcode
    go_enter Try.func3, Try.ntmps3
    go_wp2_with (go_at_call 12; refine (draw.big_any _ _ _ _).mono ?_; rintro e w' ⟨rfl, rfl⟩)
    go_ret
    exact ⟨rfl, Below.refl _ _⟩
  have hc := hcode (by omega)
  clear hcode
  go_enter Try.func3, Try.ntmps3
  go_wp2_with (go_at_call 12; refine (draw.big_any _ _ _ _).mono ?_; rintro e w' ⟨rfl, rfl⟩)
  refine (draw.dropDraw w _ len hc).mono ?_
  rintro e w1 ⟨vR, f, n, d, g, rfl, hn, R1, lg, hf0, hf1, C1⟩
  clear hc
  obtain ⟨pR, cR, rfl⟩ := R1.shape
  obtain ⟨r, hr⟩ := rst.drop_ex n d f
  have HR := Lib.hid hr
  clear hr
  generalize hcd : rst.dropC n d f = c
  have HCD := Lib.hid hcd
  clear hcd
  have hb1 : (r != r) = false := by simp
  have hb2 : (c != c) = false := by simp
  go_wp2_with fail
  refine (rst.DropFor_any _ _ n d _ _ f r R1.sl (by omega) (Nat.le_refl _) HR.out).mono ?_
  rintro e w2 ⟨rfl, bb⟩
  rw [HCD.out]
  have hs2 := bb.size
  have C2 := belowNext C1 bb
  have R2 := R1.next bb
  clear bb C1 R1
  go_wp2_with fail
  refine (rst.sDropFor_any _ _ n d _ _ f r R2.sl (by omega) HR.out).mono ?_
  rintro e w' ⟨rfl, hww⟩
  subst hww
  rw [HCD.out]
  by_cases hrc : c = 0
  · subst hrc
    obtain ⟨n0, n8, hRe, ⟨f0, f1⟩, hI⟩ := rst.dropC_facts HCD.out HR.out
    have r0 := hI.ge
    have r1 := hI.le
    have hdv : f ≤ tot (fls d r) n := hI.drives hRe n0 ⟨f0, f1⟩
    have hsm := (rst.fls_sums hRe n8 r0 (show r ≤ 1000000000000000000 by omega)) n (Nat.le_refl _)
    have hcR := (rst.cod_facts HCD.out).1
    have PV := Lib.hid (rst.par_yes hcR (inR_iff.2 ⟨r0, show r ≤ 1000000000000000000 by omega⟩))
    have hd : decide (tot (fls d r) n < f) = false := by simpa using hdv
    have RE := Lib.hid hRe
    have HI := Lib.hid hI
    have HC0 := Lib.hid hcR
    clear hRe hI hcR
    go_wp2_with fail
    refine (rst.ParallelFlow_any _ _ n d _ _ (r) R2.sl (by omega) (Nat.le_refl _)).mono ?_
    rintro e w3 ⟨rfl, bb⟩
    rw [← PV.out.1, ← PV.out.2]
    have hs3 := bb.size
    have C3 := belowNext C2 bb
    have R3 := R2.next bb
    clear bb C2 R2
    by_cases hr0 : r = 0
    · have hrb : (r == 0) = true := by simpa using hr0
      have hff : (f == 0) = true := by
        have := rst.fls_zero d n
        rw [hr0, this] at hdv
        rw [beq_iff_eq]
        omega
      clear hr0
      go_wp2_with fail
      go_ret
      exact ⟨rfl, C3⟩
    · have hrb : (r == 0) = false := by simpa using hr0
      have hno : ¬ f ≤ tot (fls d (r - 1)) n := HI.out.no (r - 1) (by omega) (by omega)
      have PW := Lib.hid (rst.par_yes (x := r - 1) HC0.out (inR_iff.2 ⟨by omega, by omega⟩))
      have hd2 : decide (tot (fls d (r - 1)) n < f) = true := by simpa using hno
      clear hr0
      go_wp2_with fail
      refine (rst.ParallelFlow_any _ _ n d _ _ (r - 1) R3.sl (by omega) (Nat.le_refl _)).mono ?_
      rintro e w4 ⟨rfl, bb⟩
      rw [← PW.out.1, ← PW.out.2]
      have hs4 := bb.size
      have C4 := belowNext C3 bb
      have R4 := R3.next bb
      clear bb C3 R3
      go_wp2_with fail
      go_ret
      exact ⟨rfl, C4⟩
  · have hrc' : (c != 0) = true := by simpa using hrc
    go_wp2_with fail
    go_ret
    exact ⟨rfl, C2⟩

set_option maxRecDepth 100000 in
theorem lifted (os : Os) (started : os.Started) (H : Type) (enc : TypeId × Value → H) :
    ReturnsInHanded {} Try.checked os 3 .any (Rows.fnParallelSpec.pre6 enc Try.prog Try.f3 Rows.fnParallelRow.domain false) (Rows.fnParallelSpec.post enc Try.prog Try.f3 false true false false) := by
  refine returnsInHanded_of_change (C := Try.checked) own started (by kernel_rfl) Try.func3
    (ChangeSpec.witness6 (enc := enc) (C := Try.checked) false ⟨#[], #[.slice none 0 0], []⟩ 8 (by kernel_rfl) (by kernel_rfl) (by kernel_rfl) (by kernel_rfl)) ?_
  intro W base args ds gs before hval0 hW hcnd _
  have hval : ∀ (j : Nat) t v, Try.f3.params[j]? = some t → args[j]? = some v → Value.okWide Try.prog W .any base t v := hval0
  have hW' := hW
  obtain ⟨p, q, hA0, hV, rfl, hfz, hnd⟩ := hW
  have hA : DataW.TrodAll enc Try.prog W 0 (fun _ => true) true Try.f3.params.toList args.toList ds p := hA0
  rw [Try.params3] at hA hval
  obtain ⟨v0, vs0, d0, ds0, p0, q0, hargs, rfl, rfl, h0, r0⟩ := trodAll_cons hA
  obtain ⟨rfl, rfl, rfl⟩ := trodAll_nil r0
  obtain rfl : args = #[v0] := by cases args; simp_all
  obtain ⟨rfl, rfl⟩ := trodVars_none hV
  have hc := open_code (hval 0 22 v0 rfl rfl) h0
  refine (walk v0 W hc).mono fun e W' ⟨he, hg⟩ => ?_
  subst he
  exact ⟨_, rfl, law.law_post hW' hg laidOut (by kernel_rfl) rfl rfl (by kernel_rfl) Try.underlying4⟩

theorem over : Rows.fnParallelRow.holds Try.pinned (OpenSpec.ofChange Rows.fnParallelSpec) :=
  OpenClaim.holds_of_wide 3 Try.f3 rfl rfl rfl rfl rfl rfl rfl ⟨rfl, rfl, rfl, rfl, rfl⟩ rfl rfl rfl rfl rfl (by kernel_rfl) Try.func3 (by kernel_rfl)
    (of_decide_eq_true (by kernel_rfl)) (by unfold Func.isWrapper; first | (rw [if_pos (by decide +kernel)]; kernel_rfl) | (rw [if_neg (by decide +kernel)]; exact ⟨rfl, rfl⟩))
    (fun os started H enc _ => lifted os started H enc)

theorem proved : Rows.FnParallelSaid :=
  over
#print axioms proved
end Go.Proofs.Ytpgindeoiibgpaa.fnParallel
