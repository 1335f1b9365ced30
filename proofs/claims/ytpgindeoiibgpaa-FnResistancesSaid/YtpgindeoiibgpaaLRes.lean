/-
  FnResistances returns true at every slice of bytes, and leaves it as it was. No condition.
-/
import Derived.Test.YtpgindeoiibgpaaRows
import Derived.Test.YtpgindeoiibgpaaLaw
import Derived.Test.YtpgindeoiibgpaaCode
import Derived.Test.YtpgindeoiibgpaaRsa
import Derived.Test.YtpgindeoiibgpaaRdw
import Derived.WalkKit
import Derived.ProofKit
import Derived.OpenShut
import Derived.Lib.Hide
import Derived.Deep.QuietTactic
import Derived.BigQuiet
import Derived.OwnWalk
import Derived.Outline
import Derived.Deep.RegionHeld3
import Derived.Deep.RegionHeldLaw
import Derived.IntWalk
namespace Go.Proofs.Ytpgindeoiibgpaa.fnResistances
open Go.ChangeShapes Go.WideShapes Go.ChangeAt Go.RowKit Go.Proofs.Ytpgindeoiibgpaa.draw Go.Proofs.Ytpgindeoiibgpaa.mem Go.Proofs.Ytpgindeoiibgpaa.num Go.Proofs.Ytpgindeoiibgpaa.share Go.Proofs.Ytpgindeoiibgpaa.rst
set_option linter.unusedVariables false

theorem own : ownKnob Try.prog.godebug = none := by kernel_rfl
theorem laidOut : laidOutB Try.prog = true := by kernel_rfl

set_option maxRecDepth 100000 in
set_option maxHeartbeats 40000000 in
theorem walk (v : Value) (w : World) (hc : CodeArg w v) :
    Calls Try.prog 5 #[v] w fun e w' => e = .returned (.bool true) ∧ Below w.heap.size w w' := by
  obtain ⟨p, len, cap, rfl, hlen, hcode⟩ := hc
  by_cases h4 : (4096 : Int) < len
  · clear hcode
    go_enter Try.func5, Try.ntmps5
    go_wp2_with (go_at_call 12; refine (draw.big_any _ _ _ _).mono ?_; rintro e w' ⟨rfl, rfl⟩)
    go_ret
    exact ⟨rfl, Below.refl _ _⟩
  have hc := hcode (by omega)
  clear hcode
  go_enter Try.func5, Try.ntmps5
  go_wp2_with (go_at_call 12; refine (draw.big_any _ _ _ _).mono ?_; rintro e w' ⟨rfl, rfl⟩)
  refine (draw.bestDraw w _ len hc).mono ?_
  rintro e w1 ⟨f, x, rfl, hf0, hf1, hx0, hx1, C1⟩
  have HCO := Lib.hid hc
  clear hc
  obtain ⟨r, hr⟩ := rst.best_ex f x
  have HR := Lib.hid hr
  have hrge := hr.ge
  have hrle := hr.le
  clear hr
  generalize hcd : rst.bstC f x r = c
  have HCD := Lib.hid hcd
  clear hcd
  generalize hvd : rst.bstV f x r = k
  have HVD := Lib.hid hvd
  clear hvd
  have hb1 : (k != k) = false := by simp
  have hb2 : (c != c) = false := by simp
  go_wp2_with fail
  refine (rst.BestResistance_any f x r _ HR.out).mono ?_
  rintro e w2 ⟨rfl, bb⟩
  rw [HCD.out, HVD.out]
  have hs2 := bb.size
  have C2 := belowNext C1 bb
  clear bb C1
  go_wp2_with fail
  refine (rst.sBestResistance_any f x r _ HR.out).mono ?_
  rintro e w' ⟨rfl, hww⟩
  subst hww
  rw [HCD.out, HVD.out]
  by_cases hrc : c = 0
  · subst hrc
    obtain ⟨⟨f0, f1⟩, ⟨x0, x1⟩, hr1, hv⟩ := rst.bst_facts HCD.out
    have hkr : k = r - 1 := HVD.out.symm.trans hv
    replace hkr := Int.le_antisymm_iff.1 hkr
    clear hv
    have hok : f ≤ rst.flw k x := by
      have := HR.out.no k (by omega) (by omega)
      unfold rst.Tgr at this
      omega
    have hokd : decide (rst.flw k x < f) = false := by simpa using hok
    have FV := Lib.hid (rst.flow_yes (k := k) (x := x) ⟨by omega, by omega⟩ ⟨x0, x1⟩)
    go_wp2_with fail
    refine (rst.FlowFor_any (k) (x) _).mono ?_
    rintro e w3 ⟨rfl, bb⟩
    rw [← FV.out.1, ← FV.out.2]
    have hs3 := bb.size
    have C3 := belowNext C2 bb
    clear bb C2
    by_cases hkt : k < 1000
    · have hlt : rst.flw (k + 1) x < f := by
        have := HR.out.yes (by omega)
        unfold rst.Tgr at this
        rw [show k + 1 = r by omega]
        exact this
      have hltd : decide (f ≤ rst.flw (k + 1) x) = false := by simpa using hlt
      have FW := Lib.hid (rst.flow_yes (k := k + 1) (x := x) ⟨by omega, by omega⟩ ⟨x0, x1⟩)
      go_wp2_with fail
      refine (rst.FlowFor_any (k + 1) (x) _).mono ?_
      rintro e w4 ⟨rfl, bb⟩
      rw [← FW.out.1, ← FW.out.2]
      have hs4 := bb.size
      have C4 := belowNext C3 bb
      clear bb C3
      go_wp2_with fail
      refine (draw.parDraw _ _ len (codeUp C4 (codeAt_below HCO.out C4))).mono ?_
      rintro e w5 ⟨vL, z, n, d, g, rfl, hn, L1, lg, hz0, hz1, bb⟩
      have hs5 := bb.size
      have C5 := belowNext C4 bb
      clear bb C4
      obtain ⟨pL, cL, rfl⟩ := L1.shape
      generalize hsv : rst.serV n d = sv
      have HSV := Lib.hid hsv
      clear hsv
      generalize hsc : rst.codR n d = sc
      have HSC := Lib.hid hsc
      clear hsc
      generalize hpv : rst.parV n d z = pv
      have HPV := Lib.hid hpv
      clear hpv
      generalize hpc : rst.parC n d z = pc
      have HPC := Lib.hid hpc
      clear hpc
      have hb3 : (sv != sv) = false := by simp
      have hb4 : (sc != sc) = false := by simp
      have hb5 : (pv != pv) = false := by simp
      have hb6 : (pc != pc) = false := by simp
      go_wp2_with fail
      refine (rst.SeriesOf_any _ _ n d _ _ L1.sl (by omega)).mono ?_
      rintro e w' ⟨rfl, hww⟩
      subst hww
      rw [HSV.out, HSC.out]
      go_wp2_with fail
      refine (rst.sSeriesOf_any _ _ n d _ _ L1.sl (by omega)).mono ?_
      rintro e w' ⟨rfl, hww⟩
      subst hww
      rw [HSV.out, HSC.out]
      go_wp2_with fail
      refine (rst.ParallelFlow_any _ _ n d _ _ z L1.sl (by omega) (Nat.le_refl _)).mono ?_
      rintro e w6 ⟨rfl, bb⟩
      rw [HPV.out, HPC.out]
      have hs6 := bb.size
      have C6 := belowNext C5 bb
      have L6 := L1.next bb
      clear bb C5 L1
      go_wp2_with fail
      refine (rst.sParallelFlow_any _ _ n d _ _ z L6.sl (by omega)).mono ?_
      rintro e w' ⟨rfl, hww⟩
      subst hww
      rw [HPV.out, HPC.out]
      clear L6
      go_wp2_with fail
      refine (rst.FlowFor_any sv z _).mono ?_
      rintro e w7 ⟨rfl, bb⟩
      have hs7 := bb.size
      have C7 := belowNext C6 bb
      clear bb C6
      generalize hfv : rst.flV sv z = fv
      generalize hfc : rst.flC sv z = fc
      by_cases hpc0 : pc = 0
      · have hpb : (pc != 0) = false := by simpa using hpc0
        by_cases hfc0 : fc = 0
        · have hfb : (fc != 0) = false := by simpa using hfc0
          have hle : fv ≤ pv := by
            rw [← hfv, ← HPV.out, ← HSV.out]
            exact rst.series_less (HPC.out.trans hpc0) (by rw [HSV.out]; exact hfc.trans hfc0)
          have hled : decide (fv ≤ pv) = true := by simpa using hle
          clear hfv hfc hpc0 hfc0
          go_wp2_with fail
          go_ret
          exact ⟨rfl, C7⟩
        · have hfb : (fc != 0) = true := by simpa using hfc0
          clear hfv hfc hpc0 hfc0
          go_wp2_with fail
          go_ret
          exact ⟨rfl, C7⟩
      · have hpb : (pc != 0) = true := by simpa using hpc0
        clear hfv hfc hpc0
        go_wp2_with fail
        go_ret
        exact ⟨rfl, C7⟩
    · have FW := Lib.hid (rst.flow_no (k := k + 1) (x := x) (inR_no.2 (.inr (by omega))))
      go_wp2_with fail
      refine (rst.FlowFor_any (k + 1) (x) _).mono ?_
      rintro e w4 ⟨rfl, bb⟩
      rw [← FW.out.1, ← FW.out.2]
      have hs4 := bb.size
      have C4 := belowNext C3 bb
      clear bb C3
      go_wp2_with fail
      refine (draw.parDraw _ _ len (codeUp C4 (codeAt_below HCO.out C4))).mono ?_
      rintro e w5 ⟨vL, z, n, d, g, rfl, hn, L1, lg, hz0, hz1, bb⟩
      have hs5 := bb.size
      have C5 := belowNext C4 bb
      clear bb C4
      obtain ⟨pL, cL, rfl⟩ := L1.shape
      generalize hsv : rst.serV n d = sv
      have HSV := Lib.hid hsv
      clear hsv
      generalize hsc : rst.codR n d = sc
      have HSC := Lib.hid hsc
      clear hsc
      generalize hpv : rst.parV n d z = pv
      have HPV := Lib.hid hpv
      clear hpv
      generalize hpc : rst.parC n d z = pc
      have HPC := Lib.hid hpc
      clear hpc
      have hb3 : (sv != sv) = false := by simp
      have hb4 : (sc != sc) = false := by simp
      have hb5 : (pv != pv) = false := by simp
      have hb6 : (pc != pc) = false := by simp
      go_wp2_with fail
      refine (rst.SeriesOf_any _ _ n d _ _ L1.sl (by omega)).mono ?_
      rintro e w' ⟨rfl, hww⟩
      subst hww
      rw [HSV.out, HSC.out]
      go_wp2_with fail
      refine (rst.sSeriesOf_any _ _ n d _ _ L1.sl (by omega)).mono ?_
      rintro e w' ⟨rfl, hww⟩
      subst hww
      rw [HSV.out, HSC.out]
      go_wp2_with fail
      refine (rst.ParallelFlow_any _ _ n d _ _ z L1.sl (by omega) (Nat.le_refl _)).mono ?_
      rintro e w6 ⟨rfl, bb⟩
      rw [HPV.out, HPC.out]
      have hs6 := bb.size
      have C6 := belowNext C5 bb
      have L6 := L1.next bb
      clear bb C5 L1
      go_wp2_with fail
      refine (rst.sParallelFlow_any _ _ n d _ _ z L6.sl (by omega)).mono ?_
      rintro e w' ⟨rfl, hww⟩
      subst hww
      rw [HPV.out, HPC.out]
      clear L6
      go_wp2_with fail
      refine (rst.FlowFor_any sv z _).mono ?_
      rintro e w7 ⟨rfl, bb⟩
      have hs7 := bb.size
      have C7 := belowNext C6 bb
      clear bb C6
      generalize hfv : rst.flV sv z = fv
      generalize hfc : rst.flC sv z = fc
      by_cases hpc0 : pc = 0
      · have hpb : (pc != 0) = false := by simpa using hpc0
        by_cases hfc0 : fc = 0
        · have hfb : (fc != 0) = false := by simpa using hfc0
          have hle : fv ≤ pv := by
            rw [← hfv, ← HPV.out, ← HSV.out]
            exact rst.series_less (HPC.out.trans hpc0) (by rw [HSV.out]; exact hfc.trans hfc0)
          have hled : decide (fv ≤ pv) = true := by simpa using hle
          clear hfv hfc hpc0 hfc0
          go_wp2_with fail
          go_ret
          exact ⟨rfl, C7⟩
        · have hfb : (fc != 0) = true := by simpa using hfc0
          clear hfv hfc hpc0 hfc0
          go_wp2_with fail
          go_ret
          exact ⟨rfl, C7⟩
      · have hpb : (pc != 0) = true := by simpa using hpc0
        clear hfv hfc hpc0
        go_wp2_with fail
        go_ret
        exact ⟨rfl, C7⟩
  · have hrc' : (c == 0) = false := by simpa using hrc
    go_wp2_with fail
    refine (draw.parDraw _ _ len (codeUp C2 (codeAt_below HCO.out C2))).mono ?_
    rintro e w3 ⟨vL, z, n, d, g, rfl, hn, L1, lg, hz0, hz1, bb⟩
    have hs3 := bb.size
    have C3 := belowNext C2 bb
    clear bb C2
    obtain ⟨pL, cL, rfl⟩ := L1.shape
    generalize hsv : rst.serV n d = sv
    have HSV := Lib.hid hsv
    clear hsv
    generalize hsc : rst.codR n d = sc
    have HSC := Lib.hid hsc
    clear hsc
    generalize hpv : rst.parV n d z = pv
    have HPV := Lib.hid hpv
    clear hpv
    generalize hpc : rst.parC n d z = pc
    have HPC := Lib.hid hpc
    clear hpc
    have hb3 : (sv != sv) = false := by simp
    have hb4 : (sc != sc) = false := by simp
    have hb5 : (pv != pv) = false := by simp
    have hb6 : (pc != pc) = false := by simp
    go_wp2_with fail
    refine (rst.SeriesOf_any _ _ n d _ _ L1.sl (by omega)).mono ?_
    rintro e w' ⟨rfl, hww⟩
    subst hww
    rw [HSV.out, HSC.out]
    go_wp2_with fail
    refine (rst.sSeriesOf_any _ _ n d _ _ L1.sl (by omega)).mono ?_
    rintro e w' ⟨rfl, hww⟩
    subst hww
    rw [HSV.out, HSC.out]
    go_wp2_with fail
    refine (rst.ParallelFlow_any _ _ n d _ _ z L1.sl (by omega) (Nat.le_refl _)).mono ?_
    rintro e w4 ⟨rfl, bb⟩
    rw [HPV.out, HPC.out]
    have hs4 := bb.size
    have C4 := belowNext C3 bb
    have L4 := L1.next bb
    clear bb C3 L1
    go_wp2_with fail
    refine (rst.sParallelFlow_any _ _ n d _ _ z L4.sl (by omega)).mono ?_
    rintro e w' ⟨rfl, hww⟩
    subst hww
    rw [HPV.out, HPC.out]
    clear L4
    go_wp2_with fail
    refine (rst.FlowFor_any sv z _).mono ?_
    rintro e w5 ⟨rfl, bb⟩
    have hs5 := bb.size
    have C5 := belowNext C4 bb
    clear bb C4
    generalize hfv : rst.flV sv z = fv
    generalize hfc : rst.flC sv z = fc
    by_cases hpc0 : pc = 0
    · have hpb : (pc != 0) = false := by simpa using hpc0
      by_cases hfc0 : fc = 0
      · have hfb : (fc != 0) = false := by simpa using hfc0
        have hle : fv ≤ pv := by
          rw [← hfv, ← HPV.out, ← HSV.out]
          exact rst.series_less (HPC.out.trans hpc0) (by rw [HSV.out]; exact hfc.trans hfc0)
        have hled : decide (fv ≤ pv) = true := by simpa using hle
        clear hfv hfc hpc0 hfc0
        go_wp2_with fail
        go_ret
        exact ⟨rfl, C5⟩
      · have hfb : (fc != 0) = true := by simpa using hfc0
        clear hfv hfc hpc0 hfc0
        go_wp2_with fail
        go_ret
        exact ⟨rfl, C5⟩
    · have hpb : (pc != 0) = true := by simpa using hpc0
      clear hfv hfc hpc0
      go_wp2_with fail
      go_ret
      exact ⟨rfl, C5⟩

set_option maxRecDepth 100000 in
theorem lifted (os : Os) (started : os.Started) (H : Type) (enc : TypeId × Value → H) :
    ReturnsInHanded {} Try.checked os 5 .any (Rows.fnResistancesSpec.pre6 enc Try.prog Try.f5 Rows.fnResistancesRow.domain false) (Rows.fnResistancesSpec.post enc Try.prog Try.f5 false true false false) := by
  refine returnsInHanded_of_change (C := Try.checked) own started (by kernel_rfl) Try.func5
    (ChangeSpec.witness6 (enc := enc) (C := Try.checked) false ⟨#[], #[.slice none 0 0], []⟩ 8 (by kernel_rfl) (by kernel_rfl) (by kernel_rfl) (by kernel_rfl)) ?_
  intro W base args ds gs before hval0 hW hcnd _
  have hval : ∀ (j : Nat) t v, Try.f5.params[j]? = some t → args[j]? = some v → Value.okWide Try.prog W .any base t v := hval0
  have hW' := hW
  obtain ⟨p, q, hA0, hV, rfl, hfz, hnd⟩ := hW
  have hA : DataW.TrodAll enc Try.prog W 0 (fun _ => true) true Try.f5.params.toList args.toList ds p := hA0
  rw [Try.params5] at hA hval
  obtain ⟨v0, vs0, d0, ds0, p0, q0, hargs, rfl, rfl, h0, r0⟩ := trodAll_cons hA
  obtain ⟨rfl, rfl, rfl⟩ := trodAll_nil r0
  obtain rfl : args = #[v0] := by cases args; simp_all
  obtain ⟨rfl, rfl⟩ := trodVars_none hV
  have hc := open_code (hval 0 22 v0 rfl rfl) h0
  refine (walk v0 W hc).mono fun e W' ⟨he, hg⟩ => ?_
  subst he
  exact ⟨_, rfl, law.law_post hW' hg laidOut (by kernel_rfl) rfl rfl (by kernel_rfl) Try.underlying4⟩

theorem over : Rows.fnResistancesRow.holds Try.pinned (OpenSpec.ofChange Rows.fnResistancesSpec) :=
  OpenClaim.holds_of_wide 5 Try.f5 rfl rfl rfl rfl rfl rfl rfl ⟨rfl, rfl, rfl, rfl, rfl⟩ rfl rfl rfl rfl rfl (by kernel_rfl) Try.func5 (by kernel_rfl)
    (of_decide_eq_true (by kernel_rfl)) (by unfold Func.isWrapper; first | (rw [if_pos (by decide +kernel)]; kernel_rfl) | (rw [if_neg (by decide +kernel)]; exact ⟨rfl, rfl⟩))
    (fun os started H enc _ => lifted os started H enc)

theorem proved : Rows.FnResistancesSaid :=
  over
#print axioms proved
end Go.Proofs.Ytpgindeoiibgpaa.fnResistances
