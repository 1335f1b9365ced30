/-
  FnExactDropFor returns true at every argument, and leaves its arguments as they were. No condition.
-/
import Derived.Test.YtpgindeoiibgpaaRows
import Derived.Test.YtpgindeoiibgpaaLaw
import Derived.Test.YtpgindeoiibgpaaRsa
import Derived.WalkKit
import Derived.ProofKit
import Derived.OpenShut
import Derived.Lib.Hide
import Derived.Deep.QuietTactic
import Derived.BigQuiet
namespace Go.Proofs.Ytpgindeoiibgpaa.fnExactDropFor
open Go.ChangeShapes Go.WideShapes Go.ChangeAt Go.RowKit Go.Proofs.Ytpgindeoiibgpaa.mem
set_option linter.unusedVariables false

theorem own : ownKnob Try.prog.godebug = none := by kernel_rfl
theorem laidOut : laidOutB Try.prog = true := by kernel_rfl

set_option maxRecDepth 100000 in
set_option maxHeartbeats 20000000 in
theorem walk (a0 : Value) (a1 : Int) (w : World) (hc : IntsArg w a0) :
    Calls Try.prog 9 #[a0, .int .i64 a1] w fun e w' => e = .returned (.bool true) ∧ Below w.heap.size w w' := by
  obtain ⟨n, d, hn, hs⟩ := hc
  have hsl := hs
  obtain ⟨p, cap, rfl, hcell⟩ := hs
  clear hcell
  by_cases hbig : (1048576 : Int) < n
  · clear hsl
    go_enter Try.func9, Try.ntmps9
    go_wp2_with fail
    go_ret
    exact ⟨rfl, Below.refl _ _⟩
  have hn2 : n ≤ 2000000 := by omega
  have V0 := Lib.hid hsl
  clear hsl
  obtain ⟨ra, rc, agi, ags⟩ := rst.agreeDropFor n d a1 hn
  have GI := Lib.hid agi
  have GS := Lib.hid ags
  clear agi ags
  have hb1 : (ra != ra) = false := by simp
  have hb2 : (rc != rc) = false := by simp
  go_enter Try.func9, Try.ntmps9
  have B0 := Lib.hid (Below.refl w.heap.size w)
  go_wp2_with fail
  refine (copy_any _ _ n d _ _ V0.out hn2 (by omega)).mono ?_
  rintro e w1 ⟨rfl, r1, bb, zz1⟩
  replace zz1 := Nat.le_antisymm_iff.1 zz1
  obtain ⟨Sb, hSb⟩ : ∃ g, g = w.heap.size := ⟨_, rfl⟩
  rw [← hSb] at r1 zz1 ⊢
  replace hSb := Nat.le_antisymm_iff.1 hSb
  have hs1 := bb.size
  have B1 := Lib.hid (B0.out.trans (bb.mono (by omega)))
  have V1 := Lib.hid (V0.out.below bb (by omega))
  clear bb B0 V0
  have S1 := Lib.hid r1
  clear r1
  go_wp2_with fail
  refine (GS.out _ _ 0 w1.heap.size (S1.out.sl (Nat.zero_le _) (show Sb < w1.heap.size by omega)) (Nat.le_refl _)).mono ?_
  rintro e w2 ⟨rfl, bb⟩
  have hs2 := bb.size
  have B2 := Lib.hid (B1.out.trans (bb.mono (by omega)))
  have V2 := Lib.hid (V1.out.below bb (by omega))
  have S2 := Lib.hid (S1.out.below bb (by omega))
  clear bb B1 V1 S1
  clear S2
  go_wp2_with fail
  refine (copy_any _ _ n d _ _ V2.out hn2 (by omega)).mono ?_
  rintro e w3 ⟨rfl, r3, bb, zz3⟩
  replace zz3 := Nat.le_antisymm_iff.1 zz3
  obtain ⟨Rb, hRb⟩ : ∃ g, g = w2.heap.size := ⟨_, rfl⟩
  rw [← hRb] at r3 zz3 ⊢
  replace hRb := Nat.le_antisymm_iff.1 hRb
  have hs3 := bb.size
  have B3 := Lib.hid (B2.out.trans (bb.mono (by omega)))
  have V3 := Lib.hid (V2.out.below bb (by omega))
  clear bb B2 V2
  have R3 := Lib.hid r3
  clear r3
  go_wp2_with fail
  refine (GI.out _ _ 0 w3.heap.size (R3.out.sl (Nat.zero_le _) (show Rb < w3.heap.size by omega)) (Nat.le_refl _)).mono ?_
  rintro e w4 ⟨rfl, bb⟩
  have hs4 := bb.size
  have B4 := Lib.hid (B3.out.trans (bb.mono (by omega)))
  have V4 := Lib.hid (V3.out.below bb (by omega))
  have R4 := Lib.hid (R3.out.below bb (by omega))
  clear bb B3 V3 R3
  go_wp2_with fail
  refine (copy_any _ _ n d _ _ V4.out hn2 (by omega)).mono ?_
  rintro e w5 ⟨rfl, r5, bb, zz5⟩
  replace zz5 := Nat.le_antisymm_iff.1 zz5
  obtain ⟨Tb, hTb⟩ : ∃ g, g = w4.heap.size := ⟨_, rfl⟩
  rw [← hTb] at r5 zz5 ⊢
  replace hTb := Nat.le_antisymm_iff.1 hTb
  have hs5 := bb.size
  have B5 := Lib.hid (B4.out.trans (bb.mono (by omega)))
  have V5 := Lib.hid (V4.out.below bb (by omega))
  have R5 := Lib.hid (R4.out.below bb (by omega))
  clear bb B4 V4 R4
  have T5 := Lib.hid r5
  clear r5
  go_wp2_with fail
  refine (eq_all _ _ _ n d _ _ _ _ (R5.out.sl (Nat.zero_le _) (show Rb < w5.heap.size by omega)) (T5.out.sl (Nat.zero_le _) (show Tb < w5.heap.size by omega)) (by omega)).mono ?_
  rintro e w6 ⟨rfl, bq, zq6⟩
  have bb := bq w5.heap.size
  clear bq
  have hs6 := bb.size
  have B6 := Lib.hid (B5.out.trans (bb.mono (by omega)))
  have V6 := Lib.hid (V5.out.below bb (by omega))
  have R6 := Lib.hid (R5.out.below bb (by omega))
  have T6 := Lib.hid (T5.out.below bb (by omega))
  clear bb B5 V5 R5 T5
  clear T6
  go_wp2_with fail
  go_ret
  exact ⟨rfl, B6.out⟩

set_option maxRecDepth 100000 in
theorem lifted (os : Os) (started : os.Started) (H : Type) (enc : TypeId × Value → H) :
    ReturnsInHanded {} Try.checked os 9 .any (Rows.fnExactDropForSpec.pre6 enc Try.prog Try.f9 Rows.fnExactDropForRow.domain false) (Rows.fnExactDropForSpec.post enc Try.prog Try.f9 false true false false) := by
  refine returnsInHanded_of_change (C := Try.checked) own started (by kernel_rfl) Try.func9
    (ChangeSpec.witness6 (enc := enc) (C := Try.checked) false ⟨#[], #[.slice none 0 0, .int .i64 0], []⟩ 8 (by kernel_rfl) (by kernel_rfl) (by kernel_rfl) (by kernel_rfl)) ?_
  intro W base args ds gs before hval0 hW hcnd _
  have hval : ∀ (j : Nat) t v, Try.f9.params[j]? = some t → args[j]? = some v → Value.okWide Try.prog W .any base t v := hval0
  have hW' := hW
  obtain ⟨p, q, hA0, hV, rfl, hfz, hnd⟩ := hW
  have hA : DataW.TrodAll enc Try.prog W 0 (fun _ => true) true Try.f9.params.toList args.toList ds p := hA0
  rw [Try.params9] at hA hval
  obtain ⟨v0, vs0, d0, ds0, p0, q0, hargs, rfl, rfl, h0, r0⟩ := trodAll_cons hA
  obtain ⟨v1, vs1, d1, ds1, p1, q1, rfl, rfl, rfl, h1, r1⟩ := trodAll_cons r0
  obtain ⟨rfl, rfl, rfl⟩ := trodAll_nil r1
  obtain rfl : args = #[v0, v1] := by cases args; simp_all
  obtain ⟨rfl, rfl⟩ := trodVars_none hV
  have hc := open_ints64 (hval 0 24 v0 rfl rfl) h0
  obtain ⟨a1, rfl, rfl, rfl, w1⟩ := open_int Try.underlying2 (hval 1 2 v1 rfl rfl) h1
  refine (walk v0 a1 W hc).mono fun e W' ⟨he, hg⟩ => ?_
  subst he
  exact ⟨_, rfl, law.law_post hW' hg laidOut (by kernel_rfl) rfl rfl (by kernel_rfl) Try.underlying4⟩

theorem over : Rows.fnExactDropForRow.holds Try.pinned (OpenSpec.ofChange Rows.fnExactDropForSpec) :=
  OpenClaim.holds_of_wide 9 Try.f9 rfl rfl rfl rfl rfl rfl rfl ⟨rfl, rfl, rfl, rfl, rfl⟩ rfl rfl rfl rfl rfl (by kernel_rfl) Try.func9 (by kernel_rfl)
    (of_decide_eq_true (by kernel_rfl)) (by unfold Func.isWrapper; first | (rw [if_pos (by decide +kernel)]; kernel_rfl) | (rw [if_neg (by decide +kernel)]; exact ⟨rfl, rfl⟩))
    (fun os started H enc _ => lifted os started H enc)

theorem proved : Rows.FnExactDropForSaid :=
  over
#print axioms proved
end Go.Proofs.Ytpgindeoiibgpaa.fnExactDropFor
