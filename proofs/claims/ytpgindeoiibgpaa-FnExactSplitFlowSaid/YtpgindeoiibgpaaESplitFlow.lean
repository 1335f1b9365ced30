/-
  FnExactSplitFlow returns true at every argument, and leaves its arguments as they were. No condition.
-/
import Derived.Test.YtpgindeoiibgpaaRows
import Derived.Test.YtpgindeoiibgpaaLaw
import Derived.Test.YtpgindeoiibgpaaRsa
import Derived.WalkKit
import Derived.ProofKit
import Derived.OpenShut
import Derived.Lib.Hide
import Derived.Deep.QuietTactic
import Derived.BigQuiet
namespace Go.Proofs.Ytpgindeoiibgpaa.fnExactSplitFlow
open Go.ChangeShapes Go.WideShapes Go.ChangeAt Go.RowKit Go.Proofs.Ytpgindeoiibgpaa.mem
set_option linter.unusedVariables false

theorem own : ownKnob Try.prog.godebug = none := by kernel_rfl
theorem laidOut : laidOutB Try.prog = true := by kernel_rfl

set_option maxRecDepth 100000 in
set_option maxHeartbeats 20000000 in
theorem walk (a0 : Value) (a1 : Int) (w : World) (hc : IntsArg w a0) :
    Calls Try.prog 10 #[a0, .int .i64 a1] w fun e w' => e = .returned (.bool true) ∧ Below w.heap.size w w' := by
  obtain ⟨n, d, hn, hs⟩ := hc
  have hsl := hs
  obtain ⟨p, cap, rfl, hcell⟩ := hs
  clear hcell
  by_cases hbig : (1048576 : Int) < n
  · clear hsl
    go_enter Try.func10, Try.ntmps10
    go_wp2_with fail
    go_ret
    exact ⟨rfl, Below.refl _ _⟩
  have hn2 : n ≤ 2000000 := by omega
  have V0 := Lib.hid hsl
  clear hsl
  obtain ⟨N, S, rc, hN64, agi, ags⟩ := rst.agreeSplitFlow n d a1 hn
  have GI := Lib.hid agi
  have GS := Lib.hid ags
  clear agi ags
  have hb2 : (rc != rc) = false := by simp
  go_enter Try.func10, Try.ntmps10
  have B0 := Lib.hid (Below.refl w.heap.size w)
  go_wp2_with fail
  refine (copy_any _ _ n d _ _ V0.out hn2 (by omega)).mono ?_
  rintro e w1 ⟨rfl, r1, bb, zz1⟩
  replace zz1 := Nat.le_antisymm_iff.1 zz1
  obtain ⟨Sb, hSb⟩ : ∃ g, g = w.heap.size := ⟨_, rfl⟩
  rw [← hSb] at r1 zz1 ⊢
  replace hSb := Nat.le_antisymm_iff.1 hSb
  have hs1 := bb.size
  have B1 := Lib.hid (B0.out.trans (bb.mono (by omega)))
  have V1 := Lib.hid (V0.out.below bb (by omega))
  clear bb B0 V0
  have S1 := Lib.hid r1
  clear r1
  go_wp2_with fail
  refine (GS.out _ _ 0 w1.heap.size (S1.out.sl (Nat.zero_le _) (show Sb < w1.heap.size by omega)) (Nat.le_refl _)).mono ?_
  rintro e w2 ⟨vW, Wb, rfl, bb, hWb, Wr⟩
  obtain ⟨Wp, Wc, rfl⟩ := Wr.shape
  have hWl := Wr.lt
  have hs2 := bb.size
  have B2 := Lib.hid (B1.out.trans (bb.mono (by omega)))
  have V2 := Lib.hid (V1.out.below bb (by omega))
  have S2 := Lib.hid (S1.out.below bb (by omega))
  clear bb B1 V1 S1
  have W2 := Lib.hid Wr
  clear Wr
  clear S2
  go_wp2_with fail
  refine (copy_any _ _ n d _ _ V2.out hn2 (by omega)).mono ?_
  rintro e w3 ⟨rfl, r3, bb, zz3⟩
  replace zz3 := Nat.le_antisymm_iff.1 zz3
  obtain ⟨Rb, hRb⟩ : ∃ g, g = w2.heap.size := ⟨_, rfl⟩
  rw [← hRb] at r3 zz3 ⊢
  replace hRb := Nat.le_antisymm_iff.1 hRb
  have hs3 := bb.size
  have B3 := Lib.hid (B2.out.trans (bb.mono (by omega)))
  have V3 := Lib.hid (V2.out.below bb (by omega))
  have W3 := Lib.hid (W2.out.below bb (Nat.le_refl _))
  clear bb B2 V2 W2
  have R3 := Lib.hid r3
  clear r3
  go_wp2_with fail
  refine (GI.out _ _ 0 w3.heap.size (R3.out.sl (Nat.zero_le _) (show Rb < w3.heap.size by omega)) (Nat.le_refl _)).mono ?_
  rintro e w4 ⟨vG, Gb, rfl, bb, hGb, Gr⟩
  obtain ⟨Gp, Gc, rfl⟩ := Gr.shape
  have hGl := Gr.lt
  have hs4 := bb.size
  have B4 := Lib.hid (B3.out.trans (bb.mono (by omega)))
  have V4 := Lib.hid (V3.out.below bb (by omega))
  have W4 := Lib.hid (W3.out.below bb (Nat.le_refl _))
  have R4 := Lib.hid (R3.out.below bb (by omega))
  clear bb B3 V3 W3 R3
  have G4 := Lib.hid Gr
  clear Gr
  go_wp2_with fail
  refine (eq_all _ _ _ N S _ _ _ _ G4.out.sl W4.out.sl (by omega)).mono ?_
  rintro e w5 ⟨rfl, bq, zq5⟩
  have bb := bq w4.heap.size
  clear bq
  have hs5 := bb.size
  have B5 := Lib.hid (B4.out.trans (bb.mono (by omega)))
  have V5 := Lib.hid (V4.out.below bb (by omega))
  have W5 := Lib.hid (W4.out.below bb (Nat.le_refl _))
  have R5 := Lib.hid (R4.out.below bb (by omega))
  have G5 := Lib.hid (G4.out.below bb (Nat.le_refl _))
  clear bb B4 V4 W4 R4 G4
  go_wp2_with fail
  refine (copy_any _ _ n d _ _ V5.out hn2 (by omega)).mono ?_
  rintro e w6 ⟨rfl, r6, bb, zz6⟩
  replace zz6 := Nat.le_antisymm_iff.1 zz6
  obtain ⟨Tb, hTb⟩ : ∃ g, g = w5.heap.size := ⟨_, rfl⟩
  rw [← hTb] at r6 zz6 ⊢
  replace hTb := Nat.le_antisymm_iff.1 hTb
  have hs6 := bb.size
  have B6 := Lib.hid (B5.out.trans (bb.mono (by omega)))
  have V6 := Lib.hid (V5.out.below bb (by omega))
  have W6 := Lib.hid (W5.out.below bb (Nat.le_refl _))
  have R6 := Lib.hid (R5.out.below bb (by omega))
  have G6 := Lib.hid (G5.out.below bb (Nat.le_refl _))
  clear bb B5 V5 W5 R5 G5
  have T6 := Lib.hid r6
  clear r6
  go_wp2_with fail
  refine (eq_all _ _ _ n d _ _ _ _ (R6.out.sl (Nat.zero_le _) (show Rb < w6.heap.size by omega)) (T6.out.sl (Nat.zero_le _) (show Tb < w6.heap.size by omega)) (by omega)).mono ?_
  rintro e w7 ⟨rfl, bq, zq7⟩
  have bb := bq w6.heap.size
  clear bq
  have hs7 := bb.size
  have B7 := Lib.hid (B6.out.trans (bb.mono (by omega)))
  have V7 := Lib.hid (V6.out.below bb (by omega))
  have W7 := Lib.hid (W6.out.below bb (Nat.le_refl _))
  have R7 := Lib.hid (R6.out.below bb (by omega))
  have G7 := Lib.hid (G6.out.below bb (Nat.le_refl _))
  have T7 := Lib.hid (T6.out.below bb (by omega))
  clear bb B6 V6 W6 R6 G6 T6
  clear T7
  go_wp2_with fail
  refine (mark_any _ Rb n n d 1 R7.out hn2 (by omega) (by omega)).mono ?_
  rintro e w8 ⟨rfl, rM, bb⟩
  clear rM
  clear R7
  have hs8 := Nat.le_of_eq bb.size
  have hz8 := Nat.le_of_eq bb.size.symm
  have B8 := Lib.hid (B7.out.trans (bb.below (by omega)))
  have V8 := Lib.hid (V7.out.below (bb.below (B := w.heap.size) (by omega)) (Nat.le_refl _))
  have W8 := Lib.hid (W7.out.only bb (by omega))
  have G8 := Lib.hid (G7.out.only bb (by omega))
  clear bb B7 V7 W7 G7
  have hk0 : ¬ ((1 : Int) + n < 0) := by omega
  go_wp2_with fail
  refine (eq_all _ _ _ N S _ _ _ _ G8.out.sl W8.out.sl (by omega)).mono ?_
  rintro e w9 ⟨rfl, bq, zq9⟩
  have bb := bq w8.heap.size
  clear bq
  have hs9 := bb.size
  have B9 := Lib.hid (B8.out.trans (bb.mono (by omega)))
  have V9 := Lib.hid (V8.out.below bb (by omega))
  have W9 := Lib.hid (W8.out.below bb (Nat.le_refl _))
  have G9 := Lib.hid (G8.out.below bb (Nat.le_refl _))
  clear bb B8 V8 W8 G8
  go_wp2_with fail
  refine (mark_res _ _ N Gb S 1 G9.out (by omega) (by omega) (by omega)).mono ?_
  rintro e w10 ⟨rfl, gM, bb⟩
  clear G9
  have hs10 := Nat.le_of_eq bb.size
  have hz10 := Nat.le_of_eq bb.size.symm
  have B10 := Lib.hid (B9.out.trans (bb.below (by omega)))
  have V10 := Lib.hid (V9.out.below (bb.below (B := w.heap.size) (by omega)) (Nat.le_refl _))
  have W10 := Lib.hid (W9.out.only bb (by omega))
  clear bb B9 V9 W9
  have G10 := Lib.hid gM
  clear gM
  have hq0 : ¬ ((1 : Int) + N < 0) := by omega
  go_wp2_with fail
  refine (held_any _ _ N 1 _ _ G10.out.sl (by omega) (by omega) (by omega)).mono ?_
  rintro e w' ⟨rfl, hww⟩
  subst hww
  go_wp2_with fail
  refine (copy_any _ _ n d _ _ V10.out hn2 (by omega)).mono ?_
  rintro e w11 ⟨rfl, r11, bb, zz11⟩
  replace zz11 := Nat.le_antisymm_iff.1 zz11
  obtain ⟨Qb, hQb⟩ : ∃ g, g = w10.heap.size := ⟨_, rfl⟩
  rw [← hQb] at r11 zz11 ⊢
  replace hQb := Nat.le_antisymm_iff.1 hQb
  have hs11 := bb.size
  have B11 := Lib.hid (B10.out.trans (bb.mono (by omega)))
  have V11 := Lib.hid (V10.out.below bb (by omega))
  have W11 := Lib.hid (W10.out.below bb (Nat.le_refl _))
  have G11 := Lib.hid (G10.out.below bb (Nat.le_refl _))
  clear bb B10 V10 W10 G10
  have Q11 := Lib.hid r11
  clear r11
  go_wp2_with fail
  refine (GI.out _ _ 0 w11.heap.size (Q11.out.sl (Nat.zero_le _) (show Qb < w11.heap.size by omega)) (Nat.le_refl _)).mono ?_
  rintro e w12 ⟨vH, Hb, rfl, bb, hHb, Hr⟩
  obtain ⟨Hp, Hc, rfl⟩ := Hr.shape
  have hHl := Hr.lt
  have hs12 := bb.size
  have B12 := Lib.hid (B11.out.trans (bb.mono (by omega)))
  have V12 := Lib.hid (V11.out.below bb (by omega))
  have W12 := Lib.hid (W11.out.below bb (Nat.le_refl _))
  have G12 := Lib.hid (G11.out.below bb (Nat.le_refl _))
  have Q12 := Lib.hid (Q11.out.below bb (by omega))
  clear bb B11 V11 W11 G11 Q11
  have H12 := Lib.hid Hr
  clear Hr
  clear Q12
  go_wp2_with fail
  refine (eq_all _ _ _ N S _ _ _ _ H12.out.sl W12.out.sl (by omega)).mono ?_
  rintro e w13 ⟨rfl, bq, zq13⟩
  have bb := bq w12.heap.size
  clear bq
  have hs13 := bb.size
  have B13 := Lib.hid (B12.out.trans (bb.mono (by omega)))
  have V13 := Lib.hid (V12.out.below bb (by omega))
  have W13 := Lib.hid (W12.out.below bb (Nat.le_refl _))
  have G13 := Lib.hid (G12.out.below bb (Nat.le_refl _))
  have H13 := Lib.hid (H12.out.below bb (Nat.le_refl _))
  clear bb B12 V12 W12 G12 H12
  clear H13
  go_wp2_with fail
  refine (held_any _ _ N 1 _ _ G13.out.sl (by omega) (by omega) (by omega)).mono ?_
  rintro e w' ⟨rfl, hww⟩
  subst hww
  go_wp2_with fail
  go_ret
  exact ⟨rfl, B13.out⟩

set_option maxRecDepth 100000 in
theorem lifted (os : Os) (started : os.Started) (H : Type) (enc : TypeId × Value → H) :
    ReturnsInHanded {} Try.checked os 10 .any (Rows.fnExactSplitFlowSpec.pre6 enc Try.prog Try.f10 Rows.fnExactSplitFlowRow.domain false) (Rows.fnExactSplitFlowSpec.post enc Try.prog Try.f10 false true false false) := by
  refine returnsInHanded_of_change (C := Try.checked) own started (by kernel_rfl) Try.func10
    (ChangeSpec.witness6 (enc := enc) (C := Try.checked) false ⟨#[], #[.slice none 0 0, .int .i64 0], []⟩ 8 (by kernel_rfl) (by kernel_rfl) (by kernel_rfl) (by kernel_rfl)) ?_
  intro W base args ds gs before hval0 hW hcnd _
  have hval : ∀ (j : Nat) t v, Try.f10.params[j]? = some t → args[j]? = some v → Value.okWide Try.prog W .any base t v := hval0
  have hW' := hW
  obtain ⟨p, q, hA0, hV, rfl, hfz, hnd⟩ := hW
  have hA : DataW.TrodAll enc Try.prog W 0 (fun _ => true) true Try.f10.params.toList args.toList ds p := hA0
  rw [Try.params10] at hA hval
  obtain ⟨v0, vs0, d0, ds0, p0, q0, hargs, rfl, rfl, h0, r0⟩ := trodAll_cons hA
  obtain ⟨v1, vs1, d1, ds1, p1, q1, rfl, rfl, rfl, h1, r1⟩ := trodAll_cons r0
  obtain ⟨rfl, rfl, rfl⟩ := trodAll_nil r1
  obtain rfl : args = #[v0, v1] := by cases args; simp_all
  obtain ⟨rfl, rfl⟩ := trodVars_none hV
  have hc := open_ints64 (hval 0 24 v0 rfl rfl) h0
  obtain ⟨a1, rfl, rfl, rfl, w1⟩ := open_int Try.underlying2 (hval 1 2 v1 rfl rfl) h1
  refine (walk v0 a1 W hc).mono fun e W' ⟨he, hg⟩ => ?_
  subst he
  exact ⟨_, rfl, law.law_post hW' hg laidOut (by kernel_rfl) rfl rfl (by kernel_rfl) Try.underlying4⟩

theorem over : Rows.fnExactSplitFlowRow.holds Try.pinned (OpenSpec.ofChange Rows.fnExactSplitFlowSpec) :=
  OpenClaim.holds_of_wide 10 Try.f10 rfl rfl rfl rfl rfl rfl rfl ⟨rfl, rfl, rfl, rfl, rfl⟩ rfl rfl rfl rfl rfl (by kernel_rfl) Try.func10 (by kernel_rfl)
    (of_decide_eq_true (by kernel_rfl)) (by unfold Func.isWrapper; first | (rw [if_pos (by decide +kernel)]; kernel_rfl) | (rw [if_neg (by decide +kernel)]; exact ⟨rfl, rfl⟩))
    (fun os started H enc _ => lifted os started H enc)

theorem proved : Rows.FnExactSplitFlowSaid :=
  over
#print axioms proved
end Go.Proofs.Ytpgindeoiibgpaa.fnExactSplitFlow
