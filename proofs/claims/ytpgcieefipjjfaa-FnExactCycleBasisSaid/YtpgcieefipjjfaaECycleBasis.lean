/-
  FnExactCycleBasis returns true at every argument, and leaves its arguments as they were. No condition.
-/
import Derived.Test.YtpgcieefipjjfaaRows
import Derived.Test.YtpgcieefipjjfaaNetX
import Derived.Test.YtpgcieefipjjfaaCsz
import Derived.WalkKit
import Derived.ProofKit
import Derived.OpenShut
import Derived.ChangeMaps5
import Derived.Lib.Hide
import Derived.Deep.RegionHeld3
import Derived.OwnWalk

namespace Go.Proofs.Ytpgcieefipjjfaa.fnExactCycleBasis
open Go.ChangeShapes Go.WideShapes Go.ChangeAt Go.RowKit Go.Proofs.Ytpgcieefipjjfaa.mem
set_option linter.unusedVariables false

theorem own : ownKnob Try.prog.godebug = none := by kernel_rfl
theorem laidOut : laidOutB Try.prog = true := by kernel_rfl

set_option maxRecDepth 100000 in
set_option maxHeartbeats 20000000 in
theorem walk (v : Value) (w : World) (hc : NetArg w v) :
    Calls Try.prog 3 #[v] w fun e w' => e = .returned (.bool true) ∧ Below w.heap.size w w' := by
  obtain ⟨n, N, m, P, V0, hN⟩ := hc
  obtain ⟨p0, c0, p1, c1, rfl⟩ := V0.shape
  have HV := Lib.hid V0
  have HN := Lib.hid hN
  clear V0 hN
  have A1 := boxed w (.slice p0 n c0) (.slice p1 m c1) 25
  have C1 : Below w.heap.size w _ := below_new w (.cells #[.slice p0 n c0, .slice p1 m c1] 25)
  have hs1 := C1.size
  go_enter Try.func3, Try.ntmps3
  go_wp2_with fail
  generalize hW1 : w.alloc (Obj.cells #[.slice p0 n c0, .slice p1 m c1] 25) = w1 at *
  clear hW1
  have lA := A1.lt
  refine (szNetwork_any _ _ n N m P 0 w.heap.size 1048576 (HV.out.below C1 (Nat.le_refl _)) hs1 (by omega) (by omega) HN.out).mono ?_
  rintro e w2 ⟨r, rfl, hr, bb⟩
  have hs2 := bb.size
  have A2 := A1.next bb
  have C2 := belowNext C1 bb
  clear bb A1 C1
  rcases hr with rfl | ⟨hr0, hr1, hr2⟩
  · go_wp2_with fail
    go_ret
    exact ⟨rfl, C2⟩
  have hn : n ≤ 2000000 := by omega
  have hm : m ≤ 2000000 := by omega
  clear hr1 hr2
  obtain ⟨rk, rm, rd, rc, hrk, hrm, _, agi, ags⟩ := agreeCycleBasis n N m P  HN.out hn hm
  have GI := Lib.hid agi
  have GS := Lib.hid ags
  clear agi ags
  have hb2 : (rc != rc) = false := by simp
  obtain ⟨qx, hqx⟩ : ∃ q, q = 1 + 3 * n + 5 * m := ⟨_, rfl⟩
  obtain ⟨qr, hqr⟩ : ∃ q, q = 1 + rk * rm := ⟨_, rfl⟩
  have hqx0 : ¬ ((qx : Int) < 0) := by omega
  have hqr0 : ¬ ((qr : Int) < 0) := by omega
  have hqr1 : ((qr : Int) != qr) = false := by simp
  have QX := Lib.hid hqx
  have QR := Lib.hid hqr
  clear hqx hqr
  have qA0 := A2.b0
  have qA1 := A2.b1
  have qA2 := A2.lt
  go_wp2_with fail
  refine (toNetwork_any _ _ n N m P 0 w.heap.size (HV.out.below C2 (Nat.le_refl _)) hn hm (by omega)).mono ?_
  rintro e w3 ⟨xt, gt1, gt2, rfl, ot, lt1, lt2, bb⟩
  have hs3 := bb.size
  have A3 := A2.next bb
  have C3 := belowNext C2 bb
  clear qA0 qA1 qA2
  clear bb A2 C2
  have lxt := ot.lts
  have qA0 := A3.b0
  have qA1 := A3.b1
  have qA2 := A3.lt
  go_wp2_with fail
  refine (GS.out _ _ ot.net).mono ?_
  rintro e w4 ⟨xW, rfl, obW, bb⟩
  have oW := obW.bs
  clear obW
  have hs4 := bb.size
  have A4 := A3.next bb
  have C4 := belowNext C3 bb
  have t4 := ot.next bb
  clear qA0 qA1 qA2
  clear bb A3 C3 ot
  clear t4
  have qA0 := A4.b0
  have qA1 := A4.b1
  have qA2 := A4.lt
  go_wp2_with fail
  refine (toNetwork_any _ _ n N m P 0 w.heap.size (HV.out.below C4 (Nat.le_refl _)) hn hm (by omega)).mono ?_
  rintro e w5 ⟨xx, gx1, gx2, rfl, ox, lx1, lx2, bb⟩
  have hs5 := bb.size
  have A5 := A4.next bb
  have C5 := belowNext C4 bb
  have W5 := oW.next bb
  clear qA0 qA1 qA2
  clear bb A4 C4 oW
  have lxx := ox.lts
  obtain ⟨sx1, sx2, sx3, sx4, rfl⟩ := ox.shape
  have qA0 := A5.b0
  have qA1 := A5.b1
  have qA2 := A5.lt
  go_wp2_with fail
  have bb := below_new w5 (.cells #[.slice sx1 n sx2, .slice sx3 m sx4] 33)
  have B_x := boxed w5 (.slice sx1 n sx2) (.slice sx3 m sx4) 33
  have hs6 := bb.size
  have A6 := A5.next bb
  have C6 := belowNext C5 bb
  have W6 := W5.next bb
  have x6 := ox.next bb
  clear qA0 qA1 qA2
  clear bb A5 C5 W5 ox
  generalize hW6 : w5.alloc (Obj.cells #[.slice sx1 n sx2, .slice sx3 m sx4] 33) = w6 at *
  clear hW6
  have Bx6 := B_x
  clear B_x
  have lBx := Bx6.lt
  refine (GI.out _ _ x6.net).mono ?_
  rintro e w7 ⟨xG, rfl, obG, bb⟩
  have oG := obG.bs
  clear obG
  have hs7 := bb.size
  have A7 := A6.next bb
  have C7 := belowNext C6 bb
  have W7 := W6.next bb
  have x7 := x6.next bb
  have Bx7 := Bx6.next bb
  clear bb A6 C6 W6 x6 Bx6
  have qA0 := A7.b0
  have qA1 := A7.b1
  have qA2 := A7.lt
  have qBx0 := Bx7.b0
  have qBx1 := Bx7.b1
  have qBx2 := Bx7.lt
  go_wp2_with fail
  refine (eqSS_any _ _ _ rk rm rd _ _ _ _ oG W7 hrk hrm).mono ?_
  rintro e w8 ⟨rfl, bb⟩
  have hs8 := bb.size
  have A8 := A7.next bb
  have C8 := belowNext C7 bb
  have W8 := W7.next bb
  have x8 := x7.next bb
  have Bx8 := Bx7.next bb
  have G8 := oG.next bb
  clear qA0 qA1 qA2 qBx0 qBx1 qBx2
  clear bb A7 C7 W7 x7 Bx7 oG
  have qA0 := A8.b0
  have qA1 := A8.b1
  have qA2 := A8.lt
  have qBx0 := Bx8.b0
  have qBx1 := Bx8.b1
  have qBx2 := Bx8.lt
  go_wp2_with fail
  go_region_held3 (fun w' => w'.cell? ⟨w.heap.size, 0, none⟩ = some (.slice p0 n c0) ∧ w'.cell? ⟨w.heap.size, 1, none⟩ = some (.slice p1 m c1) ∧ w'.cell? ⟨w5.heap.size, 0, none⟩ = some (.slice sx1 n sx2) ∧ w'.cell? ⟨w5.heap.size, 1, none⟩ = some (.slice sx3 m sx4)) (first | exact ⟨qA0, qA1, qBx0, qBx1⟩ | exact hold4 hb2 hsaA hsaX (hold4 hb1 qA2 qBx2 ⟨qA0, qA1, qBx0, qBx1⟩) | exact hold4 hb1 qA2 qBx2 ⟨qA0, qA1, qBx0, qBx1⟩)
    (first | (go_at_call 14; refine (toNetwork_any _ _ n N m P 0 w.heap.size (HV.out.below C8 (Nat.le_refl _)).drew hn hm (by simp; omega)).mono ?_; rintro e wa ⟨xy, gy1, gy2, rfl, oy, ly1, ly2, hb1⟩; have hsa := hb1.size; simp only [World.heap_drew] at hsa; have hsaA := Nat.lt_of_lt_of_le qA2 hsa; have hsaX := Nat.lt_of_lt_of_le qBx2 hsa) | (go_at_call 17; refine (eqNetwork_any _ _ _ n N m P 0 _ 0 _ (x8.drew.next hb1).net oy.net (Nat.le_refl _) (Nat.le_refl _)).mono ?_; rintro e wb ⟨rfl, hb2⟩))
  obtain ⟨w9, hwb⟩ : ∃ w', w' = wb := ⟨_, rfl⟩
  subst hwb
  have bb : Below w8.heap.size w8 w9 := below_dr0 (belowNext hb1 hb2)
  clear hb1 hb2 oy ly1 ly2 hsa hsaA hsaX
  have hs9 := bb.size
  have A9 := A8.next bb
  have C9 := belowNext C8 bb
  have W9 := W8.next bb
  have x9 := x8.next bb
  have Bx9 := Bx8.next bb
  have G9 := G8.next bb
  clear qA0 qA1 qA2 qBx0 qBx1 qBx2
  clear bb A8 C8 W8 x8 Bx8 G8
  have qA0 := A9.b0
  have qA1 := A9.b1
  have qA2 := A9.lt
  have qBx0 := Bx9.b0
  have qBx1 := Bx9.b1
  have qBx2 := Bx9.lt
  go_wp2_with fail
  refine (mark1N _ _ n m N P gx1 gx2 qx QX.out x9 hn hm).mono ?_
  rintro e w10 ⟨rfl, ox', bb⟩
  clear ox'
  clear x9 Bx9
  have hs10 := bb.size
  have A10 := A9.next_upd bb (by intro hx; rcases hx with ⟨_, hx⟩ | ⟨_, hx⟩; all_goals omega)
  have C10 := belowNextUpd C9 bb (by intro x hx; rcases hx with ⟨_, hx⟩ | ⟨_, hx⟩; all_goals omega)
  have W10 := W9.upd bb (by intro x hx; rcases hx with ⟨_, hx⟩ | ⟨_, hx⟩; all_goals omega)
  have G10 := G9.upd bb (by intro x hx; rcases hx with ⟨_, hx⟩ | ⟨_, hx⟩; all_goals omega)
  clear qA0 qA1 qA2 qBx0 qBx1 qBx2
  clear bb A9 C9 W9 G9
  have qA0 := A10.b0
  have qA1 := A10.b1
  have qA2 := A10.lt
  go_wp2_with fail
  refine (eqSS_any _ _ _ rk rm rd _ _ _ _ G10 W10 hrk hrm).mono ?_
  rintro e w11 ⟨rfl, bb⟩
  have hs11 := bb.size
  have A11 := A10.next bb
  have C11 := belowNext C10 bb
  have W11 := W10.next bb
  have G11 := G10.next bb
  clear qA0 qA1 qA2
  clear bb A10 C10 W10 G10
  have qA0 := A11.b0
  have qA1 := A11.b1
  have qA2 := A11.lt
  go_wp2_with fail
  refine (markSS_any _ _ rk rm rd _ _ G11 (by omega) hrk hrm qr QR.out).mono ?_
  rintro e w12 ⟨rfl, oG', bl⟩
  have hs12 := bl.size
  have A12 := A11.below bl (by omega)
  have C12 := C11.trans (bl.mono (by omega))
  have W12 := W11.below bl (by omega)
  clear qA0 qA1 qA2
  clear bl A11 C11 W11 G11
  have oM := oG'
  clear oG'
  have qA0 := A12.b0
  have qA1 := A12.b1
  have qA2 := A12.lt
  go_wp2_with fail
  refine (heldSS_any _ _ rk rm _ _ oM hrk hrm qr QR.out).mono ?_
  rintro e w13 ⟨rfl, bb⟩
  have hs13 := bb.size
  have A13 := A12.next bb
  have C13 := belowNext C12 bb
  have W13 := W12.next bb
  have M13 := oM.next bb
  clear qA0 qA1 qA2
  clear bb A12 C12 W12 oM
  have qA0 := A13.b0
  have qA1 := A13.b1
  have qA2 := A13.lt
  go_wp2_with fail
  refine (toNetwork_any _ _ n N m P 0 w.heap.size (HV.out.below C13 (Nat.le_refl _)) hn hm (by omega)).mono ?_
  rintro e w14 ⟨xt, gt1, gt2, rfl, ot, lt1, lt2, bb⟩
  have hs14 := bb.size
  have A14 := A13.next bb
  have C14 := belowNext C13 bb
  have W14 := W13.next bb
  have M14 := M13.next bb
  clear qA0 qA1 qA2
  clear bb A13 C13 W13 M13
  have lxt := ot.lts
  have qA0 := A14.b0
  have qA1 := A14.b1
  have qA2 := A14.lt
  go_wp2_with fail
  refine (GI.out _ _ ot.net).mono ?_
  rintro e w15 ⟨xH, rfl, obH, bb⟩
  have oH := obH.bs
  clear obH
  have hs15 := bb.size
  have A15 := A14.next bb
  have C15 := belowNext C14 bb
  have W15 := W14.next bb
  have M15 := M14.next bb
  have t15 := ot.next bb
  clear qA0 qA1 qA2
  clear bb A14 C14 W14 M14 ot
  clear t15
  have qA0 := A15.b0
  have qA1 := A15.b1
  have qA2 := A15.lt
  go_wp2_with fail
  refine (eqSS_any _ _ _ rk rm rd _ _ _ _ oH W15 hrk hrm).mono ?_
  rintro e w16 ⟨rfl, bb⟩
  have hs16 := bb.size
  have A16 := A15.next bb
  have C16 := belowNext C15 bb
  have W16 := W15.next bb
  have M16 := M15.next bb
  have H16 := oH.next bb
  clear qA0 qA1 qA2
  clear bb A15 C15 W15 M15 oH
  have qA0 := A16.b0
  have qA1 := A16.b1
  have qA2 := A16.lt
  go_wp2_with fail
  refine (heldSS_any _ _ rk rm _ _ M16 hrk hrm qr QR.out).mono ?_
  rintro e w17 ⟨rfl, bb⟩
  have hs17 := bb.size
  have A17 := A16.next bb
  have C17 := belowNext C16 bb
  have W17 := W16.next bb
  have M17 := M16.next bb
  have H17 := H16.next bb
  clear qA0 qA1 qA2
  clear bb A16 C16 W16 M16 H16
  go_wp2_with fail
  go_ret
  exact ⟨rfl, C17⟩

set_option maxRecDepth 100000 in
theorem lifted (os : Os) (started : os.Started) (H : Type) (enc : TypeId × Value → H) :
    ReturnsInHanded {} Try.checked os 3 .any (Rows.fnExactCycleBasisSpec.pre6 enc Try.prog Try.f3 Rows.fnExactCycleBasisRow.domain false) (Rows.fnExactCycleBasisSpec.post enc Try.prog Try.f3 false true false false) := by
  refine returnsInHanded_of_change (C := Try.checked) own started (by kernel_rfl) Try.func3
    (ChangeSpec.witness6 (enc := enc) (C := Try.checked) false ⟨#[], #[.agg #[.slice none 0 0, .slice none 0 0]], []⟩ 8 (by kernel_rfl) (by kernel_rfl) (by kernel_rfl) (by kernel_rfl)) ?_
  intro W base args ds gs before hval0 hW hcnd _
  have hval : ∀ (j : Nat) t v, Try.f3.params[j]? = some t → args[j]? = some v → Value.okWide Try.prog W .any base t v := hval0
  have hW' := hW
  obtain ⟨p, q, hA0, hV, rfl, hfz, hnd⟩ := hW
  have hA : DataW.TrodAll enc Try.prog W 0 (fun _ => true) true Try.f3.params.toList args.toList ds p := hA0
  rw [Try.params3] at hA hval
  obtain ⟨v0, vs0, d0, ds0, p0, q0, hargs, rfl, rfl, h0, r0⟩ := trodAll_cons hA
  obtain ⟨rfl, rfl, rfl⟩ := trodAll_nil r0
  obtain rfl : args = #[v0] := by cases args; simp_all
  obtain ⟨rfl, rfl⟩ := trodVars_none hV
  have hc := open_net (hval 0 25 v0 rfl rfl) h0
  refine (walk v0 W hc).mono fun e W' ⟨he, hg⟩ => ?_
  subst he
  exact ⟨_, rfl, law.law_post hW' hg laidOut (by kernel_rfl) rfl rfl (by kernel_rfl) Try.underlying4⟩

theorem over : Rows.fnExactCycleBasisRow.holds Try.pinned (OpenSpec.ofChange Rows.fnExactCycleBasisSpec) :=
  OpenClaim.holds_of_wide 3 Try.f3 rfl rfl rfl rfl rfl rfl rfl ⟨rfl, rfl, rfl, rfl, rfl⟩ rfl rfl rfl rfl rfl (by kernel_rfl) Try.func3 (by kernel_rfl)
    (of_decide_eq_true (by kernel_rfl)) (by unfold Func.isWrapper; first | (rw [if_pos (by decide +kernel)]; kernel_rfl) | (rw [if_neg (by decide +kernel)]; exact ⟨rfl, rfl⟩))
    (fun os started H enc _ => lifted os started H enc)

theorem proved : Rows.FnExactCycleBasisSaid :=
  over
#print axioms proved
end Go.Proofs.Ytpgcieefipjjfaa.fnExactCycleBasis
