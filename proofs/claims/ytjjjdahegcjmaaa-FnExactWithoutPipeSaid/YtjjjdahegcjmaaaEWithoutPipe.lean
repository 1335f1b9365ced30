/-
  FnExactWithoutPipe returns true at every argument, and leaves its arguments as they were. No condition.
-/
import Derived.Test.YtjjjdahegcjmaaaRows
import Derived.Test.YtjjjdahegcjmaaaNetX
import Derived.Test.YtjjjdahegcjmaaaNetX
import Derived.Test.YtjjjdahegcjmaaaNetWQ
import Derived.WalkKit
import Derived.ProofKit
import Derived.OpenShut
import Derived.ChangeMaps5
import Derived.Lib.Hide
import Derived.Deep.RegionHeld3
import Derived.OwnWalk
namespace Go.Proofs.Ytjjjdahegcjmaaa.fnExactWithoutPipe
open Go.ChangeShapes Go.WideShapes Go.ChangeAt Go.RowKit Go.Proofs.Ytjjjdahegcjmaaa.mem
set_option linter.unusedVariables false

theorem own : ownKnob Try.prog.godebug = none := by kernel_rfl
theorem laidOut : laidOutB Try.prog = true := by kernel_rfl

set_option maxRecDepth 100000 in
set_option maxHeartbeats 20000000 in
theorem walk (v : Value) (a1 : Int) (w : World) (hc : NetArg w v) :
    Calls Try.prog 3 #[v, .int .i64 a1] w fun e w' => e = .returned (.bool true) ∧ Below w.heap.size w w' := by
  obtain ⟨n, N, m, P, V0, hN⟩ := hc
  obtain ⟨p0, c0, p1, c1, rfl⟩ := V0.shape
  have HV := Lib.hid V0
  have HN := Lib.hid hN
  clear V0 hN
  have A1 := boxed w (.slice p0 n c0) (.slice p1 m c1) 25
  have C1 : Below w.heap.size w _ := below_new w (.cells #[.slice p0 n c0, .slice p1 m c1] 25)
  have hs1 := C1.size
  go_enter Try.func3, Try.ntmps3
  go_wp2_with fail
  generalize hW1 : w.alloc (Obj.cells #[.slice p0 n c0, .slice p1 m c1] 25) = w1 at *
  clear hW1
  have lA := A1.lt
  refine (szNetwork_any _ _ n N m P 0 w.heap.size 1048576 (HV.out.below C1 (Nat.le_refl _)) hs1 (by omega) (by omega) HN.out).mono ?_
  rintro e w2 ⟨r, rfl, hr, bb⟩
  have hs2 := bb.size
  have A2 := A1.next bb
  have C2 := belowNext C1 bb
  clear bb A1 C1
  rcases hr with rfl | ⟨hr0, hr1, hr2⟩
  · go_wp2_with fail
    go_ret
    exact ⟨rfl, C2⟩
  have hn : n ≤ 2000000 := by omega
  have hm : m ≤ 2000000 := by omega
  clear hr1 hr2
  obtain ⟨rn, rN, rm, rP, rc, hrn, hrm, agi, ags⟩ := agreeWithoutPipe n N m P a1 HN.out hn hm
  have GI := Lib.hid agi
  have GS := Lib.hid ags
  clear agi ags
  have hb2 : (rc != rc) = false := by simp
  obtain ⟨qx, hqx⟩ : ∃ q, q = 1 + 3 * n + 5 * m := ⟨_, rfl⟩
  obtain ⟨qr, hqr⟩ : ∃ q, q = 1 + 3 * rn + 5 * rm := ⟨_, rfl⟩
  have hqx0 : ¬ ((qx : Int) < 0) := by omega
  have hqr0 : ¬ ((qr : Int) < 0) := by omega
  have hqr1 : ((qr : Int) != qr) = false := by simp
  have QX := Lib.hid hqx
  have QR := Lib.hid hqr
  clear hqx hqr
  have qA0 := A2.b0
  have qA1 := A2.b1
  have qA2 := A2.lt
  go_wp2_with fail
  refine (toNetwork_any _ _ n N m P 0 w.heap.size (HV.out.below C2 (Nat.le_refl _)) hn hm (by omega)).mono ?_
  rintro e w3 ⟨xt, gt1, gt2, rfl, ot, lt1, lt2, bb⟩
  have hs3 := bb.size
  have A3 := A2.next bb
  have C3 := belowNext C2 bb
  clear qA0 qA1 qA2
  clear bb A2 C2
  have lxt := ot.lts
  have qA0 := A3.b0
  have qA1 := A3.b1
  have qA2 := A3.lt
  go_wp2_with fail
  refine (GS.out _ _ ot.net).mono ?_
  rintro e w4 ⟨xW, gW1, gW2, rfl, oW, lW1, lW2, bb⟩
  have hs4 := bb.size
  have A4 := A3.next bb
  have C4 := belowNext C3 bb
  have t4 := ot.next bb
  clear qA0 qA1 qA2
  clear bb A3 C3 ot
  have lxW := oW.lts
  obtain ⟨sW1, sW2, sW3, sW4, rfl⟩ := oW.shape
  clear t4
  have qA0 := A4.b0
  have qA1 := A4.b1
  have qA2 := A4.lt
  go_wp2_with fail
  have bb := below_new w4 (.cells #[.slice sW1 rn sW2, .slice sW3 rm sW4] 30)
  have B_W := boxed w4 (.slice sW1 rn sW2) (.slice sW3 rm sW4) 30
  have hs5 := bb.size
  have A5 := A4.next bb
  have C5 := belowNext C4 bb
  have W5 := oW.next bb
  clear qA0 qA1 qA2
  clear bb A4 C4 oW
  generalize hW5 : w4.alloc (Obj.cells #[.slice sW1 rn sW2, .slice sW3 rm sW4] 30) = w5 at *
  clear hW5
  have BW5 := B_W
  clear B_W
  have lBW := BW5.lt
  refine (toNetwork_any _ _ n N m P 0 w.heap.size (HV.out.below C5 (Nat.le_refl _)) hn hm (by omega)).mono ?_
  rintro e w6 ⟨xx, gx1, gx2, rfl, ox, lx1, lx2, bb⟩
  have hs6 := bb.size
  have A6 := A5.next bb
  have C6 := belowNext C5 bb
  have W6 := W5.next bb
  have BW6 := BW5.next bb
  clear bb A5 C5 W5 BW5
  have lxx := ox.lts
  obtain ⟨sx1, sx2, sx3, sx4, rfl⟩ := ox.shape
  have qA0 := A6.b0
  have qA1 := A6.b1
  have qA2 := A6.lt
  have qBW0 := BW6.b0
  have qBW1 := BW6.b1
  have qBW2 := BW6.lt
  go_wp2_with fail
  have bb := below_new w6 (.cells #[.slice sx1 n sx2, .slice sx3 m sx4] 30)
  have B_x := boxed w6 (.slice sx1 n sx2) (.slice sx3 m sx4) 30
  have hs7 := bb.size
  have A7 := A6.next bb
  have C7 := belowNext C6 bb
  have W7 := W6.next bb
  have BW7 := BW6.next bb
  have x7 := ox.next bb
  clear qA0 qA1 qA2 qBW0 qBW1 qBW2
  clear bb A6 C6 W6 BW6 ox
  generalize hW7 : w6.alloc (Obj.cells #[.slice sx1 n sx2, .slice sx3 m sx4] 30) = w7 at *
  clear hW7
  have Bx7 := B_x
  clear B_x
  have lBx := Bx7.lt
  refine (GI.out _ _ x7.net).mono ?_
  rintro e w8 ⟨xG, gG1, gG2, rfl, oG, lG1, lG2, bb⟩
  have hs8 := bb.size
  have A8 := A7.next bb
  have C8 := belowNext C7 bb
  have W8 := W7.next bb
  have BW8 := BW7.next bb
  have x8 := x7.next bb
  have Bx8 := Bx7.next bb
  clear bb A7 C7 W7 BW7 x7 Bx7
  have lxG := oG.lts
  obtain ⟨sG1, sG2, sG3, sG4, rfl⟩ := oG.shape
  have qA0 := A8.b0
  have qA1 := A8.b1
  have qA2 := A8.lt
  have qBW0 := BW8.b0
  have qBW1 := BW8.b1
  have qBW2 := BW8.lt
  have qBx0 := Bx8.b0
  have qBx1 := Bx8.b1
  have qBx2 := Bx8.lt
  go_wp2_with fail
  have bb := below_new w8 (.cells #[.slice sG1 rn sG2, .slice sG3 rm sG4] 30)
  have B_G := boxed w8 (.slice sG1 rn sG2) (.slice sG3 rm sG4) 30
  have hs9 := bb.size
  have A9 := A8.next bb
  have C9 := belowNext C8 bb
  have W9 := W8.next bb
  have BW9 := BW8.next bb
  have x9 := x8.next bb
  have Bx9 := Bx8.next bb
  have G9 := oG.next bb
  clear qA0 qA1 qA2 qBW0 qBW1 qBW2 qBx0 qBx1 qBx2
  clear bb A8 C8 W8 BW8 x8 Bx8 oG
  generalize hW9 : w8.alloc (Obj.cells #[.slice sG1 rn sG2, .slice sG3 rm sG4] 30) = w9 at *
  clear hW9
  have BG9 := B_G
  clear B_G
  have lBG := BG9.lt
  refine (eqNetwork_any _ _ _ rn rN rm rP 0 w9.heap.size 0 w9.heap.size G9.net W9.net (Nat.le_refl _) (Nat.le_refl _)).mono ?_
  rintro e w10 ⟨rfl, bb⟩
  have hs10 := bb.size
  have A10 := A9.next bb
  have C10 := belowNext C9 bb
  have W10 := W9.next bb
  have BW10 := BW9.next bb
  have x10 := x9.next bb
  have Bx10 := Bx9.next bb
  have G10 := G9.next bb
  have BG10 := BG9.next bb
  clear bb A9 C9 W9 BW9 x9 Bx9 G9 BG9
  have qA0 := A10.b0
  have qA1 := A10.b1
  have qA2 := A10.lt
  have qBW0 := BW10.b0
  have qBW1 := BW10.b1
  have qBW2 := BW10.lt
  have qBx0 := Bx10.b0
  have qBx1 := Bx10.b1
  have qBx2 := Bx10.lt
  have qBG0 := BG10.b0
  have qBG1 := BG10.b1
  have qBG2 := BG10.lt
  go_wp2_with fail
  go_region_held3 (fun w' => w'.cell? ⟨w.heap.size, 0, none⟩ = some (.slice p0 n c0) ∧ w'.cell? ⟨w.heap.size, 1, none⟩ = some (.slice p1 m c1) ∧ w'.cell? ⟨w6.heap.size, 0, none⟩ = some (.slice sx1 n sx2) ∧ w'.cell? ⟨w6.heap.size, 1, none⟩ = some (.slice sx3 m sx4)) (first | exact ⟨qA0, qA1, qBx0, qBx1⟩ | exact hold4 hb2 hsaA hsaX (hold4 hb1 qA2 qBx2 ⟨qA0, qA1, qBx0, qBx1⟩) | exact hold4 hb1 qA2 qBx2 ⟨qA0, qA1, qBx0, qBx1⟩)
    (first | (go_at_call 17; refine (toNetwork_any _ _ n N m P 0 w.heap.size (HV.out.below C10 (Nat.le_refl _)).drew hn hm (by simp; omega)).mono ?_; rintro e wa ⟨xy, gy1, gy2, rfl, oy, ly1, ly2, hb1⟩; have hsa := hb1.size; simp only [World.heap_drew] at hsa; have hsaA := Nat.lt_of_lt_of_le qA2 hsa; have hsaX := Nat.lt_of_lt_of_le qBx2 hsa) | (go_at_call 19; refine (eqNetwork_any _ _ _ n N m P 0 _ 0 _ (x10.drew.next hb1).net oy.net (Nat.le_refl _) (Nat.le_refl _)).mono ?_; rintro e wb ⟨rfl, hb2⟩))
  obtain ⟨w11, hwb⟩ : ∃ w', w' = wb := ⟨_, rfl⟩
  subst hwb
  have bb : Below w10.heap.size w10 w11 := below_dr0 (belowNext hb1 hb2)
  clear hb1 hb2 oy ly1 ly2 hsa hsaA hsaX
  have hs11 := bb.size
  have A11 := A10.next bb
  have C11 := belowNext C10 bb
  have W11 := W10.next bb
  have BW11 := BW10.next bb
  have x11 := x10.next bb
  have Bx11 := Bx10.next bb
  have G11 := G10.next bb
  have BG11 := BG10.next bb
  clear qA0 qA1 qA2 qBW0 qBW1 qBW2 qBx0 qBx1 qBx2 qBG0 qBG1 qBG2
  clear bb A10 C10 W10 BW10 x10 Bx10 G10 BG10
  have qA0 := A11.b0
  have qA1 := A11.b1
  have qA2 := A11.lt
  have qBW0 := BW11.b0
  have qBW1 := BW11.b1
  have qBW2 := BW11.lt
  have qBx0 := Bx11.b0
  have qBx1 := Bx11.b1
  have qBx2 := Bx11.lt
  have qBG0 := BG11.b0
  have qBG1 := BG11.b1
  have qBG2 := BG11.lt
  go_wp2_with fail
  refine (mark1N _ _ n m N P gx1 gx2 qx QX.out x11 hn hm).mono ?_
  rintro e w12 ⟨rfl, ox', bb⟩
  clear ox'
  clear x11 Bx11
  have hs12 := bb.size
  have A12 := A11.next_upd bb (by intro hx; rcases hx with ⟨_, hx⟩ | ⟨_, hx⟩; all_goals omega)
  have C12 := belowNextUpd C11 bb (by intro x hx; rcases hx with ⟨_, hx⟩ | ⟨_, hx⟩; all_goals omega)
  have W12 := W11.next_upd bb (by refine ⟨?_, ?_⟩; (rcases Nat.eq_zero_or_pos rn with h0 | h0; exact .inl h0; exact .inr (by intro hx; rcases hx with ⟨_, hx⟩ | ⟨_, hx⟩; all_goals omega)); (rcases Nat.eq_zero_or_pos rm with h0 | h0; exact .inl h0; exact .inr (by intro hx; rcases hx with ⟨_, hx⟩ | ⟨_, hx⟩; all_goals omega)))
  have BW12 := BW11.next_upd bb (by intro hx; rcases hx with ⟨_, hx⟩ | ⟨_, hx⟩; all_goals omega)
  have G12 := G11.next_upd bb (by refine ⟨?_, ?_⟩; (rcases Nat.eq_zero_or_pos rn with h0 | h0; exact .inl h0; exact .inr (by intro hx; rcases hx with ⟨_, hx⟩ | ⟨_, hx⟩; all_goals omega)); (rcases Nat.eq_zero_or_pos rm with h0 | h0; exact .inl h0; exact .inr (by intro hx; rcases hx with ⟨_, hx⟩ | ⟨_, hx⟩; all_goals omega)))
  have BG12 := BG11.next_upd bb (by intro hx; rcases hx with ⟨_, hx⟩ | ⟨_, hx⟩; all_goals omega)
  clear qA0 qA1 qA2 qBW0 qBW1 qBW2 qBx0 qBx1 qBx2 qBG0 qBG1 qBG2
  clear bb A11 C11 W11 BW11 G11 BG11
  have qA0 := A12.b0
  have qA1 := A12.b1
  have qA2 := A12.lt
  have qBW0 := BW12.b0
  have qBW1 := BW12.b1
  have qBW2 := BW12.lt
  have qBG0 := BG12.b0
  have qBG1 := BG12.b1
  have qBG2 := BG12.lt
  go_wp2_with fail
  refine (eqNetwork_any _ _ _ rn rN rm rP 0 w12.heap.size 0 w12.heap.size G12.net W12.net (Nat.le_refl _) (Nat.le_refl _)).mono ?_
  rintro e w13 ⟨rfl, bb⟩
  have hs13 := bb.size
  have A13 := A12.next bb
  have C13 := belowNext C12 bb
  have W13 := W12.next bb
  have BW13 := BW12.next bb
  have G13 := G12.next bb
  have BG13 := BG12.next bb
  clear qA0 qA1 qA2 qBW0 qBW1 qBW2 qBG0 qBG1 qBG2
  clear bb A12 C12 W12 BW12 G12 BG12
  have qA0 := A13.b0
  have qA1 := A13.b1
  have qA2 := A13.lt
  have qBW0 := BW13.b0
  have qBW1 := BW13.b1
  have qBW2 := BW13.lt
  have qBG0 := BG13.b0
  have qBG1 := BG13.b1
  have qBG2 := BG13.lt
  go_wp2_with fail
  refine (mark1N _ _ rn rm rN rP gG1 gG2 qr QR.out G13 hrn hrm).mono ?_
  rintro e w14 ⟨rfl, oG', bb⟩
  clear G13
  have hs14 := bb.size
  have A14 := A13.next_upd bb (by intro hx; rcases hx with ⟨_, hx⟩ | ⟨_, hx⟩; all_goals omega)
  have C14 := belowNextUpd C13 bb (by intro x hx; rcases hx with ⟨_, hx⟩ | ⟨_, hx⟩; all_goals omega)
  have W14 := W13.next_upd bb (by refine ⟨?_, ?_⟩; (rcases Nat.eq_zero_or_pos rn with h0 | h0; exact .inl h0; exact .inr (by intro hx; rcases hx with ⟨_, hx⟩ | ⟨_, hx⟩; all_goals omega)); (rcases Nat.eq_zero_or_pos rm with h0 | h0; exact .inl h0; exact .inr (by intro hx; rcases hx with ⟨_, hx⟩ | ⟨_, hx⟩; all_goals omega)))
  have BW14 := BW13.next_upd bb (by intro hx; rcases hx with ⟨_, hx⟩ | ⟨_, hx⟩; all_goals omega)
  have BG14 := BG13.next_upd bb (by intro hx; rcases hx with ⟨_, hx⟩ | ⟨_, hx⟩; all_goals omega)
  clear qA0 qA1 qA2 qBW0 qBW1 qBW2 qBG0 qBG1 qBG2
  clear bb A13 C13 W13 BW13 BG13
  have oM := oG'
  clear oG'
  have qA0 := A14.b0
  have qA1 := A14.b1
  have qA2 := A14.lt
  have qBW0 := BW14.b0
  have qBW1 := BW14.b1
  have qBW2 := BW14.lt
  have qBG0 := BG14.b0
  have qBG1 := BG14.b1
  have qBG2 := BG14.lt
  go_wp2_with fail
  refine (held1N _ _ rn rm gG1 gG2 qr QR.out oM hrn hrm).mono ?_
  rintro e w15 ⟨rfl, bb⟩
  have hs15 := bb.size
  have A15 := A14.next bb
  have C15 := belowNext C14 bb
  have W15 := W14.next bb
  have BW15 := BW14.next bb
  have BG15 := BG14.next bb
  have M15 := oM.next bb
  clear qA0 qA1 qA2 qBW0 qBW1 qBW2 qBG0 qBG1 qBG2
  clear bb A14 C14 W14 BW14 BG14 oM
  have qA0 := A15.b0
  have qA1 := A15.b1
  have qA2 := A15.lt
  have qBW0 := BW15.b0
  have qBW1 := BW15.b1
  have qBW2 := BW15.lt
  have qBG0 := BG15.b0
  have qBG1 := BG15.b1
  have qBG2 := BG15.lt
  go_wp2_with fail
  refine (toNetwork_any _ _ n N m P 0 w.heap.size (HV.out.below C15 (Nat.le_refl _)) hn hm (by omega)).mono ?_
  rintro e w16 ⟨xt, gt1, gt2, rfl, ot, lt1, lt2, bb⟩
  have hs16 := bb.size
  have A16 := A15.next bb
  have C16 := belowNext C15 bb
  have W16 := W15.next bb
  have BW16 := BW15.next bb
  have BG16 := BG15.next bb
  have M16 := M15.next bb
  clear qA0 qA1 qA2 qBW0 qBW1 qBW2 qBG0 qBG1 qBG2
  clear bb A15 C15 W15 BW15 BG15 M15
  have lxt := ot.lts
  have qA0 := A16.b0
  have qA1 := A16.b1
  have qA2 := A16.lt
  have qBW0 := BW16.b0
  have qBW1 := BW16.b1
  have qBW2 := BW16.lt
  have qBG0 := BG16.b0
  have qBG1 := BG16.b1
  have qBG2 := BG16.lt
  go_wp2_with fail
  refine (GI.out _ _ ot.net).mono ?_
  rintro e w17 ⟨xH, gH1, gH2, rfl, oH, lH1, lH2, bb⟩
  have hs17 := bb.size
  have A17 := A16.next bb
  have C17 := belowNext C16 bb
  have W17 := W16.next bb
  have BW17 := BW16.next bb
  have BG17 := BG16.next bb
  have M17 := M16.next bb
  have t17 := ot.next bb
  clear qA0 qA1 qA2 qBW0 qBW1 qBW2 qBG0 qBG1 qBG2
  clear bb A16 C16 W16 BW16 BG16 M16 ot
  have lxH := oH.lts
  obtain ⟨sH1, sH2, sH3, sH4, rfl⟩ := oH.shape
  clear t17
  have qA0 := A17.b0
  have qA1 := A17.b1
  have qA2 := A17.lt
  have qBW0 := BW17.b0
  have qBW1 := BW17.b1
  have qBW2 := BW17.lt
  have qBG0 := BG17.b0
  have qBG1 := BG17.b1
  have qBG2 := BG17.lt
  go_wp2_with fail
  have bb := below_new w17 (.cells #[.slice sH1 rn sH2, .slice sH3 rm sH4] 30)
  have B_H := boxed w17 (.slice sH1 rn sH2) (.slice sH3 rm sH4) 30
  have hs18 := bb.size
  have A18 := A17.next bb
  have C18 := belowNext C17 bb
  have W18 := W17.next bb
  have BW18 := BW17.next bb
  have BG18 := BG17.next bb
  have M18 := M17.next bb
  have H18 := oH.next bb
  clear qA0 qA1 qA2 qBW0 qBW1 qBW2 qBG0 qBG1 qBG2
  clear bb A17 C17 W17 BW17 BG17 M17 oH
  generalize hW18 : w17.alloc (Obj.cells #[.slice sH1 rn sH2, .slice sH3 rm sH4] 30) = w18 at *
  clear hW18
  have BH18 := B_H
  clear B_H
  have lBH := BH18.lt
  refine (eqNetwork_any _ _ _ rn rN rm rP 0 w18.heap.size 0 w18.heap.size H18.net W18.net (Nat.le_refl _) (Nat.le_refl _)).mono ?_
  rintro e w19 ⟨rfl, bb⟩
  have hs19 := bb.size
  have A19 := A18.next bb
  have C19 := belowNext C18 bb
  have W19 := W18.next bb
  have BW19 := BW18.next bb
  have BG19 := BG18.next bb
  have M19 := M18.next bb
  have H19 := H18.next bb
  have BH19 := BH18.next bb
  clear bb A18 C18 W18 BW18 BG18 M18 H18 BH18
  have qA0 := A19.b0
  have qA1 := A19.b1
  have qA2 := A19.lt
  have qBW0 := BW19.b0
  have qBW1 := BW19.b1
  have qBW2 := BW19.lt
  have qBG0 := BG19.b0
  have qBG1 := BG19.b1
  have qBG2 := BG19.lt
  have qBH0 := BH19.b0
  have qBH1 := BH19.b1
  have qBH2 := BH19.lt
  go_wp2_with fail
  refine (held1N _ _ rn rm gG1 gG2 qr QR.out M19 hrn hrm).mono ?_
  rintro e w20 ⟨rfl, bb⟩
  have hs20 := bb.size
  have A20 := A19.next bb
  have C20 := belowNext C19 bb
  have W20 := W19.next bb
  have BW20 := BW19.next bb
  have BG20 := BG19.next bb
  have M20 := M19.next bb
  have H20 := H19.next bb
  have BH20 := BH19.next bb
  clear qA0 qA1 qA2 qBW0 qBW1 qBW2 qBG0 qBG1 qBG2 qBH0 qBH1 qBH2
  clear bb A19 C19 W19 BW19 BG19 M19 H19 BH19
  go_wp2_with fail
  go_ret
  exact ⟨rfl, C20⟩

set_option maxRecDepth 100000 in
theorem lifted (os : Os) (started : os.Started) (H : Type) (enc : TypeId × Value → H) :
    ReturnsInHanded {} Try.checked os 3 .any (Rows.fnExactWithoutPipeSpec.pre6 enc Try.prog Try.f3 Rows.fnExactWithoutPipeRow.domain false) (Rows.fnExactWithoutPipeSpec.post enc Try.prog Try.f3 false true false false) := by
  refine returnsInHanded_of_change (C := Try.checked) own started (by kernel_rfl) Try.func3
    (ChangeSpec.witness6 (enc := enc) (C := Try.checked) false ⟨#[], #[.agg #[.slice none 0 0, .slice none 0 0], .int .i64 0], []⟩ 8 (by kernel_rfl) (by kernel_rfl) (by kernel_rfl) (by kernel_rfl)) ?_
  intro W base args ds gs before hval0 hW hcnd _
  have hval : ∀ (j : Nat) t v, Try.f3.params[j]? = some t → args[j]? = some v → Value.okWide Try.prog W .any base t v := hval0
  have hW' := hW
  obtain ⟨p, q, hA0, hV, rfl, hfz, hnd⟩ := hW
  have hA : DataW.TrodAll enc Try.prog W 0 (fun _ => true) true Try.f3.params.toList args.toList ds p := hA0
  rw [Try.params3] at hA hval
  obtain ⟨v0, vs0, d0, ds0, p0, q0, hargs, rfl, rfl, h0, r0⟩ := trodAll_cons hA
  obtain ⟨v1, vs1, d1, ds1, p1, q1, rfl, rfl, rfl, h1, r1⟩ := trodAll_cons r0
  obtain ⟨rfl, rfl, rfl⟩ := trodAll_nil r1
  obtain rfl : args = #[v0, v1] := by cases args; simp_all
  obtain ⟨rfl, rfl⟩ := trodVars_none hV
  have hc := open_net (hval 0 25 v0 rfl rfl) h0
  obtain ⟨a1, rfl, rfl, rfl, w1⟩ := open_int Try.underlying2 (hval 1 2 v1 rfl rfl) h1
  refine (walk v0 a1 W hc).mono fun e W' ⟨he, hg⟩ => ?_
  subst he
  exact ⟨_, rfl, law.law_post hW' hg laidOut (by kernel_rfl) rfl rfl (by kernel_rfl) Try.underlying4⟩

theorem over : Rows.fnExactWithoutPipeRow.holds Try.pinned (OpenSpec.ofChange Rows.fnExactWithoutPipeSpec) :=
  OpenClaim.holds_of_wide 3 Try.f3 rfl rfl rfl rfl rfl rfl rfl ⟨rfl, rfl, rfl, rfl, rfl⟩ rfl rfl rfl rfl rfl (by kernel_rfl) Try.func3 (by kernel_rfl)
    (of_decide_eq_true (by kernel_rfl)) (by unfold Func.isWrapper; first | (rw [if_pos (by decide +kernel)]; kernel_rfl) | (rw [if_neg (by decide +kernel)]; exact ⟨rfl, rfl⟩))
    (fun os started H enc _ => lifted os started H enc)

theorem proved : Rows.FnExactWithoutPipeSaid :=
  over
#print axioms proved
end Go.Proofs.Ytjjjdahegcjmaaa.fnExactWithoutPipe
