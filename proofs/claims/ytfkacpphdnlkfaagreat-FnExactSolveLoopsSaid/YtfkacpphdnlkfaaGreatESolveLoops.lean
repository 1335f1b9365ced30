/-
  FnExactSolveLoops returns true at every argument, and leaves its arguments as they were. No condition.
-/
import Derived.Test.YtfkacpphdnlkfaaGreatRows
import Derived.Test.YtfkacpphdnlkfaaGreatNetX
import Derived.Test.YtfkacpphdnlkfaaGreatLsv
import Derived.WalkKit
import Derived.ProofKit
import Derived.OpenShut
import Derived.ChangeMaps5
import Derived.Lib.Hide
import Derived.Deep.RegionHeld3
import Derived.OwnWalk
import Derived.Test.YtfkacpphdnlkfaaGreatIntA
namespace Go.Proofs.YtfkacpphdnlkfaaGreat.fnExactSolveLoops
open Go.ChangeShapes Go.WideShapes Go.ChangeAt Go.RowKit Go.Proofs.YtfkacpphdnlkfaaGreat.mem
set_option linter.unusedVariables false

theorem own : ownKnob Tryz.prog.godebug = none := by kernel_rfl
theorem laidOut : laidOutB Tryz.prog = true := by kernel_rfl

set_option maxRecDepth 100000 in
set_option maxHeartbeats 20000000 in
theorem walk (v : Value) (a1 : Value) (w : World) (hc : NetArg w v) (hc1 : IntsArg w a1) :
    Calls Tryz.prog 3 #[v, a1] w fun e w' => e = .returned (.bool true) ∧ Below w.heap.size w w' := by
  obtain ⟨n, N, m, P, V0, hN⟩ := hc
  obtain ⟨p0, c0, p1, c1, rfl⟩ := V0.shape
  obtain ⟨K1, D1, hK1, hS1⟩ := hc1
  have hsh1 : ∃ p cap, a1 = .slice p K1 cap := by
    obtain ⟨p, cap, e, _⟩ := hS1.ex
    exact ⟨p, cap, e⟩
  obtain ⟨pp1, cc1, rfl⟩ := hsh1
  by_cases hbig1 : (1048576 : Int) < K1
  · clear V0 hN hS1
    go_enter Tryz.func3, Tryz.ntmps3
    go_wp2_with fail
    go_ret
    exact ⟨rfl, below_new _ _⟩
  have hKs1 : K1 ≤ 2000000 := by omega
  have V1 := Lib.hid hS1
  clear hS1
  have HV := Lib.hid V0
  have HN := Lib.hid hN
  clear V0 hN
  have A1 := boxed w (.slice p0 n c0) (.slice p1 m c1) 25
  have C1 : Below w.heap.size w _ := below_new w (.cells #[.slice p0 n c0, .slice p1 m c1] 25)
  have hs1 := C1.size
  go_enter Tryz.func3, Tryz.ntmps3
  go_wp2_with fail
  generalize hW1 : w.alloc (Obj.cells #[.slice p0 n c0, .slice p1 m c1] 25) = w1 at *
  clear hW1
  have lA := A1.lt
  refine (szNetwork_any _ _ n N m P 0 w.heap.size 1048576 (HV.out.below C1 (Nat.le_refl _)) hs1 (by omega) (by omega) HN.out).mono ?_
  rintro e w2 ⟨r, rfl, hr, bb⟩
  have hs2 := bb.size
  have A2 := A1.next bb
  have C2 := belowNext C1 bb
  clear bb A1 C1
  rcases hr with rfl | ⟨hr0, hr1, hr2⟩
  · go_wp2_with fail
    go_ret
    exact ⟨rfl, C2⟩
  have hn : n ≤ 2000000 := by omega
  have hm : m ≤ 2000000 := by omega
  clear hr1 hr2
  obtain ⟨rn, rd, rc, hrn, agi, ags⟩ := agreeSolveLoops n N m P K1 D1 HN.out hn hm hKs1
  have GI := Lib.hid agi
  have GS := Lib.hid ags
  clear agi ags
  have hb2 : (rc != rc) = false := by simp
  obtain ⟨qx, hqx⟩ : ∃ q, q = 1 + 3 * n + 5 * m := ⟨_, rfl⟩
  obtain ⟨qr, hqr⟩ : ∃ q, q = 1 + rn := ⟨_, rfl⟩
  have hqx0 : ¬ ((qx : Int) < 0) := by omega
  have hqr0 : ¬ ((qr : Int) < 0) := by omega
  have hqr1 : ((qr : Int) != qr) = false := by simp
  have QX := Lib.hid hqx
  have QR := Lib.hid hqr
  clear hqx hqr
  have qA0 := A2.b0
  have qA1 := A2.b1
  have qA2 := A2.lt
  go_wp2_with fail
  refine (toNetwork_any _ _ n N m P 0 w.heap.size (HV.out.below C2 (Nat.le_refl _)) hn hm (by omega)).mono ?_
  rintro e w3 ⟨xt, gt1, gt2, rfl, ot, lt1, lt2, bb⟩
  have hs3 := bb.size
  have A3 := A2.next bb
  have C3 := belowNext C2 bb
  clear qA0 qA1 qA2
  clear bb A2 C2
  have lxt := ot.lts
  have qA0 := A3.b0
  have qA1 := A3.b1
  have qA2 := A3.lt
  go_wp2_with fail
  refine (copy_any _ _ K1 D1 0 w.heap.size (V1.out.below C3 (Nat.le_refl _)) hKs1 (by omega)).mono ?_
  rintro e w4 ⟨rfl, rti1, bb, zz4⟩
  have hs4 := bb.size
  have A4 := A3.next bb
  have C4 := belowNext C3 bb
  have t4 := ot.next bb
  clear qA0 qA1 qA2
  clear bb A3 C3 ot
  have qA0 := A4.b0
  have qA1 := A4.b1
  have qA2 := A4.lt
  go_wp2_with fail
  refine (GS.out _ _ _ t4.net (rti1.all (by omega))).mono ?_
  rintro e w5 ⟨xW, gW, rfl, oW, lW, bb⟩
  have hs5 := bb.size
  have A5 := A4.next bb
  have C5 := belowNext C4 bb
  have t5 := t4.next bb
  have ti15 := rti1.next bb (by omega)
  clear qA0 qA1 qA2
  clear bb A4 C4 t4 rti1
  have lxW := oW.lt
  clear t5 ti15
  have qA0 := A5.b0
  have qA1 := A5.b1
  have qA2 := A5.lt
  go_wp2_with fail
  refine (toNetwork_any _ _ n N m P 0 w.heap.size (HV.out.below C5 (Nat.le_refl _)) hn hm (by omega)).mono ?_
  rintro e w6 ⟨xx, gx1, gx2, rfl, ox, lx1, lx2, bb⟩
  have hs6 := bb.size
  have A6 := A5.next bb
  have C6 := belowNext C5 bb
  have W6 := oW.next bb
  clear qA0 qA1 qA2
  clear bb A5 C5 oW
  have lxx := ox.lts
  obtain ⟨sx1, sx2, sx3, sx4, rfl⟩ := ox.shape
  have qA0 := A6.b0
  have qA1 := A6.b1
  have qA2 := A6.lt
  go_wp2_with fail
  have bb := below_new w6 (.cells #[.slice sx1 n sx2, .slice sx3 m sx4] 33)
  have B_x := boxed w6 (.slice sx1 n sx2) (.slice sx3 m sx4) 33
  have hs7 := bb.size
  have A7 := A6.next bb
  have C7 := belowNext C6 bb
  have W7 := W6.next bb
  have x7 := ox.next bb
  clear qA0 qA1 qA2
  clear bb A6 C6 W6 ox
  generalize hW7 : w6.alloc (Obj.cells #[.slice sx1 n sx2, .slice sx3 m sx4] 33) = w7 at *
  clear hW7
  have Bx7 := B_x
  clear B_x
  have lBx := Bx7.lt
  refine (copy_any _ _ K1 D1 0 w.heap.size (V1.out.below C7 (Nat.le_refl _)) hKs1 (by omega)).mono ?_
  rintro e w8 ⟨rfl, rxi1, bb, zz8⟩
  have hs8 := bb.size
  have A8 := A7.next bb
  have C8 := belowNext C7 bb
  have W8 := W7.next bb
  have x8 := x7.next bb
  have Bx8 := Bx7.next bb
  clear bb A7 C7 W7 x7 Bx7
  have qA0 := A8.b0
  have qA1 := A8.b1
  have qA2 := A8.lt
  have qBx0 := Bx8.b0
  have qBx1 := Bx8.b1
  have qBx2 := Bx8.lt
  go_wp2_with fail
  refine (GI.out _ _ _ x8.net (rxi1.all (by omega))).mono ?_
  rintro e w9 ⟨xG, gG, rfl, oG, lG, bb⟩
  have hs9 := bb.size
  have A9 := A8.next bb
  have C9 := belowNext C8 bb
  have W9 := W8.next bb
  have x9 := x8.next bb
  have Bx9 := Bx8.next bb
  have xi19 := rxi1.next bb (by omega)
  clear qA0 qA1 qA2 qBx0 qBx1 qBx2
  clear bb A8 C8 W8 x8 Bx8 rxi1
  have lxG := oG.lt
  have qA0 := A9.b0
  have qA1 := A9.b1
  have qA2 := A9.lt
  have qBx0 := Bx9.b0
  have qBx1 := Bx9.b1
  have qBx2 := Bx9.lt
  go_wp2_with fail
  refine (eqInts_any _ _ _ rn rd 0 w9.heap.size 0 w9.heap.size (oG.cs (.inr rfl) (Nat.le_refl _)) (W9.cs (.inr rfl) (Nat.le_refl _))).mono ?_
  rintro e w10 ⟨rfl, bb⟩
  have hs10 := bb.size
  have A10 := A9.next bb
  have C10 := belowNext C9 bb
  have W10 := W9.next bb
  have x10 := x9.next bb
  have Bx10 := Bx9.next bb
  have xi110 := xi19.next bb (by omega)
  have G10 := oG.next bb
  clear qA0 qA1 qA2 qBx0 qBx1 qBx2
  clear bb A9 C9 W9 x9 Bx9 xi19 oG
  have qA0 := A10.b0
  have qA1 := A10.b1
  have qA2 := A10.lt
  have qBx0 := Bx10.b0
  have qBx1 := Bx10.b1
  have qBx2 := Bx10.lt
  go_wp2_with fail
  go_region_held3 (fun w' => w'.cell? ⟨w.heap.size, 0, none⟩ = some (.slice p0 n c0) ∧ w'.cell? ⟨w.heap.size, 1, none⟩ = some (.slice p1 m c1) ∧ w'.cell? ⟨w6.heap.size, 0, none⟩ = some (.slice sx1 n sx2) ∧ w'.cell? ⟨w6.heap.size, 1, none⟩ = some (.slice sx3 m sx4)) (first | exact ⟨qA0, qA1, qBx0, qBx1⟩ | exact hold4 hb2 hsaA hsaX (hold4 hb1 qA2 qBx2 ⟨qA0, qA1, qBx0, qBx1⟩) | exact hold4 hb1 qA2 qBx2 ⟨qA0, qA1, qBx0, qBx1⟩)
    (first | (go_at_call 10; refine (toNetwork_any _ _ n N m P 0 w.heap.size (HV.out.below C10 (Nat.le_refl _)).drew hn hm (by simp; omega)).mono ?_; rintro e wa ⟨xy, gy1, gy2, rfl, oy, ly1, ly2, hb1⟩; have hsa := hb1.size; simp only [World.heap_drew] at hsa; have hsaA := Nat.lt_of_lt_of_le qA2 hsa; have hsaX := Nat.lt_of_lt_of_le qBx2 hsa) | (go_at_call 14; refine (eqNetwork_any _ _ _ n N m P 0 _ 0 _ (x10.drew.next hb1).net oy.net (Nat.le_refl _) (Nat.le_refl _)).mono ?_; rintro e wb ⟨rfl, hb2⟩))
  obtain ⟨w11, hwb⟩ : ∃ w', w' = wb := ⟨_, rfl⟩
  subst hwb
  have bb : Below w10.heap.size w10 w11 := below_dr0 (belowNext hb1 hb2)
  clear hb1 hb2 oy ly1 ly2 hsa hsaA hsaX
  have hs11 := bb.size
  have A11 := A10.next bb
  have C11 := belowNext C10 bb
  have W11 := W10.next bb
  have x11 := x10.next bb
  have Bx11 := Bx10.next bb
  have xi111 := xi110.next bb (by omega)
  have G11 := G10.next bb
  clear qA0 qA1 qA2 qBx0 qBx1 qBx2
  clear bb A10 C10 W10 x10 Bx10 xi110 G10
  have qA0 := A11.b0
  have qA1 := A11.b1
  have qA2 := A11.lt
  have qBx0 := Bx11.b0
  have qBx1 := Bx11.b1
  have qBx2 := Bx11.lt
  go_wp2_with fail
  refine (copy_any _ _ K1 D1 0 w.heap.size (V1.out.below C11 (Nat.le_refl _)) hKs1 (by omega)).mono ?_
  rintro e w12 ⟨rfl, ryi1, bb, zz12⟩
  have hs12 := bb.size
  have A12 := A11.next bb
  have C12 := belowNext C11 bb
  have W12 := W11.next bb
  have x12 := x11.next bb
  have Bx12 := Bx11.next bb
  have xi112 := xi111.next bb (by omega)
  have G12 := G11.next bb
  clear qA0 qA1 qA2 qBx0 qBx1 qBx2
  clear bb A11 C11 W11 x11 Bx11 xi111 G11
  have qA0 := A12.b0
  have qA1 := A12.b1
  have qA2 := A12.lt
  have qBx0 := Bx12.b0
  have qBx1 := Bx12.b1
  have qBx2 := Bx12.lt
  go_wp2_with fail
  refine (eq_any _ _ _ K1 D1 0 w12.heap.size 0 w12.heap.size (xi112.all (by omega)) (ryi1.all (by omega)) hKs1).mono ?_
  rintro e w13 ⟨rfl, mm13, hmm13⟩
  have bb : Below w12.heap.size w12 w13 := by rw [hmm13]; exact below_drNN (Below.refl _ _) mm13
  clear hmm13
  clear ryi1
  have hs13 := bb.size
  have A13 := A12.next bb
  have C13 := belowNext C12 bb
  have W13 := W12.next bb
  have x13 := x12.next bb
  have Bx13 := Bx12.next bb
  have xi113 := xi112.next bb (by omega)
  have G13 := G12.next bb
  clear qA0 qA1 qA2 qBx0 qBx1 qBx2
  clear bb A12 C12 W12 x12 Bx12 xi112 G12
  have qA0 := A13.b0
  have qA1 := A13.b1
  have qA2 := A13.lt
  have qBx0 := Bx13.b0
  have qBx1 := Bx13.b1
  have qBx2 := Bx13.lt
  go_wp2_with fail
  refine (mark1N _ _ n m N P gx1 gx2 qx QX.out x13 hn hm).mono ?_
  rintro e w14 ⟨rfl, ox', bb⟩
  clear ox'
  clear x13 Bx13
  have hs14 := bb.size
  have A14 := A13.next_upd bb (by intro hx; rcases hx with ⟨_, hx⟩ | ⟨_, hx⟩; all_goals omega)
  have C14 := belowNextUpd C13 bb (by intro x hx; rcases hx with ⟨_, hx⟩ | ⟨_, hx⟩; all_goals omega)
  have W14 := W13.next_upd bb (by rcases Nat.eq_zero_or_pos rn with h0 | h0; exact .inl h0; exact .inr (by intro hx; rcases hx with ⟨_, hx⟩ | ⟨_, hx⟩; all_goals omega))
  have xi114 := xi113.next_upd bb (by omega) (by intro hx; rcases hx with ⟨_, hx⟩ | ⟨_, hx⟩; all_goals omega)
  have G14 := G13.next_upd bb (by rcases Nat.eq_zero_or_pos rn with h0 | h0; exact .inl h0; exact .inr (by intro hx; rcases hx with ⟨_, hx⟩ | ⟨_, hx⟩; all_goals omega))
  clear qA0 qA1 qA2 qBx0 qBx1 qBx2
  clear bb A13 C13 W13 xi113 G13
  have qA0 := A14.b0
  have qA1 := A14.b1
  have qA2 := A14.lt
  go_wp2_with fail
  refine (mark_any _ w7.heap.size K1 K1 D1 qx xi114 hKs1 (by omega) (by have := QX.out; omega)).mono ?_
  rintro e w15 ⟨rfl, rM1, oo15⟩
  have bb := Upd.of_only oo15
  clear rM1 oo15
  clear xi114
  have hs15 := bb.size
  have A15 := A14.next_upd bb (by intro hx; skip; all_goals omega)
  have C15 := belowNextUpd C14 bb (by intro x hx; skip; all_goals omega)
  have W15 := W14.next_upd bb (by rcases Nat.eq_zero_or_pos rn with h0 | h0; exact .inl h0; exact .inr (by intro hx; skip; all_goals omega))
  have G15 := G14.next_upd bb (by rcases Nat.eq_zero_or_pos rn with h0 | h0; exact .inl h0; exact .inr (by intro hx; skip; all_goals omega))
  clear qA0 qA1 qA2
  clear bb A14 C14 W14 G14
  have hqk1 : ¬ ((qx : Int) + (K1 : Int) < 0) := by omega
  have qA0 := A15.b0
  have qA1 := A15.b1
  have qA2 := A15.lt
  go_wp2_with fail
  refine (eqInts_any _ _ _ rn rd 0 w15.heap.size 0 w15.heap.size (G15.cs (.inr rfl) (Nat.le_refl _)) (W15.cs (.inr rfl) (Nat.le_refl _))).mono ?_
  rintro e w16 ⟨rfl, bb⟩
  have hs16 := bb.size
  have A16 := A15.next bb
  have C16 := belowNext C15 bb
  have W16 := W15.next bb
  have G16 := G15.next bb
  clear qA0 qA1 qA2
  clear bb A15 C15 W15 G15
  have qA0 := A16.b0
  have qA1 := A16.b1
  have qA2 := A16.lt
  go_wp2_with fail
  refine (mark1I _ _ rn rd gG qr QR.out G16 hrn).mono ?_
  rintro e w17 ⟨rfl, oG', bb⟩
  clear G16
  have hs17 := bb.size
  have A17 := A16.next_upd bb (by intro hx; obtain ⟨_, hx⟩ := hx; all_goals omega)
  have C17 := belowNextUpd C16 bb (by intro x hx; obtain ⟨_, hx⟩ := hx; all_goals omega)
  have W17 := W16.next_upd bb (by rcases Nat.eq_zero_or_pos rn with h0 | h0; exact .inl h0; exact .inr (by intro hx; obtain ⟨_, hx⟩ := hx; all_goals omega))
  clear qA0 qA1 qA2
  clear bb A16 C16 W16
  have oM := oG'
  clear oG'
  have qA0 := A17.b0
  have qA1 := A17.b1
  have qA2 := A17.lt
  go_wp2_with fail
  refine (held1I _ _ rn gG qr QR.out oM hrn).mono ?_
  rintro e w18 ⟨rfl, bb⟩
  have hs18 := bb.size
  have A18 := A17.next bb
  have C18 := belowNext C17 bb
  have W18 := W17.next bb
  have M18 := oM.next bb
  clear qA0 qA1 qA2
  clear bb A17 C17 W17 oM
  have qA0 := A18.b0
  have qA1 := A18.b1
  have qA2 := A18.lt
  go_wp2_with fail
  refine (toNetwork_any _ _ n N m P 0 w.heap.size (HV.out.below C18 (Nat.le_refl _)) hn hm (by omega)).mono ?_
  rintro e w19 ⟨xt, gt1, gt2, rfl, ot, lt1, lt2, bb⟩
  have hs19 := bb.size
  have A19 := A18.next bb
  have C19 := belowNext C18 bb
  have W19 := W18.next bb
  have M19 := M18.next bb
  clear qA0 qA1 qA2
  clear bb A18 C18 W18 M18
  have lxt := ot.lts
  have qA0 := A19.b0
  have qA1 := A19.b1
  have qA2 := A19.lt
  go_wp2_with fail
  refine (copy_any _ _ K1 D1 0 w.heap.size (V1.out.below C19 (Nat.le_refl _)) hKs1 (by omega)).mono ?_
  rintro e w20 ⟨rfl, rti1, bb, zz20⟩
  have hs20 := bb.size
  have A20 := A19.next bb
  have C20 := belowNext C19 bb
  have W20 := W19.next bb
  have M20 := M19.next bb
  have t20 := ot.next bb
  clear qA0 qA1 qA2
  clear bb A19 C19 W19 M19 ot
  have qA0 := A20.b0
  have qA1 := A20.b1
  have qA2 := A20.lt
  go_wp2_with fail
  refine (GI.out _ _ _ t20.net (rti1.all (by omega))).mono ?_
  rintro e w21 ⟨xH, gH, rfl, oH, lH, bb⟩
  have hs21 := bb.size
  have A21 := A20.next bb
  have C21 := belowNext C20 bb
  have W21 := W20.next bb
  have M21 := M20.next bb
  have t21 := t20.next bb
  have ti121 := rti1.next bb (by omega)
  clear qA0 qA1 qA2
  clear bb A20 C20 W20 M20 t20 rti1
  have lxH := oH.lt
  clear t21 ti121
  have qA0 := A21.b0
  have qA1 := A21.b1
  have qA2 := A21.lt
  go_wp2_with fail
  refine (eqInts_any _ _ _ rn rd 0 w21.heap.size 0 w21.heap.size (oH.cs (.inr rfl) (Nat.le_refl _)) (W21.cs (.inr rfl) (Nat.le_refl _))).mono ?_
  rintro e w22 ⟨rfl, bb⟩
  have hs22 := bb.size
  have A22 := A21.next bb
  have C22 := belowNext C21 bb
  have W22 := W21.next bb
  have M22 := M21.next bb
  have H22 := oH.next bb
  clear qA0 qA1 qA2
  clear bb A21 C21 W21 M21 oH
  have qA0 := A22.b0
  have qA1 := A22.b1
  have qA2 := A22.lt
  go_wp2_with fail
  refine (held1I _ _ rn gG qr QR.out M22 hrn).mono ?_
  rintro e w23 ⟨rfl, bb⟩
  have hs23 := bb.size
  have A23 := A22.next bb
  have C23 := belowNext C22 bb
  have W23 := W22.next bb
  have M23 := M22.next bb
  have H23 := H22.next bb
  clear qA0 qA1 qA2
  clear bb A22 C22 W22 M22 H22
  go_wp2_with fail
  go_ret
  exact ⟨rfl, C23⟩

set_option maxRecDepth 100000 in
theorem lifted (os : Os) (started : os.Started) (H : Type) (enc : TypeId × Value → H) :
    ReturnsInHanded {} Tryz.checked os 3 .any (Rows.fnExactSolveLoopsSpec.pre6 enc Tryz.prog Tryz.f3 Rows.fnExactSolveLoopsRow.domain false) (Rows.fnExactSolveLoopsSpec.post enc Tryz.prog Tryz.f3 false true false false) := by
  refine returnsInHanded_of_change (C := Tryz.checked) own started (by kernel_rfl) Tryz.func3
    (ChangeSpec.witness6 (enc := enc) (C := Tryz.checked) false ⟨#[], #[.agg #[.slice none 0 0, .slice none 0 0], .slice none 0 0], []⟩ 8 (by kernel_rfl) (by kernel_rfl) (by kernel_rfl) (by kernel_rfl)) ?_
  intro W base args ds gs before hval0 hW hcnd _
  have hval : ∀ (j : Nat) t v, Tryz.f3.params[j]? = some t → args[j]? = some v → Value.okWide Tryz.prog W .any base t v := hval0
  have hW' := hW
  obtain ⟨p, q, hA0, hV, rfl, hfz, hnd⟩ := hW
  have hA : DataW.TrodAll enc Tryz.prog W 0 (fun _ => true) true Tryz.f3.params.toList args.toList ds p := hA0
  rw [Tryz.params3] at hA hval
  obtain ⟨v0, vs0, d0, ds0, p0, q0, hargs, rfl, rfl, h0, r0⟩ := trodAll_cons hA
  obtain ⟨v1, vs1, d1, ds1, p1, q1, rfl, rfl, rfl, h1, r1⟩ := trodAll_cons r0
  obtain ⟨rfl, rfl, rfl⟩ := trodAll_nil r1
  obtain rfl : args = #[v0, v1] := by cases args; simp_all
  obtain ⟨rfl, rfl⟩ := trodVars_none hV
  have hc := open_net (hval 0 25 v0 rfl rfl) h0
  have hc1 := open_ints64 (hval 1 26 v1 rfl rfl) h1
  refine (walk v0 v1 W hc hc1).mono fun e W' ⟨he, hg⟩ => ?_
  subst he
  exact ⟨_, rfl, law.law_post hW' hg laidOut (by kernel_rfl) rfl rfl (by kernel_rfl) Tryz.underlying4⟩

theorem over : Rows.fnExactSolveLoopsRow.holds Tryz.pinned (OpenSpec.ofChange Rows.fnExactSolveLoopsSpec) :=
  OpenClaim.holds_of_wide 3 Tryz.f3 rfl rfl rfl rfl rfl rfl rfl ⟨rfl, rfl, rfl, rfl, rfl⟩ rfl rfl rfl rfl rfl (by kernel_rfl) Tryz.func3 (by kernel_rfl)
    (of_decide_eq_true (by kernel_rfl)) (by unfold Func.isWrapper; first | (rw [if_pos (by decide +kernel)]; kernel_rfl) | (rw [if_neg (by decide +kernel)]; exact ⟨rfl, rfl⟩))
    (fun os started H enc _ => lifted os started H enc)

theorem proved : Rows.FnExactSolveLoopsSaid :=
  over
#print axioms proved
end Go.Proofs.YtfkacpphdnlkfaaGreat.fnExactSolveLoops
