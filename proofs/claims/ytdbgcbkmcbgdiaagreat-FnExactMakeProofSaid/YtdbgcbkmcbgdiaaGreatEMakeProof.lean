/-
  FnExactMakeProof returns true at every argument, and leaves its arguments as they were. No condition.
-/
import Derived.Test.YtdbgcbkmcbgdiaaGreatRows
import Derived.Test.YtdbgcbkmcbgdiaaGreatNetX
import Derived.Test.YtdbgcbkmcbgdiaaGreatPrf
import Derived.Test.YtdbgcbkmcbgdiaaGreatCer
import Derived.WalkKit
import Derived.ProofKit
import Derived.OpenShut
import Derived.ChangeMaps5
import Derived.Lib.Hide
import Derived.Deep.RegionHeld3
import Derived.OwnWalk
import Derived.Test.YtdbgcbkmcbgdiaaGreatIntA
namespace Go.Proofs.YtdbgcbkmcbgdiaaGreat.fnExactMakeProof
open Go.ChangeShapes Go.WideShapes Go.ChangeAt Go.RowKit Go.Proofs.YtdbgcbkmcbgdiaaGreat.mem
set_option linter.unusedVariables false

theorem own : ownKnob Tryz.prog.godebug = none := by kernel_rfl
theorem laidOut : laidOutB Tryz.prog = true := by kernel_rfl

set_option maxRecDepth 100000 in
set_option maxHeartbeats 20000000 in
theorem walk (v : Value) (a1 : Value) (a2 : Int) (w : World) (hc : NetArg w v) (hc1 : IntsArg w a1) :
    Calls Tryz.prog 7 #[v, a1, .int .i64 a2] w fun e w' => e = .returned (.bool true) ∧ Below w.heap.size w w' := by
  obtain ⟨n, N, m, P, V0, hN⟩ := hc
  obtain ⟨p0, c0, p1, c1, rfl⟩ := V0.shape
  obtain ⟨K1, D1, hK1, hS1⟩ := hc1
  have hsh1 : ∃ p cap, a1 = .slice p K1 cap := by
    obtain ⟨p, cap, e, _⟩ := hS1.ex
    exact ⟨p, cap, e⟩
  obtain ⟨pp1, cc1, rfl⟩ := hsh1
  by_cases hbig1 : (1048576 : Int) < K1
  · clear V0 hN hS1
    go_enter Tryz.func7, Tryz.ntmps7
    go_wp2_with fail
    go_ret
    exact ⟨rfl, below_new _ _⟩
  have hKs1 : K1 ≤ 2000000 := by omega
  have V1 := Lib.hid hS1
  clear hS1
  have HV := Lib.hid V0
  have HN := Lib.hid hN
  clear V0 hN
  have A1 := boxed w (.slice p0 n c0) (.slice p1 m c1) 52
  have C1 : Below w.heap.size w _ := below_new w (.cells #[.slice p0 n c0, .slice p1 m c1] 52)
  have hs1 := C1.size
  go_enter Tryz.func7, Tryz.ntmps7
  go_wp2_with fail
  generalize hW1 : w.alloc (Obj.cells #[.slice p0 n c0, .slice p1 m c1] 52) = w1 at *
  clear hW1
  have lA := A1.lt
  refine (szNetwork_any _ _ n N m P 0 w.heap.size 1048576 (HV.out.below C1 (Nat.le_refl _)) hs1 (by omega) (by omega) HN.out).mono ?_
  rintro e w2 ⟨r, rfl, hr, bb⟩
  have hs2 := bb.size
  have A2 := A1.next bb
  have C2 := belowNext C1 bb
  clear bb A1 C1
  rcases hr with rfl | ⟨hr0, hr1, hr2⟩
  · go_wp2_with fail
    go_ret
    exact ⟨rfl, C2⟩
  have hn : n ≤ 2000000 := by omega
  have hm : m ≤ 2000000 := by omega
  clear hr1 hr2
  obtain ⟨rn, rd, rm, rl, rc, hrn, hrm, agi, ags⟩ := agreeMakeProof n N m P K1 D1 a2 HN.out hn hm hKs1
  have GI := Lib.hid agi
  have GS := Lib.hid ags
  clear agi ags
  have hb2 : (rc != rc) = false := by simp
  obtain ⟨qx, hqx⟩ : ∃ q, q = 1 + 3 * n + 5 * m := ⟨_, rfl⟩
  obtain ⟨qr, hqr⟩ : ∃ q, q = 1 + rn + rm := ⟨_, rfl⟩
  have hqx0 : ¬ ((qx : Int) < 0) := by omega
  have hqr0 : ¬ ((qr : Int) < 0) := by omega
  have hqr1 : ((qr : Int) != qr) = false := by simp
  have QX := Lib.hid hqx
  have QR := Lib.hid hqr
  clear hqx hqr
  have qA0 := A2.b0
  have qA1 := A2.b1
  have qA2 := A2.lt
  go_wp2_with fail
  refine (toNetwork_any _ _ n N m P 0 w.heap.size (HV.out.below C2 (Nat.le_refl _)) hn hm (by omega)).mono ?_
  rintro e w3 ⟨xt, gt1, gt2, rfl, ot, lt1, lt2, bb⟩
  have hs3 := bb.size
  have A3 := A2.next bb
  have C3 := belowNext C2 bb
  clear qA0 qA1 qA2
  clear bb A2 C2
  have lxt := ot.lts
  have qA0 := A3.b0
  have qA1 := A3.b1
  have qA2 := A3.lt
  go_wp2_with fail
  refine (copy_any _ _ K1 D1 0 w.heap.size (V1.out.below C3 (Nat.le_refl _)) hKs1 (by omega)).mono ?_
  rintro e w4 ⟨rfl, rti1, bb, zz4⟩
  have hs4 := bb.size
  have A4 := A3.next bb
  have C4 := belowNext C3 bb
  have t4 := ot.next bb
  clear qA0 qA1 qA2
  clear bb A3 C3 ot
  have qA0 := A4.b0
  have qA1 := A4.b1
  have qA2 := A4.lt
  go_wp2_with fail
  refine (GS.out _ _ _ t4.net (rti1.all (by omega))).mono ?_
  rintro e w5 ⟨xW, gW1, gW2, rfl, oW, lW1, lW2, bb⟩
  have hs5 := bb.size
  have A5 := A4.next bb
  have C5 := belowNext C4 bb
  have t5 := t4.next bb
  have ti15 := rti1.next bb (by omega)
  clear qA0 qA1 qA2
  clear bb A4 C4 t4 rti1
  have lxW := oW.lts
  obtain ⟨sW1, sW2, sW3, sW4, rfl⟩ := oW.shape
  clear t5 ti15
  have qA0 := A5.b0
  have qA1 := A5.b1
  have qA2 := A5.lt
  go_wp2_with fail
  have bb := below_new w5 (.cells #[.slice sW1 rn sW2, .slice sW3 rm sW4] 38)
  have B_W := boxed w5 (.slice sW1 rn sW2) (.slice sW3 rm sW4) 38
  have hs6 := bb.size
  have A6 := A5.next bb
  have C6 := belowNext C5 bb
  have W6 := oW.next bb
  clear qA0 qA1 qA2
  clear bb A5 C5 oW
  generalize hW6 : w5.alloc (Obj.cells #[.slice sW1 rn sW2, .slice sW3 rm sW4] 38) = w6 at *
  clear hW6
  have BW6 := B_W
  clear B_W
  have lBW := BW6.lt
  refine (toNetwork_any _ _ n N m P 0 w.heap.size (HV.out.below C6 (Nat.le_refl _)) hn hm (by omega)).mono ?_
  rintro e w7 ⟨xx, gx1, gx2, rfl, ox, lx1, lx2, bb⟩
  have hs7 := bb.size
  have A7 := A6.next bb
  have C7 := belowNext C6 bb
  have W7 := W6.next bb
  have BW7 := BW6.next bb
  clear bb A6 C6 W6 BW6
  have lxx := ox.lts
  obtain ⟨sx1, sx2, sx3, sx4, rfl⟩ := ox.shape
  have qA0 := A7.b0
  have qA1 := A7.b1
  have qA2 := A7.lt
  have qBW0 := BW7.b0
  have qBW1 := BW7.b1
  have qBW2 := BW7.lt
  go_wp2_with fail
  have bb := below_new w7 (.cells #[.slice sx1 n sx2, .slice sx3 m sx4] 27)
  have B_x := boxed w7 (.slice sx1 n sx2) (.slice sx3 m sx4) 27
  have hs8 := bb.size
  have A8 := A7.next bb
  have C8 := belowNext C7 bb
  have W8 := W7.next bb
  have BW8 := BW7.next bb
  have x8 := ox.next bb
  clear qA0 qA1 qA2 qBW0 qBW1 qBW2
  clear bb A7 C7 W7 BW7 ox
  generalize hW8 : w7.alloc (Obj.cells #[.slice sx1 n sx2, .slice sx3 m sx4] 27) = w8 at *
  clear hW8
  have Bx8 := B_x
  clear B_x
  have lBx := Bx8.lt
  refine (copy_any _ _ K1 D1 0 w.heap.size (V1.out.below C8 (Nat.le_refl _)) hKs1 (by omega)).mono ?_
  rintro e w9 ⟨rfl, rxi1, bb, zz9⟩
  have hs9 := bb.size
  have A9 := A8.next bb
  have C9 := belowNext C8 bb
  have W9 := W8.next bb
  have BW9 := BW8.next bb
  have x9 := x8.next bb
  have Bx9 := Bx8.next bb
  clear bb A8 C8 W8 BW8 x8 Bx8
  have qA0 := A9.b0
  have qA1 := A9.b1
  have qA2 := A9.lt
  have qBW0 := BW9.b0
  have qBW1 := BW9.b1
  have qBW2 := BW9.lt
  have qBx0 := Bx9.b0
  have qBx1 := Bx9.b1
  have qBx2 := Bx9.lt
  go_wp2_with fail
  refine (GI.out _ _ _ x9.net (rxi1.all (by omega))).mono ?_
  rintro e w10 ⟨xG, gG1, gG2, rfl, oG, lG1, lG2, bb⟩
  have hs10 := bb.size
  have A10 := A9.next bb
  have C10 := belowNext C9 bb
  have W10 := W9.next bb
  have BW10 := BW9.next bb
  have x10 := x9.next bb
  have Bx10 := Bx9.next bb
  have xi110 := rxi1.next bb (by omega)
  clear qA0 qA1 qA2 qBW0 qBW1 qBW2 qBx0 qBx1 qBx2
  clear bb A9 C9 W9 BW9 x9 Bx9 rxi1
  have lxG := oG.lts
  obtain ⟨sG1, sG2, sG3, sG4, rfl⟩ := oG.shape
  have qA0 := A10.b0
  have qA1 := A10.b1
  have qA2 := A10.lt
  have qBW0 := BW10.b0
  have qBW1 := BW10.b1
  have qBW2 := BW10.lt
  have qBx0 := Bx10.b0
  have qBx1 := Bx10.b1
  have qBx2 := Bx10.lt
  go_wp2_with fail
  have bb := below_new w10 (.cells #[.slice sG1 rn sG2, .slice sG3 rm sG4] 38)
  have B_G := boxed w10 (.slice sG1 rn sG2) (.slice sG3 rm sG4) 38
  have hs11 := bb.size
  have A11 := A10.next bb
  have C11 := belowNext C10 bb
  have W11 := W10.next bb
  have BW11 := BW10.next bb
  have x11 := x10.next bb
  have Bx11 := Bx10.next bb
  have xi111 := xi110.next bb (by omega)
  have G11 := oG.next bb
  clear qA0 qA1 qA2 qBW0 qBW1 qBW2 qBx0 qBx1 qBx2
  clear bb A10 C10 W10 BW10 x10 Bx10 xi110 oG
  generalize hW11 : w10.alloc (Obj.cells #[.slice sG1 rn sG2, .slice sG3 rm sG4] 38) = w11 at *
  clear hW11
  have BG11 := B_G
  clear B_G
  have lBG := BG11.lt
  refine (eqProof_any _ _ _ rn rd rm rl 0 w11.heap.size 0 w11.heap.size G11.pr W11.pr hrn hrm (Nat.le_refl _) (Nat.le_refl _)).mono ?_
  rintro e w12 ⟨rfl, bb⟩
  have hs12 := bb.size
  have A12 := A11.next bb
  have C12 := belowNext C11 bb
  have W12 := W11.next bb
  have BW12 := BW11.next bb
  have x12 := x11.next bb
  have Bx12 := Bx11.next bb
  have xi112 := xi111.next bb (by omega)
  have G12 := G11.next bb
  have BG12 := BG11.next bb
  clear bb A11 C11 W11 BW11 x11 Bx11 xi111 G11 BG11
  have qA0 := A12.b0
  have qA1 := A12.b1
  have qA2 := A12.lt
  have qBW0 := BW12.b0
  have qBW1 := BW12.b1
  have qBW2 := BW12.lt
  have qBx0 := Bx12.b0
  have qBx1 := Bx12.b1
  have qBx2 := Bx12.lt
  have qBG0 := BG12.b0
  have qBG1 := BG12.b1
  have qBG2 := BG12.lt
  go_wp2_with fail
  go_region_held3 (fun w' => w'.cell? ⟨w.heap.size, 0, none⟩ = some (.slice p0 n c0) ∧ w'.cell? ⟨w.heap.size, 1, none⟩ = some (.slice p1 m c1) ∧ w'.cell? ⟨w7.heap.size, 0, none⟩ = some (.slice sx1 n sx2) ∧ w'.cell? ⟨w7.heap.size, 1, none⟩ = some (.slice sx3 m sx4)) (first | exact ⟨qA0, qA1, qBx0, qBx1⟩ | exact hold4 hb2 hsaA hsaX (hold4 hb1 qA2 qBx2 ⟨qA0, qA1, qBx0, qBx1⟩) | exact hold4 hb1 qA2 qBx2 ⟨qA0, qA1, qBx0, qBx1⟩)
    (first | (go_at_call 26; refine (toNetwork_any _ _ n N m P 0 w.heap.size (HV.out.below C12 (Nat.le_refl _)).drew hn hm (by simp; omega)).mono ?_; rintro e wa ⟨xy, gy1, gy2, rfl, oy, ly1, ly2, hb1⟩; have hsa := hb1.size; simp only [World.heap_drew] at hsa; have hsaA := Nat.lt_of_lt_of_le qA2 hsa; have hsaX := Nat.lt_of_lt_of_le qBx2 hsa) | (go_at_call 29; refine (eqNetwork_any _ _ _ n N m P 0 _ 0 _ (x12.drew.next hb1).net oy.net (Nat.le_refl _) (Nat.le_refl _)).mono ?_; rintro e wb ⟨rfl, hb2⟩))
  obtain ⟨w13, hwb⟩ : ∃ w', w' = wb := ⟨_, rfl⟩
  subst hwb
  have bb : Below w12.heap.size w12 w13 := below_dr0 (belowNext hb1 hb2)
  clear hb1 hb2 oy ly1 ly2 hsa hsaA hsaX
  have hs13 := bb.size
  have A13 := A12.next bb
  have C13 := belowNext C12 bb
  have W13 := W12.next bb
  have BW13 := BW12.next bb
  have x13 := x12.next bb
  have Bx13 := Bx12.next bb
  have xi113 := xi112.next bb (by omega)
  have G13 := G12.next bb
  have BG13 := BG12.next bb
  clear qA0 qA1 qA2 qBW0 qBW1 qBW2 qBx0 qBx1 qBx2 qBG0 qBG1 qBG2
  clear bb A12 C12 W12 BW12 x12 Bx12 xi112 G12 BG12
  have qA0 := A13.b0
  have qA1 := A13.b1
  have qA2 := A13.lt
  have qBW0 := BW13.b0
  have qBW1 := BW13.b1
  have qBW2 := BW13.lt
  have qBx0 := Bx13.b0
  have qBx1 := Bx13.b1
  have qBx2 := Bx13.lt
  have qBG0 := BG13.b0
  have qBG1 := BG13.b1
  have qBG2 := BG13.lt
  go_wp2_with fail
  refine (copy_any _ _ K1 D1 0 w.heap.size (V1.out.below C13 (Nat.le_refl _)) hKs1 (by omega)).mono ?_
  rintro e w14 ⟨rfl, ryi1, bb, zz14⟩
  have hs14 := bb.size
  have A14 := A13.next bb
  have C14 := belowNext C13 bb
  have W14 := W13.next bb
  have BW14 := BW13.next bb
  have x14 := x13.next bb
  have Bx14 := Bx13.next bb
  have xi114 := xi113.next bb (by omega)
  have G14 := G13.next bb
  have BG14 := BG13.next bb
  clear qA0 qA1 qA2 qBW0 qBW1 qBW2 qBx0 qBx1 qBx2 qBG0 qBG1 qBG2
  clear bb A13 C13 W13 BW13 x13 Bx13 xi113 G13 BG13
  have qA0 := A14.b0
  have qA1 := A14.b1
  have qA2 := A14.lt
  have qBW0 := BW14.b0
  have qBW1 := BW14.b1
  have qBW2 := BW14.lt
  have qBx0 := Bx14.b0
  have qBx1 := Bx14.b1
  have qBx2 := Bx14.lt
  have qBG0 := BG14.b0
  have qBG1 := BG14.b1
  have qBG2 := BG14.lt
  go_wp2_with fail
  refine (eq_any _ _ _ K1 D1 0 w14.heap.size 0 w14.heap.size (xi114.all (by omega)) (ryi1.all (by omega)) hKs1).mono ?_
  rintro e w15 ⟨rfl, mm15, hmm15⟩
  have bb : Below w14.heap.size w14 w15 := by rw [hmm15]; exact below_drNN (Below.refl _ _) mm15
  clear hmm15
  clear ryi1
  have hs15 := bb.size
  have A15 := A14.next bb
  have C15 := belowNext C14 bb
  have W15 := W14.next bb
  have BW15 := BW14.next bb
  have x15 := x14.next bb
  have Bx15 := Bx14.next bb
  have xi115 := xi114.next bb (by omega)
  have G15 := G14.next bb
  have BG15 := BG14.next bb
  clear qA0 qA1 qA2 qBW0 qBW1 qBW2 qBx0 qBx1 qBx2 qBG0 qBG1 qBG2
  clear bb A14 C14 W14 BW14 x14 Bx14 xi114 G14 BG14
  have qA0 := A15.b0
  have qA1 := A15.b1
  have qA2 := A15.lt
  have qBW0 := BW15.b0
  have qBW1 := BW15.b1
  have qBW2 := BW15.lt
  have qBx0 := Bx15.b0
  have qBx1 := Bx15.b1
  have qBx2 := Bx15.lt
  have qBG0 := BG15.b0
  have qBG1 := BG15.b1
  have qBG2 := BG15.lt
  go_wp2_with fail
  refine (mark1N _ _ n m N P gx1 gx2 qx QX.out x15 hn hm).mono ?_
  rintro e w16 ⟨rfl, ox', bb⟩
  clear ox'
  clear x15 Bx15
  have hs16 := bb.size
  have A16 := A15.next_upd bb (by intro hx; rcases hx with ⟨_, hx⟩ | ⟨_, hx⟩; all_goals omega)
  have C16 := belowNextUpd C15 bb (by intro x hx; rcases hx with ⟨_, hx⟩ | ⟨_, hx⟩; all_goals omega)
  have W16 := W15.next_upd bb (by refine ⟨?_, ?_⟩; (rcases Nat.eq_zero_or_pos rn with h0 | h0; exact .inl h0; exact .inr (by intro hx; rcases hx with ⟨_, hx⟩ | ⟨_, hx⟩; all_goals omega)); (rcases Nat.eq_zero_or_pos rm with h0 | h0; exact .inl h0; exact .inr (by intro hx; rcases hx with ⟨_, hx⟩ | ⟨_, hx⟩; all_goals omega)))
  have BW16 := BW15.next_upd bb (by intro hx; rcases hx with ⟨_, hx⟩ | ⟨_, hx⟩; all_goals omega)
  have xi116 := xi115.next_upd bb (by omega) (by intro hx; rcases hx with ⟨_, hx⟩ | ⟨_, hx⟩; all_goals omega)
  have G16 := G15.next_upd bb (by refine ⟨?_, ?_⟩; (rcases Nat.eq_zero_or_pos rn with h0 | h0; exact .inl h0; exact .inr (by intro hx; rcases hx with ⟨_, hx⟩ | ⟨_, hx⟩; all_goals omega)); (rcases Nat.eq_zero_or_pos rm with h0 | h0; exact .inl h0; exact .inr (by intro hx; rcases hx with ⟨_, hx⟩ | ⟨_, hx⟩; all_goals omega)))
  have BG16 := BG15.next_upd bb (by intro hx; rcases hx with ⟨_, hx⟩ | ⟨_, hx⟩; all_goals omega)
  clear qA0 qA1 qA2 qBW0 qBW1 qBW2 qBx0 qBx1 qBx2 qBG0 qBG1 qBG2
  clear bb A15 C15 W15 BW15 xi115 G15 BG15
  have qA0 := A16.b0
  have qA1 := A16.b1
  have qA2 := A16.lt
  have qBW0 := BW16.b0
  have qBW1 := BW16.b1
  have qBW2 := BW16.lt
  have qBG0 := BG16.b0
  have qBG1 := BG16.b1
  have qBG2 := BG16.lt
  go_wp2_with fail
  refine (mark_any _ w8.heap.size K1 K1 D1 qx xi116 hKs1 (by omega) (by have := QX.out; omega)).mono ?_
  rintro e w17 ⟨rfl, rM1, oo17⟩
  have bb := Upd.of_only oo17
  clear rM1 oo17
  clear xi116
  have hs17 := bb.size
  have A17 := A16.next_upd bb (by intro hx; skip; all_goals omega)
  have C17 := belowNextUpd C16 bb (by intro x hx; skip; all_goals omega)
  have W17 := W16.next_upd bb (by refine ⟨?_, ?_⟩; (rcases Nat.eq_zero_or_pos rn with h0 | h0; exact .inl h0; exact .inr (by intro hx; skip; all_goals omega)); (rcases Nat.eq_zero_or_pos rm with h0 | h0; exact .inl h0; exact .inr (by intro hx; skip; all_goals omega)))
  have BW17 := BW16.next_upd bb (by intro hx; skip; all_goals omega)
  have G17 := G16.next_upd bb (by refine ⟨?_, ?_⟩; (rcases Nat.eq_zero_or_pos rn with h0 | h0; exact .inl h0; exact .inr (by intro hx; skip; all_goals omega)); (rcases Nat.eq_zero_or_pos rm with h0 | h0; exact .inl h0; exact .inr (by intro hx; skip; all_goals omega)))
  have BG17 := BG16.next_upd bb (by intro hx; skip; all_goals omega)
  clear qA0 qA1 qA2 qBW0 qBW1 qBW2 qBG0 qBG1 qBG2
  clear bb A16 C16 W16 BW16 G16 BG16
  have hqk1 : ¬ ((qx : Int) + (K1 : Int) < 0) := by omega
  have qA0 := A17.b0
  have qA1 := A17.b1
  have qA2 := A17.lt
  have qBW0 := BW17.b0
  have qBW1 := BW17.b1
  have qBW2 := BW17.lt
  have qBG0 := BG17.b0
  have qBG1 := BG17.b1
  have qBG2 := BG17.lt
  go_wp2_with fail
  refine (eqProof_any _ _ _ rn rd rm rl 0 w17.heap.size 0 w17.heap.size G17.pr W17.pr hrn hrm (Nat.le_refl _) (Nat.le_refl _)).mono ?_
  rintro e w18 ⟨rfl, bb⟩
  have hs18 := bb.size
  have A18 := A17.next bb
  have C18 := belowNext C17 bb
  have W18 := W17.next bb
  have BW18 := BW17.next bb
  have G18 := G17.next bb
  have BG18 := BG17.next bb
  clear qA0 qA1 qA2 qBW0 qBW1 qBW2 qBG0 qBG1 qBG2
  clear bb A17 C17 W17 BW17 G17 BG17
  have qA0 := A18.b0
  have qA1 := A18.b1
  have qA2 := A18.lt
  have qBW0 := BW18.b0
  have qBW1 := BW18.b1
  have qBW2 := BW18.lt
  have qBG0 := BG18.b0
  have qBG1 := BG18.b1
  have qBG2 := BG18.lt
  go_wp2_with fail
  refine (mark1P _ _ rn rd rm rl gG1 gG2 qr QR.out G18 hrn hrm).mono ?_
  rintro e w19 ⟨rfl, oG', bb⟩
  clear G18
  have hs19 := bb.size
  have A19 := A18.next_upd bb (by intro hx; rcases hx with ⟨_, hx⟩ | ⟨_, hx⟩; all_goals omega)
  have C19 := belowNextUpd C18 bb (by intro x hx; rcases hx with ⟨_, hx⟩ | ⟨_, hx⟩; all_goals omega)
  have W19 := W18.next_upd bb (by refine ⟨?_, ?_⟩; (rcases Nat.eq_zero_or_pos rn with h0 | h0; exact .inl h0; exact .inr (by intro hx; rcases hx with ⟨_, hx⟩ | ⟨_, hx⟩; all_goals omega)); (rcases Nat.eq_zero_or_pos rm with h0 | h0; exact .inl h0; exact .inr (by intro hx; rcases hx with ⟨_, hx⟩ | ⟨_, hx⟩; all_goals omega)))
  have BW19 := BW18.next_upd bb (by intro hx; rcases hx with ⟨_, hx⟩ | ⟨_, hx⟩; all_goals omega)
  have BG19 := BG18.next_upd bb (by intro hx; rcases hx with ⟨_, hx⟩ | ⟨_, hx⟩; all_goals omega)
  clear qA0 qA1 qA2 qBW0 qBW1 qBW2 qBG0 qBG1 qBG2
  clear bb A18 C18 W18 BW18 BG18
  have oM := oG'
  clear oG'
  have qA0 := A19.b0
  have qA1 := A19.b1
  have qA2 := A19.lt
  have qBW0 := BW19.b0
  have qBW1 := BW19.b1
  have qBW2 := BW19.lt
  have qBG0 := BG19.b0
  have qBG1 := BG19.b1
  have qBG2 := BG19.lt
  go_wp2_with fail
  refine (held1P _ _ rn rm gG1 gG2 qr QR.out oM hrn hrm).mono ?_
  rintro e w20 ⟨rfl, bb⟩
  have hs20 := bb.size
  have A20 := A19.next bb
  have C20 := belowNext C19 bb
  have W20 := W19.next bb
  have BW20 := BW19.next bb
  have BG20 := BG19.next bb
  have M20 := oM.next bb
  clear qA0 qA1 qA2 qBW0 qBW1 qBW2 qBG0 qBG1 qBG2
  clear bb A19 C19 W19 BW19 BG19 oM
  have qA0 := A20.b0
  have qA1 := A20.b1
  have qA2 := A20.lt
  have qBW0 := BW20.b0
  have qBW1 := BW20.b1
  have qBW2 := BW20.lt
  have qBG0 := BG20.b0
  have qBG1 := BG20.b1
  have qBG2 := BG20.lt
  go_wp2_with fail
  refine (toNetwork_any _ _ n N m P 0 w.heap.size (HV.out.below C20 (Nat.le_refl _)) hn hm (by omega)).mono ?_
  rintro e w21 ⟨xt, gt1, gt2, rfl, ot, lt1, lt2, bb⟩
  have hs21 := bb.size
  have A21 := A20.next bb
  have C21 := belowNext C20 bb
  have W21 := W20.next bb
  have BW21 := BW20.next bb
  have BG21 := BG20.next bb
  have M21 := M20.next bb
  clear qA0 qA1 qA2 qBW0 qBW1 qBW2 qBG0 qBG1 qBG2
  clear bb A20 C20 W20 BW20 BG20 M20
  have lxt := ot.lts
  have qA0 := A21.b0
  have qA1 := A21.b1
  have qA2 := A21.lt
  have qBW0 := BW21.b0
  have qBW1 := BW21.b1
  have qBW2 := BW21.lt
  have qBG0 := BG21.b0
  have qBG1 := BG21.b1
  have qBG2 := BG21.lt
  go_wp2_with fail
  refine (copy_any _ _ K1 D1 0 w.heap.size (V1.out.below C21 (Nat.le_refl _)) hKs1 (by omega)).mono ?_
  rintro e w22 ⟨rfl, rti1, bb, zz22⟩
  have hs22 := bb.size
  have A22 := A21.next bb
  have C22 := belowNext C21 bb
  have W22 := W21.next bb
  have BW22 := BW21.next bb
  have BG22 := BG21.next bb
  have M22 := M21.next bb
  have t22 := ot.next bb
  clear qA0 qA1 qA2 qBW0 qBW1 qBW2 qBG0 qBG1 qBG2
  clear bb A21 C21 W21 BW21 BG21 M21 ot
  have qA0 := A22.b0
  have qA1 := A22.b1
  have qA2 := A22.lt
  have qBW0 := BW22.b0
  have qBW1 := BW22.b1
  have qBW2 := BW22.lt
  have qBG0 := BG22.b0
  have qBG1 := BG22.b1
  have qBG2 := BG22.lt
  go_wp2_with fail
  refine (GI.out _ _ _ t22.net (rti1.all (by omega))).mono ?_
  rintro e w23 ⟨xH, gH1, gH2, rfl, oH, lH1, lH2, bb⟩
  have hs23 := bb.size
  have A23 := A22.next bb
  have C23 := belowNext C22 bb
  have W23 := W22.next bb
  have BW23 := BW22.next bb
  have BG23 := BG22.next bb
  have M23 := M22.next bb
  have t23 := t22.next bb
  have ti123 := rti1.next bb (by omega)
  clear qA0 qA1 qA2 qBW0 qBW1 qBW2 qBG0 qBG1 qBG2
  clear bb A22 C22 W22 BW22 BG22 M22 t22 rti1
  have lxH := oH.lts
  obtain ⟨sH1, sH2, sH3, sH4, rfl⟩ := oH.shape
  clear t23 ti123
  have qA0 := A23.b0
  have qA1 := A23.b1
  have qA2 := A23.lt
  have qBW0 := BW23.b0
  have qBW1 := BW23.b1
  have qBW2 := BW23.lt
  have qBG0 := BG23.b0
  have qBG1 := BG23.b1
  have qBG2 := BG23.lt
  go_wp2_with fail
  have bb := below_new w23 (.cells #[.slice sH1 rn sH2, .slice sH3 rm sH4] 38)
  have B_H := boxed w23 (.slice sH1 rn sH2) (.slice sH3 rm sH4) 38
  have hs24 := bb.size
  have A24 := A23.next bb
  have C24 := belowNext C23 bb
  have W24 := W23.next bb
  have BW24 := BW23.next bb
  have BG24 := BG23.next bb
  have M24 := M23.next bb
  have H24 := oH.next bb
  clear qA0 qA1 qA2 qBW0 qBW1 qBW2 qBG0 qBG1 qBG2
  clear bb A23 C23 W23 BW23 BG23 M23 oH
  generalize hW24 : w23.alloc (Obj.cells #[.slice sH1 rn sH2, .slice sH3 rm sH4] 38) = w24 at *
  clear hW24
  have BH24 := B_H
  clear B_H
  have lBH := BH24.lt
  refine (eqProof_any _ _ _ rn rd rm rl 0 w24.heap.size 0 w24.heap.size H24.pr W24.pr hrn hrm (Nat.le_refl _) (Nat.le_refl _)).mono ?_
  rintro e w25 ⟨rfl, bb⟩
  have hs25 := bb.size
  have A25 := A24.next bb
  have C25 := belowNext C24 bb
  have W25 := W24.next bb
  have BW25 := BW24.next bb
  have BG25 := BG24.next bb
  have M25 := M24.next bb
  have H25 := H24.next bb
  have BH25 := BH24.next bb
  clear bb A24 C24 W24 BW24 BG24 M24 H24 BH24
  have qA0 := A25.b0
  have qA1 := A25.b1
  have qA2 := A25.lt
  have qBW0 := BW25.b0
  have qBW1 := BW25.b1
  have qBW2 := BW25.lt
  have qBG0 := BG25.b0
  have qBG1 := BG25.b1
  have qBG2 := BG25.lt
  have qBH0 := BH25.b0
  have qBH1 := BH25.b1
  have qBH2 := BH25.lt
  go_wp2_with fail
  refine (held1P _ _ rn rm gG1 gG2 qr QR.out M25 hrn hrm).mono ?_
  rintro e w26 ⟨rfl, bb⟩
  have hs26 := bb.size
  have A26 := A25.next bb
  have C26 := belowNext C25 bb
  have W26 := W25.next bb
  have BW26 := BW25.next bb
  have BG26 := BG25.next bb
  have M26 := M25.next bb
  have H26 := H25.next bb
  have BH26 := BH25.next bb
  clear qA0 qA1 qA2 qBW0 qBW1 qBW2 qBG0 qBG1 qBG2 qBH0 qBH1 qBH2
  clear bb A25 C25 W25 BW25 BG25 M25 H25 BH25
  go_wp2_with fail
  go_ret
  exact ⟨rfl, C26⟩

set_option maxRecDepth 100000 in
theorem lifted (os : Os) (started : os.Started) (H : Type) (enc : TypeId × Value → H) :
    ReturnsInHanded {} Tryz.checked os 7 .any (Rows.fnExactMakeProofSpec.pre6 enc Tryz.prog Tryz.f7 Rows.fnExactMakeProofRow.domain false) (Rows.fnExactMakeProofSpec.post enc Tryz.prog Tryz.f7 false true false false) := by
  refine returnsInHanded_of_change (C := Tryz.checked) own started (by kernel_rfl) Tryz.func7
    (ChangeSpec.witness6 (enc := enc) (C := Tryz.checked) false ⟨#[], #[.agg #[.slice none 0 0, .slice none 0 0], .slice none 0 0, .int .i64 0], []⟩ 8 (by kernel_rfl) (by kernel_rfl) (by kernel_rfl) (by kernel_rfl)) ?_
  intro W base args ds gs before hval0 hW hcnd _
  have hval : ∀ (j : Nat) t v, Tryz.f7.params[j]? = some t → args[j]? = some v → Value.okWide Tryz.prog W .any base t v := hval0
  have hW' := hW
  obtain ⟨p, q, hA0, hV, rfl, hfz, hnd⟩ := hW
  have hA : DataW.TrodAll enc Tryz.prog W 0 (fun _ => true) true Tryz.f7.params.toList args.toList ds p := hA0
  rw [Tryz.params7] at hA hval
  obtain ⟨v0, vs0, d0, ds0, p0, q0, hargs, rfl, rfl, h0, r0⟩ := trodAll_cons hA
  obtain ⟨v1, vs1, d1, ds1, p1, q1, rfl, rfl, rfl, h1, r1⟩ := trodAll_cons r0
  obtain ⟨v2, vs2, d2, ds2, p2, q2, rfl, rfl, rfl, h2, r2⟩ := trodAll_cons r1
  obtain ⟨rfl, rfl, rfl⟩ := trodAll_nil r2
  obtain rfl : args = #[v0, v1, v2] := by cases args; simp_all
  obtain ⟨rfl, rfl⟩ := trodVars_none hV
  have hc := open_net (hval 0 52 v0 rfl rfl) h0
  have hc1 := open_ints64 (hval 1 28 v1 rfl rfl) h1
  obtain ⟨a2, rfl, rfl, rfl, w2⟩ := open_int Tryz.underlying2 (hval 2 2 v2 rfl rfl) h2
  refine (walk v0 v1 a2 W hc hc1).mono fun e W' ⟨he, hg⟩ => ?_
  subst he
  exact ⟨_, rfl, law.law_post hW' hg laidOut (by kernel_rfl) rfl rfl (by kernel_rfl) Tryz.underlying4⟩

theorem over : Rows.fnExactMakeProofRow.holds Tryz.pinned (OpenSpec.ofChange Rows.fnExactMakeProofSpec) :=
  OpenClaim.holds_of_wide 7 Tryz.f7 rfl rfl rfl rfl rfl rfl rfl ⟨rfl, rfl, rfl, rfl, rfl⟩ rfl rfl rfl rfl rfl (by kernel_rfl) Tryz.func7 (by kernel_rfl)
    (of_decide_eq_true (by kernel_rfl)) (by unfold Func.isWrapper; first | (rw [if_pos (by decide +kernel)]; kernel_rfl) | (rw [if_neg (by decide +kernel)]; exact ⟨rfl, rfl⟩))
    (fun os started H enc _ => lifted os started H enc)

theorem proved : Rows.FnExactMakeProofSaid :=
  over
#print axioms proved
end Go.Proofs.YtdbgcbkmcbgdiaaGreat.fnExactMakeProof
