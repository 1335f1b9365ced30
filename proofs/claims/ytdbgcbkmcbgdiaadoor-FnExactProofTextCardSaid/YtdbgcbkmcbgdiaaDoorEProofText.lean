/-
  The tied card of FnExactProofText: it returns true at every argument, and leaves its arguments as they were, where the library's listed variables start as its text lays them. The card ties that to the program's text (a pruned copy of the project).
-/
import Derived.Test.YtdbgcbkmcbgdiaaDoorCards
import Derived.Test.YtdbgcbkmcbgdiaaDoorTie
import Derived.Test.YtdbgcbkmcbgdiaaDoorNetX
import Derived.Test.YtdbgcbkmcbgdiaaDoorPrf
import Derived.Test.YtdbgcbkmcbgdiaaDoorLaw
import Derived.Test.YtdbgcbkmcbgdiaaDoorPty
import Derived.WalkKit
import Derived.ProofKit
import Derived.OpenShut
import Derived.ChangeMaps5
import Derived.Deep.DeepHandedRow
import Derived.Deep.DeepWitnessRowRef
import Derived.Lib.LaidTab
import Derived.LaidLaws
import Derived.LaidSub
import Derived.Stop.LaidErr
import Derived.HandedShaped
import Derived.Shelf.Vars
import Derived.Lib.SmallJoins
import Derived.OwnWalk
import Derived.Lib.Hide
import Derived.Deep.RegionHeld3
namespace Go.Proofs.YtdbgcbkmcbgdiaaDoor.fnExactProofText
open Go.ChangeShapes Go.WideShapes Go.ChangeAt Go.RowKit
set_option linter.unusedVariables false

theorem own : ownKnob Tryd.prog.godebug = none := by kernel_rfl
theorem laidOut : laidOutB Tryd.prog = true := by kernel_rfl

theorem pow_of {w : World} (hL : laidMetH Tryd.prog Rows.fnExactProofTextRow.laid w) : text.Pow w := by
  have h := laidMetH.filter (fun x => x.1 == "internal/strconv.uint64pow10") hL
  have e : (Rows.fnExactProofTextRow.laid.filter (fun x => x.1 == "internal/strconv.uint64pow10")) = [("internal/strconv.uint64pow10", Lib.tabData .u64 Lib.pow10Tab)] := by kernel_rfl
  rw [e] at h
  exact Lib.tabIs_of_head (rest := []) (g := 0) (t := 104) (e := 94) (n := 20) (by kernel_rfl) (by kernel_rfl) Tryd.underlying104 Tryd.underlying94 (by kernel_rfl) (by kernel_rfl) h

open Go.Proofs.YtdbgcbkmcbgdiaaDoor.mem in
set_option maxRecDepth 100000 in
set_option maxHeartbeats 20000000 in
theorem walk (a0 : Value) (w : World) (hc0 : mem.NetArg w a0) (a1 : Value) (hc1 : mem.PrArg w a1) (hL : laidMetH Tryd.prog Rows.fnExactProofTextRow.laid w) :
    Calls Tryd.prog 3 #[a0, a1] w fun e w' => e = .returned (.bool true) ∧ Below w.heap.size w w' := by
  have HPW := Lib.hid (pow_of hL)
  clear hL
  obtain ⟨n0, N0, m0, P0, V0, hN0⟩ := hc0
  obtain ⟨p0, c0, q0, d0, rfl⟩ := V0.shape
  have HN0 := Lib.hid hN0
  clear hN0
  have HV0 := Lib.hid V0
  clear V0
  obtain ⟨F1, f1, L1, l1, V1, hF1, hL1⟩ := hc1
  obtain ⟨p1, c1, q1, d1, rfl⟩ := V1.shape
  have HV1 := Lib.hid V1
  clear V1
  have A01 := (boxed w (.slice p0 n0 c0) (.slice q0 m0 d0) 25).keep (Below.heap_alloc _ (.cells #[.slice p1 F1 c1, .slice q1 L1 d1] 28) _ (by rw [szal]; omega))
  have A11 := boxed (w.alloc (Obj.cells #[.slice p0 n0 c0, .slice q0 m0 d0] 25)) (.slice p1 F1 c1) (.slice q1 L1 d1) 28
  simp only [szal] at A11
  have C1 : Below w.heap.size w _ := bel2 w (.cells #[.slice p0 n0 c0, .slice q0 m0 d0] 25) (.cells #[.slice p1 F1 c1, .slice q1 L1 d1] 28)
  have hs1 := C1.size
  go_enter Tryd.func3, Tryd.ntmps3
  go_wp2_with fail
  generalize hW1 : ((w.alloc (Obj.cells #[.slice p0 n0 c0, .slice q0 m0 d0] 25)).alloc (Obj.cells #[.slice p1 F1 c1, .slice q1 L1 d1] 28)) = w1 at *
  clear hW1
  have lA0 := A01.lt
  have lA1 := A11.lt
  refine (szNetwork_any _ _ n0 N0 m0 P0 0 w.heap.size 1048576 (HV0.out.below C1 (Nat.le_refl _)) (by omega) (by omega) (by omega) HN0.out).mono ?_
  rintro e w2 ⟨r0, rfl, hr0, bb⟩
  have hs2 := bb.size
  have C2 := belowNext C1 bb
  have A0_2 := A01.next bb
  have A1_2 := A11.next bb
  clear bb C1 A01 A11
  rcases hr0 with rfl | ⟨hr00, hr01, hr02⟩
  · go_wp2_with fail
    go_ret
    exact ⟨rfl, C2⟩
  have qA00 := A0_2.b0
  have qA01 := A0_2.b1
  have qA02 := A0_2.lt
  have qA10 := A1_2.b0
  have qA11 := A1_2.b1
  have qA12 := A1_2.lt
  go_wp2_with fail
  refine (szProof_any _ _ F1 f1 L1 l1 0 w.heap.size r0 (HV1.out.below C2 (Nat.le_refl _)) hF1 hL1 hr00 (by omega)).mono ?_
  rintro e w3 ⟨r1, rfl, hr1, bb⟩
  have hs3 := bb.size
  have C3 := belowNext C2 bb
  have A0_3 := A0_2.next bb
  have A1_3 := A1_2.next bb
  clear qA00 qA01 qA02 qA10 qA11 qA12
  clear bb C2 A0_2 A1_2
  rcases hr1 with rfl | ⟨hr10, hr11, hr12⟩
  · go_wp2_with fail
    go_ret
    exact ⟨rfl, C3⟩
  have hn0b : n0 ≤ 2000000 := by omega
  have hm0b : m0 ≤ 2000000 := by omega
  have hF1b : F1 ≤ 2000000 := by omega
  have hL1b : L1 ≤ 2000000 := by omega
  clear hr01 hr02 hr11 hr12
  obtain ⟨rt, agi, ags⟩ := text.agreeProofText n0 N0 m0 P0 F1 f1 L1 l1 HN0.out hn0b hm0b hF1b hL1b
  have GI := Lib.hid agi
  have GS := Lib.hid ags
  clear agi ags
  have qA00 := A0_3.b0
  have qA01 := A0_3.b1
  have qA02 := A0_3.lt
  have qA10 := A1_3.b0
  have qA11 := A1_3.b1
  have qA12 := A1_3.lt
  go_wp2_with fail
  have KS : ∀ W : World, Below w3.heap.size w3 W → (W.cell? ⟨w.heap.size, 0, none⟩ = some (.slice p0 n0 c0) ∧ W.cell? ⟨w.heap.size, 1, none⟩ = some (.slice q0 m0 d0) ∧ W.cell? ⟨w.heap.size + 1, 0, none⟩ = some (.slice p1 F1 c1) ∧ W.cell? ⟨w.heap.size + 1, 1, none⟩ = some (.slice q1 L1 d1)) := fun W hW => ⟨(hW.cell (p := ⟨w.heap.size, 0, none⟩) qA02).trans qA00, (hW.cell (p := ⟨w.heap.size, 1, none⟩) qA02).trans qA01, (hW.cell (p := ⟨w.heap.size + 1, 0, none⟩) qA12).trans qA10, (hW.cell (p := ⟨w.heap.size + 1, 1, none⟩) qA12).trans qA11⟩
  have K0 : Below w3.heap.size w3 w3.drew := below_drw (Below.refl _ _)
  have KC := Lib.hid C3
  go_region_held3 (fun W : World => W.cell? ⟨w.heap.size, 0, none⟩ = some (.slice p0 n0 c0) ∧ W.cell? ⟨w.heap.size, 1, none⟩ = some (.slice q0 m0 d0) ∧ W.cell? ⟨w.heap.size + 1, 0, none⟩ = some (.slice p1 F1 c1) ∧ W.cell? ⟨w.heap.size + 1, 1, none⟩ = some (.slice q1 L1 d1)) (first | exact ⟨qA00, qA01, qA10, qA11⟩ | exact KS _ KX | exact KS _ KT1 | exact KS _ KT0)
    (first
      | (go_at_call 7; refine (toNetwork_any _ _ n0 N0 m0 P0 0 w.heap.size (HV0.out.below (KC.out.trans (K0.mono (by omega))) (Nat.le_refl _)) hn0b hm0b (by have := K0.size; omega)).mono ?_; rintro e wt0 ⟨x0', g01, g02, rfl, T0, _, _, hb⟩; have KT0 := K0.trans (hb.mono K0.size); have hsz0 := hb.size; clear hb)
      | (go_at_call 8; refine (toProof_any _ _ F1 f1 L1 l1 0 w.heap.size (HV1.out.below (KC.out.trans (KT0.mono (by omega))) (Nat.le_refl _)) hF1b hL1b (by have := KT0.size; omega)).mono ?_; rintro e wt1 ⟨z11, z12, z13, z14, rfl, T1, hb⟩; have T0_1 := T0.next hb; have KT1 := KT0.trans (hb.mono KT0.size); have hsz1 := hb.size; clear hb)
      | (go_at_call 6; refine (GS.out _ _ _ T0_1.net T1).mono ?_; rintro e wS ⟨rfl, hb⟩; have KX := KT1.trans (hb.mono KT1.size); clear hb))
  obtain ⟨w4, hwb⟩ : ∃ w', w' = wS := ⟨_, rfl⟩
  subst hwb
  have bb := KX
  clear KS K0 KX KT0 KT1 T0_1 T1 T0
  have hs4 := bb.size
  have C4 := belowNext C3 bb
  have A0_4 := A0_3.next bb
  have A1_4 := A1_3.next bb
  clear qA00 qA01 qA02 qA10 qA11 qA12
  clear bb C3 A0_3 A1_3
  have qA00 := A0_4.b0
  have qA01 := A0_4.b1
  have qA02 := A0_4.lt
  have qA10 := A1_4.b0
  have qA11 := A1_4.b1
  have qA12 := A1_4.lt
  go_wp2_with fail
  refine (toNetwork_any _ _ n0 N0 m0 P0 0 w.heap.size (HV0.out.below C4 (Nat.le_refl _)) hn0b hm0b (by omega)).mono ?_
  rintro e w5 ⟨xx0, g01, g02, rfl, ox0, _, _, bb⟩
  obtain ⟨sx01, sx02, sx03, sx04, rfl⟩ := ox0.shape
  have hs5 := bb.size
  have C5 := belowNext C4 bb
  have A0_5 := A0_4.next bb
  have A1_5 := A1_4.next bb
  clear qA00 qA01 qA02 qA10 qA11 qA12
  clear bb C4 A0_4 A1_4
  have qA00 := A0_5.b0
  have qA01 := A0_5.b1
  have qA02 := A0_5.lt
  have qA10 := A1_5.b0
  have qA11 := A1_5.b1
  have qA12 := A1_5.lt
  go_wp2_with fail
  have bb := below_new w5 (.cells #[.slice sx01 n0 sx02, .slice sx03 m0 sx04] 35)
  have B_x0 := boxed w5 (.slice sx01 n0 sx02) (.slice sx03 m0 sx04) 35
  have hs6 := bb.size
  have C6 := belowNext C5 bb
  have A0_6 := A0_5.next bb
  have A1_6 := A1_5.next bb
  have x0_6 := ox0.next bb
  clear qA00 qA01 qA02 qA10 qA11 qA12
  clear bb C5 A0_5 A1_5 ox0
  generalize hW6 : w5.alloc (Obj.cells #[.slice sx01 n0 sx02, .slice sx03 m0 sx04] 35) = w6 at *
  clear hW6
  have Bx0_6 := B_x0
  clear B_x0
  have lBx0 := Bx0_6.lt
  refine (toProof_any _ _ F1 f1 L1 l1 0 w.heap.size (HV1.out.below C6 (Nat.le_refl _)) hF1b hL1b (by omega)).mono ?_
  rintro e w7 ⟨sx11, sx12, sx13, sx14, rfl, ox1, bb⟩
  have hs7 := bb.size
  have C7 := belowNext C6 bb
  have A0_7 := A0_6.next bb
  have A1_7 := A1_6.next bb
  have x0_7 := x0_6.next bb
  have Bx0_7 := Bx0_6.next bb
  clear bb C6 A0_6 A1_6 x0_6 Bx0_6
  have qA00 := A0_7.b0
  have qA01 := A0_7.b1
  have qA02 := A0_7.lt
  have qA10 := A1_7.b0
  have qA11 := A1_7.b1
  have qA12 := A1_7.lt
  have qBx00 := Bx0_7.b0
  have qBx01 := Bx0_7.b1
  have qBx02 := Bx0_7.lt
  go_wp2_with fail
  have bb := below_new w7 (.cells #[.slice sx11 F1 sx12, .slice sx13 L1 sx14] 37)
  have B_x1 := boxed w7 (.slice sx11 F1 sx12) (.slice sx13 L1 sx14) 37
  have hs8 := bb.size
  have C8 := belowNext C7 bb
  have A0_8 := A0_7.next bb
  have A1_8 := A1_7.next bb
  have x0_8 := x0_7.next bb
  have Bx0_8 := Bx0_7.next bb
  have x1_8 := ox1.next bb
  clear qA00 qA01 qA02 qA10 qA11 qA12 qBx00 qBx01 qBx02
  clear bb C7 A0_7 A1_7 x0_7 Bx0_7 ox1
  generalize hW8 : w7.alloc (Obj.cells #[.slice sx11 F1 sx12, .slice sx13 L1 sx14] 37) = w8 at *
  clear hW8
  have Bx1_8 := B_x1
  clear B_x1
  have lBx1 := Bx1_8.lt
  refine (GI.out _ _ _ x0_8.net x1_8 (text.pow_below HPW.out C8)).mono ?_
  rintro e w9 ⟨rfl, bb⟩
  have hs9 := bb.size
  have C9 := belowNext C8 bb
  have A0_9 := A0_8.next bb
  have A1_9 := A1_8.next bb
  have x0_9 := x0_8.next bb
  have Bx0_9 := Bx0_8.next bb
  have x1_9 := x1_8.next bb
  have Bx1_9 := Bx1_8.next bb
  clear bb C8 A0_8 A1_8 x0_8 Bx0_8 x1_8 Bx1_8
  have qA00 := A0_9.b0
  have qA01 := A0_9.b1
  have qA02 := A0_9.lt
  have qA10 := A1_9.b0
  have qA11 := A1_9.b1
  have qA12 := A1_9.lt
  have qBx00 := Bx0_9.b0
  have qBx01 := Bx0_9.b1
  have qBx02 := Bx0_9.lt
  have qBx10 := Bx1_9.b0
  have qBx11 := Bx1_9.b1
  have qBx12 := Bx1_9.lt
  go_wp2_with fail
  have KS : ∀ W : World, Below w9.heap.size w9 W → (W.cell? ⟨w.heap.size, 0, none⟩ = some (.slice p0 n0 c0) ∧ W.cell? ⟨w.heap.size, 1, none⟩ = some (.slice q0 m0 d0) ∧ W.cell? ⟨w5.heap.size, 0, none⟩ = some (.slice sx01 n0 sx02) ∧ W.cell? ⟨w5.heap.size, 1, none⟩ = some (.slice sx03 m0 sx04)) := fun W hW => ⟨(hW.cell (p := ⟨w.heap.size, 0, none⟩) qA02).trans qA00, (hW.cell (p := ⟨w.heap.size, 1, none⟩) qA02).trans qA01, (hW.cell (p := ⟨w5.heap.size, 0, none⟩) qBx02).trans qBx00, (hW.cell (p := ⟨w5.heap.size, 1, none⟩) qBx02).trans qBx01⟩
  have K0 : Below w9.heap.size w9 w9.drew := below_drw (Below.refl _ _)
  have KC := Lib.hid C9
  have XF := Lib.hid x0_9
  go_region_held3 (fun W : World => W.cell? ⟨w.heap.size, 0, none⟩ = some (.slice p0 n0 c0) ∧ W.cell? ⟨w.heap.size, 1, none⟩ = some (.slice q0 m0 d0) ∧ W.cell? ⟨w5.heap.size, 0, none⟩ = some (.slice sx01 n0 sx02) ∧ W.cell? ⟨w5.heap.size, 1, none⟩ = some (.slice sx03 m0 sx04)) (first | exact ⟨qA00, qA01, qBx00, qBx01⟩ | exact KS _ KX | exact KS _ K1)
    (first
      | (go_at_call 7; refine (toNetwork_any _ _ n0 N0 m0 P0 0 w.heap.size (HV0.out.below (KC.out.trans (K0.mono (by omega))) (Nat.le_refl _)) hn0b hm0b (by have := K0.size; omega)).mono ?_; rintro e wa ⟨xy, gy1, gy2, rfl, oy, _, _, hb⟩; have K1 := K0.trans (hb.mono K0.size); have XG := XF.out.next K1; clear hb)
      | (go_at_call 10; refine (eqNetwork_any _ _ _ n0 N0 m0 P0 0 _ 0 _ XG.net oy.net (Nat.le_refl _) (Nat.le_refl _)).mono ?_; rintro e wS ⟨rfl, hb⟩; have KX := K1.trans (hb.mono K1.size); clear hb))
  obtain ⟨w10, hwb⟩ : ∃ w', w' = wS := ⟨_, rfl⟩
  subst hwb
  have bb := KX
  clear KS K0 K1 KX KC XF XG oy
  have hs10 := bb.size
  have C10 := belowNext C9 bb
  have A0_10 := A0_9.next bb
  have A1_10 := A1_9.next bb
  have x0_10 := x0_9.next bb
  have Bx0_10 := Bx0_9.next bb
  have x1_10 := x1_9.next bb
  have Bx1_10 := Bx1_9.next bb
  clear qA00 qA01 qA02 qA10 qA11 qA12 qBx00 qBx01 qBx02 qBx10 qBx11 qBx12
  clear bb C9 A0_9 A1_9 x0_9 Bx0_9 x1_9 Bx1_9
  have qA00 := A0_10.b0
  have qA01 := A0_10.b1
  have qA02 := A0_10.lt
  have qA10 := A1_10.b0
  have qA11 := A1_10.b1
  have qA12 := A1_10.lt
  have qBx00 := Bx0_10.b0
  have qBx01 := Bx0_10.b1
  have qBx02 := Bx0_10.lt
  have qBx10 := Bx1_10.b0
  have qBx11 := Bx1_10.b1
  have qBx12 := Bx1_10.lt
  go_wp2_with fail
  have KS : ∀ W : World, Below w10.heap.size w10 W → (W.cell? ⟨w.heap.size + 1, 0, none⟩ = some (.slice p1 F1 c1) ∧ W.cell? ⟨w.heap.size + 1, 1, none⟩ = some (.slice q1 L1 d1) ∧ W.cell? ⟨w7.heap.size, 0, none⟩ = some (.slice sx11 F1 sx12) ∧ W.cell? ⟨w7.heap.size, 1, none⟩ = some (.slice sx13 L1 sx14)) := fun W hW => ⟨(hW.cell (p := ⟨w.heap.size + 1, 0, none⟩) qA12).trans qA10, (hW.cell (p := ⟨w.heap.size + 1, 1, none⟩) qA12).trans qA11, (hW.cell (p := ⟨w7.heap.size, 0, none⟩) qBx12).trans qBx10, (hW.cell (p := ⟨w7.heap.size, 1, none⟩) qBx12).trans qBx11⟩
  have K0 : Below w10.heap.size w10 w10.drew := below_drw (Below.refl _ _)
  have KC := Lib.hid C10
  have XF := Lib.hid x1_10
  go_region_held3 (fun W : World => W.cell? ⟨w.heap.size + 1, 0, none⟩ = some (.slice p1 F1 c1) ∧ W.cell? ⟨w.heap.size + 1, 1, none⟩ = some (.slice q1 L1 d1) ∧ W.cell? ⟨w7.heap.size, 0, none⟩ = some (.slice sx11 F1 sx12) ∧ W.cell? ⟨w7.heap.size, 1, none⟩ = some (.slice sx13 L1 sx14)) (first | exact ⟨qA10, qA11, qBx10, qBx11⟩ | exact KS _ KX | exact KS _ K1)
    (first
      | (go_at_call 8; refine (toProof_any _ _ F1 f1 L1 l1 0 w.heap.size (HV1.out.below (KC.out.trans (K0.mono (by omega))) (Nat.le_refl _)) hF1b hL1b (by have := K0.size; omega)).mono ?_; rintro e wa ⟨y1, y2, y3, y4, rfl, oy, hb⟩; have K1 := K0.trans (hb.mono K0.size); have XG := XF.out.next K1; clear hb)
      | (go_at_call 11; refine (eqProof_any _ _ _ F1 f1 L1 l1 0 _ 0 _ XG oy hF1b hL1b (Nat.le_refl _) (Nat.le_refl _)).mono ?_; rintro e wS ⟨rfl, hb⟩; have KX := K1.trans (hb.mono K1.size); clear hb))
  obtain ⟨w11, hwb⟩ : ∃ w', w' = wS := ⟨_, rfl⟩
  subst hwb
  have bb := KX
  clear KS K0 K1 KX KC XF XG oy
  have hs11 := bb.size
  have C11 := belowNext C10 bb
  have A0_11 := A0_10.next bb
  have A1_11 := A1_10.next bb
  have x0_11 := x0_10.next bb
  have Bx0_11 := Bx0_10.next bb
  have x1_11 := x1_10.next bb
  have Bx1_11 := Bx1_10.next bb
  clear qA00 qA01 qA02 qA10 qA11 qA12 qBx00 qBx01 qBx02 qBx10 qBx11 qBx12
  clear bb C10 A0_10 A1_10 x0_10 Bx0_10 x1_10 Bx1_10
  go_wp2_with fail
  go_ret
  exact ⟨rfl, C11⟩

/-- a world for the witness: the settled one, with the listed variables as their initialisers lay them -/
noncomputable def laidWorld (os : Os) : World :=
  let w0 := (World.holding Tryd.prog os ⟨#[], #[], []⟩)
  { w0 with heap := (((w0.heap).modify 1 fun
      | .cells _ t frozen => .cells #[.int .u8 0, .int .u8 1, .int .u8 28, .int .u8 2, .int .u8 29, .int .u8 14, .int .u8 24, .int .u8 3, .int .u8 30, .int .u8 22, .int .u8 20, .int .u8 15, .int .u8 25, .int .u8 17, .int .u8 4, .int .u8 8, .int .u8 31, .int .u8 27, .int .u8 13, .int .u8 23, .int .u8 21, .int .u8 19, .int .u8 16, .int .u8 7, .int .u8 26, .int .u8 12, .int .u8 18, .int .u8 6, .int .u8 11, .int .u8 5, .int .u8 10, .int .u8 9] t frozen
      | o => o).modify 2 fun
      | .cells _ t frozen => .cells #[.int .u8 0, .int .u8 1, .int .u8 56, .int .u8 2, .int .u8 57, .int .u8 49, .int .u8 28, .int .u8 3, .int .u8 61, .int .u8 58, .int .u8 42, .int .u8 50, .int .u8 38, .int .u8 29, .int .u8 17, .int .u8 4, .int .u8 62, .int .u8 47, .int .u8 59, .int .u8 36, .int .u8 45, .int .u8 43, .int .u8 51, .int .u8 22, .int .u8 53, .int .u8 39, .int .u8 33, .int .u8 30, .int .u8 24, .int .u8 18, .int .u8 12, .int .u8 5, .int .u8 63, .int .u8 55, .int .u8 48, .int .u8 27, .int .u8 60, .int .u8 41, .int .u8 37, .int .u8 16, .int .u8 46, .int .u8 35, .int .u8 44, .int .u8 21, .int .u8 52, .int .u8 32, .int .u8 23, .int .u8 11, .int .u8 54, .int .u8 26, .int .u8 40, .int .u8 15, .int .u8 34, .int .u8 20, .int .u8 31, .int .u8 10, .int .u8 25, .int .u8 14, .int .u8 19, .int .u8 9, .int .u8 13, .int .u8 8, .int .u8 7, .int .u8 6] t frozen
      | o => o).modify 0 fun
      | .cells _ t frozen => .cells #[.int .u64 1, .int .u64 10, .int .u64 100, .int .u64 1000, .int .u64 10000, .int .u64 100000, .int .u64 1000000, .int .u64 10000000, .int .u64 100000000, .int .u64 1000000000, .int .u64 10000000000, .int .u64 100000000000, .int .u64 1000000000000, .int .u64 10000000000000, .int .u64 100000000000000, .int .u64 1000000000000000, .int .u64 10000000000000000, .int .u64 100000000000000000, .int .u64 1000000000000000000, .int .u64 10000000000000000000] t frozen
      | o => o }
theorem laid_met (os : Os) : laidMet Tryd.prog Rows.fnExactProofTextRow.laid ((laidWorld os).forCall (fun _ _ => 0) ⟨#[], #[.agg #[.slice none 0 0, .slice none 0 0], .agg #[.slice none 0 0, .slice none 0 0]], []⟩).memory :=
  laidMet_of_run' 8 (by kernel_rfl) (by kernel_rfl)
theorem reads (os : Os) {H : Type} (enc : TypeId × Value → H) : ∃ places, DataW.whole enc Tryd.prog ((laidWorld os).forCall (fun _ _ => 0) ⟨#[], #[.agg #[.slice none 0 0, .slice none 0 0], .agg #[.slice none 0 0, .slice none 0 0]], []⟩).memory Tryd.f3.params.toList Rows.fnExactProofTextSpec.vars false #[.agg #[.slice none 0 0, .slice none 0 0], .agg #[.slice none 0 0, .slice none 0 0]].toList 8 = some ([.agg [.nil, .nil], .agg [.nil, .nil]], [], places) :=
  ⟨[], by kernel_rfl⟩

set_option maxRecDepth 100000 in
theorem lifted (os : Os) (started : os.Started) (H : Type) (enc : TypeId × Value → H) (F : Stop.Interp) :
    ReturnsInHanded {} Tryd.checked os 3 .any ((OpenSpec.ofChange Rows.fnExactProofTextSpec).preRow enc Tryd.prog Tryd.f3 Rows.fnExactProofTextRow.domain false Rows.fnExactProofTextRow.laid) (((OpenSpec.ofChange Rows.fnExactProofTextSpec).at F).post enc Tryd.prog Tryd.f3 false true false false) := by
  obtain ⟨places, hx⟩ := reads os enc
  refine returnsInHanded_of_row (C := Tryd.checked) (s := OpenSpec.ofChange Rows.fnExactProofTextSpec) own started (by kernel_rfl) Tryd.func3
    (witness_row_at (enc := enc) (C := Tryd.checked) false (laidWorld os) #[.agg #[.slice none 0 0, .slice none 0 0], .agg #[.slice none 0 0, .slice none 0 0]] rfl (by kernel_rfl) (by kernel_rfl) (by kernel_rfl)
      (OpenSpec.preRow_of_cond 8 hx (by kernel_rfl) (fun k hk => by cases hk) (by kernel_rfl) (laid_met os))) ?_
  intro W base args ds gs before hval0 hW h5 h6 h7 hL h9 h10
  have hW' := hW
  obtain ⟨p, q, hA0, hV, rfl, hfz, hnd⟩ := hW
  have hA : DataW.TrodAll enc Tryd.prog W 0 (fun _ => true) true Tryd.f3.params.toList args.toList ds p := hA0
  have hval : ∀ (j : Nat) t v, Tryd.f3.params[j]? = some t → args[j]? = some v → Value.okWide Tryd.prog W .any base t v := hval0
  rw [Tryd.params3] at hA hval
  obtain ⟨v0, vs0, d0, ds0, p0, q0, hargs, rfl, rfl, h0, r0⟩ := trodAll_cons hA
  obtain ⟨v1, vs1, d1, ds1, p1, q1, rfl, rfl, rfl, h1, r1⟩ := trodAll_cons r0
  obtain ⟨rfl, rfl, rfl⟩ := trodAll_nil r1
  obtain rfl : args = #[v0, v1] := by cases args; simp_all
  obtain ⟨rfl, rfl⟩ := trodVars_none hV
  have hc0 := mem.open_net (hval 0 25 v0 rfl rfl) h0
  have hc1 := mem.open_proof (hval 1 28 v1 rfl rfl) h1
  refine (walk v0 W hc0 v1 hc1 hL).mono fun e W' ⟨he, hg⟩ => ?_
  subst he
  exact ⟨_, rfl, law.law_post hW' hg laidOut (by kernel_rfl) rfl rfl (by kernel_rfl) Tryd.underlying4⟩

theorem said : Rows.FnExactProofTextSaid :=
  OpenClaim.holds_of_cond 3 Tryd.f3 rfl rfl rfl rfl rfl rfl rfl ⟨rfl, rfl, rfl, rfl, rfl⟩ rfl rfl rfl rfl rfl (by kernel_rfl) Tryd.func3 (by kernel_rfl)
    (of_decide_eq_true (by kernel_rfl)) (by unfold Func.isWrapper; first | (rw [if_pos (by decide +kernel)]; kernel_rfl) | (rw [if_neg (by decide +kernel)]; exact ⟨rfl, rfl⟩))
    (fun os started H enc _ F => by rw [OpenClaim.pre_eq_preRow]; exact lifted os started H enc F)

theorem plain (f : FuncId) (fn : Func) (hf : Tryd.pinned.checked.prog.funcNamed "loop.example/g00852/laws.FnExactProofText" = some f) (hfn : Tryd.pinned.checked.prog.funcs[f]? = some fn) :
    false = Tryd.pinned.checked.prog.looks [] ∧ ∀ (j : Nat) t, fn.params[j]? = some t → Tryd.pinned.checked.prog.wantsStandIn t = false := by
  obtain rfl : f = 3 := Option.some.inj ((show Tryd.prog.funcNamed "loop.example/g00852/laws.FnExactProofText" = some 3 by kernel_rfl).symm.trans hf) |>.symm
  obtain rfl : fn = Tryd.f3 := (Option.some.inj (Tryd.func3.symm.trans hfn)).symm
  refine ⟨by kernel_rfl, fun j t ht => ?_⟩
  rw [Tryd.params3] at ht
  have hm := Array.mem_of_getElem? ht
  simp only [List.mem_toArray, List.mem_cons, List.not_mem_nil, or_false] at hm
  rcases hm with rfl | rfl
  · exact (show Tryd.prog.wantsStandIn 25 = false by kernel_rfl)
  · exact (show Tryd.prog.wantsStandIn 28 = false by kernel_rfl)

theorem proved : Rows.FnExactProofTextCardSaid :=
  Claim7.holds_tied_plain_at .later [] _ _ _ _ said (fun _ h => by cases h) (by kernel_rfl) (fun _ h => by cases h) fnExactProofText_row_tie rfl ⟨rfl, rfl⟩ (by kernel_rfl) rfl plain (by kernel_rfl)
#print axioms proved
end Go.Proofs.YtdbgcbkmcbgdiaaDoor.fnExactProofText
