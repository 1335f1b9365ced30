/-
  FnExactMovesNeeded returns true at every argument, and leaves its arguments as they were. No condition.
-/
import Derived.Test.YtfkacpphdnlkfaaGreatRows
import Derived.Test.YtfkacpphdnlkfaaGreatNetX
import Derived.Test.YtfkacpphdnlkfaaGreatLsv
import Derived.WalkKit
import Derived.ProofKit
import Derived.OpenShut
import Derived.ChangeMaps5
import Derived.Lib.Hide
import Derived.Deep.RegionHeld3
import Derived.OwnWalk
import Derived.Test.YtfkacpphdnlkfaaGreatIntA
namespace Go.Proofs.YtfkacpphdnlkfaaGreat.fnExactMovesNeeded
open Go.ChangeShapes Go.WideShapes Go.ChangeAt Go.RowKit Go.Proofs.YtfkacpphdnlkfaaGreat.mem
set_option linter.unusedVariables false

theorem own : ownKnob Tryz.prog.godebug = none := by kernel_rfl
theorem laidOut : laidOutB Tryz.prog = true := by kernel_rfl

set_option maxRecDepth 100000 in
set_option maxHeartbeats 20000000 in
theorem walk (v : Value) (a1 : Value) (w : World) (hc : NetArg w v) (hc1 : IntsArg w a1) :
    Calls Tryz.prog 4 #[v, a1] w fun e w' => e = .returned (.bool true) ∧ Below w.heap.size w w' := by
  obtain ⟨n, N, m, P, V0, hN⟩ := hc
  obtain ⟨p0, c0, p1, c1, rfl⟩ := V0.shape
  obtain ⟨K1, D1, hK1, hS1⟩ := hc1
  have hsh1 : ∃ p cap, a1 = .slice p K1 cap := by
    obtain ⟨p, cap, e, _⟩ := hS1.ex
    exact ⟨p, cap, e⟩
  obtain ⟨pp1, cc1, rfl⟩ := hsh1
  by_cases hbig1 : (1048576 : Int) < K1
  · clear V0 hN hS1
    go_enter Tryz.func4, Tryz.ntmps4
    go_wp2_with fail
    go_ret
    exact ⟨rfl, below_new _ _⟩
  have hKs1 : K1 ≤ 2000000 := by omega
  have V1 := Lib.hid hS1
  clear hS1
  have HV := Lib.hid V0
  have HN := Lib.hid hN
  clear V0 hN
  have A1 := boxed w (.slice p0 n c0) (.slice p1 m c1) 25
  have C1 : Below w.heap.size w _ := below_new w (.cells #[.slice p0 n c0, .slice p1 m c1] 25)
  have hs1 := C1.size
  go_enter Tryz.func4, Tryz.ntmps4
  go_wp2_with fail
  generalize hW1 : w.alloc (Obj.cells #[.slice p0 n c0, .slice p1 m c1] 25) = w1 at *
  clear hW1
  have lA := A1.lt
  refine (szNetwork_any _ _ n N m P 0 w.heap.size 1048576 (HV.out.below C1 (Nat.le_refl _)) hs1 (by omega) (by omega) HN.out).mono ?_
  rintro e w2 ⟨r, rfl, hr, bb⟩
  have hs2 := bb.size
  have A2 := A1.next bb
  have C2 := belowNext C1 bb
  clear bb A1 C1
  rcases hr with rfl | ⟨hr0, hr1, hr2⟩
  · go_wp2_with fail
    go_ret
    exact ⟨rfl, C2⟩
  have hn : n ≤ 2000000 := by omega
  have hm : m ≤ 2000000 := by omega
  clear hr1 hr2
  obtain ⟨ra, rc, agi, ags⟩ := agreeMovesNeeded n N m P K1 D1 HN.out hn hm hKs1
  have GI := Lib.hid agi
  have GS := Lib.hid ags
  clear agi ags
  have hb1 : (ra != ra) = false := by simp
  have hb2 : (rc != rc) = false := by simp
  have qA0 := A2.b0
  have qA1 := A2.b1
  have qA2 := A2.lt
  go_wp2_with fail
  refine (toNetwork_any _ _ n N m P 0 w.heap.size (HV.out.below C2 (Nat.le_refl _)) hn hm (by omega)).mono ?_
  rintro e w3 ⟨xt, gt1, gt2, rfl, ot, lt1, lt2, bb⟩
  have hs3 := bb.size
  have A3 := A2.next bb
  have C3 := belowNext C2 bb
  clear qA0 qA1 qA2
  clear bb A2 C2
  have lxt := ot.lts
  have qA0 := A3.b0
  have qA1 := A3.b1
  have qA2 := A3.lt
  go_wp2_with fail
  refine (copy_any _ _ K1 D1 0 w.heap.size (V1.out.below C3 (Nat.le_refl _)) hKs1 (by omega)).mono ?_
  rintro e w4 ⟨rfl, rti1, bb, zz4⟩
  have hs4 := bb.size
  have A4 := A3.next bb
  have C4 := belowNext C3 bb
  have t4 := ot.next bb
  clear qA0 qA1 qA2
  clear bb A3 C3 ot
  have qA0 := A4.b0
  have qA1 := A4.b1
  have qA2 := A4.lt
  go_wp2_with fail
  refine (GS.out _ _ _ t4.net (rti1.all (by omega))).mono ?_
  rintro e w5 ⟨rfl, bb⟩
  have hs5 := bb.size
  have A5 := A4.next bb
  have C5 := belowNext C4 bb
  have t5 := t4.next bb
  have ti15 := rti1.next bb (by omega)
  clear qA0 qA1 qA2
  clear bb A4 C4 t4 rti1
  clear t5 ti15
  have qA0 := A5.b0
  have qA1 := A5.b1
  have qA2 := A5.lt
  go_wp2_with fail
  refine (toNetwork_any _ _ n N m P 0 w.heap.size (HV.out.below C5 (Nat.le_refl _)) hn hm (by omega)).mono ?_
  rintro e w6 ⟨xx, gx1, gx2, rfl, ox, lx1, lx2, bb⟩
  have hs6 := bb.size
  have A6 := A5.next bb
  have C6 := belowNext C5 bb
  clear qA0 qA1 qA2
  clear bb A5 C5
  have lxx := ox.lts
  obtain ⟨sx1, sx2, sx3, sx4, rfl⟩ := ox.shape
  have qA0 := A6.b0
  have qA1 := A6.b1
  have qA2 := A6.lt
  go_wp2_with fail
  have bb := below_new w6 (.cells #[.slice sx1 n sx2, .slice sx3 m sx4] 33)
  have B_x := boxed w6 (.slice sx1 n sx2) (.slice sx3 m sx4) 33
  have hs7 := bb.size
  have A7 := A6.next bb
  have C7 := belowNext C6 bb
  have x7 := ox.next bb
  clear qA0 qA1 qA2
  clear bb A6 C6 ox
  generalize hW7 : w6.alloc (Obj.cells #[.slice sx1 n sx2, .slice sx3 m sx4] 33) = w7 at *
  clear hW7
  have Bx7 := B_x
  clear B_x
  have lBx := Bx7.lt
  refine (copy_any _ _ K1 D1 0 w.heap.size (V1.out.below C7 (Nat.le_refl _)) hKs1 (by omega)).mono ?_
  rintro e w8 ⟨rfl, rxi1, bb, zz8⟩
  have hs8 := bb.size
  have A8 := A7.next bb
  have C8 := belowNext C7 bb
  have x8 := x7.next bb
  have Bx8 := Bx7.next bb
  clear bb A7 C7 x7 Bx7
  have qA0 := A8.b0
  have qA1 := A8.b1
  have qA2 := A8.lt
  have qBx0 := Bx8.b0
  have qBx1 := Bx8.b1
  have qBx2 := Bx8.lt
  go_wp2_with fail
  refine (GI.out _ _ _ x8.net (rxi1.all (by omega))).mono ?_
  rintro e w9 ⟨rfl, bb⟩
  have hs9 := bb.size
  have A9 := A8.next bb
  have C9 := belowNext C8 bb
  have x9 := x8.next bb
  have Bx9 := Bx8.next bb
  have xi19 := rxi1.next bb (by omega)
  clear qA0 qA1 qA2 qBx0 qBx1 qBx2
  clear bb A8 C8 x8 Bx8 rxi1
  have qA0 := A9.b0
  have qA1 := A9.b1
  have qA2 := A9.lt
  have qBx0 := Bx9.b0
  have qBx1 := Bx9.b1
  have qBx2 := Bx9.lt
  go_wp2_with fail
  go_region_held3 (fun w' => w'.cell? ⟨w.heap.size, 0, none⟩ = some (.slice p0 n c0) ∧ w'.cell? ⟨w.heap.size, 1, none⟩ = some (.slice p1 m c1) ∧ w'.cell? ⟨w6.heap.size, 0, none⟩ = some (.slice sx1 n sx2) ∧ w'.cell? ⟨w6.heap.size, 1, none⟩ = some (.slice sx3 m sx4)) (first | exact ⟨qA0, qA1, qBx0, qBx1⟩ | exact hold4 hb2 hsaA hsaX (hold4 hb1 qA2 qBx2 ⟨qA0, qA1, qBx0, qBx1⟩) | exact hold4 hb1 qA2 qBx2 ⟨qA0, qA1, qBx0, qBx1⟩)
    (first | (go_at_call 10; refine (toNetwork_any _ _ n N m P 0 w.heap.size (HV.out.below C9 (Nat.le_refl _)).drew hn hm (by simp; omega)).mono ?_; rintro e wa ⟨xy, gy1, gy2, rfl, oy, ly1, ly2, hb1⟩; have hsa := hb1.size; simp only [World.heap_drew] at hsa; have hsaA := Nat.lt_of_lt_of_le qA2 hsa; have hsaX := Nat.lt_of_lt_of_le qBx2 hsa) | (go_at_call 14; refine (eqNetwork_any _ _ _ n N m P 0 _ 0 _ (x9.drew.next hb1).net oy.net (Nat.le_refl _) (Nat.le_refl _)).mono ?_; rintro e wb ⟨rfl, hb2⟩))
  obtain ⟨w10, hwb⟩ : ∃ w', w' = wb := ⟨_, rfl⟩
  subst hwb
  have bb : Below w9.heap.size w9 w10 := below_dr0 (belowNext hb1 hb2)
  clear hb1 hb2 oy ly1 ly2 hsa hsaA hsaX
  have hs10 := bb.size
  have A10 := A9.next bb
  have C10 := belowNext C9 bb
  have x10 := x9.next bb
  have Bx10 := Bx9.next bb
  have xi110 := xi19.next bb (by omega)
  clear qA0 qA1 qA2 qBx0 qBx1 qBx2
  clear bb A9 C9 x9 Bx9 xi19
  have qA0 := A10.b0
  have qA1 := A10.b1
  have qA2 := A10.lt
  have qBx0 := Bx10.b0
  have qBx1 := Bx10.b1
  have qBx2 := Bx10.lt
  go_wp2_with fail
  refine (copy_any _ _ K1 D1 0 w.heap.size (V1.out.below C10 (Nat.le_refl _)) hKs1 (by omega)).mono ?_
  rintro e w11 ⟨rfl, ryi1, bb, zz11⟩
  have hs11 := bb.size
  have A11 := A10.next bb
  have C11 := belowNext C10 bb
  have x11 := x10.next bb
  have Bx11 := Bx10.next bb
  have xi111 := xi110.next bb (by omega)
  clear qA0 qA1 qA2 qBx0 qBx1 qBx2
  clear bb A10 C10 x10 Bx10 xi110
  have qA0 := A11.b0
  have qA1 := A11.b1
  have qA2 := A11.lt
  have qBx0 := Bx11.b0
  have qBx1 := Bx11.b1
  have qBx2 := Bx11.lt
  go_wp2_with fail
  refine (eq_any _ _ _ K1 D1 0 w11.heap.size 0 w11.heap.size (xi111.all (by omega)) (ryi1.all (by omega)) hKs1).mono ?_
  rintro e w12 ⟨rfl, mm12, hmm12⟩
  have bb : Below w11.heap.size w11 w12 := by rw [hmm12]; exact below_drNN (Below.refl _ _) mm12
  clear hmm12
  clear ryi1
  have hs12 := bb.size
  have A12 := A11.next bb
  have C12 := belowNext C11 bb
  have x12 := x11.next bb
  have Bx12 := Bx11.next bb
  have xi112 := xi111.next bb (by omega)
  clear qA0 qA1 qA2 qBx0 qBx1 qBx2
  clear bb A11 C11 x11 Bx11 xi111
  go_wp2_with fail
  go_ret
  exact ⟨rfl, C12⟩

set_option maxRecDepth 100000 in
theorem lifted (os : Os) (started : os.Started) (H : Type) (enc : TypeId × Value → H) :
    ReturnsInHanded {} Tryz.checked os 4 .any (Rows.fnExactMovesNeededSpec.pre6 enc Tryz.prog Tryz.f4 Rows.fnExactMovesNeededRow.domain false) (Rows.fnExactMovesNeededSpec.post enc Tryz.prog Tryz.f4 false true false false) := by
  refine returnsInHanded_of_change (C := Tryz.checked) own started (by kernel_rfl) Tryz.func4
    (ChangeSpec.witness6 (enc := enc) (C := Tryz.checked) false ⟨#[], #[.agg #[.slice none 0 0, .slice none 0 0], .slice none 0 0], []⟩ 8 (by kernel_rfl) (by kernel_rfl) (by kernel_rfl) (by kernel_rfl)) ?_
  intro W base args ds gs before hval0 hW hcnd _
  have hval : ∀ (j : Nat) t v, Tryz.f4.params[j]? = some t → args[j]? = some v → Value.okWide Tryz.prog W .any base t v := hval0
  have hW' := hW
  obtain ⟨p, q, hA0, hV, rfl, hfz, hnd⟩ := hW
  have hA : DataW.TrodAll enc Tryz.prog W 0 (fun _ => true) true Tryz.f4.params.toList args.toList ds p := hA0
  rw [Tryz.params4] at hA hval
  obtain ⟨v0, vs0, d0, ds0, p0, q0, hargs, rfl, rfl, h0, r0⟩ := trodAll_cons hA
  obtain ⟨v1, vs1, d1, ds1, p1, q1, rfl, rfl, rfl, h1, r1⟩ := trodAll_cons r0
  obtain ⟨rfl, rfl, rfl⟩ := trodAll_nil r1
  obtain rfl : args = #[v0, v1] := by cases args; simp_all
  obtain ⟨rfl, rfl⟩ := trodVars_none hV
  have hc := open_net (hval 0 25 v0 rfl rfl) h0
  have hc1 := open_ints64 (hval 1 26 v1 rfl rfl) h1
  refine (walk v0 v1 W hc hc1).mono fun e W' ⟨he, hg⟩ => ?_
  subst he
  exact ⟨_, rfl, law.law_post hW' hg laidOut (by kernel_rfl) rfl rfl (by kernel_rfl) Tryz.underlying4⟩

theorem over : Rows.fnExactMovesNeededRow.holds Tryz.pinned (OpenSpec.ofChange Rows.fnExactMovesNeededSpec) :=
  OpenClaim.holds_of_wide 4 Tryz.f4 rfl rfl rfl rfl rfl rfl rfl ⟨rfl, rfl, rfl, rfl, rfl⟩ rfl rfl rfl rfl rfl (by kernel_rfl) Tryz.func4 (by kernel_rfl)
    (of_decide_eq_true (by kernel_rfl)) (by unfold Func.isWrapper; first | (rw [if_pos (by decide +kernel)]; kernel_rfl) | (rw [if_neg (by decide +kernel)]; exact ⟨rfl, rfl⟩))
    (fun os started H enc _ => lifted os started H enc)

theorem proved : Rows.FnExactMovesNeededSaid :=
  over
#print axioms proved
end Go.Proofs.YtfkacpphdnlkfaaGreat.fnExactMovesNeeded
