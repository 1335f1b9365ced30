/-
  FnExactSharesOf returns true at every number and slice of numbers, and leaves the slice as it was. No condition.
-/
import Derived.Test.YtmjmamiokkkblabRows
import Derived.Test.YtmjmamiokkkblabRes
import Derived.WalkKit
import Derived.ProofKit
import Derived.OpenShut
import Derived.Lib.Hide
import Derived.Deep.QuietTactic
import Derived.BigQuiet
namespace Go.Proofs.Ytmjmamiokkkblab.fnExactSharesOf
open Go.ChangeShapes Go.WideShapes Go.ChangeAt Go.RowKit Go.Proofs.Ytmjmamiokkkblab.mem Go.Proofs.Ytmjmamiokkkblab.share
set_option linter.unusedVariables false

theorem own : ownKnob Try.prog.godebug = none := by kernel_rfl
theorem laidOut : laidOutB Try.prog = true := by kernel_rfl

set_option maxHeartbeats 20000000 in
theorem walk (T : Int) (v : Value) (w : World) (hc : mem.IntsArg w v) :
    Calls Try.prog 4 #[.int .i64 T, v] w fun e w' => e = .returned (.bool true) ∧ Below w.heap.size w w' := by
  obtain ⟨n, d, hn, hs⟩ := hc
  obtain ⟨p, cap, hv, hcell⟩ := hs.ex
  by_cases hbig : (1048576 : Int) < n
  · subst hv
    clear hs hcell
    go_enter Try.func4, Try.ntmps4
    go_wp2_with fail
    go_ret
    exact ⟨rfl, Below.refl _ _⟩
  have hn2 : n ≤ 2000000 := by omega
  clear hcell
  subst hv
  have V0 := Lib.hid hs
  clear hs
  generalize hN : NN T n d = N
  have hN64 : N ≤ 64 := by rw [← hN]; exact NN_le T n d
  have HN := Lib.hid hN
  clear hN
  generalize hcd : code T n d = c
  have HCD := Lib.hid hcd
  clear hcd
  go_enter Try.func4, Try.ntmps4
  go_wp2_with fail
  -- spec on a copy
  refine (copy_any _ _ n d _ _ V0.out hn2 (Nat.le_refl _)).mono ?_
  rintro e w1 ⟨rfl, r1, b1, z1⟩
  have B1 := Lib.hid b1
  have Z1 := Lib.hid z1
  have C1 := Lib.hid (r1.sl (cap := n) (lo := 0) (hi := w1.heap.size) (Nat.zero_le _) (by omega))
  clear r1 b1 z1
  go_wp2_with fail
  refine (shares_spec _ _ T n d _ _ C1.out (Nat.le_refl _) hn).mono ?_
  rintro e w2 hp
  obtain ⟨vw, bw, rfl, b2, hbw, rw2⟩ := hp.res' HN.out HCD.out
  have hs1 : w.heap.size ≤ w1.heap.size := B1.out.size
  have BB2 := Lib.hid (B1.out.trans (b2.mono hs1))
  have V2 := Lib.hid ((V0.out.below B1.out (Nat.le_refl _)).below b2 hs1)
  have W2 := Lib.hid rw2
  have LW := Lib.hid rw2.lt
  clear hp b2 rw2 C1 B1 V0
  have hs2 : w.heap.size ≤ w2.heap.size := BB2.out.size
  go_wp2_with fail
  -- the program on a copy
  refine (copy_any _ _ n d _ _ V2.out hn2 hs2).mono ?_
  rintro e w3 ⟨rfl, r3, b3, z3⟩
  replace z3 := Nat.le_antisymm_iff.1 z3
  have BB3 := Lib.hid (BB2.out.trans (b3.mono hs2))
  have V3 := Lib.hid (V2.out.below b3 hs2)
  have W3 := Lib.hid (W2.out.below b3 (Nat.le_refl _))
  have R3 := Lib.hid r3
  generalize hx : w2.heap.size = x1 at *
  have C3 := Lib.hid (r3.sl (cap := n) (lo := 0) (hi := w3.heap.size) (Nat.zero_le _) (by omega))
  have hs3 : w.heap.size ≤ w3.heap.size := by omega
  clear r3 b3 V2 W2 BB2
  go_wp2_with fail
  refine (shares_any _ _ T n d _ _ C3.out (Nat.le_refl _) hn).mono ?_
  rintro e w4 hp
  obtain ⟨vg, bg, rfl, b4, hbg, rg⟩ := hp.res' HN.out HCD.out
  have BB4 := Lib.hid (BB3.out.trans (b4.mono hs3))
  have V4 := Lib.hid (V3.out.below b4 hs3)
  have W4 := Lib.hid (W3.out.below b4 (Nat.le_refl _))
  have R4 := Lib.hid (R3.out.below b4 (show x1 < w3.heap.size by omega))
  have G4 := Lib.hid rg
  have hs4 : w3.heap.size ≤ w4.heap.size := b4.size
  clear hp b4 rg C3 V3 W3 BB3 R3
  go_wp2_with fail
  refine (eq_all _ _ _ N (shr T d n) _ _ _ _ G4.out.sl W4.out.sl (by omega)).mono ?_
  rintro e w5 ⟨rfl, b5, z5⟩
  have BB5 := Lib.hid (BB4.out.trans (b5 _))
  have V5 := Lib.hid (V4.out.below (b5 _) (Nat.le_refl _))
  have W5 := Lib.hid (W4.out.below (b5 _) (Nat.le_refl _))
  have R5 := Lib.hid (R4.out.below (b5 _) (Nat.lt_succ_self _))
  have G5 := Lib.hid (G4.out.below (b5 _) (Nat.le_refl _))
  have hs5 : w.heap.size ≤ w5.heap.size := by omega
  clear b5 V4 W4 BB4 R4 G4
  go_wp2_with fail
  refine (copy_any _ _ n d _ _ V5.out hn2 hs5).mono ?_
  rintro e w6 ⟨rfl, r6, b6, z6⟩
  replace z6 := Nat.le_antisymm_iff.1 z6
  have BB6 := Lib.hid (BB5.out.trans (b6.mono hs5))
  have V6 := Lib.hid (V5.out.below b6 hs5)
  have W6 := Lib.hid (W5.out.below b6 (Nat.le_refl _))
  have R6 := Lib.hid (R5.out.below b6 (show x1 < w5.heap.size by omega))
  have G6 := Lib.hid (G5.out.below b6 (Nat.le_refl _))
  have C6 := Lib.hid (r6.sl (cap := n) (lo := 0) (hi := w6.heap.size) (Nat.zero_le _) (by omega))
  have X6 := Lib.hid (R6.out.sl (cap := n) (lo := 0) (hi := w6.heap.size) (Nat.zero_le _) (by omega))
  clear r6 b6 V5 W5 BB5 R5 G5
  go_wp2_with fail
  refine (eq_all _ _ _ n d _ _ _ _ X6.out C6.out hn2).mono ?_
  rintro e w7 ⟨rfl, b7, z7⟩
  have BB7 := Lib.hid (BB6.out.trans (b7 _))
  have V7 := Lib.hid (V6.out.below (b7 _) (Nat.le_refl _))
  have W7 := Lib.hid (W6.out.below (b7 _) (Nat.le_refl _))
  have R7 := Lib.hid (R6.out.below (b7 _) (Nat.lt_succ_self _))
  have G7 := Lib.hid (G6.out.below (b7 _) (Nat.le_refl _))
  clear b7 V6 W6 BB6 R6 G6 C6 X6
  go_wp2_with fail
  refine (mark_any _ x1 n n d 1 R7.out hn2 (by omega) (by omega)).mono ?_
  rintro e w8 ⟨rfl, r8, o8⟩
  have BB8 := Lib.hid (BB7.out.trans (o8.below hs2))
  have V8 := Lib.hid (V7.out.below (o8.below hs2) (Nat.le_refl _))
  have W8 := Lib.hid (W7.out.only o8 (by have := LW.out; omega))
  have G8 := Lib.hid (G7.out.only o8 (by omega))
  have z8 := Nat.le_antisymm_iff.1 o8.size.symm
  have hk0 : ¬ ((1 : Int) + n < 0) := by omega
  clear r8 o8 V7 W7 BB7 R7 G7
  go_wp2_with fail
  refine (eq_all _ _ _ N (shr T d n) _ _ _ _ G8.out.sl W8.out.sl (by omega)).mono ?_
  rintro e w9 ⟨rfl, b9, z9⟩
  have BB9 := Lib.hid (BB8.out.trans (b9 _))
  have V9 := Lib.hid (V8.out.below (b9 _) (Nat.le_refl _))
  have W9 := Lib.hid (W8.out.below (b9 _) (Nat.le_refl _))
  have G9 := Lib.hid (G8.out.below (b9 _) (Nat.le_refl _))
  clear b9 V8 W8 BB8 G8
  go_wp2_with fail
  refine (mark_res _ _ N bg (shr T d n) 1 G9.out (by omega) (by omega) (by omega)).mono ?_
  rintro e w10 ⟨rfl, r10, o10⟩
  have BB10 := Lib.hid (BB9.out.trans (o10.below (by omega)))
  have V10 := Lib.hid (V9.out.below (o10.below (B := w.heap.size) (by omega)) (Nat.le_refl _))
  have W10 := Lib.hid (W9.out.only o10 (by have := LW.out; omega))
  have G10 := Lib.hid r10
  have z10 := Nat.le_antisymm_iff.1 o10.size.symm
  have hq0 : ¬ ((1 : Int) + N < 0) := by omega
  clear r10 o10 V9 W9 BB9 G9
  have hs10 : w.heap.size ≤ w10.heap.size := by omega
  go_wp2_with fail
  refine (held_any _ _ N 1 _ _ G10.out.sl (by omega) (by omega) (by omega)).mono ?_
  rintro e w11 ⟨rfl, rfl⟩
  go_wp2_with fail
  refine (copy_any _ _ n d _ _ V10.out hn2 hs10).mono ?_
  rintro e w12 ⟨rfl, r12, b12, z12⟩
  replace z12 := Nat.le_antisymm_iff.1 z12
  have BB12 := Lib.hid (BB10.out.trans (b12.mono hs10))
  have W12 := Lib.hid (W10.out.below b12 (Nat.le_refl _))
  have G12 := Lib.hid (G10.out.below b12 (Nat.le_refl _))
  have C12 := Lib.hid (r12.sl (cap := n) (lo := 0) (hi := w12.heap.size) (Nat.zero_le _) (by omega))
  have hs12 : w.heap.size ≤ w12.heap.size := by omega
  clear r12 b12 V10 W10 BB10 G10
  go_wp2_with fail
  refine (shares_any _ _ T n d _ _ C12.out (Nat.le_refl _) hn).mono ?_
  rintro e w13 hp
  obtain ⟨vh, bh, rfl, b13, hbh, rh⟩ := hp.res' HN.out HCD.out
  have BB13 := Lib.hid (BB12.out.trans (b13.mono hs12))
  have W13 := Lib.hid (W12.out.below b13 (Nat.le_refl _))
  have G13 := Lib.hid (G12.out.below b13 (Nat.le_refl _))
  have H13 := Lib.hid rh
  clear hp b13 rh C12 W12 BB12 G12
  go_wp2_with fail
  refine (eq_all _ _ _ N (shr T d n) _ _ _ _ H13.out.sl W13.out.sl (by omega)).mono ?_
  rintro e w14 ⟨rfl, b14, z14⟩
  have BB14 := Lib.hid (BB13.out.trans (b14 _))
  have G14 := Lib.hid (G13.out.below (b14 _) (Nat.le_refl _))
  clear b14 W13 BB13 G13 H13
  go_wp2_with fail
  refine (held_any _ _ N 1 _ _ G14.out.sl (by omega) (by omega) (by omega)).mono ?_
  rintro e w15 ⟨rfl, rfl⟩
  go_wp2_with fail
  go_ret
  exact ⟨rfl, BB14.out⟩

set_option maxRecDepth 100000 in
theorem lifted (os : Os) (started : os.Started) (H : Type) (enc : TypeId × Value → H) :
    ReturnsInHanded {} Try.checked os 4 .any (Rows.fnExactSharesOfSpec.pre6 enc Try.prog Try.f4 Rows.fnExactSharesOfRow.domain false) (Rows.fnExactSharesOfSpec.post enc Try.prog Try.f4 false true false false) := by
  refine returnsInHanded_of_change (C := Try.checked) own started (by kernel_rfl) Try.func4
    (ChangeSpec.witness6 (enc := enc) (C := Try.checked) false ⟨#[], #[.int .i64 0, .slice none 0 0], []⟩ 8 (by kernel_rfl) (by kernel_rfl) (by kernel_rfl) (by kernel_rfl)) ?_
  intro W base args ds gs before hval0 hW hcnd _
  have hval : ∀ (j : Nat) t v, Try.f4.params[j]? = some t → args[j]? = some v → Value.okWide Try.prog W .any base t v := hval0
  have hW' := hW
  obtain ⟨p, q, hA0, hV, rfl, hfz, hnd⟩ := hW
  have hA : DataW.TrodAll enc Try.prog W 0 (fun _ => true) true Try.f4.params.toList args.toList ds p := hA0
  rw [Try.params4] at hA hval
  obtain ⟨v0, vs0, d0, ds0, p0, q0, hargs, rfl, rfl, h0, r0⟩ := trodAll_cons hA
  obtain ⟨v1, vs1, d1, ds1, p1, q1, rfl, rfl, rfl, h1, r1⟩ := trodAll_cons r0
  obtain ⟨rfl, rfl, rfl⟩ := trodAll_nil r1
  obtain rfl : args = #[v0, v1] := by cases args; simp_all
  obtain ⟨rfl, rfl⟩ := trodVars_none hV
  obtain ⟨a0, rfl, rfl, rfl, w0⟩ := open_int Try.underlying2 (hval 0 2 v0 rfl rfl) h0
  have hc := open_ints64 (hval 1 24 v1 rfl rfl) h1
  refine (walk a0 v1 W hc).mono fun e W' ⟨he, hg⟩ => ?_
  subst he
  exact ⟨_, rfl, law.law_post hW' hg laidOut (by kernel_rfl) rfl rfl (by kernel_rfl) Try.underlying4⟩

theorem over : Rows.fnExactSharesOfRow.holds Try.pinned (OpenSpec.ofChange Rows.fnExactSharesOfSpec) :=
  OpenClaim.holds_of_wide 4 Try.f4 rfl rfl rfl rfl rfl rfl rfl ⟨rfl, rfl, rfl, rfl, rfl⟩ rfl rfl rfl rfl rfl (by kernel_rfl) Try.func4 (by kernel_rfl)
    (of_decide_eq_true (by kernel_rfl)) (by unfold Func.isWrapper; first | (rw [if_pos (by decide +kernel)]; kernel_rfl) | (rw [if_neg (by decide +kernel)]; exact ⟨rfl, rfl⟩))
    (fun os started H enc _ => lifted os started H enc)

theorem proved : Rows.FnExactSharesOfSaid :=
  over
#print axioms proved
end Go.Proofs.Ytmjmamiokkkblab.fnExactSharesOf
