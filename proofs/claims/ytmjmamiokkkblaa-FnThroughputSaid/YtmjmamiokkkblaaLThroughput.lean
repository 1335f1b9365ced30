/-
  FnThroughput returns true at every slice of bytes, and leaves it as it was. No condition.
-/
import Derived.Test.YtmjmamiokkkblaaRows
import Derived.Test.YtmjmamiokkkblaaLaw
import Derived.Test.YtmjmamiokkkblaaCode
import Derived.Test.YtmjmamiokkkblaaLfa
import Derived.Test.YtmjmamiokkkblaaDr7
import Derived.WalkKit
import Derived.ProofKit
import Derived.OpenShut
import Derived.Lib.Hide
import Derived.Deep.QuietTactic
import Derived.BigQuiet
import Derived.OwnWalk
import Derived.Outline
import Derived.Deep.RegionHeld3
import Derived.Deep.RegionHeldLaw
import Derived.IntWalk
namespace Go.Proofs.Ytmjmamiokkkblaa.fnThroughput
open Go.ChangeShapes Go.WideShapes Go.ChangeAt Go.RowKit Go.Proofs.Ytmjmamiokkkblaa.draw Go.Proofs.Ytmjmamiokkkblaa.mem
set_option linter.unusedVariables false

theorem own : ownKnob Try.prog.godebug = none := by kernel_rfl
theorem laidOut : laidOutB Try.prog = true := by kernel_rfl

theorem size_any (x : Int) (w : World) (h1 : -30000 ≤ x) (h2 : x ≤ 30000) : Calls Try.prog 16 #[.int .i64 x] w fun e w' => e = .returned (.int .i64 (max x (-x))) ∧ w = w' := by
  have h3 : -4611686018427387904 ≤ -x ∧ -x ≤ 4611686018427387904 := by omega
  go_enter Try.func16, Try.ntmps16
  go_wp2_with fail
  go_ret
  exact ⟨rfl, rfl⟩
set_option maxRecDepth 100000 in
set_option maxHeartbeats 20000000 in
theorem walk (v : Value) (w : World) (hc : CodeArg w v) :
    Calls Try.prog 3 #[v] w fun e w' => e = .returned (.bool true) ∧ Below w.heap.size w w' := by
  obtain ⟨p, len, cap, rfl, hlen, hcode⟩ := hc
  by_cases h4 : (4096 : Int) < len
  · clear hcode
    go_enter Try.func3, Try.ntmps3
    go_wp2_with (go_at_call 11; refine (draw.big_any _ _ _ _).mono ?_; rintro e w' ⟨rfl, rfl⟩)
    go_ret
    exact ⟨rfl, Below.refl _ _⟩
  have hc := hcode (by omega)
  clear hcode
  go_enter Try.func3, Try.ntmps3
  go_wp2_with (go_at_call 11; refine (draw.big_any _ _ _ _).mono ?_; rintro e w' ⟨rfl, rfl⟩)
  refine (draw.drawThroughputOf w _ len hc).mono ?_
  rintro e w1 ⟨v, n, m, N, P, b1, b2, vl, K, D, rfl, hn, hm, hK, hnm, o1, l1, l2, hL1, C1⟩
  obtain ⟨ra, rc, eb, ti, ts, te, hz⟩ := thFacts n N m P K D hnm (by omega)
  have TI := Lib.hid ti
  have TS := Lib.hid ts
  have TE := Lib.hid te
  have HZ := Lib.hid hz
  clear ti ts te hz
  clear hc
  obtain ⟨pl, cl, rfl⟩ := draw.sl_sh hL1
  have hb2 : (rc != rc) = false := by simp
  have hb3 : (ra != ra) = false := by simp
  have lxx := o1.lts
  obtain ⟨sx1, sx2, sx3, sx4, rfl⟩ := o1.shape
  go_wp2_with fail
  have bb := mem.below_new w1 (.cells #[.slice sx1 n sx2, .slice sx3 m sx4] 27)
  have B_x := boxed w1 (.slice sx1 n sx2) (.slice sx3 m sx4) 27
  have hs2 := bb.size
  have C2 := belowNext C1 bb
  have L2 := hL1.next bb
  have x2 := o1.next bb
  clear bb C1 hL1 o1
  generalize hW2 : w1.alloc (Obj.cells #[.slice sx1 n sx2, .slice sx3 m sx4] 27) = w2 at *
  clear hW2
  have Bx2 := B_x
  clear B_x
  have lBx := Bx2.lt
  refine (TI.out _ _ _ x2.net L2.zero).mono ?_
  rintro e w3 ⟨rfl, bb⟩
  have hs3 := bb.size
  have C3 := belowNext C2 bb
  have L3 := L2.next bb
  have x3 := x2.next bb
  have Bx3 := Bx2.next bb
  clear bb C2 L2 x2 Bx2
  have qBx0 := Bx3.b0
  have qBx1 := Bx3.b1
  have qBx2 := Bx3.lt
  go_wp2_with fail
  refine (TS.out _ _ _ x3.net L3.zero).mono ?_
  rintro e w4 ⟨rfl, bb⟩
  have hs4 := bb.size
  have C4 := belowNext C3 bb
  have L4 := L3.next bb
  have x4 := x3.next bb
  have Bx4 := Bx3.next bb
  clear qBx0 qBx1 qBx2
  clear bb C3 L3 x3 Bx3
  by_cases hrc : rc = 0
  · subst hrc
    have qBx0 := Bx4.b0
    have qBx1 := Bx4.b1
    have qBx2 := Bx4.lt
    go_wp2_with fail
    refine (TE.out _ _ _ x4.net L4.zero).mono ?_
    rintro e w5 ⟨rfl, bb⟩
    have hs5 := bb.size
    have C5 := belowNext C4 bb
    have L5 := L4.next bb
    have x5 := x4.next bb
    have Bx5 := Bx4.next bb
    clear qBx0 qBx1 qBx2
    clear bb C4 L4 x4 Bx4
    cases eb
    · skip
      have qBx0 := Bx5.b0
      have qBx1 := Bx5.b1
      have qBx2 := Bx5.lt
      go_wp2_with fail
      go_ret
      exact ⟨rfl, C5⟩
    · obtain ⟨h2, hK24, ra0, ra1, hfr⟩ := HZ.out (by trivial) (by trivial)
      have HFR := Lib.hid hfr
      have H2 := Lib.hid h2
      clear hfr h2 HZ
      have qBx0 := Bx5.b0
      have qBx1 := Bx5.b1
      have qBx2 := Bx5.lt
      go_wp2_with fail
      clear qBx0 qBx1 qBx2
      go_loopw [9, 10] (fun sv iv wr => ∃ k : Nat, iv = .int .i64 k ∧ sv = .int .i64 (tl (fun i => max (D i) (-(D i))) k) ∧ k ≤ K ∧ w5 = wr) (fun _ iv _ => K - (intOf iv).toNat)
      case atStart => exact ⟨0, rfl, rfl, Nat.zero_le _, rfl⟩
      case round =>
        obtain ⟨k, rfl, rfl, hk, rfl⟩ := hrel
        have k0 : (0 : Int) ≤ (k : Int) := Int.natCast_nonneg _
        by_cases hlt : k < K
        · have hkI : (k : Int) < K := by omega
          obtain ⟨p', c', ee, hx⟩ := L5.ex
          injection ee with e1 _ e3
          subst e1 e3
          obtain ⟨b, o, rfl, _, _, hx⟩ : ∃ b o, pl = some ⟨b, o, none⟩ ∧ w.heap.size ≤ b ∧ b < w5.heap.size ∧ ∀ k, k < K → w5.cell? ⟨b, o + k, none⟩ = some (.int .i64 (D k)) := by
            rcases hx with e | e
            · omega
            · exact e
          have y0 := hx k hlt
          have HX := Lib.hid hx
          clear hx
          have hd := HFR.out k hlt
          have hb1 := tl_bd (d := D) (k := k) (fun i hi => HFR.out i (by omega))
          have hm1 : 0 ≤ max (D k) (-(D k)) ∧ max (D k) (-(D k)) ≤ 30000 := by rw [Int.max_def]; split <;> omega
          have b1' : -4611686018427387904 ≤ tl (fun i => max (D i) (-(D i))) k + max (D k) (-(D k)) ∧ tl (fun i => max (D i) (-(D i))) k + max (D k) (-(D k)) ≤ 4611686018427387904 := by omega
          go_wp2_with (go_at_call 16; refine (size_any _ _ (by omega) (by omega)).mono ?_; rintro e w' ⟨rfl, rfl⟩)
          go_roundw
          case rel => exact ⟨k + 1, by go_num, rfl, hlt, by trivial⟩
          case measure => simp [intOf]; omega
        · obtain rfl : k = K := by omega
          have hfin : (2 * ra == tl (fun i => max (D i) (-(D i))) k) = true := by rw [beq_iff_eq]; exact H2.out
          have hr2 : -4611686018427387904 ≤ 2 * ra ∧ 2 * ra ≤ 4611686018427387904 := by omega
          have qBx0 := Bx5.b0
          have qBx1 := Bx5.b1
          have qBx2 := Bx5.lt
          go_wp2_with fail
          go_ret
          exact ⟨rfl, C5⟩
  · have hrc' : (rc != 0) = true := by simpa using hrc
    have qBx0 := Bx4.b0
    have qBx1 := Bx4.b1
    have qBx2 := Bx4.lt
    go_wp2_with fail
    go_ret
    exact ⟨rfl, C4⟩

set_option maxRecDepth 100000 in
theorem lifted (os : Os) (started : os.Started) (H : Type) (enc : TypeId × Value → H) :
    ReturnsInHanded {} Try.checked os 3 .any (Rows.fnThroughputSpec.pre6 enc Try.prog Try.f3 Rows.fnThroughputRow.domain false) (Rows.fnThroughputSpec.post enc Try.prog Try.f3 false true false false) := by
  refine returnsInHanded_of_change (C := Try.checked) own started (by kernel_rfl) Try.func3
    (ChangeSpec.witness6 (enc := enc) (C := Try.checked) false ⟨#[], #[.slice none 0 0], []⟩ 8 (by kernel_rfl) (by kernel_rfl) (by kernel_rfl) (by kernel_rfl)) ?_
  intro W base args ds gs before hval0 hW hcnd _
  have hval : ∀ (j : Nat) t v, Try.f3.params[j]? = some t → args[j]? = some v → Value.okWide Try.prog W .any base t v := hval0
  have hW' := hW
  obtain ⟨p, q, hA0, hV, rfl, hfz, hnd⟩ := hW
  have hA : DataW.TrodAll enc Try.prog W 0 (fun _ => true) true Try.f3.params.toList args.toList ds p := hA0
  rw [Try.params3] at hA hval
  obtain ⟨v0, vs0, d0, ds0, p0, q0, hargs, rfl, rfl, h0, r0⟩ := trodAll_cons hA
  obtain ⟨rfl, rfl, rfl⟩ := trodAll_nil r0
  obtain rfl : args = #[v0] := by cases args; simp_all
  obtain ⟨rfl, rfl⟩ := trodVars_none hV
  have hc := open_code (hval 0 22 v0 rfl rfl) h0
  refine (walk v0 W hc).mono fun e W' ⟨he, hg⟩ => ?_
  subst he
  exact ⟨_, rfl, law.law_post hW' hg laidOut (by kernel_rfl) rfl rfl (by kernel_rfl) Try.underlying4⟩

theorem over : Rows.fnThroughputRow.holds Try.pinned (OpenSpec.ofChange Rows.fnThroughputSpec) :=
  OpenClaim.holds_of_wide 3 Try.f3 rfl rfl rfl rfl rfl rfl rfl ⟨rfl, rfl, rfl, rfl, rfl⟩ rfl rfl rfl rfl rfl (by kernel_rfl) Try.func3 (by kernel_rfl)
    (of_decide_eq_true (by kernel_rfl)) (by unfold Func.isWrapper; first | (rw [if_pos (by decide +kernel)]; kernel_rfl) | (rw [if_neg (by decide +kernel)]; exact ⟨rfl, rfl⟩))
    (fun os started H enc _ => lifted os started H enc)

theorem proved : Rows.FnThroughputSaid :=
  over
#print axioms proved
end Go.Proofs.Ytmjmamiokkkblaa.fnThroughput
