/-
  FnCycles returns true at every slice of bytes, and leaves it as it was. No condition.
-/
import Derived.Test.YtpgcieefipjjfaaRows
import Derived.Test.YtpgcieefipjjfaaLaw
import Derived.Test.YtpgcieefipjjfaaCode
import Derived.Test.YtpgcieefipjjfaaLikeI
import Derived.Test.YtpgcieefipjjfaaLfm
import Derived.Test.YtpgcieefipjjfaaDrc
import Derived.WalkKit
import Derived.ProofKit
import Derived.OpenShut
import Derived.Lib.Hide
import Derived.Deep.QuietTactic
import Derived.BigQuiet
import Derived.OwnWalk
import Derived.Outline
import Derived.Deep.RegionHeld3
import Derived.Deep.RegionHeldLaw
import Derived.IntWalk
namespace Go.Proofs.Ytpgcieefipjjfaa.fnCycles
open Go.ChangeShapes Go.WideShapes Go.ChangeAt Go.RowKit Go.Proofs.Ytpgcieefipjjfaa.draw Go.Proofs.Ytpgcieefipjjfaa.mem
set_option linter.unusedVariables false

theorem own : ownKnob Try.prog.godebug = none := by kernel_rfl
theorem laidOut : laidOutB Try.prog = true := by kernel_rfl

theorem own_at {w : World} {p : Option Addr} {n c b : Nat} {d : Nat → Int} (h : OwnS w (.slice p n c) n 1 (fun i _ => .int .i64 (d i)) b) {k : Nat} (hk : k < n) : p = some ⟨b, 0, none⟩ ∧ b < w.heap.size ∧ w.cell? ⟨b, k, none⟩ = some (.int .i64 (d k)) := by
  obtain ⟨p', cap, hv, h1, h2, h3⟩ := h.ex
  injection hv with e1 _ e3
  subst e1
  rcases h3 with h3 | ⟨h3, h4⟩
  · omega
  · refine ⟨h3, h4.lt, ?_⟩
    have := h4.cell k 0 hk (by omega)
    simpa using this
theorem owns_sl {w : World} {v : Value} {n b : Nat} {d : Nat → Int} (h : OwnS w v n 1 (fun i _ => .int .i64 (d i)) b) : Sl w v n d 0 w.heap.size := by
  obtain ⟨p', cap, hv, h1, h2, h3⟩ := h.ex
  refine ⟨p', cap, hv, ?_⟩
  rcases h3 with h3 | ⟨h3, h4⟩
  · exact .inl h3
  · refine .inr ⟨b, 0, h3, Nat.zero_le _, h4.lt, fun k hk => ?_⟩
    have := h4.cell k 0 hk (by omega)
    simpa using this
set_option maxRecDepth 100000 in
set_option maxHeartbeats 20000000 in
theorem walk (v : Value) (w : World) (hc : CodeArg w v) :
    Calls Try.prog 8 #[v] w fun e w' => e = .returned (.bool true) ∧ Below w.heap.size w w' := by
  obtain ⟨p, len, cap, rfl, hlen, hcode⟩ := hc
  by_cases h4 : (4096 : Int) < len
  · clear hcode
    go_enter Try.func8, Try.ntmps8
    go_wp2_with (go_at_call 31; refine (draw.big_any _ _ _ _).mono ?_; rintro e w' ⟨rfl, rfl⟩)
    go_ret
    exact ⟨rfl, Below.refl _ _⟩
  have hc := hcode (by omega)
  clear hcode
  go_enter Try.func8, Try.ntmps8
  go_wp2_with (go_at_call 31; refine (draw.big_any _ _ _ _).mono ?_; rintro e w' ⟨rfl, rfl⟩)
  refine (draw.drawCycleOf w _ len hc).mono ?_
  rintro e w1 ⟨v, n, m, N, P, b1, b2, x, rfl, hn, hm, hnm, o1, l1, l2, C1⟩
  obtain ⟨yn, yd, yc, cn, cd, cc, hyn, hcn, ti, ts, ci, cs, hz⟩ := cyFacts n N m P x hnm hm
  have TI := Lib.hid ti
  have TS := Lib.hid ts
  have CI := Lib.hid ci
  have CS := Lib.hid cs
  have HZ := Lib.hid hz
  clear ti ts ci cs hz
  clear hc
  have hb2 : (yc != yc) = false := by simp
  have hb3 : (cc != cc) = false := by simp
  have hb4 : ((cn : Int) != cn) = false := by simp
  have lxx := o1.lts
  obtain ⟨sx1, sx2, sx3, sx4, rfl⟩ := o1.shape
  go_wp2_with fail
  have bb := mem.below_new w1 (.cells #[.slice sx1 n sx2, .slice sx3 m sx4] 33)
  have B_x := boxed w1 (.slice sx1 n sx2) (.slice sx3 m sx4) 33
  have hs2 := bb.size
  have C2 := belowNext C1 bb
  have x2 := o1.next bb
  clear bb C1 o1
  generalize hW2 : w1.alloc (Obj.cells #[.slice sx1 n sx2, .slice sx3 m sx4] 33) = w2 at *
  clear hW2
  have Bx2 := B_x
  clear B_x
  have lBx := Bx2.lt
  refine (TI.out _ _  x2.net).mono ?_
  rintro e w3 ⟨xA, gA, rfl, oA, lA, bb⟩
  have hs3 := bb.size
  have C3 := belowNext C2 bb
  have x3 := x2.next bb
  have Bx3 := Bx2.next bb
  clear bb C2 x2 Bx2
  have lxA := oA.lt
  obtain ⟨sA1, sA2, rfl⟩ := oA.shape
  have qBx0 := Bx3.b0
  have qBx1 := Bx3.b1
  have qBx2 := Bx3.lt
  go_wp2_with fail
  refine (TS.out _ _  x3.net).mono ?_
  rintro e w4 ⟨xB, gB, rfl, oB, lB, bb⟩
  have hs4 := bb.size
  have C4 := belowNext C3 bb
  have x4 := x3.next bb
  have Bx4 := Bx3.next bb
  have A4 := oA.next bb
  clear qBx0 qBx1 qBx2
  clear bb C3 x3 Bx3 oA
  have lxB := oB.lt
  obtain ⟨sB1, sB2, rfl⟩ := oB.shape
  have qBx0 := Bx4.b0
  have qBx1 := Bx4.b1
  have qBx2 := Bx4.lt
  go_wp2_with fail
  refine (likeInts_any _ _ _ yn yd 0 w4.heap.size 0 w4.heap.size (A4.cs (.inr rfl) (Nat.le_refl _)) (oB.cs (.inr rfl) (Nat.le_refl _))).mono ?_
  rintro e w5 ⟨rfl, bb⟩
  have hs5 := bb.size
  have C5 := belowNext C4 bb
  have x5 := x4.next bb
  have Bx5 := Bx4.next bb
  have A5 := A4.next bb
  have B5 := oB.next bb
  clear qBx0 qBx1 qBx2
  clear bb C4 x4 Bx4 A4 oB
  have qBx0 := Bx5.b0
  have qBx1 := Bx5.b1
  have qBx2 := Bx5.lt
  go_wp2_with fail
  clear B5
  refine (CI.out _ _  x5.net).mono ?_
  rintro e w6 ⟨xC2, gC2, rfl, oC2, lC2, bb⟩
  have hs6 := bb.size
  have C6 := belowNext C5 bb
  have x6 := x5.next bb
  have Bx6 := Bx5.next bb
  have A6 := A5.next bb
  clear qBx0 qBx1 qBx2
  clear bb C5 x5 Bx5 A5
  have lxC2 := oC2.lt
  obtain ⟨sC21, sC22, rfl⟩ := oC2.shape
  have qBx0 := Bx6.b0
  have qBx1 := Bx6.b1
  have qBx2 := Bx6.lt
  go_wp2_with fail
  refine (CS.out _ _  x6.net).mono ?_
  rintro e w7 ⟨xE, gE, rfl, oE, lE, bb⟩
  have hs7 := bb.size
  have C7 := belowNext C6 bb
  have x7 := x6.next bb
  have Bx7 := Bx6.next bb
  have A7 := A6.next bb
  have C27 := oC2.next bb
  clear qBx0 qBx1 qBx2
  clear bb C6 x6 Bx6 A6 oC2
  have lxE := oE.lt
  obtain ⟨sE1, sE2, rfl⟩ := oE.shape
  have qBx0 := Bx7.b0
  have qBx1 := Bx7.b1
  have qBx2 := Bx7.lt
  go_wp2_with fail
  refine (likeInts_any _ _ _ cn cd 0 w7.heap.size 0 w7.heap.size (C27.cs (.inr rfl) (Nat.le_refl _)) (oE.cs (.inr rfl) (Nat.le_refl _))).mono ?_
  rintro e w8 ⟨rfl, bb⟩
  have hs8 := bb.size
  have C8 := belowNext C7 bb
  have x8 := x7.next bb
  have Bx8 := Bx7.next bb
  have A8 := A7.next bb
  have C28 := C27.next bb
  have E8 := oE.next bb
  clear qBx0 qBx1 qBx2
  clear bb C7 x7 Bx7 A7 C27 oE
  clear E8
  by_cases hyc : yc = 0
  · subst hyc
    obtain ⟨fd, q1, q2, q3, q4⟩ := HZ.out (by trivial)
    have Q1 := Lib.hid q1
    have Q2 := Lib.hid q2
    have Q3 := Lib.hid q3
    have Q4 := Lib.hid q4
    clear q1 q2 q3 q4
    clear HZ
    have qBx0 := Bx8.b0
    have qBx1 := Bx8.b1
    have qBx2 := Bx8.lt
    go_wp2_with fail
    refine (Q1.out _ _ _ x8.net (owns_sl A8)).mono ?_
    rintro e w9 ⟨xD, gD, rfl, oD, lD, bb⟩
    have hs9 := bb.size
    have C9 := belowNext C8 bb
    have x9 := x8.next bb
    have Bx9 := Bx8.next bb
    have A9 := A8.next bb
    have C29 := C28.next bb
    clear qBx0 qBx1 qBx2
    clear bb C8 x8 Bx8 A8 C28
    have lxD := oD.lt
    obtain ⟨sD1, sD2, rfl⟩ := oD.shape
    have qBx0 := Bx9.b0
    have qBx1 := Bx9.b1
    have qBx2 := Bx9.lt
    go_wp2_with fail
    refine (Q2.out _ _ _ x9.net (owns_sl A9)).mono ?_
    rintro e w10 ⟨xF, gF, rfl, oF, lF, bb⟩
    have hs10 := bb.size
    have C10 := belowNext C9 bb
    have x10 := x9.next bb
    have Bx10 := Bx9.next bb
    have A10 := A9.next bb
    have C210 := C29.next bb
    have D10 := oD.next bb
    clear qBx0 qBx1 qBx2
    clear bb C9 x9 Bx9 A9 C29 oD
    have lxF := oF.lt
    obtain ⟨sF1, sF2, rfl⟩ := oF.shape
    have qBx0 := Bx10.b0
    have qBx1 := Bx10.b1
    have qBx2 := Bx10.lt
    go_wp2_with fail
    refine (likeInts_any _ _ _ cn fd 0 w10.heap.size 0 w10.heap.size (D10.cs (.inr rfl) (Nat.le_refl _)) (oF.cs (.inr rfl) (Nat.le_refl _))).mono ?_
    rintro e w11 ⟨rfl, bb⟩
    have hs11 := bb.size
    have C11 := belowNext C10 bb
    have x11 := x10.next bb
    have Bx11 := Bx10.next bb
    have A11 := A10.next bb
    have C211 := C210.next bb
    have D11 := D10.next bb
    have F11 := oF.next bb
    clear qBx0 qBx1 qBx2
    clear bb C10 x10 Bx10 A10 C210 D10 oF
    clear F11
    have qBx0 := Bx11.b0
    have qBx1 := Bx11.b1
    have qBx2 := Bx11.lt
    go_wp2_with fail
    clear qBx0 qBx1 qBx2
    go_loopw [17] (fun iv wr => ∃ k q : Nat, iv = .int .i64 k ∧ k ≤ cn ∧ wr = w11.drewN q) (fun iv _ => cn - (intOf iv).toNat)
    case atStart => exact ⟨0, 0, rfl, Nat.zero_le _, rfl⟩
    case round =>
      obtain ⟨k, q, rfl, hk, hw⟩ := hrel
      have HWR := Lib.hid hw
      have bb : Below w11.heap.size w11 wr := by rw [hw]; exact below_self _ _ _
      clear hw
      obtain ⟨w12, hwb⟩ : ∃ w', w' = wr := ⟨_, rfl⟩
      subst hwb
      have hs12 := bb.size
      have C12 := belowNext C11 bb
      have x12 := x11.next bb
      have Bx12 := Bx11.next bb
      have A12 := A11.next bb
      have C212 := C211.next bb
      have D12 := D11.next bb
      clear bb C11 x11 Bx11 A11 C211 D11
      have k0 : (0 : Int) ≤ (k : Int) := Int.natCast_nonneg _
      by_cases hlt : k < cn
      · have hkI : (k : Int) < cn := by omega
        obtain ⟨rfl, hgD, hqD⟩ := own_at D12 hlt
        obtain ⟨rfl, hgC, hqC⟩ := own_at C212 hlt
        have hfk := Q3.out k hlt
        by_cases hx : cd k = x
        · rw [if_pos hx] at hfk
          rw [hx] at hqC
          rw [hfk] at hqD
          have hxf : (x == x) = true := by simp
          clear hx
          go_wp2_with fail
          go_quiet (fail)
          go_wp2_with fail
          go_roundw
          case rel => exact ⟨k + 1, q + nq, by go_num, hlt, by rw [HWR.out]; exact (World.drewN_drewN _ _ _)⟩
          case measure => simp [intOf]; omega
        · rw [if_neg hx] at hfk
          rw [hfk] at hqD
          have hxf : (cd k == x) = false := by simpa using hx
          clear hx
          go_wp2_with fail
          go_quiet (fail)
          go_wp2_with fail
          go_roundw
          case rel => exact ⟨k + 1, q + nq, by go_num, hlt, by rw [HWR.out]; exact (World.drewN_drewN _ _ _)⟩
          case measure => simp [intOf]; omega
      · obtain rfl : k = cn := by omega
        have qBx0 := Bx12.b0
        have qBx1 := Bx12.b1
        have qBx2 := Bx12.lt
        go_wp2_with fail
        refine (Q4.out _ _ _ x12.net (owns_sl A12)).mono ?_
        rintro e w13 ⟨rfl, bb⟩
        have hs13 := bb.size
        have C13 := belowNext C12 bb
        have x13 := x12.next bb
        have Bx13 := Bx12.next bb
        have A13 := A12.next bb
        have C213 := C212.next bb
        have D13 := D12.next bb
        clear qBx0 qBx1 qBx2
        clear bb C12 x12 Bx12 A12 C212 D12
        have qBx0 := Bx13.b0
        have qBx1 := Bx13.b1
        have qBx2 := Bx13.lt
        go_wp2_with fail
        go_ret
        exact ⟨rfl, C13⟩
  · have hyc' : (yc != 0) = true := by simpa using hyc
    have qBx0 := Bx8.b0
    have qBx1 := Bx8.b1
    have qBx2 := Bx8.lt
    go_wp2_with fail
    go_ret
    exact ⟨rfl, C8⟩

set_option maxRecDepth 100000 in
theorem lifted (os : Os) (started : os.Started) (H : Type) (enc : TypeId × Value → H) :
    ReturnsInHanded {} Try.checked os 8 .any (Rows.fnCyclesSpec.pre6 enc Try.prog Try.f8 Rows.fnCyclesRow.domain false) (Rows.fnCyclesSpec.post enc Try.prog Try.f8 false true false false) := by
  refine returnsInHanded_of_change (C := Try.checked) own started (by kernel_rfl) Try.func8
    (ChangeSpec.witness6 (enc := enc) (C := Try.checked) false ⟨#[], #[.slice none 0 0], []⟩ 8 (by kernel_rfl) (by kernel_rfl) (by kernel_rfl) (by kernel_rfl)) ?_
  intro W base args ds gs before hval0 hW hcnd _
  have hval : ∀ (j : Nat) t v, Try.f8.params[j]? = some t → args[j]? = some v → Value.okWide Try.prog W .any base t v := hval0
  have hW' := hW
  obtain ⟨p, q, hA0, hV, rfl, hfz, hnd⟩ := hW
  have hA : DataW.TrodAll enc Try.prog W 0 (fun _ => true) true Try.f8.params.toList args.toList ds p := hA0
  rw [Try.params8] at hA hval
  obtain ⟨v0, vs0, d0, ds0, p0, q0, hargs, rfl, rfl, h0, r0⟩ := trodAll_cons hA
  obtain ⟨rfl, rfl, rfl⟩ := trodAll_nil r0
  obtain rfl : args = #[v0] := by cases args; simp_all
  obtain ⟨rfl, rfl⟩ := trodVars_none hV
  have hc := open_code (hval 0 48 v0 rfl rfl) h0
  refine (walk v0 W hc).mono fun e W' ⟨he, hg⟩ => ?_
  subst he
  exact ⟨_, rfl, law.law_post hW' hg laidOut (by kernel_rfl) rfl rfl (by kernel_rfl) Try.underlying4⟩

theorem over : Rows.fnCyclesRow.holds Try.pinned (OpenSpec.ofChange Rows.fnCyclesSpec) :=
  OpenClaim.holds_of_wide 8 Try.f8 rfl rfl rfl rfl rfl rfl rfl ⟨rfl, rfl, rfl, rfl, rfl⟩ rfl rfl rfl rfl rfl (by kernel_rfl) Try.func8 (by kernel_rfl)
    (of_decide_eq_true (by kernel_rfl)) (by unfold Func.isWrapper; first | (rw [if_pos (by decide +kernel)]; kernel_rfl) | (rw [if_neg (by decide +kernel)]; exact ⟨rfl, rfl⟩))
    (fun os started H enc _ => lifted os started H enc)

theorem proved : Rows.FnCyclesSaid :=
  over
#print axioms proved
end Go.Proofs.Ytpgcieefipjjfaa.fnCycles
