/-
  FnBridges returns true at every slice of bytes, and leaves it as it was. No condition.
-/
import Derived.Test.YtmjmamiokkkblaaRows
import Derived.Test.YtmjmamiokkkblaaLaw
import Derived.Test.YtmjmamiokkkblaaCode
import Derived.Test.YtmjmamiokkkblaaLikeI
import Derived.Test.YtmjmamiokkkblaaBrl
import Derived.WalkKit
import Derived.ProofKit
import Derived.OpenShut
import Derived.Lib.Hide
import Derived.Deep.QuietTactic
import Derived.BigQuiet
import Derived.OwnWalk
import Derived.Outline
import Derived.Deep.RegionHeld3
import Derived.Deep.RegionHeldLaw
import Derived.IntWalk
namespace Go.Proofs.Ytmjmamiokkkblaa.fnBridges
open Go.ChangeShapes Go.WideShapes Go.ChangeAt Go.RowKit Go.Proofs.Ytmjmamiokkkblaa.draw Go.Proofs.Ytmjmamiokkkblaa.mem
set_option linter.unusedVariables false

theorem own : ownKnob Try.prog.godebug = none := by kernel_rfl
theorem laidOut : laidOutB Try.prog = true := by kernel_rfl

theorem own_at {w : World} {p : Option Addr} {n c b : Nat} {d : Nat → Int} (h : OwnS w (.slice p n c) n 1 (fun i _ => .int .i64 (d i)) b) {k : Nat} (hk : k < n) : p = some ⟨b, 0, none⟩ ∧ b < w.heap.size ∧ w.cell? ⟨b, k, none⟩ = some (.int .i64 (d k)) := by
  obtain ⟨p', cap, hv, h1, h2, h3⟩ := h.ex
  injection hv with e1 _ e3
  subst e1
  rcases h3 with h3 | ⟨h3, h4⟩
  · omega
  · refine ⟨h3, h4.lt, ?_⟩
    have := h4.cell k 0 hk (by omega)
    simpa using this
theorem owns_sl {w : World} {v : Value} {n b : Nat} {d : Nat → Int} (h : OwnS w v n 1 (fun i _ => .int .i64 (d i)) b) : Sl w v n d 0 w.heap.size := by
  obtain ⟨p', cap, hv, h1, h2, h3⟩ := h.ex
  refine ⟨p', cap, hv, ?_⟩
  rcases h3 with h3 | ⟨h3, h4⟩
  · exact .inl h3
  · refine .inr ⟨b, 0, h3, Nat.zero_le _, h4.lt, fun k hk => ?_⟩
    have := h4.cell k 0 hk (by omega)
    simpa using this
set_option maxRecDepth 100000 in
set_option maxHeartbeats 20000000 in
theorem walk (v : Value) (w : World) (hc : CodeArg w v) :
    Calls Try.prog 10 #[v] w fun e w' => e = .returned (.bool true) ∧ Below w.heap.size w w' := by
  obtain ⟨p, len, cap, rfl, hlen, hcode⟩ := hc
  by_cases h4 : (4096 : Int) < len
  · clear hcode
    go_enter Try.func10, Try.ntmps10
    go_wp2_with (go_at_call 11; refine (draw.big_any _ _ _ _).mono ?_; rintro e w' ⟨rfl, rfl⟩)
    go_ret
    exact ⟨rfl, Below.refl _ _⟩
  have hc := hcode (by omega)
  clear hcode
  go_enter Try.func10, Try.ntmps10
  go_wp2_with (go_at_call 11; refine (draw.big_any _ _ _ _).mono ?_; rintro e w' ⟨rfl, rfl⟩)
  refine (draw.drawBridgesOf w _ len hc).mono ?_
  rintro e w1 ⟨v, n, m, N, P, b1, b2, rfl, hn, hm, hnm, o1, l1, l2, C1⟩
  obtain ⟨rn, rd, rc, eb, K, Y, hrn, hK, ti, ts, ei, es, ci, cs, h1, h2⟩ := brFacts n N m P hnm hm
  have TI := Lib.hid ti
  have TS := Lib.hid ts
  have EI := Lib.hid ei
  have ES := Lib.hid es
  have CI := Lib.hid ci
  have CS := Lib.hid cs
  have H1 := Lib.hid h1
  have H2 := Lib.hid h2
  clear ti ts ei es ci cs h1 h2
  clear hc
  have hb2 : (rc != rc) = false := by simp
  have hb3 : (eb != eb) = false := by simp
  have lxx := o1.lts
  obtain ⟨sx1, sx2, sx3, sx4, rfl⟩ := o1.shape
  go_wp2_with fail
  have bb := mem.below_new w1 (.cells #[.slice sx1 n sx2, .slice sx3 m sx4] 27)
  have B_x := boxed w1 (.slice sx1 n sx2) (.slice sx3 m sx4) 27
  have hs2 := bb.size
  have C2 := belowNext C1 bb
  have x2 := o1.next bb
  clear bb C1 o1
  generalize hW2 : w1.alloc (Obj.cells #[.slice sx1 n sx2, .slice sx3 m sx4] 27) = w2 at *
  clear hW2
  have Bx2 := B_x
  clear B_x
  have lBx := Bx2.lt
  refine (TI.out _ _  x2.net).mono ?_
  rintro e w3 ⟨xA, gA, rfl, oA, lA, bb⟩
  have hs3 := bb.size
  have C3 := belowNext C2 bb
  have x3 := x2.next bb
  have Bx3 := Bx2.next bb
  clear bb C2 x2 Bx2
  have lxA := oA.lt
  obtain ⟨sA1, sA2, rfl⟩ := oA.shape
  have qBx0 := Bx3.b0
  have qBx1 := Bx3.b1
  have qBx2 := Bx3.lt
  go_wp2_with fail
  refine (TS.out _ _  x3.net).mono ?_
  rintro e w4 ⟨xB, gB, rfl, oB, lB, bb⟩
  have hs4 := bb.size
  have C4 := belowNext C3 bb
  have x4 := x3.next bb
  have Bx4 := Bx3.next bb
  have A4 := oA.next bb
  clear qBx0 qBx1 qBx2
  clear bb C3 x3 Bx3 oA
  have lxB := oB.lt
  obtain ⟨sB1, sB2, rfl⟩ := oB.shape
  have qBx0 := Bx4.b0
  have qBx1 := Bx4.b1
  have qBx2 := Bx4.lt
  go_wp2_with fail
  have hAny : ∀ X : World, Below w4.heap.size w4 X → (fun w' => w'.cell? ⟨w1.heap.size, 0, none⟩ = some (.slice sx1 n sx2) ∧ w'.cell? ⟨w1.heap.size, 1, none⟩ = some (.slice sx3 m sx4)) X := fun X h => ⟨(Bx4.below h Bx4.lt).b0, (Bx4.below h Bx4.lt).b1⟩
  have K0 : Below w4.heap.size w4 w4.drew := ⟨rfl, rfl, rfl, Nat.le_refl _, fun _ _ => rfl⟩
  go_region_held3 (fun w' => w'.cell? ⟨w1.heap.size, 0, none⟩ = some (.slice sx1 n sx2) ∧ w'.cell? ⟨w1.heap.size, 1, none⟩ = some (.slice sx3 m sx4)) (first | exact hAny _ K0 | exact hAny _ K3 | exact hAny _ K2 | exact hAny _ K1)
    (first | (go_at_call 20; refine (likeInts_any _ _ _ rn rd 0 _ 0 _ ((A4.next K0).cs (.inr rfl) (Nat.le_refl _)) ((oB.next K0).cs (.inr rfl) (Nat.le_refl _))).mono ?_; rintro e wx1 ⟨rfl, ba⟩; have K1 : Below w4.heap.size w4 wx1 := K0.trans (ba.mono K0.size); clear ba) | (go_at_call 46; refine (EI.out _ _ (x4.below K1 (Nat.le_refl _)).net).mono ?_; rintro e wx2 ⟨rfl, ba⟩; have K2 : Below w4.heap.size w4 wx2 := K1.trans (ba.mono K1.size); clear ba) | (go_at_call 47; refine (ES.out _ _ (x4.below K2 (Nat.le_refl _)).net).mono ?_; rintro e wx3 ⟨rfl, ba⟩; have K3 : Below w4.heap.size w4 wx3 := K2.trans (ba.mono K2.size); clear ba))
  obtain ⟨w5, hwb⟩ : ∃ w', w' = wx3 := ⟨_, rfl⟩
  subst hwb
  have bb := K3
  clear hAny K0 K1 K2 K3
  have hs5 := bb.size
  have C5 := belowNext C4 bb
  have x5 := x4.next bb
  have Bx5 := Bx4.next bb
  have A5 := A4.next bb
  have B5 := oB.next bb
  clear qBx0 qBx1 qBx2
  clear bb C4 x4 Bx4 A4 oB
  clear B5
  by_cases hrc : rc = 0
  · subst hrc
    have qBx0 := Bx5.b0
    have qBx1 := Bx5.b1
    have qBx2 := Bx5.lt
    go_wp2_with fail
    refine (ES.out _ _  x5.net).mono ?_
    rintro e w6 ⟨rfl, bb⟩
    have hs6 := bb.size
    have C6 := belowNext C5 bb
    have x6 := x5.next bb
    have Bx6 := Bx5.next bb
    have A6 := A5.next bb
    clear qBx0 qBx1 qBx2
    clear bb C5 x5 Bx5 A5
    cases eb
    · skip
      clear H1
      have qBx0 := Bx6.b0
      have qBx1 := Bx6.b1
      have qBx2 := Bx6.lt
      go_wp2_with fail
      refine (CI.out _ _ x6.net).mono ?_
      rintro e w7 ⟨xR, rfl, rR, bb⟩
      have hs7 := bb.size
      have C7 := belowNext C6 bb
      have x7 := x6.next bb
      have Bx7 := Bx6.next bb
      have A7 := A6.next bb
      clear qBx0 qBx1 qBx2
      clear bb C6 x6 Bx6 A6
      have oR := bas_rw rR
      clear rR
      obtain ⟨sR1, sR2, rfl⟩ := oR.shape
      have qBx0 := Bx7.b0
      have qBx1 := Bx7.b1
      have qBx2 := Bx7.lt
      go_wp2_with fail
      refine (CS.out _ _ x7.net).mono ?_
      rintro e w8 ⟨xQ, rfl, rQ, bb⟩
      have hs8 := bb.size
      have C8 := belowNext C7 bb
      have x8 := x7.next bb
      have Bx8 := Bx7.next bb
      have A8 := A7.next bb
      have R8 := oR.next bb
      clear qBx0 qBx1 qBx2
      clear bb C7 x7 Bx7 A7 oR
      have oQ := bas_rw rQ
      clear rQ
      obtain ⟨sQ1, sQ2, rfl⟩ := oQ.shape
      have qBx0 := Bx8.b0
      have qBx1 := Bx8.b1
      have qBx2 := Bx8.lt
      go_wp2_with fail
      refine (likeRows_any _ _ _ K m Y R8 oQ (by omega) (by omega)).mono ?_
      rintro e w9 ⟨rfl, bb⟩
      have hs9 := bb.size
      have C9 := belowNext C8 bb
      have x9 := x8.next bb
      have Bx9 := Bx8.next bb
      have A9 := A8.next bb
      have R9 := R8.next bb
      have Q9 := oQ.next bb
      clear qBx0 qBx1 qBx2
      clear bb C8 x8 Bx8 A8 R8 oQ
      clear Q9
      have qBx0 := Bx9.b0
      have qBx1 := Bx9.b1
      have qBx2 := Bx9.lt
      go_wp2_with fail
      clear qBx0 qBx1 qBx2
      go_loopw [12] (fun iv wr => ∃ k : Nat, iv = .int .i64 k ∧ k ≤ K ∧ w9 = wr) (fun iv _ => K - (intOf iv).toNat)
      case atStart => exact ⟨0, rfl, Nat.zero_le _, rfl⟩
      case round =>
        obtain ⟨k, rfl, hk, rfl⟩ := hrel
        have k0 : (0 : Int) ≤ (k : Int) := Int.natCast_nonneg _
        by_cases hlt : k < K
        · have hkI : (k : Int) < K := by omega
          obtain ⟨gR, qR, cR, rfl, hgR, hq1, hq2⟩ := R9.at_ hlt
          have HQ2 := Lib.hid hq2
          clear hq2
          go_wp2_with fail
          go_loopw [13] (fun jv wr => ∃ j : Nat, jv = .int .i64 j ∧ j ≤ m ∧ w9 = wr) (fun jv _ => m - (intOf jv).toNat)
          case atStart => exact ⟨0, rfl, Nat.zero_le _, rfl⟩
          case round =>
            obtain ⟨j, rfl, hj, rfl⟩ := hrel
            have j0 : (0 : Int) ≤ (j : Int) := Int.natCast_nonneg _
            by_cases hjm : j < m
            · have hjI : (j : Int) < m := by omega
              have hy := HQ2.out.row.cell j hjm
              by_cases hz : Y k j = 0
              · rw [hz] at hy
                go_wp2_with fail
                go_roundw
                case rel => exact ⟨j + 1, by go_num, hjm, by trivial⟩
                case measure => simp [intOf]; omega
              · have hz2 : (Y k j != 0) = true := by simpa using hz
                go_wp2_with (go_at_call 51; refine (hasInt_no _ _ rn rd ((j : Nat) : Int) 0 _ (owns_sl A9) (H2.out k hlt j hjm hz) (by omega)).mono ?_; rintro e wz ⟨rfl, rfl⟩)
                go_roundw
                case rel => exact ⟨j + 1, by go_num, hjm, by trivial⟩
                case measure => simp [intOf]; omega
            · obtain rfl : j = m := by omega
              go_wp2_with fail
              go_roundw
              case rel => exact ⟨k + 1, by go_num, hlt, by trivial⟩
              case measure => simp [intOf]; omega
        · obtain rfl : k = K := by omega
          go_wp2_with fail
          go_ret
          exact ⟨rfl, C9⟩
    · have hrm : ((rn : Int) != (m : Int)) = false := by rw [H1.out (by trivial)]; simp
      clear H1
      have qBx0 := Bx6.b0
      have qBx1 := Bx6.b1
      have qBx2 := Bx6.lt
      go_wp2_with fail
      refine (CI.out _ _ x6.net).mono ?_
      rintro e w7 ⟨xR, rfl, rR, bb⟩
      have hs7 := bb.size
      have C7 := belowNext C6 bb
      have x7 := x6.next bb
      have Bx7 := Bx6.next bb
      have A7 := A6.next bb
      clear qBx0 qBx1 qBx2
      clear bb C6 x6 Bx6 A6
      have oR := bas_rw rR
      clear rR
      obtain ⟨sR1, sR2, rfl⟩ := oR.shape
      have qBx0 := Bx7.b0
      have qBx1 := Bx7.b1
      have qBx2 := Bx7.lt
      go_wp2_with fail
      refine (CS.out _ _ x7.net).mono ?_
      rintro e w8 ⟨xQ, rfl, rQ, bb⟩
      have hs8 := bb.size
      have C8 := belowNext C7 bb
      have x8 := x7.next bb
      have Bx8 := Bx7.next bb
      have A8 := A7.next bb
      have R8 := oR.next bb
      clear qBx0 qBx1 qBx2
      clear bb C7 x7 Bx7 A7 oR
      have oQ := bas_rw rQ
      clear rQ
      obtain ⟨sQ1, sQ2, rfl⟩ := oQ.shape
      have qBx0 := Bx8.b0
      have qBx1 := Bx8.b1
      have qBx2 := Bx8.lt
      go_wp2_with fail
      refine (likeRows_any _ _ _ K m Y R8 oQ (by omega) (by omega)).mono ?_
      rintro e w9 ⟨rfl, bb⟩
      have hs9 := bb.size
      have C9 := belowNext C8 bb
      have x9 := x8.next bb
      have Bx9 := Bx8.next bb
      have A9 := A8.next bb
      have R9 := R8.next bb
      have Q9 := oQ.next bb
      clear qBx0 qBx1 qBx2
      clear bb C8 x8 Bx8 A8 R8 oQ
      clear Q9
      have qBx0 := Bx9.b0
      have qBx1 := Bx9.b1
      have qBx2 := Bx9.lt
      go_wp2_with fail
      clear qBx0 qBx1 qBx2
      go_loopw [12] (fun iv wr => ∃ k : Nat, iv = .int .i64 k ∧ k ≤ K ∧ w9 = wr) (fun iv _ => K - (intOf iv).toNat)
      case atStart => exact ⟨0, rfl, Nat.zero_le _, rfl⟩
      case round =>
        obtain ⟨k, rfl, hk, rfl⟩ := hrel
        have k0 : (0 : Int) ≤ (k : Int) := Int.natCast_nonneg _
        by_cases hlt : k < K
        · have hkI : (k : Int) < K := by omega
          obtain ⟨gR, qR, cR, rfl, hgR, hq1, hq2⟩ := R9.at_ hlt
          have HQ2 := Lib.hid hq2
          clear hq2
          go_wp2_with fail
          go_loopw [13] (fun jv wr => ∃ j : Nat, jv = .int .i64 j ∧ j ≤ m ∧ w9 = wr) (fun jv _ => m - (intOf jv).toNat)
          case atStart => exact ⟨0, rfl, Nat.zero_le _, rfl⟩
          case round =>
            obtain ⟨j, rfl, hj, rfl⟩ := hrel
            have j0 : (0 : Int) ≤ (j : Int) := Int.natCast_nonneg _
            by_cases hjm : j < m
            · have hjI : (j : Int) < m := by omega
              have hy := HQ2.out.row.cell j hjm
              by_cases hz : Y k j = 0
              · rw [hz] at hy
                go_wp2_with fail
                go_roundw
                case rel => exact ⟨j + 1, by go_num, hjm, by trivial⟩
                case measure => simp [intOf]; omega
              · have hz2 : (Y k j != 0) = true := by simpa using hz
                go_wp2_with (go_at_call 51; refine (hasInt_no _ _ rn rd ((j : Nat) : Int) 0 _ (owns_sl A9) (H2.out k hlt j hjm hz) (by omega)).mono ?_; rintro e wz ⟨rfl, rfl⟩)
                go_roundw
                case rel => exact ⟨j + 1, by go_num, hjm, by trivial⟩
                case measure => simp [intOf]; omega
            · obtain rfl : j = m := by omega
              go_wp2_with fail
              go_roundw
              case rel => exact ⟨k + 1, by go_num, hlt, by trivial⟩
              case measure => simp [intOf]; omega
        · obtain rfl : k = K := by omega
          go_wp2_with fail
          go_ret
          exact ⟨rfl, C9⟩
  · have hrc' : (rc != 0) = true := by simpa using hrc
    have qBx0 := Bx5.b0
    have qBx1 := Bx5.b1
    have qBx2 := Bx5.lt
    go_wp2_with fail
    go_ret
    exact ⟨rfl, C5⟩

set_option maxRecDepth 100000 in
theorem lifted (os : Os) (started : os.Started) (H : Type) (enc : TypeId × Value → H) :
    ReturnsInHanded {} Try.checked os 10 .any (Rows.fnBridgesSpec.pre6 enc Try.prog Try.f10 Rows.fnBridgesRow.domain false) (Rows.fnBridgesSpec.post enc Try.prog Try.f10 false true false false) := by
  refine returnsInHanded_of_change (C := Try.checked) own started (by kernel_rfl) Try.func10
    (ChangeSpec.witness6 (enc := enc) (C := Try.checked) false ⟨#[], #[.slice none 0 0], []⟩ 8 (by kernel_rfl) (by kernel_rfl) (by kernel_rfl) (by kernel_rfl)) ?_
  intro W base args ds gs before hval0 hW hcnd _
  have hval : ∀ (j : Nat) t v, Try.f10.params[j]? = some t → args[j]? = some v → Value.okWide Try.prog W .any base t v := hval0
  have hW' := hW
  obtain ⟨p, q, hA0, hV, rfl, hfz, hnd⟩ := hW
  have hA : DataW.TrodAll enc Try.prog W 0 (fun _ => true) true Try.f10.params.toList args.toList ds p := hA0
  rw [Try.params10] at hA hval
  obtain ⟨v0, vs0, d0, ds0, p0, q0, hargs, rfl, rfl, h0, r0⟩ := trodAll_cons hA
  obtain ⟨rfl, rfl, rfl⟩ := trodAll_nil r0
  obtain rfl : args = #[v0] := by cases args; simp_all
  obtain ⟨rfl, rfl⟩ := trodVars_none hV
  have hc := open_code (hval 0 22 v0 rfl rfl) h0
  refine (walk v0 W hc).mono fun e W' ⟨he, hg⟩ => ?_
  subst he
  exact ⟨_, rfl, law.law_post hW' hg laidOut (by kernel_rfl) rfl rfl (by kernel_rfl) Try.underlying4⟩

theorem over : Rows.fnBridgesRow.holds Try.pinned (OpenSpec.ofChange Rows.fnBridgesSpec) :=
  OpenClaim.holds_of_wide 10 Try.f10 rfl rfl rfl rfl rfl rfl rfl ⟨rfl, rfl, rfl, rfl, rfl⟩ rfl rfl rfl rfl rfl (by kernel_rfl) Try.func10 (by kernel_rfl)
    (of_decide_eq_true (by kernel_rfl)) (by unfold Func.isWrapper; first | (rw [if_pos (by decide +kernel)]; kernel_rfl) | (rw [if_neg (by decide +kernel)]; exact ⟨rfl, rfl⟩))
    (fun os started H enc _ => lifted os started H enc)

theorem proved : Rows.FnBridgesSaid :=
  over
#print axioms proved
end Go.Proofs.Ytmjmamiokkkblaa.fnBridges
