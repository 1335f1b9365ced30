/-
  FnBalance returns true at every slice of bytes, and leaves it as it was. No condition.
-/
import Derived.Test.YtpgcieefipjjfaaRows
import Derived.Test.YtpgcieefipjjfaaLaw
import Derived.Test.YtpgcieefipjjfaaCode
import Derived.Test.YtpgcieefipjjfaaLikeI
import Derived.Test.YtpgcieefipjjfaaLfm
import Derived.Test.YtpgcieefipjjfaaDrbM
import Derived.WalkKit
import Derived.ProofKit
import Derived.OpenShut
import Derived.Lib.Hide
import Derived.Deep.QuietTactic
import Derived.BigQuiet
import Derived.OwnWalk
import Derived.Outline
import Derived.Deep.RegionHeld3
import Derived.Deep.RegionHeldLaw
import Derived.IntWalk
namespace Go.Proofs.Ytpgcieefipjjfaa.fnBalance
open Go.ChangeShapes Go.WideShapes Go.ChangeAt Go.RowKit Go.Proofs.Ytpgcieefipjjfaa.draw Go.Proofs.Ytpgcieefipjjfaa.mem
set_option linter.unusedVariables false

theorem own : ownKnob Try.prog.godebug = none := by kernel_rfl
theorem laidOut : laidOutB Try.prog = true := by kernel_rfl

theorem own_at {w : World} {p : Option Addr} {n c b : Nat} {d : Nat → Int} (h : OwnS w (.slice p n c) n 1 (fun i _ => .int .i64 (d i)) b) {k : Nat} (hk : k < n) : p = some ⟨b, 0, none⟩ ∧ b < w.heap.size ∧ w.cell? ⟨b, k, none⟩ = some (.int .i64 (d k)) := by
  obtain ⟨p', cap, hv, h1, h2, h3⟩ := h.ex
  injection hv with e1 _ e3
  subst e1
  rcases h3 with h3 | ⟨h3, h4⟩
  · omega
  · refine ⟨h3, h4.lt, ?_⟩
    have := h4.cell k 0 hk (by omega)
    simpa using this
theorem owns_sl {w : World} {v : Value} {n b : Nat} {d : Nat → Int} (h : OwnS w v n 1 (fun i _ => .int .i64 (d i)) b) : Sl w v n d 0 w.heap.size := by
  obtain ⟨p', cap, hv, h1, h2, h3⟩ := h.ex
  refine ⟨p', cap, hv, ?_⟩
  rcases h3 with h3 | ⟨h3, h4⟩
  · exact .inl h3
  · refine .inr ⟨b, 0, h3, Nat.zero_le _, h4.lt, fun k hk => ?_⟩
    have := h4.cell k 0 hk (by omega)
    simpa using this
theorem likeSl (w : World) (v u : Value) (n : Nat) (d e : Nat → Int) (lo hi lo' hi' : Nat) (h : Sl w v n d lo hi) (g : Sl w u n e lo' hi') (hde : ∀ k, k < n → e k = d k) (hn9 : n ≤ 1000000) :
    Calls Try.prog 35 #[v, u] w fun e w' => e = .returned (.bool true) ∧ Below w.heap.size w w' := by
  obtain ⟨p, cap, rfl, hc⟩ := h
  obtain ⟨p', cap', rfl, hc'⟩ := g
  have HC := Lib.hid hc
  have HC' := Lib.hid hc'
  have HE := Lib.hid hde
  clear hc hc' hde
  have hbb : ((n : Int) != n) = false := by simp
  go_enter Try.func35, Try.ntmps35
  go_wp2_with fail
  go_loopw [5] (fun i wr => ∃ k m : Nat, i = .int .i64 k ∧ k ≤ n ∧ wr = w.drewN m) (fun i _ => n - (intOf i).toNat)
  case atStart => exact ⟨0, 0, rfl, Nat.zero_le _, rfl⟩
  case round =>
    obtain ⟨k, m, rfl, hk, hw⟩ := hrel
    have HWR := Lib.hid hw
    by_cases hlt : k < n
    · rcases HC.out with h0 | ⟨b, o, rfl, g1, g2, g3⟩
      · omega
      rcases HC'.out with h0 | ⟨b', o', rfl, g1', g2', g3'⟩
      · omega
      have c1 : wr.cell? ⟨b, o + k, none⟩ = some (.int .i64 (d k)) := by rw [hw]; exact g3 k hlt
      have c2 : wr.cell? ⟨b', o' + k, none⟩ = some (.int .i64 (d k)) := by rw [hw, ← HE.out k hlt]; exact g3' k hlt
      have hkn : (k : Int) < (n : Int) := by omega
      have hdd : (d k != d k) = false := by simp
      clear hw g3 g3'
      go_wp2_with fail
      go_quiet (fail)
      go_wp2_with fail
      go_roundw
      case rel => exact ⟨k + 1, m + nq, by go_num, hlt, by rw [HWR.out]; exact (World.drewN_drewN _ _ _)⟩
      case measure => simp [intOf]; omega
    · clear hw
      go_wp2_with fail
      go_ret
      exact ⟨rfl, by rw [HWR.out]; exact below_self _ _ _⟩
set_option maxRecDepth 100000 in
set_option maxHeartbeats 20000000 in
theorem walk (v : Value) (w : World) (hc : CodeArg w v) :
    Calls Try.prog 11 #[v] w fun e w' => e = .returned (.bool true) ∧ Below w.heap.size w w' := by
  obtain ⟨p, len, cap, rfl, hlen, hcode⟩ := hc
  by_cases h4 : (4096 : Int) < len
  · clear hcode
    go_enter Try.func11, Try.ntmps11
    go_wp2_with (go_at_call 31; refine (draw.big_any _ _ _ _).mono ?_; rintro e w' ⟨rfl, rfl⟩)
    go_ret
    exact ⟨rfl, Below.refl _ _⟩
  have hc := hcode (by omega)
  clear hcode
  go_enter Try.func11, Try.ntmps11
  go_wp2_with (go_at_call 31; refine (draw.big_any _ _ _ _).mono ?_; rintro e w' ⟨rfl, rfl⟩)
  refine (draw.drawIsBalanced w _ len hc).mono ?_
  rintro e w1 ⟨v, n, m, N, P, b1, b2, vk, K, D, vl, L, S, rfl, hn, hm, hK, hL, hnm, o1, l1, l2, hK1, hS1, C1⟩
  obtain ⟨bb', ti, ts, hz⟩ := baFacts n N m P K D L S hnm hn hm (by omega) (by omega)
  have TI := Lib.hid ti
  have TS := Lib.hid ts
  have HZ := Lib.hid hz
  clear ti ts hz
  clear hc
  obtain ⟨pk, ck, rfl⟩ := draw.sl_sh hK1
  obtain ⟨pl, cl, rfl⟩ := draw.sl_sh hS1
  have hb2 : (bb' != bb') = false := by simp
  have lxx := o1.lts
  obtain ⟨sx1, sx2, sx3, sx4, rfl⟩ := o1.shape
  go_wp2_with fail
  have bb := mem.below_new w1 (.cells #[.slice sx1 n sx2, .slice sx3 m sx4] 33)
  have B_x := boxed w1 (.slice sx1 n sx2) (.slice sx3 m sx4) 33
  have hs2 := bb.size
  have C2 := belowNext C1 bb
  have LK2 := hK1.next bb
  have LS2 := hS1.next bb
  have x2 := o1.next bb
  clear bb C1 hK1 hS1 o1
  generalize hW2 : w1.alloc (Obj.cells #[.slice sx1 n sx2, .slice sx3 m sx4] 33) = w2 at *
  clear hW2
  have Bx2 := B_x
  clear B_x
  have lBx := Bx2.lt
  refine (TI.out _ _ _ _ x2.net LK2.zero LS2.zero).mono ?_
  rintro e w3 ⟨rfl, bb⟩
  have hs3 := bb.size
  have C3 := belowNext C2 bb
  have LK3 := LK2.next bb
  have LS3 := LS2.next bb
  have x3 := x2.next bb
  have Bx3 := Bx2.next bb
  clear bb C2 LK2 LS2 x2 Bx2
  have qBx0 := Bx3.b0
  have qBx1 := Bx3.b1
  have qBx2 := Bx3.lt
  go_wp2_with fail
  refine (TS.out _ _ _ _ x3.net LK3.zero LS3.zero).mono ?_
  rintro e w4 ⟨rfl, bb⟩
  have hs4 := bb.size
  have C4 := belowNext C3 bb
  have LK4 := LK3.next bb
  have LS4 := LS3.next bb
  have x4 := x3.next bb
  have Bx4 := Bx3.next bb
  clear qBx0 qBx1 qBx2
  clear bb C3 LK3 LS3 x3 Bx3
  cases bb'
  · skip
    have qBx0 := Bx4.b0
    have qBx1 := Bx4.b1
    have qBx2 := Bx4.lt
    go_wp2_with fail
    go_ret
    exact ⟨rfl, C4⟩
  · obtain ⟨fn, fd, fc, sd, hfn, hK2, hL2, q1, q2, q3, q4, q5, q6, q7⟩ := HZ.out (by trivial)
    have Q1 := Lib.hid q1
    have Q2 := Lib.hid q2
    have Q3 := Lib.hid q3
    have Q4 := Lib.hid q4
    have Q5 := Lib.hid q5
    have Q6 := Lib.hid q6
    have Q7 := Lib.hid q7
    clear q1 q2 q3 q4 q5 q6 q7
    clear HZ
    have hb4 : (fc != fc) = false := by simp
    have qBx0 := Bx4.b0
    have qBx1 := Bx4.b1
    have qBx2 := Bx4.lt
    go_wp2_with fail
    refine (Q1.out _ _ _ x4.net LS4.zero).mono ?_
    rintro e w5 ⟨xA, gA, rfl, oA, lA, bb⟩
    have hs5 := bb.size
    have C5 := belowNext C4 bb
    have LK5 := LK4.next bb
    have LS5 := LS4.next bb
    have x5 := x4.next bb
    have Bx5 := Bx4.next bb
    clear qBx0 qBx1 qBx2
    clear bb C4 LK4 LS4 x4 Bx4
    have lxA := oA.lt
    obtain ⟨sA1, sA2, rfl⟩ := oA.shape
    have qBx0 := Bx5.b0
    have qBx1 := Bx5.b1
    have qBx2 := Bx5.lt
    go_wp2_with fail
    refine (Q2.out _ _ _ x5.net LS5.zero).mono ?_
    rintro e w6 ⟨xB, gB, rfl, oB, lB, bb⟩
    have hs6 := bb.size
    have C6 := belowNext C5 bb
    have LK6 := LK5.next bb
    have LS6 := LS5.next bb
    have x6 := x5.next bb
    have Bx6 := Bx5.next bb
    have A6 := oA.next bb
    clear qBx0 qBx1 qBx2
    clear bb C5 LK5 LS5 x5 Bx5 oA
    have lxB := oB.lt
    obtain ⟨sB1, sB2, rfl⟩ := oB.shape
    have qBx0 := Bx6.b0
    have qBx1 := Bx6.b1
    have qBx2 := Bx6.lt
    go_wp2_with fail
    refine (likeInts_any _ _ _ fn fd 0 w6.heap.size 0 w6.heap.size (A6.cs (.inr rfl) (Nat.le_refl _)) (oB.cs (.inr rfl) (Nat.le_refl _))).mono ?_
    rintro e w7 ⟨rfl, bb⟩
    have hs7 := bb.size
    have C7 := belowNext C6 bb
    have LK7 := LK6.next bb
    have LS7 := LS6.next bb
    have x7 := x6.next bb
    have Bx7 := Bx6.next bb
    have A7 := A6.next bb
    have B7 := oB.next bb
    clear qBx0 qBx1 qBx2
    clear bb C6 LK6 LS6 x6 Bx6 A6 oB
    have qBx0 := Bx7.b0
    have qBx1 := Bx7.b1
    have qBx2 := Bx7.lt
    go_wp2_with fail
    clear B7
    refine (Q3.out _ _ _ x7.net LK7.zero).mono ?_
    rintro e w8 ⟨xD, gD, rfl, oD, lD, bb⟩
    have hs8 := bb.size
    have C8 := belowNext C7 bb
    have LK8 := LK7.next bb
    have LS8 := LS7.next bb
    have x8 := x7.next bb
    have Bx8 := Bx7.next bb
    have A8 := A7.next bb
    clear qBx0 qBx1 qBx2
    clear bb C7 LK7 LS7 x7 Bx7 A7
    have lxD := oD.lt
    obtain ⟨sD1, sD2, rfl⟩ := oD.shape
    have qBx0 := Bx8.b0
    have qBx1 := Bx8.b1
    have qBx2 := Bx8.lt
    go_wp2_with fail
    refine (likeSl _ _ _ L sd S 0 _ 0 _ (owns_sl oD) LS8.zero (fun k hk => (Q4.out k hk).symm) (by omega)).mono ?_
    rintro e w9 ⟨rfl, bb⟩
    have hs9 := bb.size
    have C9 := belowNext C8 bb
    have LK9 := LK8.next bb
    have LS9 := LS8.next bb
    have x9 := x8.next bb
    have Bx9 := Bx8.next bb
    have A9 := A8.next bb
    have D9 := oD.next bb
    clear qBx0 qBx1 qBx2
    clear bb C8 LK8 LS8 x8 Bx8 A8 oD
    have qBx0 := Bx9.b0
    have qBx1 := Bx9.b1
    have qBx2 := Bx9.lt
    go_wp2_with fail
    refine (Q5.out _ _ _ x9.net LS9.zero).mono ?_
    rintro e w10 ⟨rfl, bb⟩
    have hs10 := bb.size
    have C10 := belowNext C9 bb
    have LK10 := LK9.next bb
    have LS10 := LS9.next bb
    have x10 := x9.next bb
    have Bx10 := Bx9.next bb
    have A10 := A9.next bb
    have D10 := D9.next bb
    clear qBx0 qBx1 qBx2
    clear bb C9 LK9 LS9 x9 Bx9 A9 D9
    by_cases hfc : fc = 0
    · subst hfc
      obtain ⟨hbd, xn, xd, xc, hxn, q8, q9⟩ := Q7.out (by trivial)
      have HBD := Lib.hid hbd
      have Q8 := Lib.hid q8
      have Q9 := Lib.hid q9
      clear hbd q8 q9
      clear Q7 Q6
      have qBx0 := Bx10.b0
      have qBx1 := Bx10.b1
      have qBx2 := Bx10.lt
      have F0 := Lib.hid (mem.Own.nilled w10 (fun j => -(fd j)))
      have HB0 := Lib.hid (mem.below_new w10 (.cells #[] 2))
      go_wp2_with fail
      generalize hW : w10.alloc (.cells #[] 2) = wq at *
      generalize hv : Value.slice (some ⟨w10.heap.size, 0, none⟩) 0 0 = vq at *
      clear hW hv
      clear qBx0 qBx1 qBx2
      go_loopw [13, 14] (fun ov iv wr => ∃ (k g : Nat) (ov' : Value), ov' = ov ∧ iv = .int .i64 k ∧ k ≤ fn ∧ mem.Own wr ov' k (fun j => -(fd j)) g ∧ w10.heap.size ≤ g ∧ Below w10.heap.size w10 wr) (fun _ iv _ => fn - (intOf iv).toNat)
      case atStart => exact ⟨0, w10.heap.size, _, rfl, rfl, Nat.zero_le _, F0.out, Nat.le_refl _, HB0.out⟩
      case round =>
        obtain ⟨k, g, ov, rfl, rfl, hk, hown, hg, bb⟩ := hrel
        clear F0 HB0
        obtain ⟨co, rfl⟩ := hown.shape
        obtain ⟨w11, hwb⟩ : ∃ w', w' = wr := ⟨_, rfl⟩
        subst hwb
        have HBK := Lib.hid bb
        have hs11 := bb.size
        have C11 := belowNext C10 bb
        have LK11 := LK10.next bb
        have LS11 := LS10.next bb
        have x11 := x10.next bb
        have Bx11 := Bx10.next bb
        have A11 := A10.next bb
        have D11 := D10.next bb
        clear bb C10 LK10 LS10 x10 Bx10 A10 D10
        have k0 : (0 : Int) ≤ (k : Int) := Int.natCast_nonneg _
        by_cases hlt : k < fn
        · have hkI : (k : Int) < fn := by omega
          obtain ⟨rfl, hgA, hqA⟩ := own_at A11 hlt
          have hbk := HBD.out k hlt
          have hb5 : -4611686018427387904 ≤ -(fd k) ∧ -(fd k) ≤ 4611686018427387904 := by omega
          have lg := hown.lt
          obtain ⟨v8, w8, g8, hr, ap⟩ := app_run (w11.alloc (.cells #[.int .i64 (-(fd k))] 2)) _ k _ g (-(fd k)) w11.heap.size (hown.alloc _) (cell_new1 w11 _) (by omega)
          have bl := ap.below (B := w10.heap.size) (by omega) (by rw [szal]; omega)
          have HX := Lib.hid (And.intro ap.own' (And.intro bl.2 (HBK.out.trans (((mem.below_new w11 _).mono HBK.out.size).trans bl.1))))
          clear hown ap bl
          go_wp2_with (at_builtin; refine mem.wpList_app hr rfl _ _ rfl rfl rfl rfl ?_)
          clear hr
          go_roundw
          case rel => exact ⟨k + 1, g8, _, rfl, by go_num, hlt, HX.out.1, HX.out.2.1, HX.out.2.2⟩
          case measure => simp [intOf]; omega
        · obtain rfl : k = fn := by omega
          have LN := hown.sl.mono (Nat.zero_le g) hown.lt
          clear hown
          have qBx0 := Bx11.b0
          have qBx1 := Bx11.b1
          have qBx2 := Bx11.lt
          go_wp2_with fail
          refine (Q8.out _ _ _ _ x11.net LK11.zero LN.zero).mono ?_
          rintro e w12 ⟨xE, gE, rfl, oE, lE, bb⟩
          have hs12 := bb.size
          have C12 := belowNext C11 bb
          have LK12 := LK11.next bb
          have LS12 := LS11.next bb
          have x12 := x11.next bb
          have Bx12 := Bx11.next bb
          have A12 := A11.next bb
          have D12 := D11.next bb
          have LN12 := LN.next bb
          clear qBx0 qBx1 qBx2
          clear bb C11 LK11 LS11 x11 Bx11 A11 D11 LN
          have lxE := oE.lt
          obtain ⟨sE1, sE2, rfl⟩ := oE.shape
          by_cases hxc : xc = 0
          · subst hxc
            have q9 := Q9.out (by trivial)
            have R9 := Lib.hid q9
            clear q9
            have qBx0 := Bx12.b0
            have qBx1 := Bx12.b1
            have qBx2 := Bx12.lt
            go_wp2_with fail
            refine (R9.out _ _ _ x12.net (owns_sl oE)).mono ?_
            rintro e w13 ⟨rfl, bb⟩
            have hs13 := bb.size
            have C13 := belowNext C12 bb
            have LK13 := LK12.next bb
            have LS13 := LS12.next bb
            have x13 := x12.next bb
            have Bx13 := Bx12.next bb
            have A13 := A12.next bb
            have D13 := D12.next bb
            have LN13 := LN12.next bb
            have E13 := oE.next bb
            clear qBx0 qBx1 qBx2
            clear bb C12 LK12 LS12 x12 Bx12 A12 D12 LN12 oE
            have qBx0 := Bx13.b0
            have qBx1 := Bx13.b1
            have qBx2 := Bx13.lt
            go_wp2_with fail
            go_ret
            exact ⟨rfl, C13⟩
          · have hxc' : (xc != 0) = true := by simpa using hxc
            have qBx0 := Bx12.b0
            have qBx1 := Bx12.b1
            have qBx2 := Bx12.lt
            go_wp2_with fail
            go_ret
            exact ⟨rfl, C12⟩
    · have hfc' : (fc != 0) = true := by simpa using hfc
      have hf2 : (fc == 2) = true := by rw [beq_iff_eq]; exact Q6.out hfc
      have qBx0 := Bx10.b0
      have qBx1 := Bx10.b1
      have qBx2 := Bx10.lt
      go_wp2_with fail
      go_ret
      exact ⟨rfl, C10⟩

set_option maxRecDepth 100000 in
theorem lifted (os : Os) (started : os.Started) (H : Type) (enc : TypeId × Value → H) :
    ReturnsInHanded {} Try.checked os 11 .any (Rows.fnBalanceSpec.pre6 enc Try.prog Try.f11 Rows.fnBalanceRow.domain false) (Rows.fnBalanceSpec.post enc Try.prog Try.f11 false true false false) := by
  refine returnsInHanded_of_change (C := Try.checked) own started (by kernel_rfl) Try.func11
    (ChangeSpec.witness6 (enc := enc) (C := Try.checked) false ⟨#[], #[.slice none 0 0], []⟩ 8 (by kernel_rfl) (by kernel_rfl) (by kernel_rfl) (by kernel_rfl)) ?_
  intro W base args ds gs before hval0 hW hcnd _
  have hval : ∀ (j : Nat) t v, Try.f11.params[j]? = some t → args[j]? = some v → Value.okWide Try.prog W .any base t v := hval0
  have hW' := hW
  obtain ⟨p, q, hA0, hV, rfl, hfz, hnd⟩ := hW
  have hA : DataW.TrodAll enc Try.prog W 0 (fun _ => true) true Try.f11.params.toList args.toList ds p := hA0
  rw [Try.params11] at hA hval
  obtain ⟨v0, vs0, d0, ds0, p0, q0, hargs, rfl, rfl, h0, r0⟩ := trodAll_cons hA
  obtain ⟨rfl, rfl, rfl⟩ := trodAll_nil r0
  obtain rfl : args = #[v0] := by cases args; simp_all
  obtain ⟨rfl, rfl⟩ := trodVars_none hV
  have hc := open_code (hval 0 48 v0 rfl rfl) h0
  refine (walk v0 W hc).mono fun e W' ⟨he, hg⟩ => ?_
  subst he
  exact ⟨_, rfl, law.law_post hW' hg laidOut (by kernel_rfl) rfl rfl (by kernel_rfl) Try.underlying4⟩

theorem over : Rows.fnBalanceRow.holds Try.pinned (OpenSpec.ofChange Rows.fnBalanceSpec) :=
  OpenClaim.holds_of_wide 11 Try.f11 rfl rfl rfl rfl rfl rfl rfl ⟨rfl, rfl, rfl, rfl, rfl⟩ rfl rfl rfl rfl rfl (by kernel_rfl) Try.func11 (by kernel_rfl)
    (of_decide_eq_true (by kernel_rfl)) (by unfold Func.isWrapper; first | (rw [if_pos (by decide +kernel)]; kernel_rfl) | (rw [if_neg (by decide +kernel)]; exact ⟨rfl, rfl⟩))
    (fun os started H enc _ => lifted os started H enc)

theorem proved : Rows.FnBalanceSaid :=
  over
#print axioms proved
end Go.Proofs.Ytpgcieefipjjfaa.fnBalance
