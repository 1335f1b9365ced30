/-
  FnEnergy returns true at every slice of bytes, and leaves it as it was. No condition.
-/
import Derived.Test.YtcpglmiboikfmaaRows
import Derived.Test.YtcpglmiboikfmaaLaw
import Derived.Test.YtcpglmiboikfmaaCode
import Derived.Test.YtcpglmiboikfmaaLikeI
import Derived.Test.YtcpglmiboikfmaaEsM
import Derived.Test.YtcpglmiboikfmaaDe1
import Derived.WalkKit
import Derived.ProofKit
import Derived.OpenShut
import Derived.Lib.Hide
import Derived.Deep.QuietTactic
import Derived.BigQuiet
import Derived.OwnWalk
import Derived.Outline
import Derived.Deep.RegionHeld3
import Derived.Deep.RegionHeldLaw
import Derived.IntWalk
namespace Go.Proofs.Ytcpglmiboikfmaa.fnEnergy
open Go.ChangeShapes Go.WideShapes Go.ChangeAt Go.RowKit Go.Proofs.Ytcpglmiboikfmaa.draw Go.Proofs.Ytcpglmiboikfmaa.mem
set_option linter.unusedVariables false

theorem own : ownKnob Try.prog.godebug = none := by kernel_rfl
theorem laidOut : laidOutB Try.prog = true := by kernel_rfl

theorem owns_sl {w : World} {v : Value} {n b : Nat} {d : Nat → Int} (h : OwnS w v n 1 (fun i _ => .int .i64 (d i)) b) : Sl w v n d 0 w.heap.size := by
  obtain ⟨p', cap, hv, h1, h2, h3⟩ := h.ex
  refine ⟨p', cap, hv, ?_⟩
  rcases h3 with h3 | ⟨h3, h4⟩
  · exact .inl h3
  · refine .inr ⟨b, 0, h3, Nat.zero_le _, h4.lt, fun k hk => ?_⟩
    have := h4.cell k 0 hk (by omega)
    simpa using this
theorem sl_at {w : World} {p : Option Addr} {n c lo hi : Nat} {d : Nat → Int} (h : Sl w (.slice p n c) n d lo hi) {k : Nat} (hk : k < n) : ∃ b o, p = some ⟨b, o, none⟩ ∧ lo ≤ b ∧ b < hi ∧ w.cell? ⟨b, o + k, none⟩ = some (.int .i64 (d k)) := by
  obtain ⟨p', cap, hv, h3⟩ := h.ex
  injection hv with e1 _ e3
  subst e1
  rcases h3 with h3 | ⟨b, o, h3, h4, h5, h6⟩
  · omega
  · exact ⟨b, o, h3, h4, h5, h6 k hk⟩
theorem flB_neg {d : Nat → Int} {n : Nat} (h : flB d n = true) : flB (fun k => -(d k)) n = true := flB_iff.2 fun k hk => by
  have := flQ_iff.1 (flB_iff.1 h k hk)
  exact flQ_iff.2 (by omega)
theorem ecC_ok {n : Nat} {N : Nat → Nod} {m : Nat} {P : Nat → Pip} {K : Nat} {d : Nat → Int} {x y : Int} (h : ecC n N m P K d x y = 0) : ckC n N m P K d x = 0 ∧ flQ y = true ∧ flB (adD n P m d x y) m = true := by
  unfold ecC at h
  split at h
  · next h1 =>
    split at h
    · next h2 =>
      split at h
      · next h3 => exact ⟨h1, h2, h3⟩
      · omega
    · omega
  · next h1 => exact absurd h h1
theorem ecFacts (n : Nat) (N : Nat → Nod) (m : Nat) (P : Nat → Pip) (K : Nat) (d : Nat → Int) (x y : Int) (hN : ∀ i, i < n → (N i).s.size ≤ 9223372036854775807) (hK : K ≤ 2000000) :
    ∃ (xa xc : Int), (∀ w v va, NetAt w v n N m P 0 w.heap.size → Sl w va K d 0 w.heap.size → Calls Try.prog 20 #[v, va, .int .i64 x, .int .i64 y] w (IIPost w xa xc)) ∧ (∀ w v va, NetAt w v n N m P 0 w.heap.size → Sl w va K d 0 w.heap.size → Calls Try.prog 21 #[v, va, .int .i64 x, .int .i64 y] w (IIPost w xa xc)) ∧
      (xc = 0 → ∃ (ad : Nat → Int) (ea eb : Int), K ≤ 40 ∧ (∀ k, k < K → -30000 ≤ d k ∧ d k ≤ 30000) ∧ eb - ea = xa ∧ IntKind.i64.wrap (eb - ea) = eb - ea ∧
        (∀ w v va, NetAt w v n N m P 0 w.heap.size → Sl w va K d 0 w.heap.size → Calls Try.prog 15 #[v, va, .int .i64 x, .int .i64 y] w (LIPost w K ad 0)) ∧ (∀ w v va, NetAt w v n N m P 0 w.heap.size → Sl w va K d 0 w.heap.size → Calls Try.prog 22 #[v, va] w (IIPost w ea 0)) ∧ (∀ w v va, NetAt w v n N m P 0 w.heap.size → Sl w va K ad 0 w.heap.size → Calls Try.prog 22 #[v, va] w (IIPost w eb 0)) ∧ (∀ w v va, NetAt w v n N m P 0 w.heap.size → Sl w va K (fun k => -(d k)) 0 w.heap.size → Calls Try.prog 22 #[v, va] w (IIPost w ea 0))) := by
  refine ⟨ecV n N m P K d x y, ecC n N m P K d x y, fun w v va h hv => energyChangeI_any w v n N m P 0 _ h (Nat.le_refl _) hN va K d 0 _ hv (Nat.le_refl _) (by omega) x y, fun w v va h hv => energyChangeS_any w v n N m P 0 _ h (Nat.le_refl _) hN va K d 0 _ hv (Nat.le_refl _) (by omega) x y, fun hc => ?_⟩
  obtain ⟨h1, hq, hl⟩ := ecC_ok hc
  obtain ⟨h0, hch⟩ := ckC_ok h1
  obtain ⟨hB, rfl, hf⟩ := flC_ok h0
  have hm40 := (net_sz hB).2.2
  have hA : adC n N K P K d x y = 0 := by
    unfold adC
    rw [if_pos h0, if_pos hch, if_pos hq, if_pos (show flB (fun k => d k + y * cyD n P K x k) K = true from hl)]
  have hAN : adN n N K P K d x y = K := by unfold adN; rw [if_pos hA]
  have f1 := flC_is hB hl
  have f2 := flC_is hB (flB_neg hf)
  have v0 : eoV n N K P K d = egS P d K := by unfold eoV; rw [if_pos h0]
  have v1 : eoV n N K P K (adD n P K d x y) = egS P (adD n P K d x y) K := by unfold eoV; rw [if_pos f1]
  have v2 : eoV n N K P K (fun k => -(d k)) = egS P d K := by unfold eoV; rw [if_pos f2, egS_neg]
  have vx : ecV n N K P K d x y = egS P (adD n P K d x y) K - egS P d K := by unfold ecV; rw [if_pos hc]
  have hE1 := egS_bnd (P := P) (x := adD n P K d x y) (k := K) (fun j hj => egB_of (net_pip hB hj) (flQ_iff.1 (flB_iff.1 hl j hj)).1 (flQ_iff.1 (flB_iff.1 hl j hj)).2)
  have hE2 := egS_bnd (P := P) (x := d) (k := K) (fun j hj => egB_of (net_pip hB hj) (flQ_iff.1 (flB_iff.1 hf j hj)).1 (flQ_iff.1 (flB_iff.1 hf j hj)).2)
  have c1 := fun w v va (h : NetAt w v n N K P 0 w.heap.size) hv => addCycleI_any w v n N K P 0 _ h (Nat.le_refl _) hN va K d 0 _ hv (Nat.le_refl _) (by omega) x y
  have c2 := fun w v va (h : NetAt w v n N K P 0 w.heap.size) hv => energyOfI_any w v n N K P 0 _ h (Nat.le_refl _) hN va K d 0 _ hv (Nat.le_refl _) (by omega)
  have c3 := fun w v va (h : NetAt w v n N K P 0 w.heap.size) hv => energyOfI_any w v n N K P 0 _ h (Nat.le_refl _) hN va K (adD n P K d x y) 0 _ hv (Nat.le_refl _) (by omega)
  have c4 := fun w v va (h : NetAt w v n N K P 0 w.heap.size) hv => energyOfI_any w v n N K P 0 _ h (Nat.le_refl _) hN va K (fun k => -(d k)) 0 _ hv (Nat.le_refl _) (by omega)
  rw [hA, hAN] at c1
  rw [v0, h0] at c2
  rw [v1, f1] at c3
  rw [v2, f2] at c4
  exact ⟨adD n P K d x y, egS P d K, egS P (adD n P K d x y) K, hm40, fun k hk => flQ_iff.1 (flB_iff.1 hf k hk), vx.symm, IntWalk.i64_in _ (by omega), c1, c2, c3, c4⟩
set_option maxRecDepth 100000 in
set_option maxHeartbeats 20000000 in
theorem walk (v : Value) (w : World) (hc : CodeArg w v) :
    Calls Try.prog 4 #[v] w fun e w' => e = .returned (.bool true) ∧ Below w.heap.size w w' := by
  obtain ⟨p, len, cap, rfl, hlen, hcode⟩ := hc
  by_cases h4 : (4096 : Int) < len
  · clear hcode
    go_enter Try.func4, Try.ntmps4
    go_wp2_with (go_at_call 13; refine (draw.big_any _ _ _ _).mono ?_; rintro e w' ⟨rfl, rfl⟩)
    go_ret
    exact ⟨rfl, Below.refl _ _⟩
  have hc := hcode (by omega)
  clear hcode
  go_enter Try.func4, Try.ntmps4
  go_wp2_with (go_at_call 13; refine (draw.big_any _ _ _ _).mono ?_; rintro e w' ⟨rfl, rfl⟩)
  refine (draw.drawEnergyChange w _ len hc).mono ?_
  rintro e w1 ⟨v, n, m, N, P, b1, b2, vk, K, D, x, y, rfl, hn, hm, hK, hnm, o1, l1, l2, hK1, C1⟩
  obtain ⟨xa, xc, ti, ts, hz⟩ := ecFacts n N m P K D x y hnm (by omega)
  have TI := Lib.hid ti
  have TS := Lib.hid ts
  have HZ := Lib.hid hz
  clear ti ts hz
  clear hc
  obtain ⟨pk, ck, rfl⟩ := draw.sl_sh hK1
  have hb2 : (xc != xc) = false := by simp
  have hb3 : (xa != xa) = false := by simp
  have lxx := o1.lts
  obtain ⟨sx1, sx2, sx3, sx4, rfl⟩ := o1.shape
  go_wp2_with fail
  have bb := mem.below_new w1 (.cells #[.slice sx1 n sx2, .slice sx3 m sx4] 27)
  have B_x := boxed w1 (.slice sx1 n sx2) (.slice sx3 m sx4) 27
  have hs2 := bb.size
  have C2 := belowNext C1 bb
  have LK2 := hK1.next bb
  have x2 := o1.next bb
  clear bb C1 hK1 o1
  generalize hW2 : w1.alloc (Obj.cells #[.slice sx1 n sx2, .slice sx3 m sx4] 27) = w2 at *
  clear hW2
  have Bx2 := B_x
  clear B_x
  have lBx := Bx2.lt
  refine (TI.out _ _ _ x2.net LK2.zero).mono ?_
  rintro e w3 ⟨rfl, bb⟩
  have hs3 := bb.size
  have C3 := belowNext C2 bb
  have LK3 := LK2.next bb
  have x3 := x2.next bb
  have Bx3 := Bx2.next bb
  clear bb C2 LK2 x2 Bx2
  have qBx0 := Bx3.b0
  have qBx1 := Bx3.b1
  have qBx2 := Bx3.lt
  go_wp2_with fail
  refine (TS.out _ _ _ x3.net LK3.zero).mono ?_
  rintro e w4 ⟨rfl, bb⟩
  have hs4 := bb.size
  have C4 := belowNext C3 bb
  have LK4 := LK3.next bb
  have x4 := x3.next bb
  have Bx4 := Bx3.next bb
  clear qBx0 qBx1 qBx2
  clear bb C3 LK3 x3 Bx3
  by_cases hxc : xc = 0
  · subst hxc
    obtain ⟨ad, ea, eb, hK40, hbd, hd, hwr, q1, q2, q3, q4⟩ := HZ.out (by trivial)
    have HBD := Lib.hid hbd
    have Q1 := Lib.hid q1
    have Q2 := Lib.hid q2
    have Q3 := Lib.hid q3
    have Q4 := Lib.hid q4
    clear hbd q1 q2 q3 q4
    clear HZ
    have hb4 : (ea == ea) = true := by simp
    have hb5 : (eb - ea == xa) = true := by rw [hd]; simp
    clear hd
    have qBx0 := Bx4.b0
    have qBx1 := Bx4.b1
    have qBx2 := Bx4.lt
    go_wp2_with fail
    refine (Q1.out _ _ _ x4.net LK4.zero).mono ?_
    rintro e w5 ⟨xA, gA, rfl, oA, lA, bb⟩
    have hs5 := bb.size
    have C5 := belowNext C4 bb
    have LK5 := LK4.next bb
    have x5 := x4.next bb
    have Bx5 := Bx4.next bb
    clear qBx0 qBx1 qBx2
    clear bb C4 LK4 x4 Bx4
    have lxA := oA.lt
    obtain ⟨sA1, sA2, rfl⟩ := oA.shape
    have qBx0 := Bx5.b0
    have qBx1 := Bx5.b1
    have qBx2 := Bx5.lt
    go_wp2_with fail
    refine (Q2.out _ _ _ x5.net LK5.zero).mono ?_
    rintro e w6 ⟨rfl, bb⟩
    have hs6 := bb.size
    have C6 := belowNext C5 bb
    have LK6 := LK5.next bb
    have x6 := x5.next bb
    have Bx6 := Bx5.next bb
    have A6 := oA.next bb
    clear qBx0 qBx1 qBx2
    clear bb C5 LK5 x5 Bx5 oA
    have qBx0 := Bx6.b0
    have qBx1 := Bx6.b1
    have qBx2 := Bx6.lt
    go_wp2_with fail
    refine (Q3.out _ _ _ x6.net (owns_sl A6)).mono ?_
    rintro e w7 ⟨rfl, bb⟩
    have hs7 := bb.size
    have C7 := belowNext C6 bb
    have LK7 := LK6.next bb
    have x7 := x6.next bb
    have Bx7 := Bx6.next bb
    have A7 := A6.next bb
    clear qBx0 qBx1 qBx2
    clear bb C6 LK6 x6 Bx6 A6
    have qBx0 := Bx7.b0
    have qBx1 := Bx7.b1
    have qBx2 := Bx7.lt
    have F0 := Lib.hid (mem.Own.nilled w7 (fun j => -(D j)))
    have HB0 := Lib.hid (mem.below_new w7 (.cells #[] 2))
    go_wp2_with fail
    generalize hW : w7.alloc (.cells #[] 2) = wq at *
    generalize hv : Value.slice (some ⟨w7.heap.size, 0, none⟩) 0 0 = vq at *
    clear hW hv
    clear qBx0 qBx1 qBx2
    go_loopw [17, 18] (fun ov iv wr => ∃ (k g : Nat) (ov' : Value), ov' = ov ∧ iv = .int .i64 k ∧ k ≤ K ∧ mem.Own wr ov' k (fun j => -(D j)) g ∧ w7.heap.size ≤ g ∧ Below w7.heap.size w7 wr) (fun _ iv _ => K - (intOf iv).toNat)
    case atStart => exact ⟨0, w7.heap.size, _, rfl, rfl, Nat.zero_le _, F0.out, Nat.le_refl _, HB0.out⟩
    case round =>
      obtain ⟨k, g, ov, rfl, rfl, hk, hown, hg, bb⟩ := hrel
      clear F0 HB0
      obtain ⟨co, rfl⟩ := hown.shape
      obtain ⟨w8, hwb⟩ : ∃ w', w' = wr := ⟨_, rfl⟩
      subst hwb
      have HBK := Lib.hid bb
      have hs8 := bb.size
      have C8 := belowNext C7 bb
      have LK8 := LK7.next bb
      have x8 := x7.next bb
      have Bx8 := Bx7.next bb
      have A8 := A7.next bb
      clear bb C7 LK7 x7 Bx7 A7
      have k0 : (0 : Int) ≤ (k : Int) := Int.natCast_nonneg _
      by_cases hlt : k < K
      · have hkI : (k : Int) < K := by omega
        obtain ⟨ba, oa, rfl, hg1, hgA, hqA⟩ := sl_at LK8 hlt
        have hbk := HBD.out k hlt
        have hb6 : -4611686018427387904 ≤ -(D k) ∧ -(D k) ≤ 4611686018427387904 := by omega
        have lg := hown.lt
        obtain ⟨vq8, wq8, g8, hr, ap⟩ := app_run (w8.alloc (.cells #[.int .i64 (-(D k))] 2)) _ k _ g (-(D k)) w8.heap.size (hown.alloc _) (cell_new1 w8 _) (by omega)
        have bl := ap.below (B := w7.heap.size) (by omega) (by rw [szal]; omega)
        have HX := Lib.hid (And.intro ap.own' (And.intro bl.2 (HBK.out.trans (((mem.below_new w8 _).mono HBK.out.size).trans bl.1))))
        clear hown ap bl
        go_wp2_with (at_builtin; refine mem.wpList_app hr rfl _ _ rfl rfl rfl rfl ?_)
        clear hr
        go_roundw
        case rel => exact ⟨k + 1, g8, _, rfl, by go_num, hlt, HX.out.1, HX.out.2.1, HX.out.2.2⟩
        case measure => simp [intOf]; omega
      · obtain rfl : k = K := by omega
        have LN := hown.sl.mono (Nat.zero_le g) hown.lt
        clear hown
        have qBx0 := Bx8.b0
        have qBx1 := Bx8.b1
        have qBx2 := Bx8.lt
        go_wp2_with fail
        refine (Q4.out _ _ _ x8.net LN.zero).mono ?_
        rintro e w9 ⟨rfl, bb⟩
        have hs9 := bb.size
        have C9 := belowNext C8 bb
        have LK9 := LK8.next bb
        have x9 := x8.next bb
        have Bx9 := Bx8.next bb
        have A9 := A8.next bb
        have LN9 := LN.next bb
        clear qBx0 qBx1 qBx2
        clear bb C8 LK8 x8 Bx8 A8 LN
        have qBx0 := Bx9.b0
        have qBx1 := Bx9.b1
        have qBx2 := Bx9.lt
        go_wp2_with fail
        go_ret
        exact ⟨rfl, C9⟩
  · have hxc' : (xc != 0) = true := by simpa using hxc
    have qBx0 := Bx4.b0
    have qBx1 := Bx4.b1
    have qBx2 := Bx4.lt
    go_wp2_with fail
    go_ret
    exact ⟨rfl, C4⟩

set_option maxRecDepth 100000 in
theorem lifted (os : Os) (started : os.Started) (H : Type) (enc : TypeId × Value → H) :
    ReturnsInHanded {} Try.checked os 4 .any (Rows.fnEnergySpec.pre6 enc Try.prog Try.f4 Rows.fnEnergyRow.domain false) (Rows.fnEnergySpec.post enc Try.prog Try.f4 false true false false) := by
  refine returnsInHanded_of_change (C := Try.checked) own started (by kernel_rfl) Try.func4
    (ChangeSpec.witness6 (enc := enc) (C := Try.checked) false ⟨#[], #[.slice none 0 0], []⟩ 8 (by kernel_rfl) (by kernel_rfl) (by kernel_rfl) (by kernel_rfl)) ?_
  intro W base args ds gs before hval0 hW hcnd _
  have hval : ∀ (j : Nat) t v, Try.f4.params[j]? = some t → args[j]? = some v → Value.okWide Try.prog W .any base t v := hval0
  have hW' := hW
  obtain ⟨p, q, hA0, hV, rfl, hfz, hnd⟩ := hW
  have hA : DataW.TrodAll enc Try.prog W 0 (fun _ => true) true Try.f4.params.toList args.toList ds p := hA0
  rw [Try.params4] at hA hval
  obtain ⟨v0, vs0, d0, ds0, p0, q0, hargs, rfl, rfl, h0, r0⟩ := trodAll_cons hA
  obtain ⟨rfl, rfl, rfl⟩ := trodAll_nil r0
  obtain rfl : args = #[v0] := by cases args; simp_all
  obtain ⟨rfl, rfl⟩ := trodVars_none hV
  have hc := open_code (hval 0 22 v0 rfl rfl) h0
  refine (walk v0 W hc).mono fun e W' ⟨he, hg⟩ => ?_
  subst he
  exact ⟨_, rfl, law.law_post hW' hg laidOut (by kernel_rfl) rfl rfl (by kernel_rfl) Try.underlying4⟩

theorem over : Rows.fnEnergyRow.holds Try.pinned (OpenSpec.ofChange Rows.fnEnergySpec) :=
  OpenClaim.holds_of_wide 4 Try.f4 rfl rfl rfl rfl rfl rfl rfl ⟨rfl, rfl, rfl, rfl, rfl⟩ rfl rfl rfl rfl rfl (by kernel_rfl) Try.func4 (by kernel_rfl)
    (of_decide_eq_true (by kernel_rfl)) (by unfold Func.isWrapper; first | (rw [if_pos (by decide +kernel)]; kernel_rfl) | (rw [if_neg (by decide +kernel)]; exact ⟨rfl, rfl⟩))
    (fun os started H enc _ => lifted os started H enc)

theorem proved : Rows.FnEnergySaid :=
  over
#print axioms proved
end Go.Proofs.Ytcpglmiboikfmaa.fnEnergy
