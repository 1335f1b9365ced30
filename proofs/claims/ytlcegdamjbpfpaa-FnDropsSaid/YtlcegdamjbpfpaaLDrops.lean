/-
  FnDrops returns true at every slice of bytes, and leaves it as it was. No condition.
-/
import Derived.Test.YtlcegdamjbpfpaaRows
import Derived.Test.YtlcegdamjbpfpaaLaw
import Derived.Test.YtlcegdamjbpfpaaCode
import Derived.Test.YtlcegdamjbpfpaaLikeI
import Derived.Test.YtlcegdamjbpfpaaTxM
import Derived.Test.YtlcegdamjbpfpaaLfm
import Derived.Test.YtlcegdamjbpfpaaDyM
import Derived.WalkKit
import Derived.ProofKit
import Derived.OpenShut
import Derived.Lib.Hide
import Derived.Deep.QuietTactic
import Derived.BigQuiet
import Derived.OwnWalk
import Derived.Outline
import Derived.Deep.RegionHeld3
import Derived.Deep.RegionHeldLaw
import Derived.IntWalk
namespace Go.Proofs.Ytlcegdamjbpfpaa.fnDrops
open Go.ChangeShapes Go.WideShapes Go.ChangeAt Go.RowKit Go.Proofs.Ytlcegdamjbpfpaa.draw Go.Proofs.Ytlcegdamjbpfpaa.mem
set_option linter.unusedVariables false

theorem own : ownKnob Try.prog.godebug = none := by kernel_rfl
theorem laidOut : laidOutB Try.prog = true := by kernel_rfl

theorem own_at {w : World} {p : Option Addr} {n c b : Nat} {d : Nat → Int} (h : OwnS w (.slice p n c) n 1 (fun i _ => .int .i64 (d i)) b) {k : Nat} (hk : k < n) : p = some ⟨b, 0, none⟩ ∧ b < w.heap.size ∧ w.cell? ⟨b, k, none⟩ = some (.int .i64 (d k)) := by
  obtain ⟨p', cap, hv, h1, h2, h3⟩ := h.ex
  injection hv with e1 _ e3
  subst e1
  rcases h3 with h3 | ⟨h3, h4⟩
  · omega
  · refine ⟨h3, h4.lt, ?_⟩
    have := h4.cell k 0 hk (by omega)
    simpa using this
theorem owns_sl {w : World} {v : Value} {n b : Nat} {d : Nat → Int} (h : OwnS w v n 1 (fun i _ => .int .i64 (d i)) b) : Sl w v n d 0 w.heap.size := by
  obtain ⟨p', cap, hv, h1, h2, h3⟩ := h.ex
  refine ⟨p', cap, hv, ?_⟩
  rcases h3 with h3 | ⟨h3, h4⟩
  · exact .inl h3
  · refine .inr ⟨b, 0, h3, Nat.zero_le _, h4.lt, fun k hk => ?_⟩
    have := h4.cell k 0 hk (by omega)
    simpa using this
def tlN (d : Nat → Int) : Nat → Int
  | 0 => 0
  | k + 1 => tlN d k + d k
theorem tlN_one {d : Nat → Int} {a : Nat} (h : ∀ i, i ≠ a → d i = 0) : ∀ k, tlN d k = if a < k then d a else 0
  | 0 => by rw [if_neg (by omega)]; rfl
  | k + 1 => by
    rw [tlN, tlN_one h k]
    by_cases e : k = a
    · subst e
      rw [if_neg (by omega), if_pos (by omega), Int.zero_add]
    · rw [h k e, Int.add_zero]
      by_cases h2 : a < k
      · rw [if_pos h2, if_pos (by omega)]
      · rw [if_neg h2, if_neg (by omega)]
theorem sumOne_any (w : World) (v : Value) (n : Nat) (d : Nat → Int) (lo hi : Nat) (h : Sl w v n d lo hi) (hs : ∀ k, -1000000000000 ≤ tlN d k ∧ tlN d k ≤ 1000000000000) (hn : n ≤ 1000000) :
    Calls Try.prog 38 #[v] w fun e w' => e = .returned (.int .i64 (tlN d n)) ∧ w = w' := by
  obtain ⟨p, cap, rfl, hc⟩ := h
  have HC := Lib.hid hc
  have HS := Lib.hid hs
  clear hc hs
  go_enter Try.func38, Try.ntmps38
  go_wp2_with fail
  go_loop [3, 4] (fun q i => ∃ j : Nat, q = .int .i64 (tlN d j) ∧ i = .int .i64 j ∧ j ≤ n) (fun _ i => n - (intOf i).toNat)
  case atStart => exact ⟨0, rfl, rfl, Nat.zero_le _⟩
  case round =>
    obtain ⟨j, rfl, rfl, hj⟩ := hrel
    by_cases hlt : j < n
    · rcases HC.out with h0 | ⟨b, o, rfl, g1, g2, g3⟩
      · omega
      have c1 := g3 j hlt
      have s1 := HS.out j
      have s2 := HS.out (j + 1)
      have e2 : tlN d (j + 1) = tlN d j + d j := rfl
      have s3 : -1000000000000 ≤ tlN d j + d j ∧ tlN d j + d j ≤ 1000000000000 := by omega
      clear g3 s2 e2
      go_wp2_with fail
      go_round
      case rel => exact ⟨j + 1, rfl, by go_num, hlt⟩
      case measure => simp [intOf]; omega
    · obtain rfl : j = n := by omega
      go_wp2_with fail
      go_ret
      exact ⟨rfl, rfl⟩
theorem own_sl2 {w : World} {v : Value} {n g : Nat} {d : Nat → Int} (h : mem.Own w v n d g) : mem.Sl w v n d 0 w.heap.size := by
  obtain ⟨cap, rfl⟩ := h.shape
  exact ⟨_, cap, rfl, .inr ⟨g, 0, rfl, Nat.zero_le _, h.lt, fun k hk => by rw [Nat.zero_add]; exact h.row.cell k hk⟩⟩
theorem drpFacts (n : Nat) (N : Nat → Nod) (m : Nat) (P : Nat → Pip) (a x : Int) (hN : ∀ i, i < n → (N i).s.size ≤ 9223372036854775807) :
    ∃ (ra rc : Int), (∀ w v, NetAt w v n N m P 0 w.heap.size → Calls Try.prog 23 #[v, .int .i64 a, .int .i64 x] w (IIPost w ra rc)) ∧ (∀ w v, NetAt w v n N m P 0 w.heap.size → Calls Try.prog 22 #[v, .int .i64 a, .int .i64 x] w (IIPost w ra rc)) ∧
      (rc = 0 → ∃ (A : Nat) (dd : Nat → Int), a = (A : Int) ∧ A < m ∧ m ≤ 40 ∧ -30000 ≤ x ∧ x ≤ 30000 ∧ -1000000000000 ≤ ra ∧ ra ≤ 1000000000000 ∧ (∀ w v, NetAt w v n N m P 0 w.heap.size → Calls Try.prog 23 #[v, .int .i64 a, .int .i64 (-x)] w (IIPost w (-ra) 0)) ∧
        (∀ w v va, NetAt w v n N m P 0 w.heap.size → Sl w va m (upd (fun _ => 0) A x) 0 w.heap.size → Calls Try.prog 26 #[v, va] w (LIPost w m dd 0)) ∧ (∀ w v va, NetAt w v n N m P 0 w.heap.size → Sl w va m (upd (fun _ => 0) A x) 0 w.heap.size → Calls Try.prog 24 #[v, va] w (LIPost w m dd 0)) ∧
        dd A = ra ∧ (∀ k, -1000000000000 ≤ tlN dd k ∧ tlN dd k ≤ 1000000000000) ∧ tlN dd m = ra) := by
  refine ⟨dpA n N m P a x, dpC n N m P a x, fun w v h => dropOfI_any w v n N m P 0 _ h (Nat.le_refl _) hN a x, fun w v h => dropOfS_any w v n N m P 0 _ h (Nat.le_refl _) hN a x, fun hc => ?_⟩
  have hparts : codeB (netB n N m P) (inR a 0 (m - 1)) = 0 ∧ flQ x = true := by
    have h := hc
    unfold dpC at h
    split at h
    · next h1 =>
      split at h
      · next h2 => exact ⟨h1, h2⟩
      · omega
    · next h1 => exact absurd h h1
  obtain ⟨hcode, hq⟩ := hparts
  obtain ⟨hB, hz⟩ := codeB_zero hcode
  have hz2 := inR_iff.1 hz
  obtain ⟨A, rfl⟩ := Int.eq_ofNat_of_zero_le hz2.1
  have hAm : A < m := by omega
  obtain ⟨hn1, hn24, hm40⟩ := net_sz hB
  obtain ⟨x0, x1⟩ := flQ_iff.1 hq
  have hra : dpA n N m P (A : Nat) x = drp (P A) x := by unfold dpA; rw [hc, Int.toNat_natCast]; rfl
  have hbd := drp_bnd (net_pip hB hAm) x0 x1
  have hnc : dpC n N m P (A : Nat) (-x) = 0 := by
    unfold dpC
    rw [if_pos hcode, flQ_iff.2 ⟨by omega, by omega⟩]
    rfl
  have hna : dpA n N m P (A : Nat) (-x) = -drp (P A) x := by unfold dpA; rw [hnc, Int.toNat_natCast, drp_neg]; rfl
  have hfl : flC n N m P m (upd (fun _ => 0) A x) = 0 := flC_is hB (flB_iff.2 fun k hk => flQ_iff.2 (by
    unfold mem.upd
    split
    · exact ⟨by omega, by omega⟩
    · exact ⟨show (-30000 : Int) ≤ 0 by omega, show (0 : Int) ≤ 30000 by omega⟩))
  have hds : dsN n N m P m (upd (fun _ => 0) A x) = m := by unfold dsN; rw [if_pos hfl]
  have hone : ∀ i, i ≠ A → (fun i => drp (P i) (upd (fun _ => 0) A x i)) i = 0 := fun i hi => by
    dsimp only
    unfold mem.upd
    rw [if_neg hi]
    exact drp_zero _
  have hat : drp (P A) (upd (fun _ => 0) A x A) = drp (P A) x := by
    unfold mem.upd
    rw [if_pos rfl]
  rw [hra]
  refine ⟨A, fun i => drp (P i) (upd (fun _ => 0) A x i), rfl, hAm, hm40, x0, x1, by omega, by omega, fun w v h => ?_, fun w v va h hv => ?_, fun w v va h hv => ?_, hat, fun k => ?_, ?_⟩
  · have := dropOfI_any w v n N m P 0 _ h (Nat.le_refl _) hN (A : Nat) (-x)
    rw [hnc, hna] at this
    exact this
  · have := dropsOfI_any w v n N m P 0 _ h (Nat.le_refl _) hN va m _ 0 _ hv (Nat.le_refl _) (by omega)
    rw [hds, hfl] at this
    exact this
  · have := dropsOfS_any w v n N m P 0 _ h (Nat.le_refl _) hN va m _ 0 _ hv (Nat.le_refl _) (by omega)
    rw [hds, hfl] at this
    exact this
  · rw [tlN_one hone k, hat]
    split <;> omega
  · rw [tlN_one hone m, hat, if_pos hAm]

set_option maxRecDepth 100000 in
set_option maxHeartbeats 20000000 in
theorem walk (v : Value) (w : World) (hc : CodeArg w v) :
    Calls Try.prog 10 #[v] w fun e w' => e = .returned (.bool true) ∧ Below w.heap.size w w' := by
  obtain ⟨p, len, cap, rfl, hlen, hcode⟩ := hc
  by_cases h4 : (4096 : Int) < len
  · clear hcode
    go_enter Try.func10, Try.ntmps10
    go_wp2_with (go_at_call 35; refine (draw.big_any _ _ _ _).mono ?_; rintro e w' ⟨rfl, rfl⟩)
    go_ret
    exact ⟨rfl, Below.refl _ _⟩
  have hc := hcode (by omega)
  clear hcode
  go_enter Try.func10, Try.ntmps10
  go_wp2_with (go_at_call 35; refine (draw.big_any _ _ _ _).mono ?_; rintro e w' ⟨rfl, rfl⟩)
  refine (draw.drawDropOf w _ len hc).mono ?_
  rintro e w1 ⟨v, n, m, N, P, b1, b2, a, x, rfl, hn, hm, hnm, o1, l1, l2, C1⟩
  obtain ⟨ra, rc, ti, ts, hz⟩ := drpFacts n N m P a x hnm
  have TI := Lib.hid ti
  have TS := Lib.hid ts
  have HZ := Lib.hid hz
  clear ti ts hz
  clear hc
  have hb2 : (rc != rc) = false := by simp
  have hb3 : (ra != ra) = false := by simp
  have lxx := o1.lts
  obtain ⟨sx1, sx2, sx3, sx4, rfl⟩ := o1.shape
  go_wp2_with fail
  have bb := mem.below_new w1 (.cells #[.slice sx1 n sx2, .slice sx3 m sx4] 33)
  have B_x := boxed w1 (.slice sx1 n sx2) (.slice sx3 m sx4) 33
  have hs2 := bb.size
  have C2 := belowNext C1 bb
  have x2 := o1.next bb
  clear bb C1 o1
  generalize hW2 : w1.alloc (Obj.cells #[.slice sx1 n sx2, .slice sx3 m sx4] 33) = w2 at *
  clear hW2
  have Bx2 := B_x
  clear B_x
  have lBx := Bx2.lt
  refine (TI.out _ _  x2.net).mono ?_
  rintro e w3 ⟨rfl, bb⟩
  have hs3 := bb.size
  have C3 := belowNext C2 bb
  have x3 := x2.next bb
  have Bx3 := Bx2.next bb
  clear bb C2 x2 Bx2
  have qBx0 := Bx3.b0
  have qBx1 := Bx3.b1
  have qBx2 := Bx3.lt
  go_wp2_with fail
  refine (TS.out _ _  x3.net).mono ?_
  rintro e w4 ⟨rfl, bb⟩
  have hs4 := bb.size
  have C4 := belowNext C3 bb
  have x4 := x3.next bb
  have Bx4 := Bx3.next bb
  clear qBx0 qBx1 qBx2
  clear bb C3 x3 Bx3
  by_cases hrc : rc = 0
  · subst hrc
    obtain ⟨A, dd, rfl, hAm, hm40, x0, x1, r0, r1, q1, q2, q3, q4, q5, q6⟩ := HZ.out (by trivial)
    have Q1 := Lib.hid q1
    have Q2 := Lib.hid q2
    have Q3 := Lib.hid q3
    have Q4 := Lib.hid q4
    have Q5 := Lib.hid q5
    have Q6 := Lib.hid q6
    clear q1 q2 q3 q4 q5 q6
    clear HZ TI TS
    have A0 : (0 : Int) ≤ (A : Int) := Int.natCast_nonneg _
    have A1 : (A : Int) < (m : Int) := by omega
    have zs : (zeros m).size = m := by unfold zeros; simp [madeCells]
    have m0 : (0 : Int) ≤ (m : Int) := Int.natCast_nonneg _
    have mk1 := fun W => make_int64 W m (by omega)
    have qBx0 := Bx4.b0
    have qBx1 := Bx4.b1
    have qBx2 := Bx4.lt
    go_wp2_with fail
    refine (Q1.out _ _  x4.net).mono ?_
    rintro e w5 ⟨rfl, bb⟩
    have hs5 := bb.size
    have C5 := belowNext C4 bb
    have x5 := x4.next bb
    have Bx5 := Bx4.next bb
    clear qBx0 qBx1 qBx2
    clear bb C4 x4 Bx4
    have qBx0 := Bx5.b0
    have qBx1 := Bx5.b1
    have qBx2 := Bx5.lt
    go_wp2_with fail
    have OM := mem.Own.made1 w5 m A x (by omega) hAm
    have bb := mem.below_new w5 (.cells ((zeros m).setIfInBounds A (.int .i64 x)) 2)
    obtain ⟨gm, hgm⟩ : ∃ g, w5.heap.size = g := ⟨_, rfl⟩
    obtain ⟨w6, hwb⟩ : ∃ w', w5.alloc (.cells ((zeros m).setIfInBounds A (.int .i64 x)) 2) = w' := ⟨_, rfl⟩
    rw [hwb] at bb OM ⊢
    rw [hgm] at OM ⊢
    have hgm1 := Nat.le_antisymm_iff.1 hgm
    clear hwb hgm mk1
    have hLL := own_sl2 OM
    clear OM
    have hs6 := bb.size
    have C6 := belowNext C5 bb
    have x6 := x5.next bb
    have Bx6 := Bx5.next bb
    clear qBx0 qBx1 qBx2
    clear bb C5 x5 Bx5
    have qBx0 := Bx6.b0
    have qBx1 := Bx6.b1
    have qBx2 := Bx6.lt
    go_wp2_with fail
    refine (Q2.out _ _ _ x6.net hLL.zero).mono ?_
    rintro e w7 ⟨xD, gD, rfl, oD, lD, bb⟩
    have hs7 := bb.size
    have C7 := belowNext C6 bb
    have x7 := x6.next bb
    have Bx7 := Bx6.next bb
    have L7 := hLL.next bb
    clear qBx0 qBx1 qBx2
    clear bb C6 x6 Bx6 hLL
    have lxD := oD.lt
    obtain ⟨sD1, sD2, rfl⟩ := oD.shape
    have qBx0 := Bx7.b0
    have qBx1 := Bx7.b1
    have qBx2 := Bx7.lt
    go_wp2_with fail
    refine (Q3.out _ _ _ x7.net L7.zero).mono ?_
    rintro e w8 ⟨xE, gE, rfl, oE, lE, bb⟩
    have hs8 := bb.size
    have C8 := belowNext C7 bb
    have x8 := x7.next bb
    have Bx8 := Bx7.next bb
    have L8 := L7.next bb
    have D8 := oD.next bb
    clear qBx0 qBx1 qBx2
    clear bb C7 x7 Bx7 L7 oD
    have lxE := oE.lt
    obtain ⟨sE1, sE2, rfl⟩ := oE.shape
    have qBx0 := Bx8.b0
    have qBx1 := Bx8.b1
    have qBx2 := Bx8.lt
    go_wp2_with fail
    refine (likeInts_any _ _ _ m dd 0 w8.heap.size 0 w8.heap.size (D8.cs (.inr rfl) (Nat.le_refl _)) (oE.cs (.inr rfl) (Nat.le_refl _))).mono ?_
    rintro e w9 ⟨rfl, bb⟩
    have hs9 := bb.size
    have C9 := belowNext C8 bb
    have x9 := x8.next bb
    have Bx9 := Bx8.next bb
    have L9 := L8.next bb
    have D9 := D8.next bb
    have E9 := oE.next bb
    clear qBx0 qBx1 qBx2
    clear bb C8 x8 Bx8 L8 D8 oE
    clear E9
    obtain ⟨rfl, hgD, hqd⟩ := own_at D9 hAm
    rw [Q4.out] at hqd
    have hbm : (-ra == -ra) = true := by simp
    have hbr : (ra == ra) = true := by simp
    have hbn : ((m : Int) == (m : Int)) = true := by simp
    have qBx0 := Bx9.b0
    have qBx1 := Bx9.b1
    have qBx2 := Bx9.lt
    go_wp2_with fail
    refine (sumOne_any _ _ m dd 0 _ (owns_sl D9) Q5.out (by omega)).mono ?_
    rintro e w' ⟨rfl, rfl⟩
    rw [Q6.out]
    have qBx0 := Bx9.b0
    have qBx1 := Bx9.b1
    have qBx2 := Bx9.lt
    go_wp2_with fail
    go_ret
    exact ⟨rfl, C9⟩
  · have hrc' : (rc != 0) = true := by simpa using hrc
    have qBx0 := Bx4.b0
    have qBx1 := Bx4.b1
    have qBx2 := Bx4.lt
    go_wp2_with fail
    go_ret
    exact ⟨rfl, C4⟩

set_option maxRecDepth 100000 in
theorem lifted (os : Os) (started : os.Started) (H : Type) (enc : TypeId × Value → H) :
    ReturnsInHanded {} Try.checked os 10 .any (Rows.fnDropsSpec.pre6 enc Try.prog Try.f10 Rows.fnDropsRow.domain false) (Rows.fnDropsSpec.post enc Try.prog Try.f10 false true false false) := by
  refine returnsInHanded_of_change (C := Try.checked) own started (by kernel_rfl) Try.func10
    (ChangeSpec.witness6 (enc := enc) (C := Try.checked) false ⟨#[], #[.slice none 0 0], []⟩ 8 (by kernel_rfl) (by kernel_rfl) (by kernel_rfl) (by kernel_rfl)) ?_
  intro W base args ds gs before hval0 hW hcnd _
  have hval : ∀ (j : Nat) t v, Try.f10.params[j]? = some t → args[j]? = some v → Value.okWide Try.prog W .any base t v := hval0
  have hW' := hW
  obtain ⟨p, q, hA0, hV, rfl, hfz, hnd⟩ := hW
  have hA : DataW.TrodAll enc Try.prog W 0 (fun _ => true) true Try.f10.params.toList args.toList ds p := hA0
  rw [Try.params10] at hA hval
  obtain ⟨v0, vs0, d0, ds0, p0, q0, hargs, rfl, rfl, h0, r0⟩ := trodAll_cons hA
  obtain ⟨rfl, rfl, rfl⟩ := trodAll_nil r0
  obtain rfl : args = #[v0] := by cases args; simp_all
  obtain ⟨rfl, rfl⟩ := trodVars_none hV
  have hc := open_code (hval 0 50 v0 rfl rfl) h0
  refine (walk v0 W hc).mono fun e W' ⟨he, hg⟩ => ?_
  subst he
  exact ⟨_, rfl, law.law_post hW' hg laidOut (by kernel_rfl) rfl rfl (by kernel_rfl) Try.underlying4⟩

theorem over : Rows.fnDropsRow.holds Try.pinned (OpenSpec.ofChange Rows.fnDropsSpec) :=
  OpenClaim.holds_of_wide 10 Try.f10 rfl rfl rfl rfl rfl rfl rfl ⟨rfl, rfl, rfl, rfl, rfl⟩ rfl rfl rfl rfl rfl (by kernel_rfl) Try.func10 (by kernel_rfl)
    (of_decide_eq_true (by kernel_rfl)) (by unfold Func.isWrapper; first | (rw [if_pos (by decide +kernel)]; kernel_rfl) | (rw [if_neg (by decide +kernel)]; exact ⟨rfl, rfl⟩))
    (fun os started H enc _ => lifted os started H enc)

theorem proved : Rows.FnDropsSaid :=
  over
#print axioms proved
end Go.Proofs.Ytlcegdamjbpfpaa.fnDrops
