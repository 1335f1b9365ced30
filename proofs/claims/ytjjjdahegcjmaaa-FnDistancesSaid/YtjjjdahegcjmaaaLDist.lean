/-
  FnDistances returns true at every slice of bytes, and leaves it as it was. No condition.
-/
import Derived.Test.YtjjjdahegcjmaaaRows
import Derived.Test.YtjjjdahegcjmaaaLaw
import Derived.Test.YtjjjdahegcjmaaaCode
import Derived.Test.YtjjjdahegcjmaaaLikeI
import Derived.Test.YtjjjdahegcjmaaaPaM
import Derived.Test.YtjjjdahegcjmaaaDrM
import Derived.WalkKit
import Derived.ProofKit
import Derived.OpenShut
import Derived.Lib.Hide
import Derived.Deep.QuietTactic
import Derived.BigQuiet
import Derived.OwnWalk
import Derived.Outline
import Derived.Deep.RegionHeld3
import Derived.Deep.RegionHeldLaw
import Derived.IntWalk
namespace Go.Proofs.Ytjjjdahegcjmaaa.fnDistances
open Go.ChangeShapes Go.WideShapes Go.ChangeAt Go.RowKit Go.Proofs.Ytjjjdahegcjmaaa.draw Go.Proofs.Ytjjjdahegcjmaaa.mem
set_option linter.unusedVariables false

theorem own : ownKnob Try.prog.godebug = none := by kernel_rfl
theorem laidOut : laidOutB Try.prog = true := by kernel_rfl

theorem own_at {w : World} {p : Option Addr} {n c b : Nat} {d : Nat → Int} (h : OwnS w (.slice p n c) n 1 (fun i _ => .int .i64 (d i)) b) {k : Nat} (hk : k < n) : p = some ⟨b, 0, none⟩ ∧ b < w.heap.size ∧ w.cell? ⟨b, k, none⟩ = some (.int .i64 (d k)) := by
  obtain ⟨p', cap, hv, h1, h2, h3⟩ := h.ex
  injection hv with e1 _ e3
  subst e1
  rcases h3 with h3 | ⟨h3, h4⟩
  · omega
  · refine ⟨h3, h4.lt, ?_⟩
    have := h4.cell k 0 hk (by omega)
    simpa using this
/-- the cells of a pipe of an own network -/
theorem pipe_at {w : World} {p0 p1 : Option Addr} {n c0 m c1 b1 b2 : Nat} {N : Nat → Nod} {P : Nat → Pip} (h : NetOwn w (.agg #[.slice p0 n c0, .slice p1 m c1]) n N m P b1 b2) {k : Nat} (hk : k < m) :
    p1 = some ⟨b2, 0, none⟩ ∧ b2 < w.heap.size ∧ w.cell? ⟨b2, k * 5, none⟩ = some (.int .i64 (P k).f) ∧ w.cell? ⟨b2, k * 5 + 1, none⟩ = some (.int .i64 (P k).t) := by
  obtain ⟨v0, v1, he, g0, g1, hd⟩ := h.ex
  simp only [Value.agg.injEq, Array.mk.injEq, List.cons.injEq, and_true] at he
  obtain ⟨rfl, rfl⟩ := he
  obtain ⟨p', cap, hv, h1, h2, h3⟩ := g1.ex
  injection hv with e1 _ e3
  subst e1
  rcases h3 with h3 | ⟨h3, h4⟩
  · omega
  · exact ⟨h3, h4.lt, h4.cell k 0 hk (by omega), h4.cell k 1 hk (by omega)⟩
theorem codeUp {w : World} {cv : Value} {len B C : Nat} (h : CodeAt w cv len B) (hB : B ≤ C) : CodeAt w cv len C := by
  rcases h with h | ⟨cb, co, cap, h1, h2, h3⟩
  · exact .inl h
  · exact .inr ⟨cb, co, cap, h1, by omega, h3⟩
theorem size_small (x : Int) (h0 : -1 ≤ x) (h1 : x ≤ 1) (w : World) : Calls Try.prog 44 #[.int .i64 x] w fun e w' => ∃ r, e = .returned (.int .i64 r) ∧ r ≤ 1 ∧ w = w' := by
  have hn : IntKind.i64.wrap (-x) = -x := IntWalk.i64_in _ (by omega)
  by_cases h : x < -x
  · go_enter Try.func44, Try.ntmps44
    go_wp2
    go_ret
    exact ⟨_, rfl, by omega, rfl⟩
  · go_enter Try.func44, Try.ntmps44
    go_wp2
    go_ret
    exact ⟨_, rfl, by omega, rfl⟩
theorem distFacts (n : Nat) (N : Nat → Nod) (m : Nat) (P : Nat → Pip) (x : Int) (hN : ∀ i, i < n → (N i).s.size ≤ 9223372036854775807) (hn : n ≤ 1000) (hm : m ≤ 1000) :
    ∃ (rn : Nat) (rd : Nat → Int) (rc : Int), rn ≤ 1000 ∧
      (∀ w v, NetAt w v n N m P 0 w.heap.size → Calls Try.prog 23 #[v, .int .i64 x] w (LIPost w rn rd rc)) ∧ (∀ w v, NetAt w v n N m P 0 w.heap.size → Calls Try.prog 22 #[v, .int .i64 x] w (LIPost w rn rd rc)) ∧
      (rc = 0 → rn = n ∧ 1 ≤ n ∧ (∀ k, k < m → ∃ F T : Nat, (P k).f = F ∧ (P k).t = T ∧ F < n ∧ T < n ∧ ((rd F < 0 ∧ rd T < 0 ∧ -1 ≤ rd F - rd T ∧ rd F - rd T ≤ 1) ∨ (0 ≤ rd F ∧ 0 ≤ rd T ∧ -1 ≤ rd F - rd T ∧ rd F - rd T ≤ 1))) ∧
        (∀ k, k < n → ∃ (pn : Nat) (pd : Nat → Int) (pc : Int), (∀ w v, NetAt w v n N m P 0 w.heap.size → Calls Try.prog 30 #[v, .int .i64 x, .int .i64 (k : Nat)] w (LIPost w pn pd pc)) ∧ ((rd k < 0 ∧ pc = 4) ∨ (0 ≤ rd k ∧ pc = 0 ∧ ((pn : Nat) : Int) = rd k)))) := by
  refine ⟨ndN n N m P x, fun k => vval (·.ds) (vis n P m x) ((k : Nat) : Int), ndC n N m P x, by unfold ndN; split <;> omega, fun w v h => distancesFromI_any w v n N m P 0 _ h (Nat.le_refl _) hN x, fun w v h => distancesFromS_any w v n N m P 0 _ h (Nat.le_refl _) hN x, fun hc => ?_⟩
  obtain ⟨hB, X0, rfl, hX⟩ := ndC_zero hc
  have hxr : 0 ≤ ((X0 : Nat) : Int) ∧ ((X0 : Nat) : Int) ≤ (n : Int) - 1 := ⟨Int.natCast_nonneg _, by omega⟩
  have ok := vis_ok (P := P) (m := m) hB hxr
  have hneg : ∀ y, vhas (vis n P m ((X0 : Nat) : Int)) y = false → vval (·.ds) (vis n P m ((X0 : Nat) : Int)) y = -1 := fun y hy => vval_no hy
  have hpos : ∀ y, vhas (vis n P m ((X0 : Nat) : Int)) y = true → 0 ≤ vval (·.ds) (vis n P m ((X0 : Nat) : Int)) y := fun y hy => by
    have := ok.dist_no y
    rw [hy] at this
    simpa using this
  refine ⟨if_pos hc, (net_sz hB).1, fun k hk => ?_, fun k hk => ?_⟩
  · have hp := pipB_parts (net_pip hB hk)
    obtain ⟨F, hF⟩ := Int.eq_ofNat_of_zero_le hp.1.1
    obtain ⟨T, hT⟩ := Int.eq_ofNat_of_zero_le hp.2.1.1
    refine ⟨F, T, hF, hT, by omega, by omega, ?_⟩
    have eF : endB (P k) (F : Int) = true := by unfold endB; rw [hF]; simp
    have eT : endB (P k) (T : Int) = true := by unfold endB; rw [hT]; simp
    have oF : othV (P k) (F : Int) = (T : Int) := by unfold othV; rw [if_pos hF]; exact hT
    have oT : othV (P k) (T : Int) = (F : Int) := by unfold othV; rw [if_neg (by omega)]; exact hF
    dsimp only
    cases hf : vhas (vis n P m ((X0 : Nat) : Int)) (F : Int)
    · cases ht : vhas (vis n P m ((X0 : Nat) : Int)) (T : Int)
      · left
        rw [hneg _ hf, hneg _ ht]
        omega
      · have := vis_closed hB hxr ht hk eT
        rw [oT, hf] at this
        cases this
    · obtain ⟨ht, d1⟩ := dist_next hB hxr hf hk eF
      rw [oF] at ht d1
      obtain ⟨_, d2⟩ := dist_next hB hxr ht hk eT
      rw [oT] at d2
      right
      exact ⟨hpos _ hf, hpos _ ht, by omega, by omega⟩
  · refine ⟨spN n N m P _ _, spD n P m _ _, spC n N m P _ _, fun w v h => shortestPathI_any w v n N m P 0 _ h (Nat.le_refl _) hN _ _, ?_⟩
    have hcode : codeB (netB n N m P) (inR ((X0 : Nat) : Int) 0 (n - 1) && inR ((k : Nat) : Int) 0 (n - 1)) = 0 := by
      rw [hB, inR_iff.2 hxr, inR_iff.2 ⟨Int.natCast_nonneg _, by omega⟩]; rfl
    have hspc : spC n N m P ((X0 : Nat) : Int) ((k : Nat) : Int) = if vhas (vis n P m ((X0 : Nat) : Int)) ((k : Nat) : Int) = true then 0 else 4 := by unfold spC; rw [if_pos hcode]
    dsimp only
    cases hv : vhas (vis n P m ((X0 : Nat) : Int)) ((k : Nat) : Int)
    · left
      rw [hspc, hv, hneg _ hv]
      exact ⟨by omega, rfl⟩
    · right
      have h0 : spC n N m P ((X0 : Nat) : Int) ((k : Nat) : Int) = 0 := by rw [hspc, hv]; rfl
      refine ⟨hpos _ hv, h0, ?_⟩
      unfold spN
      rw [if_pos h0]
      obtain ⟨i, u, hu, hun⟩ := vhas_get hv
      unfold spL
      rw [← hun, ok.pth_ds hB i u hu, ok.val (·.ds) hu]

set_option maxRecDepth 100000 in
set_option maxHeartbeats 20000000 in
theorem walk (v : Value) (w : World) (hc : CodeArg w v) :
    Calls Try.prog 12 #[v] w fun e w' => e = .returned (.bool true) ∧ Below w.heap.size w w' := by
  obtain ⟨p, len, cap, rfl, hlen, hcode⟩ := hc
  by_cases h4 : (4096 : Int) < len
  · clear hcode
    go_enter Try.func12, Try.ntmps12
    go_wp2_with (go_at_call 41; refine (draw.big_any _ _ _ _).mono ?_; rintro e w' ⟨rfl, rfl⟩)
    go_ret
    exact ⟨rfl, Below.refl _ _⟩
  have hc := hcode (by omega)
  clear hcode
  go_enter Try.func12, Try.ntmps12
  go_wp2_with (go_at_call 41; refine (draw.big_any _ _ _ _).mono ?_; rintro e w' ⟨rfl, rfl⟩)
  refine (draw.drawDistancesFrom w _ len hc).mono ?_
  rintro e w1 ⟨v, n, m, N, P, b1, b2, x, rfl, hn, hm, hnm, o1, l1, l2, x0, x1, C1⟩
  obtain ⟨rn, rd, rc, hrn, ti, ts, hz⟩ := distFacts n N m P x hnm hn hm
  have TI := Lib.hid ti
  have TS := Lib.hid ts
  have HZ := Lib.hid hz
  have HCD := Lib.hid hc
  clear ti ts hz hc
  clear x0 x1
  have hb2 : (rc != rc) = false := by simp
  have lxx := o1.lts
  obtain ⟨sx1, sx2, sx3, sx4, rfl⟩ := o1.shape
  go_wp2_with fail
  have bb := mem.below_new w1 (.cells #[.slice sx1 n sx2, .slice sx3 m sx4] 30)
  have B_x := boxed w1 (.slice sx1 n sx2) (.slice sx3 m sx4) 30
  have hs2 := bb.size
  have C2 := belowNext C1 bb
  have x2 := o1.next bb
  clear bb C1 o1
  generalize hW2 : w1.alloc (Obj.cells #[.slice sx1 n sx2, .slice sx3 m sx4] 30) = w2 at *
  clear hW2
  have Bx2 := B_x
  clear B_x
  have lBx := Bx2.lt
  refine (TI.out _ _ x2.net).mono ?_
  rintro e w3 ⟨xA, gA, rfl, oA, lA, bb⟩
  have hs3 := bb.size
  have C3 := belowNext C2 bb
  have x3 := x2.next bb
  have Bx3 := Bx2.next bb
  clear bb C2 x2 Bx2
  have lxA := oA.lt
  obtain ⟨sA1, sA2, rfl⟩ := oA.shape
  have qBx0 := Bx3.b0
  have qBx1 := Bx3.b1
  have qBx2 := Bx3.lt
  go_wp2_with fail
  refine (TS.out _ _ x3.net).mono ?_
  rintro e w4 ⟨xB, gB, rfl, oB, lB, bb⟩
  have hs4 := bb.size
  have C4 := belowNext C3 bb
  have x4 := x3.next bb
  have Bx4 := Bx3.next bb
  have A4 := oA.next bb
  clear qBx0 qBx1 qBx2
  clear bb C3 x3 Bx3 oA
  have lxB := oB.lt
  obtain ⟨sB1, sB2, rfl⟩ := oB.shape
  have qBx0 := Bx4.b0
  have qBx1 := Bx4.b1
  have qBx2 := Bx4.lt
  go_wp2_with fail
  refine (likeInts_any _ _ _ rn rd 0 w4.heap.size 0 w4.heap.size (A4.cs (.inr rfl) (Nat.le_refl _)) (oB.cs (.inr rfl) (Nat.le_refl _))).mono ?_
  rintro e w5 ⟨rfl, bb⟩
  have hs5 := bb.size
  have C5 := belowNext C4 bb
  have x5 := x4.next bb
  have Bx5 := Bx4.next bb
  have A5 := A4.next bb
  have B5 := oB.next bb
  clear qBx0 qBx1 qBx2
  clear bb C4 x4 Bx4 A4 oB
  clear B5
  by_cases hrc : rc = 0
  · subst hrc
    obtain ⟨rfl, hn1, q1, q2⟩ := HZ.out rfl
    have Q1 := Lib.hid q1
    have Q2 := Lib.hid q2
    clear q1 q2
    clear HZ
    have qBx0 := Bx5.b0
    have qBx1 := Bx5.b1
    have qBx2 := Bx5.lt
    go_wp2_with fail
    clear qBx0 qBx1 qBx2
    go_loopw [9] (fun i wr => ∃ k : Nat, i = .int .i64 k ∧ k ≤ m ∧ Below w5.heap.size w5 wr) (fun i _ => m - (intOf i).toNat)
    case atStart => exact ⟨0, rfl, Nat.zero_le _, Below.refl _ _⟩
    case round =>
      obtain ⟨k, rfl, hk, bb⟩ := hrel
      obtain ⟨w6, hwb⟩ : ∃ w', w' = wr := ⟨_, rfl⟩
      subst hwb
      have CL := bb
      have hs6 := bb.size
      have C6 := belowNext C5 bb
      have x6 := x5.next bb
      have Bx6 := Bx5.next bb
      have A6 := A5.next bb
      clear bb C5 x5 Bx5 A5
      by_cases hlt : k < m
      · have hkI : (k : Int) < m := by omega
        have hk0 : (0 : Int) ≤ (k : Int) := Int.natCast_nonneg _
        obtain ⟨F, T, hF, hT, hFn, hTn, hd⟩ := Q1.out k hlt
        obtain ⟨rfl, hg2, hqf, hqt⟩ := pipe_at x6 hlt
        obtain ⟨rfl, hgA, hqa⟩ := own_at A6 hFn
        obtain ⟨_, _, hqb⟩ := own_at A6 hTn
        rw [hF] at hqf
        rw [hT] at hqt
        clear hF hT
        have f0 : (0 : Int) ≤ (F : Int) := Int.natCast_nonneg _
        have t0 : (0 : Int) ≤ (T : Int) := Int.natCast_nonneg _
        have f1 : (F : Int) < rn := by omega
        have t1 : (T : Int) < rn := by omega
        obtain ⟨a, ha⟩ : ∃ a, a = rd F := ⟨_, rfl⟩
        obtain ⟨b, hb⟩ : ∃ b, b = rd T := ⟨_, rfl⟩
        rw [← ha] at hqa hd
        rw [← hb] at hqb hd
        clear ha hb
        rcases hd with ⟨d1, d2, d3, d4⟩ | ⟨d1, d2, d3, d4⟩
        all_goals
          have qBx0 := Bx6.b0
          have qBx1 := Bx6.b1
          have qBx2 := Bx6.lt
          go_wp2_with fail
          go_quiet (fail)
          have hsb : IntKind.i64.wrap (a - b) = a - b := IntWalk.i64_in _ (by omega)
          go_wp2_with (go_at_call 44; refine (size_small (a - b) (by omega) (by omega) _).mono ?_; rintro e w' ⟨r, rfl, hr, rfl⟩)
          go_roundw
          case rel => exact ⟨k + 1, by go_num, hlt, below_dr CL _⟩
          case measure => simp [intOf]; omega
      · obtain rfl : k = m := by omega
        have nI : (1 : Int) ≤ ((rn : Nat) : Int) := by omega
        have qBx0 := Bx6.b0
        have qBx1 := Bx6.b1
        have qBx2 := Bx6.lt
        go_wp2_with fail
        have hAny : ∀ X : World, Below w6.heap.size w6 X → (fun w' => w'.cell? ⟨w1.heap.size, 0, none⟩ = some (.slice sx1 rn sx2)) X := fun X h => (Bx6.below h Bx6.lt).b0
        have K0 : Below w6.heap.size w6 w6.drew := ⟨rfl, rfl, rfl, Nat.le_refl _, fun _ _ => rfl⟩
        have HCK : CodeAt w6.drew (.slice p len cap) len w6.heap.size := codeUp (codeAt_below HCD.out (C6.trans (K0.mono (by omega)))) (by omega)
        go_region_held3 (fun w' => w'.cell? ⟨w1.heap.size, 0, none⟩ = some (.slice sx1 rn sx2)) (first | exact hAny _ K0 | exact hAny _ KX | exact hAny _ KY)
          (first | (go_at_call 45; refine (roll_any w6.drew _ len HCK 401).mono ?_; rintro e wa ⟨hh, rfl, hdc, hba⟩; have KX : Below w6.heap.size w6 wa := K0.trans hba; have HCA : CodeAt wa (.slice p len cap) len w6.heap.size := codeAt_below HCK hba) | (go_at_call 46; refine (dice_any wa _ w6.heap.size _ len 0 hh rn hdc HCA (Nat.le_refl _) nI (by omega)).mono ?_; rintro e wb ⟨r, ri, rh, rfl, r0, r1, hdc2, hob⟩; have KY : Below w6.heap.size w6 wb := KX.trans (draw.only_below hob (Nat.le_refl _))))
        obtain ⟨w7, hwb⟩ : ∃ w', w' = wb := ⟨_, rfl⟩
        subst hwb
        have bb := KY
        clear hAny K0 KX KY HCK HCA hdc hdc2 hob hba
        have hs7 := bb.size
        have C7 := belowNext C6 bb
        have x7 := x6.next bb
        have Bx7 := Bx6.next bb
        have A7 := A6.next bb
        have L7 := belowNext CL bb
        clear qBx0 qBx1 qBx2
        clear bb C6 x6 Bx6 A6 CL
        obtain ⟨R, rfl⟩ := Int.eq_ofNat_of_zero_le r0
        have hRn : R < rn := by omega
        obtain ⟨pn, pd, pc, hsp, hcs⟩ := Q2.out R hRn
        have HSP := Lib.hid hsp
        clear hsp
        have qBx0 := Bx7.b0
        have qBx1 := Bx7.b1
        have qBx2 := Bx7.lt
        go_wp2_with fail
        refine (HSP.out _ _ x7.net).mono ?_
        rintro e w8 ⟨xE, gE, rfl, oE, lE, bb⟩
        have hs8 := bb.size
        have C8 := belowNext C7 bb
        have x8 := x7.next bb
        have Bx8 := Bx7.next bb
        have A8 := A7.next bb
        have L8 := belowNext L7 bb
        clear qBx0 qBx1 qBx2
        clear bb C7 x7 Bx7 A7 L7
        have lxE := oE.lt
        obtain ⟨sE1, sE2, rfl⟩ := oE.shape
        obtain ⟨rfl, hgA, hqa⟩ := own_at A8 hRn
        obtain ⟨a, ha⟩ : ∃ a, a = rd R := ⟨_, rfl⟩
        rw [← ha] at hqa hcs
        clear ha
        rcases hcs with ⟨d1, rfl⟩ | ⟨d1, rfl, d2⟩
        · skip
          have qBx0 := Bx8.b0
          have qBx1 := Bx8.b1
          have qBx2 := Bx8.lt
          go_wp2_with fail
          go_ret
          exact ⟨rfl, C8⟩
        · have hpe : (((pn : Nat) : Int) == a) = true := by rw [beq_iff_eq]; exact d2
          clear d2
          have qBx0 := Bx8.b0
          have qBx1 := Bx8.b1
          have qBx2 := Bx8.lt
          go_wp2_with fail
          go_ret
          exact ⟨rfl, C8⟩
  · have hrc' : (rc != 0) = true := by simpa using hrc
    have qBx0 := Bx5.b0
    have qBx1 := Bx5.b1
    have qBx2 := Bx5.lt
    go_wp2_with fail
    go_ret
    exact ⟨rfl, C5⟩

set_option maxRecDepth 100000 in
theorem lifted (os : Os) (started : os.Started) (H : Type) (enc : TypeId × Value → H) :
    ReturnsInHanded {} Try.checked os 12 .any (Rows.fnDistancesSpec.pre6 enc Try.prog Try.f12 Rows.fnDistancesRow.domain false) (Rows.fnDistancesSpec.post enc Try.prog Try.f12 false true false false) := by
  refine returnsInHanded_of_change (C := Try.checked) own started (by kernel_rfl) Try.func12
    (ChangeSpec.witness6 (enc := enc) (C := Try.checked) false ⟨#[], #[.slice none 0 0], []⟩ 8 (by kernel_rfl) (by kernel_rfl) (by kernel_rfl) (by kernel_rfl)) ?_
  intro W base args ds gs before hval0 hW hcnd _
  have hval : ∀ (j : Nat) t v, Try.f12.params[j]? = some t → args[j]? = some v → Value.okWide Try.prog W .any base t v := hval0
  have hW' := hW
  obtain ⟨p, q, hA0, hV, rfl, hfz, hnd⟩ := hW
  have hA : DataW.TrodAll enc Try.prog W 0 (fun _ => true) true Try.f12.params.toList args.toList ds p := hA0
  rw [Try.params12] at hA hval
  obtain ⟨v0, vs0, d0, ds0, p0, q0, hargs, rfl, rfl, h0, r0⟩ := trodAll_cons hA
  obtain ⟨rfl, rfl, rfl⟩ := trodAll_nil r0
  obtain rfl : args = #[v0] := by cases args; simp_all
  obtain ⟨rfl, rfl⟩ := trodVars_none hV
  have hc := open_code (hval 0 47 v0 rfl rfl) h0
  refine (walk v0 W hc).mono fun e W' ⟨he, hg⟩ => ?_
  subst he
  exact ⟨_, rfl, law.law_post hW' hg laidOut (by kernel_rfl) rfl rfl (by kernel_rfl) Try.underlying4⟩

theorem over : Rows.fnDistancesRow.holds Try.pinned (OpenSpec.ofChange Rows.fnDistancesSpec) :=
  OpenClaim.holds_of_wide 12 Try.f12 rfl rfl rfl rfl rfl rfl rfl ⟨rfl, rfl, rfl, rfl, rfl⟩ rfl rfl rfl rfl rfl (by kernel_rfl) Try.func12 (by kernel_rfl)
    (of_decide_eq_true (by kernel_rfl)) (by unfold Func.isWrapper; first | (rw [if_pos (by decide +kernel)]; kernel_rfl) | (rw [if_neg (by decide +kernel)]; exact ⟨rfl, rfl⟩))
    (fun os started H enc _ => lifted os started H enc)

theorem proved : Rows.FnDistancesSaid :=
  over
#print axioms proved
end Go.Proofs.Ytjjjdahegcjmaaa.fnDistances
