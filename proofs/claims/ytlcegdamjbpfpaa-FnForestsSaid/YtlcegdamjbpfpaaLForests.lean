/-
  FnForests returns true at every slice of bytes, and leaves it as it was. No condition.
-/
import Derived.Test.YtlcegdamjbpfpaaRows
import Derived.Test.YtlcegdamjbpfpaaLaw
import Derived.Test.YtlcegdamjbpfpaaCode
import Derived.Test.YtlcegdamjbpfpaaLikeI
import Derived.Test.YtlcegdamjbpfpaaFoM
import Derived.Test.YtlcegdamjbpfpaaCyM
import Derived.Test.YtlcegdamjbpfpaaDrM
import Derived.WalkKit
import Derived.ProofKit
import Derived.OpenShut
import Derived.Lib.Hide
import Derived.Deep.QuietTactic
import Derived.BigQuiet
import Derived.OwnWalk
import Derived.Outline
import Derived.Deep.RegionHeld3
import Derived.Deep.RegionHeldLaw
import Derived.IntWalk
namespace Go.Proofs.Ytlcegdamjbpfpaa.fnForests
open Go.ChangeShapes Go.WideShapes Go.ChangeAt Go.RowKit Go.Proofs.Ytlcegdamjbpfpaa.draw Go.Proofs.Ytlcegdamjbpfpaa.mem
set_option linter.unusedVariables false

theorem own : ownKnob Try.prog.godebug = none := by kernel_rfl
theorem laidOut : laidOutB Try.prog = true := by kernel_rfl

theorem own_at {w : World} {p : Option Addr} {n c b : Nat} {d : Nat → Int} (h : OwnS w (.slice p n c) n 1 (fun i _ => .int .i64 (d i)) b) {k : Nat} (hk : k < n) : p = some ⟨b, 0, none⟩ ∧ b < w.heap.size ∧ w.cell? ⟨b, k, none⟩ = some (.int .i64 (d k)) := by
  obtain ⟨p', cap, hv, h1, h2, h3⟩ := h.ex
  injection hv with e1 _ e3
  subst e1
  rcases h3 with h3 | ⟨h3, h4⟩
  · omega
  · refine ⟨h3, h4.lt, ?_⟩
    have := h4.cell k 0 hk (by omega)
    simpa using this
/-- the cells of a pipe of an own network -/
theorem pipe5_at {w : World} {p0 p1 : Option Addr} {n c0 m c1 b1 b2 : Nat} {N : Nat → Nod} {P : Nat → Pip} (h : NetOwn w (.agg #[.slice p0 n c0, .slice p1 m c1]) n N m P b1 b2) {k : Nat} (hk : k < m) :
    p1 = some ⟨b2, 0, none⟩ ∧ b2 < w.heap.size ∧ w.cell? ⟨b2, k * 5, none⟩ = some (.int .i64 (P k).f) ∧ w.cell? ⟨b2, k * 5 + 1, none⟩ = some (.int .i64 (P k).t) ∧ w.cell? ⟨b2, k * 5 + 2, none⟩ = some (.int .i64 (P k).k) ∧ w.cell? ⟨b2, k * 5 + 3, none⟩ = some (.int .i64 (P k).v) ∧ w.cell? ⟨b2, k * 5 + 4, none⟩ = some (.int .i64 (P k).l) := by
  obtain ⟨v0, v1, he, g0, g1, hd⟩ := h.ex
  simp only [Value.agg.injEq, Array.mk.injEq, List.cons.injEq, and_true] at he
  obtain ⟨rfl, rfl⟩ := he
  obtain ⟨p', cap, hv, h1, h2, h3⟩ := g1.ex
  injection hv with e1 _ e3
  subst e1
  rcases h3 with h3 | ⟨h3, h4⟩
  · omega
  · exact ⟨h3, h4.lt, h4.cell k 0 hk (by omega), h4.cell k 1 hk (by omega), h4.cell k 2 hk (by omega), h4.cell k 3 hk (by omega), h4.cell k 4 hk (by omega)⟩
/-- a pipe is appended to a row that holds the pipes of another list so far -/
theorem appFr (B : Nat) (W : World) (v : Value) (n : Nat) (F : Nat → Pip) (q : Pip) (hq : F n = q) (h : RowE B 63 5 W v n (pipC F)) (hB : B ≤ W.heap.size) (hn : n ≤ 1000000) :
    ∃ v' w', Sem.run Try.prog (Builtin.append_ #[31, 31] 31 #[v, .slice (some ⟨W.heap.size, 0, none⟩) 1 1]) (W.alloc (.cells #[.int .i64 q.f, .int .i64 q.t, .int .i64 q.k, .int .i64 q.v, .int .i64 q.l] 63)) = .ok v' w' ∧ RowE B 63 5 w' v' (n + 1) (pipC F) ∧ Upd (fun x => some x = v.ownBlock) W w' := by
  subst hq
  exact appOne Try.underlying31 info_make_pipe (by omega) rfl (by omega) B W v n _ _ h hB [.int .i64 (F n).f, .int .i64 (F n).t, .int .i64 (F n).k, .int .i64 (F n).v, .int .i64 (F n).l] rfl (by intro u hu; simp at hu; rcases hu with rfl | rfl | rfl | rfl | rfl <;> rfl)
    (fun i j hi hj => rfl) (fun j hj => by rcases (by omega : j = 0 ∨ j = 1 ∨ j = 2 ∨ j = 3 ∨ j = 4) with rfl | rfl | rfl | rfl | rfl <;> rfl) hn
theorem row_below {B : Nat} {e : TypeId} {z : Nat} {w w' : World} {v : Value} {n : Nat} {c : Nat → Nat → Value} (h : RowE B e z w v n c) (u : Upd (fun x => some x = v.ownBlock) w w') (hB : B ≤ w.heap.size) : Below B w w' :=
  u.below hB (fun k _ hk => (h.own.lt k hk.symm).1)
theorem forFacts (n : Nat) (N : Nat → Nod) (m : Nat) (P : Nat → Pip) (hN : ∀ i, i < n → (N i).s.size ≤ 9223372036854775807) (hn : n ≤ 1000) (hm : m ≤ 1000) :
    ∃ (rn : Nat) (rd : Nat → Int) (rc : Int), rn ≤ 1000 ∧
      (∀ w v, NetAt w v n N m P 0 w.heap.size → Calls Try.prog 16 #[v] w (LIPost w rn rd rc)) ∧ (∀ w v, NetAt w v n N m P 0 w.heap.size → Calls Try.prog 14 #[v] w (LIPost w rn rd rc)) ∧
      (rc = 0 → ∃ (pd : Nat → Int) (c : Nat) (F : Nat → Pip) (p : Nat → Bool), n ≤ 24 ∧ rn + c = n ∧ c = (fl p n).length ∧ (∀ k, k < n → (pd k == ((k : Nat) : Int)) = p k) ∧ (∀ i, i < rn → ∃ a : Nat, a < m ∧ rd i = (a : Int) ∧ F i = P a) ∧
        (∀ w v, NetAt w v n N m P 0 w.heap.size → Calls Try.prog 43 #[v] w (LIPost w n pd 0)) ∧ (∀ w v, NetAt w v n N rn F 0 w.heap.size → Calls Try.prog 43 #[v] w (LIPost w n pd 0)) ∧
        (∀ w v, NetAt w v n N m P 0 w.heap.size → Calls Try.prog 44 #[v] w (BPost w (((c : Nat) : Int) == 1)))) := by
  refine ⟨foN n N m P, lD (forest n P m), cmC (netB n N m P), by have := forest_le n P m; unfold foN; split <;> omega, fun w v h => spanningForestI_any w v n N m P 0 _ h (Nat.le_refl _) hN, fun w v h => spanningForestS_any w v n N m P 0 _ h (Nat.le_refl _) hN, fun hc => ?_⟩
  have hB : netB n N m P = true := by
    cases h : netB n N m P
    · rw [h] at hc; cases hc
    · rfl
  have e1 : foN n N m P = (forest n P m).length := if_pos hc
  have hF := net_forest hB
  rw [e1]
  refine ⟨fun k => cmp n P m n ((k : Nat) : Int), cnt n P m, frP n P m, rts n P m, (net_sz hB).2.1, forest_cnt hB, rfl, fun k _ => ?_, fun i hi => frP_at hi, fun w v h => ?_, fun w v h => ?_, fun w v h => ?_⟩
  · have := rts_eq n P m k
    rw [← this, Bool.eq_iff_iff, beq_iff_eq, beq_iff_eq]
    exact ⟨fun h => h.symm, fun h => h.symm⟩
  · have := componentsOfI_any w v n N m P 0 _ h (Nat.le_refl _) hN
    have h2 : cmN n N m P = n := if_pos hc
    rw [hc, h2] at this
    exact this
  · have := componentsOfI_any w v n N (forest n P m).length (frP n P m) 0 _ h (Nat.le_refl _) hN
    have h1 : cmC (netB n N (forest n P m).length (frP n P m)) = 0 := by rw [hF]; rfl
    have h2 : cmN n N (forest n P m).length (frP n P m) = n := if_pos h1
    rw [h1, h2] at this
    have h3 : (fun k : Nat => cmp n (frP n P m) (forest n P m).length n ((k : Nat) : Int)) = fun k : Nat => cmp n P m n ((k : Nat) : Int) := by
      funext k
      exact cmp_forest hB n (Nat.le_refl _) _
    rw [h3] at this
    exact this
  · have := isConnectedI_any w v n N m P 0 _ h (Nat.le_refl _) hN
    have h1 : conB n N m P = (((cnt n P m : Nat) : Int) == 1) := by
      unfold conB
      rw [hB, Bool.true_and, Bool.eq_iff_iff, decide_eq_true_eq, beq_iff_eq]
      omega
    rw [h1] at this
    exact this

set_option maxRecDepth 100000 in
set_option maxHeartbeats 20000000 in
theorem walk (v : Value) (w : World) (hc : CodeArg w v) :
    Calls Try.prog 12 #[v] w fun e w' => e = .returned (.bool true) ∧ Below w.heap.size w w' := by
  obtain ⟨p, len, cap, rfl, hlen, hcode⟩ := hc
  by_cases h4 : (4096 : Int) < len
  · clear hcode
    go_enter Try.func12, Try.ntmps12
    go_wp2_with (go_at_call 35; refine (draw.big_any _ _ _ _).mono ?_; rintro e w' ⟨rfl, rfl⟩)
    go_ret
    exact ⟨rfl, Below.refl _ _⟩
  have hc := hcode (by omega)
  clear hcode
  go_enter Try.func12, Try.ntmps12
  go_wp2_with (go_at_call 35; refine (draw.big_any _ _ _ _).mono ?_; rintro e w' ⟨rfl, rfl⟩)
  refine (draw.drawSpanningForest w _ len hc).mono ?_
  rintro e w1 ⟨v, n, m, N, P, b1, b2, rfl, hn, hm, hnm, o1, l1, l2, C1⟩
  obtain ⟨rn, rd, rc, hrn, ti, ts, hz⟩ := forFacts n N m P hnm hn hm
  have TI := Lib.hid ti
  have TS := Lib.hid ts
  have HZ := Lib.hid hz
  clear ti ts hz
  clear hc
  have hb2 : (rc != rc) = false := by simp
  have lxx := o1.lts
  obtain ⟨sx1, sx2, sx3, sx4, rfl⟩ := o1.shape
  go_wp2_with fail
  have bb := mem.below_new w1 (.cells #[.slice sx1 n sx2, .slice sx3 m sx4] 33)
  have B_x := boxed w1 (.slice sx1 n sx2) (.slice sx3 m sx4) 33
  have hs2 := bb.size
  have C2 := belowNext C1 bb
  have x2 := o1.next bb
  clear bb C1 o1
  generalize hW2 : w1.alloc (Obj.cells #[.slice sx1 n sx2, .slice sx3 m sx4] 33) = w2 at *
  clear hW2
  have Bx2 := B_x
  clear B_x
  have lBx := Bx2.lt
  refine (TI.out _ _ x2.net).mono ?_
  rintro e w3 ⟨xA, gA, rfl, oA, lA, bb⟩
  have hs3 := bb.size
  have C3 := belowNext C2 bb
  have x3 := x2.next bb
  have Bx3 := Bx2.next bb
  clear bb C2 x2 Bx2
  have lxA := oA.lt
  obtain ⟨sA1, sA2, rfl⟩ := oA.shape
  have qBx0 := Bx3.b0
  have qBx1 := Bx3.b1
  have qBx2 := Bx3.lt
  go_wp2_with fail
  refine (TS.out _ _ x3.net).mono ?_
  rintro e w4 ⟨xB, gB, rfl, oB, lB, bb⟩
  have hs4 := bb.size
  have C4 := belowNext C3 bb
  have x4 := x3.next bb
  have Bx4 := Bx3.next bb
  have A4 := oA.next bb
  clear qBx0 qBx1 qBx2
  clear bb C3 x3 Bx3 oA
  have lxB := oB.lt
  obtain ⟨sB1, sB2, rfl⟩ := oB.shape
  have qBx0 := Bx4.b0
  have qBx1 := Bx4.b1
  have qBx2 := Bx4.lt
  go_wp2_with fail
  refine (likeInts_any _ _ _ rn rd 0 w4.heap.size 0 w4.heap.size (A4.cs (.inr rfl) (Nat.le_refl _)) (oB.cs (.inr rfl) (Nat.le_refl _))).mono ?_
  rintro e w5 ⟨rfl, bb⟩
  have hs5 := bb.size
  have C5 := belowNext C4 bb
  have x5 := x4.next bb
  have Bx5 := Bx4.next bb
  have A5 := A4.next bb
  have B5 := oB.next bb
  clear qBx0 qBx1 qBx2
  clear bb C4 x4 Bx4 A4 oB
  by_cases hrc : rc = 0
  · subst hrc
    obtain ⟨pd, c, F, p, hn24, hrc1, hcf, q1, q2, q3, q4, q5⟩ := HZ.out rfl
    have HCF := Lib.hid hcf
    have Q1 := Lib.hid q1
    have Q2 := Lib.hid q2
    have Q3 := Lib.hid q3
    have Q4 := Lib.hid q4
    have Q5 := Lib.hid q5
    clear hcf q1 q2 q3 q4 q5
    clear HZ
    have qBx0 := Bx5.b0
    have qBx1 := Bx5.b1
    have qBx2 := Bx5.lt
    go_wp2_with fail
    refine (Q3.out _ _ x5.net).mono ?_
    rintro e w6 ⟨xD, gD, rfl, oD, lD, bb⟩
    have hs6 := bb.size
    have C6 := belowNext C5 bb
    have x6 := x5.next bb
    have Bx6 := Bx5.next bb
    have A6 := A5.next bb
    have B6 := B5.next bb
    clear qBx0 qBx1 qBx2
    clear bb C5 x5 Bx5 A5 B5
    have lxD := oD.lt
    obtain ⟨sD1, sD2, rfl⟩ := oD.shape
    have hcc : ((((rn : Nat) : Int)) == ((n : Nat) : Int) - ((c : Nat) : Int)) = true := by rw [beq_iff_eq]; omega
    have HCC := Lib.hid hcc
    clear hcc
    have qBx0 := Bx6.b0
    have qBx1 := Bx6.b1
    have qBx2 := Bx6.lt
    have r0 := rowE_nil (B := w6.heap.size) (e := 63) (z := 5) w6 (pipC F) (Nat.le_refl _)
    have HB0 := Lib.hid (mem.below_new w6 (.cells #[] 63))
    have HR := Lib.hid r0
    clear r0
    have hbx0 := Bx6.lt
    go_wp2_with fail
    generalize hW : w6.alloc (.cells #[] 63) = wq at *
    clear hW
    clear qBx0 qBx1 qBx2
    go_loopw [11, 10] (fun i pv wr => ∃ (k : Nat) (pv' : Value), i = .int .i64 k ∧ pv' = pv ∧ k ≤ rn ∧ RowE w6.heap.size 63 5 wr pv' k (pipC F) ∧ Below w6.heap.size w6 wr) (fun i _ _ => rn - (intOf i).toNat)
    case atStart => exact ⟨0, _, rfl, rfl, Nat.zero_le _, HR.out, HB0.out⟩
    case round =>
      obtain ⟨k, pv, rfl, rfl, hk, hrow, bb⟩ := hrel
      obtain ⟨pp, cp, rfl⟩ := hrow.shape
      clear HR HB0
      obtain ⟨w7, hwb⟩ : ∃ w', w' = wr := ⟨_, rfl⟩
      subst hwb
      have HL := Lib.hid bb
      have HRW := Lib.hid hrow
      clear hrow
      have hs7 := bb.size
      have C7 := belowNext C6 bb
      have x7 := x6.next bb
      have Bx7 := Bx6.next bb
      have A7 := A6.next bb
      have B7 := B6.next bb
      have D7 := oD.next bb
      clear bb C6 x6 Bx6 A6 B6 oD
      by_cases hlt : k < rn
      · have hkI : (k : Int) < rn := by omega
        have hk0 : (0 : Int) ≤ (k : Int) := Int.natCast_nonneg _
        obtain ⟨a, ham, hra, hFa⟩ := Q2.out k hlt
        obtain ⟨rfl, hg2, z0, z1, z2, z3, z4⟩ := pipe5_at x7 ham
        obtain ⟨rfl, hgB, hqb⟩ := own_at B7 hlt
        rw [hra] at hqb
        clear hra
        have HFA := Lib.hid hFa
        clear hFa
        have a0 : (0 : Int) ≤ (a : Int) := Int.natCast_nonneg _
        have a1 : (a : Int) < m := by omega
        have hl2 : b2 < w6.heap.size := by omega
        have hlB : gB < w6.heap.size := by omega
        have hAny : ∀ X : World, Below w6.heap.size w7 X → (fun w' => w'.cell? ⟨w1.heap.size, 1, none⟩ = some (.slice (some ⟨b2, 0, none⟩) m sx4) ∧ w'.cell? ⟨gB, k, none⟩ = some (.int .i64 (a : Int)) ∧ w'.cell? ⟨b2, a * 5, none⟩ = some (.int .i64 (P a).f) ∧ w'.cell? ⟨b2, a * 5 + 1, none⟩ = some (.int .i64 (P a).t) ∧ w'.cell? ⟨b2, a * 5 + 2, none⟩ = some (.int .i64 (P a).k) ∧ w'.cell? ⟨b2, a * 5 + 3, none⟩ = some (.int .i64 (P a).v) ∧ w'.cell? ⟨b2, a * 5 + 4, none⟩ = some (.int .i64 (P a).l)) X := fun X h => ⟨(Bx7.below h hbx0).b1, (h.cell (p := ⟨gB, k, none⟩) hlB).trans hqb, (h.cell (p := ⟨b2, a * 5, none⟩) hl2).trans z0, (h.cell (p := ⟨b2, a * 5 + 1, none⟩) hl2).trans z1, (h.cell (p := ⟨b2, a * 5 + 2, none⟩) hl2).trans z2, (h.cell (p := ⟨b2, a * 5 + 3, none⟩) hl2).trans z3, (h.cell (p := ⟨b2, a * 5 + 4, none⟩) hl2).trans z4⟩
        have K0 : Below w7.heap.size w7 w7.drew := ⟨rfl, rfl, rfl, Nat.le_refl _, fun _ _ => rfl⟩
        have hsz0 : w6.heap.size ≤ w7.heap.size := HL.out.size
        have K1 : Below w6.heap.size w7 w7.drew := K0.mono hsz0
        have K2 : Below w6.heap.size w7 (w7.drew.alloc (.cells #[.int .i64 (P a).f, .int .i64 (P a).t, .int .i64 (P a).k, .int .i64 (P a).v, .int .i64 (P a).l] 63)) := K1.alloc hsz0 _
        obtain ⟨v7, wz, hr, hrow7, u7⟩ := appFr w6.heap.size w7.drew _ k F (P a) HFA.out (HRW.out.next K0) hsz0 (by omega)
        have K3 : Below w6.heap.size w7 wz := K1.trans (row_below (HRW.out.next K0) u7 hsz0)
        have qBx0 := Bx7.b0
        have qBx1 := Bx7.b1
        have qBx2 := Bx7.lt
        go_wp2_with fail
        go_region_held_law (fun w' => w'.cell? ⟨w1.heap.size, 1, none⟩ = some (.slice (some ⟨b2, 0, none⟩) m sx4) ∧ w'.cell? ⟨gB, k, none⟩ = some (.int .i64 (a : Int)) ∧ w'.cell? ⟨b2, a * 5, none⟩ = some (.int .i64 (P a).f) ∧ w'.cell? ⟨b2, a * 5 + 1, none⟩ = some (.int .i64 (P a).t) ∧ w'.cell? ⟨b2, a * 5 + 2, none⟩ = some (.int .i64 (P a).k) ∧ w'.cell? ⟨b2, a * 5 + 3, none⟩ = some (.int .i64 (P a).v) ∧ w'.cell? ⟨b2, a * 5 + 4, none⟩ = some (.int .i64 (P a).l)) (first | exact hAny _ K1 | exact hAny _ K2 | exact hAny _ K3)
          (first | (refine step_appT hr rfl (.tmp 53) (.tmp 62) rfl rfl rfl rfl ?_))
        have HR7 := Lib.hid hrow7
        have HL7 := Lib.hid (HL.out.trans K3)
        clear hAny K0 K1 K2 K3 hr hrow7 u7
        go_wp2_with fail
        go_roundw
        case rel => exact ⟨k + 1, v7, by go_num, rfl, hlt, HR7.out, HL7.out⟩
        case measure => simp [intOf]; omega
      · obtain rfl : k = rn := by omega
        obtain ⟨gR, hrS, hgR⟩ := HRW.out.ownS
        clear hgR
        have qBx0 := Bx7.b0
        have qBx1 := Bx7.b1
        have qBx2 := Bx7.lt
        go_wp2_with fail
        have HNF : NetAt w7 (.agg #[.slice sx1 n sx2, .slice pp k cp]) n N k F 0 w7.heap.size := by
          obtain ⟨v0, v1, he, g0, g1, hd⟩ := x7.ex
          simp only [Value.agg.injEq, Array.mk.injEq, List.cons.injEq, and_true] at he
          obtain ⟨rfl, rfl⟩ := he
          exact ⟨_, _, rfl, g0.cs (.inr rfl) (Nat.le_refl _), hrS.cs (.inr rfl) (Nat.le_refl _)⟩
        refine (Q4.out _ _ HNF).mono ?_
        rintro e w8 ⟨xE, gE, rfl, oE, lE, bb⟩
        have hs8 := bb.size
        have C8 := belowNext C7 bb
        have x8 := x7.next bb
        have Bx8 := Bx7.next bb
        have A8 := A7.next bb
        have B8 := B7.next bb
        have D8 := D7.next bb
        have R8 := hrS.next bb
        clear qBx0 qBx1 qBx2
        clear bb C7 x7 Bx7 A7 B7 D7 hrS
        have lxE := oE.lt
        obtain ⟨sE1, sE2, rfl⟩ := oE.shape
        clear HNF
        clear B8 R8
        have qBx0 := Bx8.b0
        have qBx1 := Bx8.b1
        have qBx2 := Bx8.lt
        go_wp2_with fail
        clear qBx0 qBx1 qBx2
        go_loopw [14, 15] (fun cv iv wr => ∃ t : Nat, iv = .int .i64 t ∧ t ≤ n ∧ cv = .int .i64 ((fl p t).length : Nat) ∧ Below w8.heap.size w8 wr) (fun _ iv _ => n - (intOf iv).toNat)
        case atStart => exact ⟨0, rfl, Nat.zero_le _, rfl, Below.refl _ _⟩
        case round =>
          obtain ⟨t, rfl, ht, rfl, bb⟩ := hrel
          obtain ⟨w9, hwb⟩ : ∃ w', w' = wr := ⟨_, rfl⟩
          subst hwb
          have CL := bb
          have hs9 := bb.size
          have C9 := belowNext C8 bb
          have x9 := x8.next bb
          have Bx9 := Bx8.next bb
          have A9 := A8.next bb
          have D9 := D8.next bb
          have E9 := oE.next bb
          clear bb C8 x8 Bx8 A8 D8 oE
          have hfl := fl_le p t
          by_cases hlt2 : t < n
          · have htI : (t : Int) < n := by omega
            have ht0 : (0 : Int) ≤ (t : Int) := Int.natCast_nonneg _
            obtain ⟨rfl, hgD, hqd⟩ := own_at D9 hlt2
            have HQ1 := Lib.hid (Q1.out t hlt2)
            cases hp : p t
            all_goals
              have hb1 := HQ1.out
              rw [hp] at hb1
              have HP := Lib.hid hp
              clear hp
              have qBx0 := Bx9.b0
              have qBx1 := Bx9.b1
              have qBx2 := Bx9.lt
              go_wp2_with fail
              go_roundw
              case rel => exact ⟨t + 1, by go_num, hlt2, by first | (rw [fl_no HP.out]) | (rw [fl_yes HP.out, List.length_append, List.length_singleton]; go_num), CL⟩
              case measure => simp [intOf]; omega
          · obtain rfl : t = n := by omega
            rw [← HCF.out]
            have hcc := HCC.out
            have qBx0 := Bx9.b0
            have qBx1 := Bx9.b1
            have qBx2 := Bx9.lt
            go_wp2_with fail
            refine (likeInts_any _ _ _ t pd 0 w9.heap.size 0 w9.heap.size (D9.cs (.inr rfl) (Nat.le_refl _)) (E9.cs (.inr rfl) (Nat.le_refl _))).mono ?_
            rintro e w10 ⟨rfl, bb⟩
            have hs10 := bb.size
            have C10 := belowNext C9 bb
            have x10 := x9.next bb
            have Bx10 := Bx9.next bb
            have A10 := A9.next bb
            have D10 := D9.next bb
            have E10 := E9.next bb
            have L10 := belowNext CL bb
            clear qBx0 qBx1 qBx2
            clear bb C9 x9 Bx9 A9 D9 E9 CL
            have qBx0 := Bx10.b0
            have qBx1 := Bx10.b1
            have qBx2 := Bx10.lt
            go_wp2_with fail
            refine (Q5.out _ _ x10.net).mono ?_
            rintro e w11 ⟨rfl, bb⟩
            have hs11 := bb.size
            have C11 := belowNext C10 bb
            have x11 := x10.next bb
            have Bx11 := Bx10.next bb
            have A11 := A10.next bb
            have D11 := D10.next bb
            have E11 := E10.next bb
            have L11 := belowNext L10 bb
            clear qBx0 qBx1 qBx2
            clear bb C10 x10 Bx10 A10 D10 E10 L10
            have hbb : ((((c : Nat) : Int) == 1) == (((c : Nat) : Int) == 1)) = true := by simp
            have qBx0 := Bx11.b0
            have qBx1 := Bx11.b1
            have qBx2 := Bx11.lt
            go_wp2_with fail
            go_ret
            exact ⟨rfl, C11⟩
  · have hrc' : (rc != 0) = true := by simpa using hrc
    have qBx0 := Bx5.b0
    have qBx1 := Bx5.b1
    have qBx2 := Bx5.lt
    go_wp2_with fail
    go_ret
    exact ⟨rfl, C5⟩

set_option maxRecDepth 100000 in
theorem lifted (os : Os) (started : os.Started) (H : Type) (enc : TypeId × Value → H) :
    ReturnsInHanded {} Try.checked os 12 .any (Rows.fnForestsSpec.pre6 enc Try.prog Try.f12 Rows.fnForestsRow.domain false) (Rows.fnForestsSpec.post enc Try.prog Try.f12 false true false false) := by
  refine returnsInHanded_of_change (C := Try.checked) own started (by kernel_rfl) Try.func12
    (ChangeSpec.witness6 (enc := enc) (C := Try.checked) false ⟨#[], #[.slice none 0 0], []⟩ 8 (by kernel_rfl) (by kernel_rfl) (by kernel_rfl) (by kernel_rfl)) ?_
  intro W base args ds gs before hval0 hW hcnd _
  have hval : ∀ (j : Nat) t v, Try.f12.params[j]? = some t → args[j]? = some v → Value.okWide Try.prog W .any base t v := hval0
  have hW' := hW
  obtain ⟨p, q, hA0, hV, rfl, hfz, hnd⟩ := hW
  have hA : DataW.TrodAll enc Try.prog W 0 (fun _ => true) true Try.f12.params.toList args.toList ds p := hA0
  rw [Try.params12] at hA hval
  obtain ⟨v0, vs0, d0, ds0, p0, q0, hargs, rfl, rfl, h0, r0⟩ := trodAll_cons hA
  obtain ⟨rfl, rfl, rfl⟩ := trodAll_nil r0
  obtain rfl : args = #[v0] := by cases args; simp_all
  obtain ⟨rfl, rfl⟩ := trodVars_none hV
  have hc := open_code (hval 0 50 v0 rfl rfl) h0
  refine (walk v0 W hc).mono fun e W' ⟨he, hg⟩ => ?_
  subst he
  exact ⟨_, rfl, law.law_post hW' hg laidOut (by kernel_rfl) rfl rfl (by kernel_rfl) Try.underlying4⟩

theorem over : Rows.fnForestsRow.holds Try.pinned (OpenSpec.ofChange Rows.fnForestsSpec) :=
  OpenClaim.holds_of_wide 12 Try.f12 rfl rfl rfl rfl rfl rfl rfl ⟨rfl, rfl, rfl, rfl, rfl⟩ rfl rfl rfl rfl rfl (by kernel_rfl) Try.func12 (by kernel_rfl)
    (of_decide_eq_true (by kernel_rfl)) (by unfold Func.isWrapper; first | (rw [if_pos (by decide +kernel)]; kernel_rfl) | (rw [if_neg (by decide +kernel)]; exact ⟨rfl, rfl⟩))
    (fun os started H enc _ => lifted os started H enc)

theorem proved : Rows.FnForestsSaid :=
  over
#print axioms proved
end Go.Proofs.Ytlcegdamjbpfpaa.fnForests
