/-
  FnTrees returns true at every slice of bytes, and leaves it as it was. No condition.
-/
import Derived.Test.YtlcegdamjbpfpaaGreatRows
import Derived.Test.YtlcegdamjbpfpaaGreatLaw
import Derived.Test.YtlcegdamjbpfpaaGreatCode
import Derived.Test.YtlcegdamjbpfpaaGreatLikeI
import Derived.Test.YtlcegdamjbpfpaaGreatTxM
import Derived.Test.YtlcegdamjbpfpaaGreatLfm
import Derived.Test.YtlcegdamjbpfpaaGreatDr9
import Derived.WalkKit
import Derived.ProofKit
import Derived.OpenShut
import Derived.Lib.Hide
import Derived.Deep.QuietTactic
import Derived.BigQuiet
import Derived.OwnWalk
import Derived.Outline
import Derived.Deep.RegionHeld3
import Derived.Deep.RegionHeldLaw
import Derived.IntWalk
namespace Go.Proofs.YtlcegdamjbpfpaaGreat.fnTrees
open Go.ChangeShapes Go.WideShapes Go.ChangeAt Go.RowKit Go.Proofs.YtlcegdamjbpfpaaGreat.draw Go.Proofs.YtlcegdamjbpfpaaGreat.mem
set_option linter.unusedVariables false

theorem own : ownKnob Tryz.prog.godebug = none := by kernel_rfl
theorem laidOut : laidOutB Tryz.prog = true := by kernel_rfl

theorem own_at {w : World} {p : Option Addr} {n c b : Nat} {d : Nat → Int} (h : OwnS w (.slice p n c) n 1 (fun i _ => .int .i64 (d i)) b) {k : Nat} (hk : k < n) : p = some ⟨b, 0, none⟩ ∧ b < w.heap.size ∧ w.cell? ⟨b, k, none⟩ = some (.int .i64 (d k)) := by
  obtain ⟨p', cap, hv, h1, h2, h3⟩ := h.ex
  injection hv with e1 _ e3
  subst e1
  rcases h3 with h3 | ⟨h3, h4⟩
  · omega
  · refine ⟨h3, h4.lt, ?_⟩
    have := h4.cell k 0 hk (by omega)
    simpa using this
theorem pipe_at5 {w : World} {p0 p1 : Option Addr} {n c0 m c1 b1 b2 : Nat} {N : Nat → Nod} {P : Nat → Pip} (h : NetOwn w (.agg #[.slice p0 n c0, .slice p1 m c1]) n N m P b1 b2) {k : Nat} (hk : k < m) :
    p1 = some ⟨b2, 0, none⟩ ∧ b2 < w.heap.size ∧ w.cell? ⟨b2, k * 5, none⟩ = some (.int .i64 (P k).f) ∧ w.cell? ⟨b2, k * 5 + 1, none⟩ = some (.int .i64 (P k).t) ∧ w.cell? ⟨b2, k * 5 + 2, none⟩ = some (.int .i64 (P k).k) ∧ w.cell? ⟨b2, k * 5 + 3, none⟩ = some (.int .i64 (P k).v) ∧ w.cell? ⟨b2, k * 5 + 4, none⟩ = some (.int .i64 (P k).l) := by
  obtain ⟨v0, v1, he, g0, g1, hd⟩ := h.ex
  simp only [Value.agg.injEq, Array.mk.injEq, List.cons.injEq, and_true] at he
  obtain ⟨rfl, rfl⟩ := he
  obtain ⟨p', cap, hv, h1, h2, h3⟩ := g1.ex
  injection hv with e1 _ e3
  subst e1
  rcases h3 with h3 | ⟨h3, h4⟩
  · omega
  · exact ⟨h3, h4.lt, h4.cell k 0 hk (by omega), h4.cell k 1 hk (by omega), h4.cell k 2 hk (by omega), h4.cell k 3 hk (by omega), h4.cell k 4 hk (by omega)⟩
theorem owns_sl {w : World} {v : Value} {n b : Nat} {d : Nat → Int} (h : OwnS w v n 1 (fun i _ => .int .i64 (d i)) b) : Sl w v n d 0 w.heap.size := by
  obtain ⟨p', cap, hv, h1, h2, h3⟩ := h.ex
  refine ⟨p', cap, hv, ?_⟩
  rcases h3 with h3 | ⟨h3, h4⟩
  · exact .inl h3
  · refine .inr ⟨b, 0, h3, Nat.zero_le _, h4.lt, fun k hk => ?_⟩
    have := h4.cell k 0 hk (by omega)
    simpa using this
theorem fl_full {p : Nat → Bool} : ∀ {k : Nat}, (fl p k).length = k → ∀ a, a < k → p a = true
  | 0, _, a, ha => by omega
  | k + 1, h, a, ha => by
    cases hp : p k
    · rw [fl_no hp] at h
      have := fl_le p k
      omega
    · rw [fl_yes hp, List.length_append, List.length_singleton] at h
      by_cases e : a = k
      · subst e; exact hp
      · exact fl_full (k := k) (by omega) a (by omega)
theorem tree_all {n : Nat} {N : Nat → Nod} {P : Nat → Pip} {m : Nat} (h : treeB n N m P = true) : ∀ a, a < m → inF n P m (fl (rts n P m) n) a = true := by
  have hc := conB_one (treeB_con h)
  unfold treeB at h
  simp only [Bool.and_eq_true, decide_eq_true_eq] at h
  have h1 := forest_cnt (P := P) (m := m) hc.1
  have h2 : (forest n P m).length = (fl (inF n P m (fl (rts n P m) n)) m).length := by unfold forest; rw [List.length_map]
  exact fl_full (by omega)
theorem treFacts (n : Nat) (N : Nat → Nod) (m : Nat) (P : Nat → Pip) (K : Nat) (D : Nat → Int) (r l : Int) (hN : ∀ i, i < n → (N i).s.size ≤ 9223372036854775807) (hn : n ≤ 1000) (hK : K ≤ 2000000) :
    ∃ (rn : Nat) (rd : Nat → Int) (rc : Int), rn ≤ 1000 ∧ (∀ w v va, NetAt w v n N m P 0 w.heap.size → Sl w va K D 0 w.heap.size → Calls Tryz.prog 10 #[v, va, .int .i64 r, .int .i64 l] w (LIPost w rn rd rc)) ∧ (∀ w v va, NetAt w v n N m P 0 w.heap.size → Sl w va K D 0 w.heap.size → Calls Tryz.prog 7 #[v, va, .int .i64 r, .int .i64 l] w (LIPost w rn rd rc)) ∧
      (rc = 0 → ∃ (fd dd : Nat → Int), rn = n ∧ m ≤ 40 ∧ (∀ w v va, NetAt w v n N m P 0 w.heap.size → Sl w va K D 0 w.heap.size → Calls Tryz.prog 26 #[v, va] w (LIPost w m fd 0)) ∧ (∀ w v va, NetAt w v n N m P 0 w.heap.size → Sl w va K D 0 w.heap.size → Calls Tryz.prog 27 #[v, va] w (LIPost w m fd 0)) ∧
        (∀ w v va, NetAt w v n N m P 0 w.heap.size → Sl w va m fd 0 w.heap.size → Calls Tryz.prog 22 #[v, va] w (LIPost w m dd 0)) ∧ (∀ w v va, NetAt w v n N m P 0 w.heap.size → Sl w va m fd 0 w.heap.size → Calls Tryz.prog 23 #[v, va] w (LIPost w m dd 0)) ∧
        (∀ w v va vb, NetAt w v n N m P 0 w.heap.size → Sl w va m fd 0 w.heap.size → Sl w vb K D 0 w.heap.size → Calls Tryz.prog 28 #[v, va, vb] w (BPost w true)) ∧
        (∀ k, k < m → ∃ F T : Nat, (P k).f = F ∧ (P k).t = T ∧ F < n ∧ T < n ∧ -2000000000000000000 ≤ rd F - rd T ∧ rd F - rd T ≤ 2000000000000000000 ∧ rd F - rd T = dd k)) := by
  refine ⟨tlN n N m P K D r l, fun j => lvl n P m (fflN n P m D) r l (j : Nat), tlC n N m P K D r l, by unfold tlN; split <;> omega, fun w v va h hv => treeLevelsI_any w v n N m P 0 _ h (Nat.le_refl _) hN va K D 0 _ hv (Nat.le_refl _) (by omega) r l, fun w v va h hv => treeLevelsS_any w v n N m P 0 _ h (Nat.le_refl _) hN va K D 0 _ hv (Nat.le_refl _) (by omega) r l, fun hc => ?_⟩
  have hparts : svC n N m P K D = 0 ∧ inR r 0 (n - 1) = true ∧ rlB l = true ∧ tfC n N m P K D = 0 := by
    have h := hc
    unfold tlC at h
    split at h
    · next h1 =>
      split at h
      · next h2 =>
        rw [Bool.and_eq_true] at h2
        exact ⟨h1, h2.1, h2.2, h⟩
      · omega
    · next h1 => exact absurd h h1
  obtain ⟨hsv, hr, hl, htf⟩ := hparts
  have htr : treeB n N m P = true ∧ ffC n N m P K D = 0 := by
    have h := htf
    unfold tfC at h
    rw [if_pos hsv] at h
    split at h
    · next h2 => exact ⟨h2, h⟩
    · omega
  obtain ⟨htb, hff⟩ := htr
  obtain ⟨hB, hKn, hf, he, hfl⟩ := ffC_ok hff
  subst hKn
  obtain ⟨hn1, hn24, hm40⟩ := net_sz hB
  have hfr := flB_rng hfl
  have hr2 := inR_iff.1 hr
  have hl2 : -500000000000000000 ≤ l ∧ l ≤ 500000000000000000 := inR_iff.1 hl
  have hall := tree_all htb
  have hflc : flC K N m P m (fflN K P m D) = 0 := flC_is hB hfl
  have dN : dsN K N m P m (fflN K P m D) = m := by unfold dsN; rw [if_pos hflc]
  have tN : tfN K N m P K D = m := by unfold tfN; rw [htf]; rfl
  refine ⟨fflN K P m D, fun i => drp (P i) (fflN K P m D i), ?_, hm40, fun w v va h hv => ?_, fun w v va h hv => ?_, fun w v va h hv => ?_, fun w v va h hv => ?_, fun w v va vb h hv hu => ?_, fun k hk => ?_⟩
  · unfold tlN; rw [hc]; rfl
  · have := treeFlowsI_any w v K N m P 0 _ h (Nat.le_refl _) hN va K D 0 _ hv (Nat.le_refl _) (by omega)
    rw [tN, htf] at this
    exact this
  · have := treeFlowsS_any w v K N m P 0 _ h (Nat.le_refl _) hN va K D 0 _ hv (Nat.le_refl _) (by omega)
    rw [tN, htf] at this
    exact this
  · have := dropsOfI_any w v K N m P 0 _ h (Nat.le_refl _) hN va m _ 0 _ hv (Nat.le_refl _) (by omega)
    rw [dN, hflc] at this
    exact this
  · have := dropsOfS_any w v K N m P 0 _ h (Nat.le_refl _) hN va m _ 0 _ hv (Nat.le_refl _) (by omega)
    rw [dN, hflc] at this
    exact this
  · have := isBalancedI_any w v K N m P 0 _ h (Nat.le_refl _) hN va m _ 0 _ hv (Nat.le_refl _) (by omega) vb K D 0 _ hu (Nat.le_refl _) (by omega)
    rwa [ib_is hB hfl hf (fun z hz => fflN_bal hB he z hz)] at this
  · dsimp only
    have hp := pipB_parts (net_pip hB hk)
    obtain ⟨F, hF⟩ := Int.eq_ofNat_of_zero_le hp.1.1
    obtain ⟨T, hT⟩ := Int.eq_ofNat_of_zero_le hp.2.1.1
    have hFn : F < K := by omega
    have hTn : T < K := by omega
    have b1 := lvl_bnd (x := fflN K P m D) (root := r) (level := l) (z := ((F : Nat) : Int)) hB hn24 hfr ⟨hr2.1, by omega⟩ ⟨Int.natCast_nonneg _, by omega⟩
    have b2 := lvl_bnd (x := fflN K P m D) (root := r) (level := l) (z := ((T : Nat) : Int)) hB hn24 hfr ⟨hr2.1, by omega⟩ ⟨Int.natCast_nonneg _, by omega⟩
    have h1 := lvl_edge (x := fflN K P m D) (root := r) (level := l) hB hk (hall k hk)
    rw [hF, hT] at h1
    exact ⟨F, T, hF, hT, hFn, hTn, by omega, by omega, by omega⟩

set_option maxRecDepth 100000 in
set_option maxHeartbeats 20000000 in
theorem walk (v : Value) (w : World) (hc : CodeArg w v) :
    Calls Tryz.prog 5 #[v] w fun e w' => e = .returned (.bool true) ∧ Below w.heap.size w w' := by
  obtain ⟨p, len, cap, rfl, hlen, hcode⟩ := hc
  by_cases h4 : (4096 : Int) < len
  · clear hcode
    go_enter Tryz.func5, Tryz.ntmps5
    go_wp2_with (go_at_call 16; refine (draw.big_any _ _ _ _).mono ?_; rintro e w' ⟨rfl, rfl⟩)
    go_ret
    exact ⟨rfl, Below.refl _ _⟩
  have hc := hcode (by omega)
  clear hcode
  go_enter Tryz.func5, Tryz.ntmps5
  go_wp2_with (go_at_call 16; refine (draw.big_any _ _ _ _).mono ?_; rintro e w' ⟨rfl, rfl⟩)
  refine (draw.drawTreeLevels w _ len hc).mono ?_
  rintro e w1 ⟨v, n, m, N, P, b1, b2, vl, K, D, r, l, rfl, hn, hm, hK, hnm, o1, l1, l2, hL1, C1⟩
  obtain ⟨rn, rd, rc, hrn, ti, ts, hz⟩ := treFacts n N m P K D r l hnm hn (by omega)
  have TI := Lib.hid ti
  have TS := Lib.hid ts
  have HZ := Lib.hid hz
  clear ti ts hz
  clear hc
  obtain ⟨pl, cl, rfl⟩ := draw.sl_sh hL1
  have hb2 : (rc != rc) = false := by simp
  have lxx := o1.lts
  obtain ⟨sx1, sx2, sx3, sx4, rfl⟩ := o1.shape
  go_wp2_with fail
  have bb := mem.below_new w1 (.cells #[.slice sx1 n sx2, .slice sx3 m sx4] 33)
  have B_x := boxed w1 (.slice sx1 n sx2) (.slice sx3 m sx4) 33
  have hs2 := bb.size
  have C2 := belowNext C1 bb
  have L2 := hL1.next bb
  have x2 := o1.next bb
  clear bb C1 hL1 o1
  generalize hW2 : w1.alloc (Obj.cells #[.slice sx1 n sx2, .slice sx3 m sx4] 33) = w2 at *
  clear hW2
  have Bx2 := B_x
  clear B_x
  have lBx := Bx2.lt
  refine (TI.out _ _ _ x2.net L2.zero).mono ?_
  rintro e w3 ⟨xA, gA, rfl, oA, lA, bb⟩
  have hs3 := bb.size
  have C3 := belowNext C2 bb
  have L3 := L2.next bb
  have x3 := x2.next bb
  have Bx3 := Bx2.next bb
  clear bb C2 L2 x2 Bx2
  have lxA := oA.lt
  obtain ⟨sA1, sA2, rfl⟩ := oA.shape
  have qBx0 := Bx3.b0
  have qBx1 := Bx3.b1
  have qBx2 := Bx3.lt
  go_wp2_with fail
  refine (TS.out _ _ _ x3.net L3.zero).mono ?_
  rintro e w4 ⟨xB, gB, rfl, oB, lB, bb⟩
  have hs4 := bb.size
  have C4 := belowNext C3 bb
  have L4 := L3.next bb
  have x4 := x3.next bb
  have Bx4 := Bx3.next bb
  have A4 := oA.next bb
  clear qBx0 qBx1 qBx2
  clear bb C3 L3 x3 Bx3 oA
  have lxB := oB.lt
  obtain ⟨sB1, sB2, rfl⟩ := oB.shape
  have qBx0 := Bx4.b0
  have qBx1 := Bx4.b1
  have qBx2 := Bx4.lt
  go_wp2_with fail
  refine (likeInts_any _ _ _ rn rd 0 w4.heap.size 0 w4.heap.size (A4.cs (.inr rfl) (Nat.le_refl _)) (oB.cs (.inr rfl) (Nat.le_refl _))).mono ?_
  rintro e w5 ⟨rfl, bb⟩
  have hs5 := bb.size
  have C5 := belowNext C4 bb
  have L5 := L4.next bb
  have x5 := x4.next bb
  have Bx5 := Bx4.next bb
  have A5 := A4.next bb
  have B5 := oB.next bb
  clear qBx0 qBx1 qBx2
  clear bb C4 L4 x4 Bx4 A4 oB
  clear B5
  by_cases hrc : rc = 0
  · subst hrc
    obtain ⟨fd, dd, rfl, hm40, q1, q2, q3, q4, q5, q6⟩ := HZ.out (by trivial)
    have Q1 := Lib.hid q1
    have Q2 := Lib.hid q2
    have Q3 := Lib.hid q3
    have Q4 := Lib.hid q4
    have Q5 := Lib.hid q5
    have Q6 := Lib.hid q6
    clear q1 q2 q3 q4 q5 q6
    clear HZ TI TS
    have qBx0 := Bx5.b0
    have qBx1 := Bx5.b1
    have qBx2 := Bx5.lt
    go_wp2_with fail
    refine (Q1.out _ _ _ x5.net L5.zero).mono ?_
    rintro e w6 ⟨xF, gF, rfl, oF, lF, bb⟩
    have hs6 := bb.size
    have C6 := belowNext C5 bb
    have L6 := L5.next bb
    have x6 := x5.next bb
    have Bx6 := Bx5.next bb
    have A6 := A5.next bb
    clear qBx0 qBx1 qBx2
    clear bb C5 L5 x5 Bx5 A5
    have lxF := oF.lt
    obtain ⟨sF1, sF2, rfl⟩ := oF.shape
    have qBx0 := Bx6.b0
    have qBx1 := Bx6.b1
    have qBx2 := Bx6.lt
    go_wp2_with fail
    refine (Q2.out _ _ _ x6.net L6.zero).mono ?_
    rintro e w7 ⟨xG, gG, rfl, oG, lG, bb⟩
    have hs7 := bb.size
    have C7 := belowNext C6 bb
    have L7 := L6.next bb
    have x7 := x6.next bb
    have Bx7 := Bx6.next bb
    have A7 := A6.next bb
    have F7 := oF.next bb
    clear qBx0 qBx1 qBx2
    clear bb C6 L6 x6 Bx6 A6 oF
    have lxG := oG.lt
    obtain ⟨sG1, sG2, rfl⟩ := oG.shape
    have qBx0 := Bx7.b0
    have qBx1 := Bx7.b1
    have qBx2 := Bx7.lt
    go_wp2_with fail
    refine (Q3.out _ _ _ x7.net (owns_sl F7)).mono ?_
    rintro e w8 ⟨xD, gD, rfl, oD, lD, bb⟩
    have hs8 := bb.size
    have C8 := belowNext C7 bb
    have L8 := L7.next bb
    have x8 := x7.next bb
    have Bx8 := Bx7.next bb
    have A8 := A7.next bb
    have F8 := F7.next bb
    have G8 := oG.next bb
    clear qBx0 qBx1 qBx2
    clear bb C7 L7 x7 Bx7 A7 F7 oG
    have lxD := oD.lt
    obtain ⟨sD1, sD2, rfl⟩ := oD.shape
    have qBx0 := Bx8.b0
    have qBx1 := Bx8.b1
    have qBx2 := Bx8.lt
    go_wp2_with fail
    refine (Q4.out _ _ _ x8.net (owns_sl F8)).mono ?_
    rintro e w9 ⟨xE, gE, rfl, oE, lE, bb⟩
    have hs9 := bb.size
    have C9 := belowNext C8 bb
    have L9 := L8.next bb
    have x9 := x8.next bb
    have Bx9 := Bx8.next bb
    have A9 := A8.next bb
    have F9 := F8.next bb
    have G9 := G8.next bb
    have D9 := oD.next bb
    clear qBx0 qBx1 qBx2
    clear bb C8 L8 x8 Bx8 A8 F8 G8 oD
    have lxE := oE.lt
    obtain ⟨sE1, sE2, rfl⟩ := oE.shape
    have qBx0 := Bx9.b0
    have qBx1 := Bx9.b1
    have qBx2 := Bx9.lt
    go_wp2_with fail
    refine (likeInts_any _ _ _ m dd 0 w9.heap.size 0 w9.heap.size (D9.cs (.inr rfl) (Nat.le_refl _)) (oE.cs (.inr rfl) (Nat.le_refl _))).mono ?_
    rintro e w10 ⟨rfl, bb⟩
    have hs10 := bb.size
    have C10 := belowNext C9 bb
    have L10 := L9.next bb
    have x10 := x9.next bb
    have Bx10 := Bx9.next bb
    have A10 := A9.next bb
    have F10 := F9.next bb
    have G10 := G9.next bb
    have D10 := D9.next bb
    have E10 := oE.next bb
    clear qBx0 qBx1 qBx2
    clear bb C9 L9 x9 Bx9 A9 F9 G9 D9 oE
    have qBx0 := Bx10.b0
    have qBx1 := Bx10.b1
    have qBx2 := Bx10.lt
    go_wp2_with fail
    clear E10
    refine (likeInts_any _ _ _ m fd 0 w10.heap.size 0 w10.heap.size (F10.cs (.inr rfl) (Nat.le_refl _)) (G10.cs (.inr rfl) (Nat.le_refl _))).mono ?_
    rintro e w11 ⟨rfl, bb⟩
    have hs11 := bb.size
    have C11 := belowNext C10 bb
    have L11 := L10.next bb
    have x11 := x10.next bb
    have Bx11 := Bx10.next bb
    have A11 := A10.next bb
    have F11 := F10.next bb
    have G11 := G10.next bb
    have D11 := D10.next bb
    clear qBx0 qBx1 qBx2
    clear bb C10 L10 x10 Bx10 A10 F10 G10 D10
    clear G11
    have qBx0 := Bx11.b0
    have qBx1 := Bx11.b1
    have qBx2 := Bx11.lt
    go_wp2_with fail
    clear qBx0 qBx1 qBx2
    go_loopw [19] (fun i wr => ∃ k q : Nat, i = .int .i64 k ∧ k ≤ m ∧ wr = w11.drewN q) (fun i _ => m - (intOf i).toNat)
    case atStart => exact ⟨0, 0, rfl, Nat.zero_le _, rfl⟩
    case round =>
      obtain ⟨k, qq, rfl, hk, hw⟩ := hrel
      have HWR := Lib.hid hw
      by_cases hlt : k < m
      · have hkI : (k : Int) < m := by omega
        have hk0 : (0 : Int) ≤ (k : Int) := Int.natCast_nonneg _
        obtain ⟨F, T, hF, hT, hFn, hTn, hd0, hd1, hd⟩ := Q6.out k hlt
        obtain ⟨rfl, hg2, hqf, hqt, _, _, _⟩ := pipe_at5 x11 hlt
        obtain ⟨rfl, hgA, hqa⟩ := own_at A11 hFn
        obtain ⟨_, _, hqb⟩ := own_at A11 hTn
        obtain ⟨rfl, hgD, hqd⟩ := own_at D11 hlt
        rw [hF] at hqf
        rw [hT] at hqt
        have f0 : (0 : Int) ≤ (F : Int) := Int.natCast_nonneg _
        have t0 : (0 : Int) ≤ (T : Int) := Int.natCast_nonneg _
        have f1 : (F : Int) < rn := by omega
        have t1 : (T : Int) < rn := by omega
        obtain ⟨a, ha⟩ : ∃ a, a = rd F := ⟨_, rfl⟩
        obtain ⟨b, hb⟩ : ∃ b, b = rd T := ⟨_, rfl⟩
        obtain ⟨dk, hdk⟩ : ∃ d, d = dd k := ⟨_, rfl⟩
        rw [← ha] at hqa hd hd0 hd1
        rw [← hb] at hqb hd hd0 hd1
        rw [← hdk] at hqd hd
        clear ha hb hdk
        have hsb : IntKind.i64.wrap (a - b) = a - b := IntWalk.i64_in _ (by omega)
        have hne : (a - b != dk) = false := by simp [hd]
        have c0 : wr.cell? ⟨w1.heap.size, 0, none⟩ = some (.slice sx1 rn sx2) := by rw [hw]; exact Bx11.b0
        have c1 : wr.cell? ⟨w1.heap.size, 1, none⟩ = some (.slice (some ⟨b2, 0, none⟩) m sx4) := by rw [hw]; exact Bx11.b1
        have c2 : wr.cell? ⟨b2, k * 5, none⟩ = some (.int .i64 (F : Nat)) := by rw [hw]; exact hqf
        have c3 : wr.cell? ⟨b2, k * 5 + 1, none⟩ = some (.int .i64 (T : Nat)) := by rw [hw]; exact hqt
        have c4 : wr.cell? ⟨gA, F, none⟩ = some (.int .i64 a) := by rw [hw]; exact hqa
        have c5 : wr.cell? ⟨gA, T, none⟩ = some (.int .i64 b) := by rw [hw]; exact hqb
        have c6 : wr.cell? ⟨gD, k, none⟩ = some (.int .i64 dk) := by rw [hw]; exact hqd
        clear hw hqf hqt hqa hqb hqd hd hF hT
        go_wp2_with fail
        go_quiet (fail)
        go_wp2_with fail
        go_roundw
        case rel => exact ⟨k + 1, qq + nq, by go_num, hlt, by rw [HWR.out]; exact (World.drewN_drewN _ _ _)⟩
        case measure => simp [intOf]; omega
      · obtain rfl : k = m := by omega
        have bb : Below w11.heap.size w11 wr := by rw [hw]; exact mem.below_drN1 (Below.refl _ _) _
        clear hw HWR
        obtain ⟨w12, hwb⟩ : ∃ w', w' = wr := ⟨_, rfl⟩
        subst hwb
        have hs12 := bb.size
        have C12 := belowNext C11 bb
        have L12 := L11.next bb
        have x12 := x11.next bb
        have Bx12 := Bx11.next bb
        have A12 := A11.next bb
        have F12 := F11.next bb
        have D12 := D11.next bb
        clear bb C11 L11 x11 Bx11 A11 F11 D11
        have qBx0 := Bx12.b0
        have qBx1 := Bx12.b1
        have qBx2 := Bx12.lt
        go_wp2_with fail
        refine (Q5.out _ _ _ _ x12.net (owns_sl F12) L12.zero).mono ?_
        rintro e w13 ⟨rfl, bb⟩
        have hs13 := bb.size
        have C13 := belowNext C12 bb
        have L13 := L12.next bb
        have x13 := x12.next bb
        have Bx13 := Bx12.next bb
        have A13 := A12.next bb
        have F13 := F12.next bb
        have D13 := D12.next bb
        clear qBx0 qBx1 qBx2
        clear bb C12 L12 x12 Bx12 A12 F12 D12
        have qBx0 := Bx13.b0
        have qBx1 := Bx13.b1
        have qBx2 := Bx13.lt
        go_wp2_with fail
        go_ret
        exact ⟨rfl, C13⟩
  · have hrc' : (rc != 0) = true := by simpa using hrc
    have qBx0 := Bx5.b0
    have qBx1 := Bx5.b1
    have qBx2 := Bx5.lt
    go_wp2_with fail
    go_ret
    exact ⟨rfl, C5⟩

set_option maxRecDepth 100000 in
theorem lifted (os : Os) (started : os.Started) (H : Type) (enc : TypeId × Value → H) :
    ReturnsInHanded {} Tryz.checked os 5 .any (Rows.fnTreesSpec.pre6 enc Tryz.prog Tryz.f5 Rows.fnTreesRow.domain false) (Rows.fnTreesSpec.post enc Tryz.prog Tryz.f5 false true false false) := by
  refine returnsInHanded_of_change (C := Tryz.checked) own started (by kernel_rfl) Tryz.func5
    (ChangeSpec.witness6 (enc := enc) (C := Tryz.checked) false ⟨#[], #[.slice none 0 0], []⟩ 8 (by kernel_rfl) (by kernel_rfl) (by kernel_rfl) (by kernel_rfl)) ?_
  intro W base args ds gs before hval0 hW hcnd _
  have hval : ∀ (j : Nat) t v, Tryz.f5.params[j]? = some t → args[j]? = some v → Value.okWide Tryz.prog W .any base t v := hval0
  have hW' := hW
  obtain ⟨p, q, hA0, hV, rfl, hfz, hnd⟩ := hW
  have hA : DataW.TrodAll enc Tryz.prog W 0 (fun _ => true) true Tryz.f5.params.toList args.toList ds p := hA0
  rw [Tryz.params5] at hA hval
  obtain ⟨v0, vs0, d0, ds0, p0, q0, hargs, rfl, rfl, h0, r0⟩ := trodAll_cons hA
  obtain ⟨rfl, rfl, rfl⟩ := trodAll_nil r0
  obtain rfl : args = #[v0] := by cases args; simp_all
  obtain ⟨rfl, rfl⟩ := trodVars_none hV
  have hc := open_code (hval 0 41 v0 rfl rfl) h0
  refine (walk v0 W hc).mono fun e W' ⟨he, hg⟩ => ?_
  subst he
  exact ⟨_, rfl, law.law_post hW' hg laidOut (by kernel_rfl) rfl rfl (by kernel_rfl) Tryz.underlying4⟩

theorem over : Rows.fnTreesRow.holds Tryz.pinned (OpenSpec.ofChange Rows.fnTreesSpec) :=
  OpenClaim.holds_of_wide 5 Tryz.f5 rfl rfl rfl rfl rfl rfl rfl ⟨rfl, rfl, rfl, rfl, rfl⟩ rfl rfl rfl rfl rfl (by kernel_rfl) Tryz.func5 (by kernel_rfl)
    (of_decide_eq_true (by kernel_rfl)) (by unfold Func.isWrapper; first | (rw [if_pos (by decide +kernel)]; kernel_rfl) | (rw [if_neg (by decide +kernel)]; exact ⟨rfl, rfl⟩))
    (fun os started H enc _ => lifted os started H enc)

theorem proved : Rows.FnTreesSaid :=
  over
#print axioms proved
end Go.Proofs.YtlcegdamjbpfpaaGreat.fnTrees
