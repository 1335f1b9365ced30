/-
  FnTurnedPipes returns true at every slice of bytes, and leaves it as it was. No condition.
-/
import Derived.Test.YtdmcggnhnkaoeaaRows
import Derived.Test.YtdmcggnhnkaoeaaLaw
import Derived.Test.YtdmcggnhnkaoeaaCode
import Derived.Test.YtdmcggnhnkaoeaaLikeN
import Derived.Test.YtdmcggnhnkaoeaaNetWQ
import Derived.Test.YtdmcggnhnkaoeaaNetTQ
import Derived.Test.YtdmcggnhnkaoeaaDrG
import Derived.WalkKit
import Derived.ProofKit
import Derived.OpenShut
import Derived.Lib.Hide
import Derived.Deep.QuietTactic
import Derived.BigQuiet
import Derived.OwnWalk
import Derived.Outline
import Derived.Deep.RegionHeld3
import Derived.Deep.RegionHeldLaw
import Derived.IntWalk
namespace Go.Proofs.Ytdmcggnhnkaoeaa.fnTurnedPipes
open Go.ChangeShapes Go.WideShapes Go.ChangeAt Go.RowKit Go.Proofs.Ytdmcggnhnkaoeaa.draw Go.Proofs.Ytdmcggnhnkaoeaa.mem
set_option linter.unusedVariables false

theorem own : ownKnob Try.prog.godebug = none := by kernel_rfl
theorem laidOut : laidOutB Try.prog = true := by kernel_rfl

theorem codeB_0 {b r : Bool} (h : codeB b r = 0) : b = true ∧ r = true := by
  unfold codeB at h
  cases b <;> cases r <;> simp at h
  exact ⟨rfl, rfl⟩
theorem turn_twice (P : Nat → Pip) (k : Nat) : turnP (turnP P k) k = P := by
  funext i
  unfold turnP
  by_cases h : i = k
  · subst h
    simp
  · simp [h]
theorem pipB_turn {n : Int} {P : Nat → Pip} {k i : Nat} (h : pipB n (P i) = true) : pipB n (turnP P k i) = true := by
  unfold turnP
  split
  · rename_i e
    subst e
    unfold pipB at h ⊢
    simp only [Bool.and_eq_true, bne_iff_ne, ne_eq] at h ⊢
    obtain ⟨⟨⟨⟨⟨h1, h2⟩, h3⟩, h4⟩, h5⟩, h6⟩ := h
    exact ⟨⟨⟨⟨⟨h2, h1⟩, fun e => h3 e.symm⟩, h4⟩, h5⟩, h6⟩
  · exact h
theorem netB_turn {n : Nat} {N : Nat → Nod} {m : Nat} {P : Nat → Pip} {k : Nat} (h : netB n N m P = true) : netB n N m (turnP P k) = true := by
  unfold netB at h ⊢
  simp only [Bool.and_eq_true] at h ⊢
  refine ⟨h.1, ?_⟩
  exact pipesB_iff.2 (fun i hi => pipB_turn (pipesB_iff.1 h.2 i hi))
theorem turnFacts (n : Nat) (N : Nat → Nod) (m : Nat) (P : Nat → Pip) (x : Int) (hN : ∀ i, i < n → (N i).s.size ≤ 9223372036854775807) (hn : n ≤ 1000) (hm : m ≤ 1000) :
    ∃ (rn rm yn ym : Nat) (rP yP : Nat → Pip) (rc : Int), rn ≤ 1000 ∧ rm ≤ 1000 ∧ yn ≤ 1000 ∧ ym ≤ 1000 ∧
      (∀ w v, NetAt w v n N m P 0 w.heap.size → Calls Try.prog 11 #[v, .int .i64 x] w (NIPost w rn N rm rP rc)) ∧ (∀ w v, NetAt w v n N m P 0 w.heap.size → Calls Try.prog 12 #[v, .int .i64 x] w (NIPost w rn N rm rP rc)) ∧
      (∀ w v, NetAt w v n N m P 0 w.heap.size → Calls Try.prog 14 #[v, .int .i64 x] w (NIPost w yn N ym yP rc)) ∧ (∀ w v, NetAt w v n N m P 0 w.heap.size → Calls Try.prog 15 #[v, .int .i64 x] w (NIPost w yn N ym yP rc)) ∧
      (rc = 0 → ym + 1 = m ∧ ∀ w v, NetAt w v rn N rm rP 0 w.heap.size → Calls Try.prog 11 #[v, .int .i64 x] w (NIPost w n N m P 0)) := by
  refine ⟨tpN n N m P x n, tpN n N m P x m, tpN n N m P x n, tpN n N m P x (m - 1), turnP P x.toNat, wpP P x.toNat, tpC n N m P x, by unfold tpN; split <;> omega, by unfold tpN; split <;> omega, by unfold tpN; split <;> omega, by unfold tpN; split <;> omega, fun w v h => turnI_any w v n N m P 0 _ h (Nat.le_refl _) hN (by omega) (by omega) x, fun w v h => turnS_any w v n N m P 0 _ h (Nat.le_refl _) hN (by omega) (by omega) x, fun w v h => withoutI_any w v n N m P 0 _ h (Nat.le_refl _) hN (by omega) (by omega) x, fun w v h => withoutS_any w v n N m P 0 _ h (Nat.le_refl _) hN (by omega) (by omega) x, fun hc => ?_⟩
  have h0 := codeB_0 hc
  have hx := h0.2
  simp only [inR, Bool.and_eq_true, decide_eq_true_eq] at hx
  have e1 : tpN n N m P x n = n := if_pos hc
  have e2 : tpN n N m P x m = m := if_pos hc
  have e3 : tpN n N m P x (m - 1) = m - 1 := if_pos hc
  refine ⟨by rw [e3]; omega, fun w v h => ?_⟩
  rw [e1, e2] at h
  have hc2 : tpC n N m (turnP P x.toNat) x = 0 := by
    unfold tpC
    rw [netB_turn h0.1, h0.2]
    rfl
  have := turnI_any w v n N m (turnP P x.toNat) 0 _ h (Nat.le_refl _) hN (by omega) (by omega) x
  rw [turn_twice, hc2] at this
  unfold tpN at this
  rw [if_pos hc2, if_pos hc2] at this
  exact this

set_option maxRecDepth 100000 in
set_option maxHeartbeats 20000000 in
theorem walk (v : Value) (w : World) (hc : CodeArg w v) :
    Calls Try.prog 3 #[v] w fun e w' => e = .returned (.bool true) ∧ Below w.heap.size w w' := by
  obtain ⟨p, len, cap, rfl, hlen, hcode⟩ := hc
  by_cases h4 : (4096 : Int) < len
  · clear hcode
    go_enter Try.func3, Try.ntmps3
    go_wp2_with (go_at_call 9; refine (draw.big_any _ _ _ _).mono ?_; rintro e w' ⟨rfl, rfl⟩)
    go_ret
    exact ⟨rfl, Below.refl _ _⟩
  have hc := hcode (by omega)
  clear hcode
  go_enter Try.func3, Try.ntmps3
  go_wp2_with (go_at_call 9; refine (draw.big_any _ _ _ _).mono ?_; rintro e w' ⟨rfl, rfl⟩)
  refine (draw.turnDraw draw.any_ok w _ len hc).mono ?_
  rintro e w1 ⟨v, n, m, N, P, b1, b2, x, rfl, hn, hm, hnm, o1, l1, l2, x0, x1, C1⟩
  obtain ⟨rn, rm, yn, ym, rP, yP, rc, hrn, hrm, hyn, hym, ti, ts, wi, ws, hz⟩ := turnFacts n N m P x hnm hn hm
  have TI := Lib.hid ti
  have TS := Lib.hid ts
  have WI := Lib.hid wi
  have WS := Lib.hid ws
  have HZ := Lib.hid hz
  clear ti ts wi ws hz hc x0 x1
  have hb2 : (rc != rc) = false := by simp
  have lxx := o1.lts
  obtain ⟨sx1, sx2, sx3, sx4, rfl⟩ := o1.shape
  go_wp2_with fail
  have bb := mem.below_new w1 (.cells #[.slice sx1 n sx2, .slice sx3 m sx4] 27)
  have B_x := boxed w1 (.slice sx1 n sx2) (.slice sx3 m sx4) 27
  have hs2 := bb.size
  have C2 := belowNext C1 bb
  have x2 := o1.next bb
  clear bb C1 o1
  generalize hW2 : w1.alloc (Obj.cells #[.slice sx1 n sx2, .slice sx3 m sx4] 27) = w2 at *
  clear hW2
  have Bx2 := B_x
  clear B_x
  have lBx := Bx2.lt
  refine (TI.out _ _ x2.net).mono ?_
  rintro e w3 ⟨xr, gr1, gr2, rfl, or', lr1, lr2, bb⟩
  have hs3 := bb.size
  have C3 := belowNext C2 bb
  have x3 := x2.next bb
  have Bx3 := Bx2.next bb
  clear bb C2 x2 Bx2
  have lxr := or'.lts
  obtain ⟨sr1, sr2, sr3, sr4, rfl⟩ := or'.shape
  have qBx0 := Bx3.b0
  have qBx1 := Bx3.b1
  have qBx2 := Bx3.lt
  go_wp2_with fail
  have bb := mem.below_new w3 (.cells #[.slice sr1 rn sr2, .slice sr3 rm sr4] 27)
  have B_r := boxed w3 (.slice sr1 rn sr2) (.slice sr3 rm sr4) 27
  have hs4 := bb.size
  have C4 := belowNext C3 bb
  have x4 := x3.next bb
  have Bx4 := Bx3.next bb
  have r4 := or'.next bb
  clear qBx0 qBx1 qBx2
  clear bb C3 x3 Bx3 or'
  generalize hW4 : w3.alloc (Obj.cells #[.slice sr1 rn sr2, .slice sr3 rm sr4] 27) = w4 at *
  clear hW4
  have Br4 := B_r
  clear B_r
  have lBr := Br4.lt
  refine (TS.out _ _ x4.net).mono ?_
  rintro e w5 ⟨xs, gs1, gs2, rfl, os', ls1, ls2, bb⟩
  have hs5 := bb.size
  have C5 := belowNext C4 bb
  have x5 := x4.next bb
  have Bx5 := Bx4.next bb
  have r5 := r4.next bb
  have Br5 := Br4.next bb
  clear bb C4 x4 Bx4 r4 Br4
  have lxs := os'.lts
  obtain ⟨ss1, ss2, ss3, ss4, rfl⟩ := os'.shape
  have qBx0 := Bx5.b0
  have qBx1 := Bx5.b1
  have qBx2 := Bx5.lt
  have qBr0 := Br5.b0
  have qBr1 := Br5.b1
  have qBr2 := Br5.lt
  go_wp2_with fail
  have bb := mem.below_new w5 (.cells #[.slice ss1 rn ss2, .slice ss3 rm ss4] 27)
  have B_s := boxed w5 (.slice ss1 rn ss2) (.slice ss3 rm ss4) 27
  have hs6 := bb.size
  have C6 := belowNext C5 bb
  have x6 := x5.next bb
  have Bx6 := Bx5.next bb
  have r6 := r5.next bb
  have Br6 := Br5.next bb
  have s6 := os'.next bb
  clear qBx0 qBx1 qBx2 qBr0 qBr1 qBr2
  clear bb C5 x5 Bx5 r5 Br5 os'
  generalize hW6 : w5.alloc (Obj.cells #[.slice ss1 rn ss2, .slice ss3 rm ss4] 27) = w6 at *
  clear hW6
  have Bs6 := B_s
  clear B_s
  have lBs := Bs6.lt
  refine (likeNet_any _ _ _ rn N rm rP 0 w6.heap.size 0 w6.heap.size r6.net s6.net (Nat.le_refl _) (Nat.le_refl _) (by omega) (by omega)).mono ?_
  rintro e w7 ⟨rfl, bb⟩
  have hs7 := bb.size
  have C7 := belowNext C6 bb
  have x7 := x6.next bb
  have Bx7 := Bx6.next bb
  have r7 := r6.next bb
  have Br7 := Br6.next bb
  have s7 := s6.next bb
  have Bs7 := Bs6.next bb
  clear bb C6 x6 Bx6 r6 Br6 s6 Bs6
  have qBx0 := Bx7.b0
  have qBx1 := Bx7.b1
  have qBx2 := Bx7.lt
  have qBr0 := Br7.b0
  have qBr1 := Br7.b1
  have qBr2 := Br7.lt
  have qBs0 := Bs7.b0
  have qBs1 := Bs7.b1
  have qBs2 := Bs7.lt
  go_wp2_with fail
  refine (WI.out _ _ x7.net).mono ?_
  rintro e w8 ⟨xy, gy1, gy2, rfl, oy', ly1, ly2, bb⟩
  have hs8 := bb.size
  have C8 := belowNext C7 bb
  have x8 := x7.next bb
  have Bx8 := Bx7.next bb
  have r8 := r7.next bb
  have Br8 := Br7.next bb
  have s8 := s7.next bb
  have Bs8 := Bs7.next bb
  clear qBx0 qBx1 qBx2 qBr0 qBr1 qBr2 qBs0 qBs1 qBs2
  clear bb C7 x7 Bx7 r7 Br7 s7 Bs7
  have lxy := oy'.lts
  obtain ⟨sy1, sy2, sy3, sy4, rfl⟩ := oy'.shape
  have qBx0 := Bx8.b0
  have qBx1 := Bx8.b1
  have qBx2 := Bx8.lt
  have qBr0 := Br8.b0
  have qBr1 := Br8.b1
  have qBr2 := Br8.lt
  have qBs0 := Bs8.b0
  have qBs1 := Bs8.b1
  have qBs2 := Bs8.lt
  go_wp2_with fail
  have bb := mem.below_new w8 (.cells #[.slice sy1 yn sy2, .slice sy3 ym sy4] 27)
  have B_y := boxed w8 (.slice sy1 yn sy2) (.slice sy3 ym sy4) 27
  have hs9 := bb.size
  have C9 := belowNext C8 bb
  have x9 := x8.next bb
  have Bx9 := Bx8.next bb
  have r9 := r8.next bb
  have Br9 := Br8.next bb
  have s9 := s8.next bb
  have Bs9 := Bs8.next bb
  have y9 := oy'.next bb
  clear qBx0 qBx1 qBx2 qBr0 qBr1 qBr2 qBs0 qBs1 qBs2
  clear bb C8 x8 Bx8 r8 Br8 s8 Bs8 oy'
  generalize hW9 : w8.alloc (Obj.cells #[.slice sy1 yn sy2, .slice sy3 ym sy4] 27) = w9 at *
  clear hW9
  have By9 := B_y
  clear B_y
  have lBy := By9.lt
  refine (WS.out _ _ x9.net).mono ?_
  rintro e w10 ⟨xz, gz1, gz2, rfl, oz', lz1, lz2, bb⟩
  have hs10 := bb.size
  have C10 := belowNext C9 bb
  have x10 := x9.next bb
  have Bx10 := Bx9.next bb
  have r10 := r9.next bb
  have Br10 := Br9.next bb
  have s10 := s9.next bb
  have Bs10 := Bs9.next bb
  have y10 := y9.next bb
  have By10 := By9.next bb
  clear bb C9 x9 Bx9 r9 Br9 s9 Bs9 y9 By9
  have lxz := oz'.lts
  obtain ⟨sz1, sz2, sz3, sz4, rfl⟩ := oz'.shape
  have qBx0 := Bx10.b0
  have qBx1 := Bx10.b1
  have qBx2 := Bx10.lt
  have qBr0 := Br10.b0
  have qBr1 := Br10.b1
  have qBr2 := Br10.lt
  have qBs0 := Bs10.b0
  have qBs1 := Bs10.b1
  have qBs2 := Bs10.lt
  have qBy0 := By10.b0
  have qBy1 := By10.b1
  have qBy2 := By10.lt
  go_wp2_with fail
  have bb := mem.below_new w10 (.cells #[.slice sz1 yn sz2, .slice sz3 ym sz4] 27)
  have B_z := boxed w10 (.slice sz1 yn sz2) (.slice sz3 ym sz4) 27
  have hs11 := bb.size
  have C11 := belowNext C10 bb
  have x11 := x10.next bb
  have Bx11 := Bx10.next bb
  have r11 := r10.next bb
  have Br11 := Br10.next bb
  have s11 := s10.next bb
  have Bs11 := Bs10.next bb
  have y11 := y10.next bb
  have By11 := By10.next bb
  have z11 := oz'.next bb
  clear qBx0 qBx1 qBx2 qBr0 qBr1 qBr2 qBs0 qBs1 qBs2 qBy0 qBy1 qBy2
  clear bb C10 x10 Bx10 r10 Br10 s10 Bs10 y10 By10 oz'
  generalize hW11 : w10.alloc (Obj.cells #[.slice sz1 yn sz2, .slice sz3 ym sz4] 27) = w11 at *
  clear hW11
  have Bz11 := B_z
  clear B_z
  have lBz := Bz11.lt
  refine (likeNet_any _ _ _ yn N ym yP 0 w11.heap.size 0 w11.heap.size y11.net z11.net (Nat.le_refl _) (Nat.le_refl _) (by omega) (by omega)).mono ?_
  rintro e w12 ⟨rfl, bb⟩
  have hs12 := bb.size
  have C12 := belowNext C11 bb
  have x12 := x11.next bb
  have Bx12 := Bx11.next bb
  have r12 := r11.next bb
  have Br12 := Br11.next bb
  have s12 := s11.next bb
  have Bs12 := Bs11.next bb
  have y12 := y11.next bb
  have By12 := By11.next bb
  have z12 := z11.next bb
  have Bz12 := Bz11.next bb
  clear bb C11 x11 Bx11 r11 Br11 s11 Bs11 y11 By11 z11 Bz11
  clear s12 Bs12 z12 Bz12
  by_cases hrc : rc = 0
  · subst hrc
    obtain ⟨hlm, tb⟩ := HZ.out rfl
    have TB := Lib.hid tb
    clear tb HZ
    have hlI : IntKind.i64.wrap ((ym : Int) + 1) = m := by rw [IntWalk.i64_in _ (by omega)]; omega
    have qBx0 := Bx12.b0
    have qBx1 := Bx12.b1
    have qBx2 := Bx12.lt
    have qBr0 := Br12.b0
    have qBr1 := Br12.b1
    have qBr2 := Br12.lt
    have qBy0 := By12.b0
    have qBy1 := By12.b1
    have qBy2 := By12.lt
    go_wp2_with fail
    refine (TB.out _ _ r12.net).mono ?_
    rintro e w13 ⟨xb, gb1, gb2, rfl, ob', lb1, lb2, bb⟩
    have hs13 := bb.size
    have C13 := belowNext C12 bb
    have x13 := x12.next bb
    have Bx13 := Bx12.next bb
    have r13 := r12.next bb
    have Br13 := Br12.next bb
    have y13 := y12.next bb
    have By13 := By12.next bb
    clear qBx0 qBx1 qBx2 qBr0 qBr1 qBr2 qBy0 qBy1 qBy2
    clear bb C12 x12 Bx12 r12 Br12 y12 By12
    have lxb := ob'.lts
    obtain ⟨sb1, sb2, sb3, sb4, rfl⟩ := ob'.shape
    have qBx0 := Bx13.b0
    have qBx1 := Bx13.b1
    have qBx2 := Bx13.lt
    have qBr0 := Br13.b0
    have qBr1 := Br13.b1
    have qBr2 := Br13.lt
    have qBy0 := By13.b0
    have qBy1 := By13.b1
    have qBy2 := By13.lt
    go_wp2_with fail
    have bb := mem.below_new w13 (.cells #[.slice sb1 n sb2, .slice sb3 m sb4] 27)
    have B_b := boxed w13 (.slice sb1 n sb2) (.slice sb3 m sb4) 27
    have hs14 := bb.size
    have C14 := belowNext C13 bb
    have x14 := x13.next bb
    have Bx14 := Bx13.next bb
    have r14 := r13.next bb
    have Br14 := Br13.next bb
    have y14 := y13.next bb
    have By14 := By13.next bb
    have b14 := ob'.next bb
    clear qBx0 qBx1 qBx2 qBr0 qBr1 qBr2 qBy0 qBy1 qBy2
    clear bb C13 x13 Bx13 r13 Br13 y13 By13 ob'
    generalize hW14 : w13.alloc (Obj.cells #[.slice sb1 n sb2, .slice sb3 m sb4] 27) = w14 at *
    clear hW14
    have Bb14 := B_b
    clear B_b
    have lBb := Bb14.lt
    refine (likeNet_any _ _ _ n N m P 0 w14.heap.size 0 w14.heap.size b14.net x14.net (Nat.le_refl _) (Nat.le_refl _) (by omega) (by omega)).mono ?_
    rintro e w15 ⟨rfl, bb⟩
    have hs15 := bb.size
    have C15 := belowNext C14 bb
    have x15 := x14.next bb
    have Bx15 := Bx14.next bb
    have r15 := r14.next bb
    have Br15 := Br14.next bb
    have y15 := y14.next bb
    have By15 := By14.next bb
    have b15 := b14.next bb
    have Bb15 := Bb14.next bb
    clear bb C14 x14 Bx14 r14 Br14 y14 By14 b14 Bb14
    have qBx0 := Bx15.b0
    have qBx1 := Bx15.b1
    have qBx2 := Bx15.lt
    have qBr0 := Br15.b0
    have qBr1 := Br15.b1
    have qBr2 := Br15.lt
    have qBy0 := By15.b0
    have qBy1 := By15.b1
    have qBy2 := By15.lt
    have qBb0 := Bb15.b0
    have qBb1 := Bb15.b1
    have qBb2 := Bb15.lt
    go_wp2_with fail
    go_ret
    exact ⟨rfl, C15⟩
  · have hrc' : (rc != 0) = true := by simpa using hrc
    have qBx0 := Bx12.b0
    have qBx1 := Bx12.b1
    have qBx2 := Bx12.lt
    have qBr0 := Br12.b0
    have qBr1 := Br12.b1
    have qBr2 := Br12.lt
    have qBy0 := By12.b0
    have qBy1 := By12.b1
    have qBy2 := By12.lt
    go_wp2_with fail
    go_ret
    exact ⟨rfl, C12⟩

set_option maxRecDepth 100000 in
theorem lifted (os : Os) (started : os.Started) (H : Type) (enc : TypeId × Value → H) :
    ReturnsInHanded {} Try.checked os 3 .any (Rows.fnTurnedPipesSpec.pre6 enc Try.prog Try.f3 Rows.fnTurnedPipesRow.domain false) (Rows.fnTurnedPipesSpec.post enc Try.prog Try.f3 false true false false) := by
  refine returnsInHanded_of_change (C := Try.checked) own started (by kernel_rfl) Try.func3
    (ChangeSpec.witness6 (enc := enc) (C := Try.checked) false ⟨#[], #[.slice none 0 0], []⟩ 8 (by kernel_rfl) (by kernel_rfl) (by kernel_rfl) (by kernel_rfl)) ?_
  intro W base args ds gs before hval0 hW hcnd _
  have hval : ∀ (j : Nat) t v, Try.f3.params[j]? = some t → args[j]? = some v → Value.okWide Try.prog W .any base t v := hval0
  have hW' := hW
  obtain ⟨p, q, hA0, hV, rfl, hfz, hnd⟩ := hW
  have hA : DataW.TrodAll enc Try.prog W 0 (fun _ => true) true Try.f3.params.toList args.toList ds p := hA0
  rw [Try.params3] at hA hval
  obtain ⟨v0, vs0, d0, ds0, p0, q0, hargs, rfl, rfl, h0, r0⟩ := trodAll_cons hA
  obtain ⟨rfl, rfl, rfl⟩ := trodAll_nil r0
  obtain rfl : args = #[v0] := by cases args; simp_all
  obtain ⟨rfl, rfl⟩ := trodVars_none hV
  have hc := open_code (hval 0 22 v0 rfl rfl) h0
  refine (walk v0 W hc).mono fun e W' ⟨he, hg⟩ => ?_
  subst he
  exact ⟨_, rfl, law.law_post hW' hg laidOut (by kernel_rfl) rfl rfl (by kernel_rfl) Try.underlying4⟩

theorem over : Rows.fnTurnedPipesRow.holds Try.pinned (OpenSpec.ofChange Rows.fnTurnedPipesSpec) :=
  OpenClaim.holds_of_wide 3 Try.f3 rfl rfl rfl rfl rfl rfl rfl ⟨rfl, rfl, rfl, rfl, rfl⟩ rfl rfl rfl rfl rfl (by kernel_rfl) Try.func3 (by kernel_rfl)
    (of_decide_eq_true (by kernel_rfl)) (by unfold Func.isWrapper; first | (rw [if_pos (by decide +kernel)]; kernel_rfl) | (rw [if_neg (by decide +kernel)]; exact ⟨rfl, rfl⟩))
    (fun os started H enc _ => lifted os started H enc)

theorem proved : Rows.FnTurnedPipesSaid :=
  over
#print axioms proved
end Go.Proofs.Ytdmcggnhnkaoeaa.fnTurnedPipes
