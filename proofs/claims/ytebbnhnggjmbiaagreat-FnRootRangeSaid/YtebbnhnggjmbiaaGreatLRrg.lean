/-
  FnRootRange returns true at every slice of bytes, and leaves it as it was. No condition.
-/
import Derived.Test.YtebbnhnggjmbiaaGreatRows
import Derived.Test.YtebbnhnggjmbiaaGreatLaw
import Derived.Test.YtebbnhnggjmbiaaGreatCode
import Derived.Test.YtebbnhnggjmbiaaGreatKkM
import Derived.Test.YtebbnhnggjmbiaaGreatDr8b
import Derived.WalkKit
import Derived.ProofKit
import Derived.OpenShut
import Derived.Lib.Hide
import Derived.Deep.QuietTactic
import Derived.BigQuiet
import Derived.OwnWalk
import Derived.Outline
import Derived.Deep.RegionHeld3
import Derived.Deep.RegionHeldLaw
import Derived.IntWalk
namespace Go.Proofs.YtebbnhnggjmbiaaGreat.fnRootRange
open Go.ChangeShapes Go.WideShapes Go.ChangeAt Go.RowKit Go.Proofs.YtebbnhnggjmbiaaGreat.draw Go.Proofs.YtebbnhnggjmbiaaGreat.mem
set_option linter.unusedVariables false

theorem own : ownKnob Tryz.prog.godebug = none := by kernel_rfl
theorem laidOut : laidOutB Tryz.prog = true := by kernel_rfl

theorem own_at {w : World} {p : Option Addr} {n c b : Nat} {d : Nat → Int} (h : OwnS w (.slice p n c) n 1 (fun i _ => .int .i64 (d i)) b) {k : Nat} (hk : k < n) : p = some ⟨b, 0, none⟩ ∧ b < w.heap.size ∧ w.cell? ⟨b, k, none⟩ = some (.int .i64 (d k)) := by
  obtain ⟨p', cap, hv, h1, h2, h3⟩ := h.ex
  injection hv with e1 _ e3
  subst e1
  rcases h3 with h3 | ⟨h3, h4⟩
  · omega
  · refine ⟨h3, h4.lt, ?_⟩
    have := h4.cell k 0 hk (by omega)
    simpa using this
theorem owns_sl {w : World} {v : Value} {n b : Nat} {d : Nat → Int} (h : OwnS w v n 1 (fun i _ => .int .i64 (d i)) b) : Sl w v n d 0 w.heap.size := by
  obtain ⟨p', cap, hv, h1, h2, h3⟩ := h.ex
  refine ⟨p', cap, hv, ?_⟩
  rcases h3 with h3 | ⟨h3, h4⟩
  · exact .inl h3
  · refine .inr ⟨b, 0, h3, Nat.zero_le _, h4.lt, fun k hk => ?_⟩
    have := h4.cell k 0 hk (by omega)
    simpa using this
theorem fv_at0 {n : Nat} {N : Nat → Nod} {m : Nat} {P : Nat → Pip} {K : Nat} {d : Nat → Int} {r l r' l' : Int} (h : fvC n N m P K d r l = 0) (hr : 0 ≤ r' ∧ r' < n) (hl : -500000000000000000 ≤ l' ∧ l' ≤ 500000000000000000) : fvC n N m P K d r' l' = 0 := by
  have hz : (inR r' 0 (n - 1) && rlB l') = true := by
    rw [Bool.and_eq_true]
    exact ⟨inR_iff.2 ⟨hr.1, by omega⟩, inR_iff.2 hl⟩
  unfold fvC at h ⊢
  split at h
  · next hf =>
    rw [if_pos hf, if_pos hz]
    split at h
    · exact h
    · omega
  · next hf => exact absurd h hf
theorem xl_bnd0 {n : Nat} {N : Nat → Nod} {m : Nat} {P : Nat → Pip} {K : Nat} {d : Nat → Int} {r l : Int} (h : fvC n N m P K d r l = 0) {j : Nat} (hj : j < n) : l - 50000000000000 ≤ xl n m P d r l j ∧ xl n m P d r l j ≤ l + 50000000000000 := by
  obtain ⟨hB, hKm, hn1, hn24, hr0, hr1, _, _, _, _⟩ := fv_ok h
  exact lvl_bnd (x := d) (root := r) (level := l) (z := ((j : Nat) : Int)) hB hn24 (fv_con h).2 ⟨hr0, hr1⟩ ⟨Int.natCast_nonneg _, by omega⟩
theorem rng_pair {n : Nat} {N : Nat → Nod} {m : Nat} {P : Nat → Pip} {K : Nat} {d : Nat → Int} {r : Int} (h : fvC n N m P K d r 0 = 0) : fvC n N m P K d 0 0 = 0 ∧ (rrH n N m P d r < rrL n N m P d r ↔ bdA n N (xl n m P d 0 0) < n) := by
  obtain ⟨hB, hKm, hn1, hn24, hr0, hr1, _, _, _, _⟩ := fv_ok h
  refine ⟨fv_at0 h ⟨Int.le_refl _, by omega⟩ ⟨by omega, by omega⟩, ?_⟩
  obtain ⟨R, rfl⟩ := Int.eq_ofNat_of_zero_le hr0
  unfold rrH rrL
  exact rng_bd (by omega) (-xl n m P d 0 0 R) (fun j hj => xl_root n m P d R j)
theorem rr_tight {n : Nat} {N : Nat → Nod} {m : Nat} {P : Nat → Pip} {K : Nat} {d : Nat → Int} {r : Int} (h : rrC n N m P K d r = 0) : rrL n N m P d r ≤ rrH n N m P d r ∧ -60000000000000 ≤ rrL n N m P d r ∧ rrH n N m P d r ≤ 60000000000000 := by
  obtain ⟨hf, hl⟩ := rr_ok h
  obtain ⟨hB, hKm, hn1, hn24, hr0, hr1, hl0, hl1, hfn, hbd⟩ := fv_ok hf
  have h0 := xl_bnd0 hf (j := 0) (by omega)
  have hn := nod_bounds hB 0 (by omega)
  have a := (mxF_ge (f := loF N (xl n m P d r 0)) (s := loF N (xl n m P d r 0) 0) (k := n)).1
  have b := (mnF_ge (f := hiF N (xl n m P d r 0)) (s := hiF N (xl n m P d r 0) 0) (k := n)).1
  refine ⟨hl, ?_, ?_⟩
  · unfold rrL
    unfold loF at a ⊢
    omega
  · unfold rrH
    unfold hiF at b ⊢
    omega
theorem lev_call {n : Nat} {N : Nat → Nod} {m : Nat} {P : Nat → Pip} {K : Nat} {D : Nat → Int} {r l : Int} (h : fvC n N m P K D r l = 0) (hN : ∀ i, i < n → (N i).s.size ≤ 9223372036854775807) (hK : K ≤ 2000000) : ∀ w v va, NetAt w v n N m P 0 w.heap.size → Sl w va K D 0 w.heap.size → Calls Tryz.prog 26 #[v, va, .int .i64 r, .int .i64 l] w (LIPost w n (xl n m P D r l) 0) := by
  intro w v va hn hv
  have := forestLevelsI_any w v n N m P 0 _ hn (Nat.le_refl _) hN va K D 0 _ hv (Nat.le_refl _) (by omega) r l
  have hfn : fvN n N m P K D r l = n := by unfold fvN; rw [if_pos h]
  rw [h, hfn] at this
  exact this
theorem in_call {n : Nat} {N : Nat → Nod} {m : Nat} {P : Nat → Pip} (hB : netB n N m P = true) (x : Nat → Int) (hN : ∀ i, i < n → (N i).s.size ≤ 9223372036854775807) : ∀ w v va, NetAt w v n N m P 0 w.heap.size → Sl w va n x 0 w.heap.size → Calls Tryz.prog 27 #[v, va] w (BPost w (decide ((fl (inB N x) n).length = n))) := by
  intro w v va hn hv
  have hz := net_sz hB
  have := isWithinI_any w v n N m P 0 _ hn (Nat.le_refl _) hN va n x 0 _ hv (Nat.le_refl _) (by omega)
  have hi : iwB n N m P n x = decide ((fl (inB N x) n).length = n) := by
    unfold iwB
    rw [hB, decide_eq_true (rfl : n = n)]
    rfl
  rw [hi] at this
  exact this
theorem rrFacts (n : Nat) (N : Nat → Nod) (m : Nat) (P : Nat → Pip) (K : Nat) (D : Nat → Int) (r : Int) (hN : ∀ i, i < n → (N i).s.size ≤ 9223372036854775807) (hK : K ≤ 2000000) :
    ∃ ra rb rc : Int, (∀ w v va, NetAt w v n N m P 0 w.heap.size → Sl w va K D 0 w.heap.size → Calls Tryz.prog 13 #[v, va, .int .i64 r] w (IIIPost w ra rb rc)) ∧ (∀ w v va, NetAt w v n N m P 0 w.heap.size → Sl w va K D 0 w.heap.size → Calls Tryz.prog 10 #[v, va, .int .i64 r] w (IIIPost w ra rb rc)) ∧ ∃ ba bb bc : Int, (∀ w v va, NetAt w v n N m P 0 w.heap.size → Sl w va K D 0 w.heap.size → Calls Tryz.prog 25 #[v, va] w (IIIPost w ba bb bc)) ∧ (rc = 7 → bc = 0) ∧
      (rc = 0 → bc = 4 ∧ -800000000000000000 ≤ rb ∧ rb ≤ 800000000000000000 ∧ ∃ (xi xo : Nat → Int) (mid : Int), (∀ w v va, NetAt w v n N m P 0 w.heap.size → Sl w va K D 0 w.heap.size → Calls Tryz.prog 26 #[v, va, .int .i64 r, .int .i64 ra] w (LIPost w n xi 0)) ∧ (∀ w v va, NetAt w v n N m P 0 w.heap.size → Sl w va K D 0 w.heap.size → Calls Tryz.prog 26 #[v, va, .int .i64 r, .int .i64 (rb + 1)] w (LIPost w n xo 0)) ∧ (∀ w v va, NetAt w v n N m P 0 w.heap.size → Sl w va K D 0 w.heap.size → Calls Tryz.prog 22 #[v, va, .int .i64 r] w (IIPost w mid 0)) ∧
        (∀ w v va, NetAt w v n N m P 0 w.heap.size → Sl w va n xi 0 w.heap.size → Calls Tryz.prog 27 #[v, va] w (BPost w true)) ∧ (∀ w v va, NetAt w v n N m P 0 w.heap.size → Sl w va n xo 0 w.heap.size → Calls Tryz.prog 27 #[v, va] w (BPost w false)) ∧ ra ≤ mid ∧ mid ≤ rb) := by
  refine ⟨rrA n N m P K D r, rrZ n N m P K D r, rrC n N m P K D r, fun w v va h hv => rootRangeI_any w v n N m P 0 _ h (Nat.le_refl _) hN va K D 0 _ hv (Nat.le_refl _) (by omega) r, fun w v va h hv => rootRangeS_any w v n N m P 0 _ h (Nat.le_refl _) hN va K D 0 _ hv (Nat.le_refl _) (by omega) r, bpA n N m P K D, bpB n N m P K D, bpC n N m P K D, fun w v va h hv => blockingPairI_any w v n N m P 0 _ h (Nat.le_refl _) hN va K D 0 _ hv (Nat.le_refl _) (by omega), fun h7 => ?_, fun h0 => ?_⟩
  · unfold rrC at h7
    split at h7
    · next hf =>
      split at h7
      · next hlt =>
        obtain ⟨h00, hi⟩ := rng_pair hf
        unfold bpC
        rw [if_pos h00, if_pos (hi.1 hlt)]
      · omega
    · exact absurd h7 (fvC_ne7 _ _ _ _ _ _ _ _).1
  · obtain ⟨hf, hl⟩ := rr_ok h0
    obtain ⟨h00, hi⟩ := rng_pair hf
    obtain ⟨hB, hKm, hn1, hn24, hr0, hr1, _, _, _, _⟩ := fv_ok hf
    obtain ⟨t1, t2, t3⟩ := rr_tight h0
    have eA : rrA n N m P K D r = rrL n N m P D r := by unfold rrA; rw [if_pos h0]
    have eZ : rrZ n N m P K D r = rrH n N m P D r := by unfold rrZ; rw [if_pos h0]
    have eM : mdA n N m P K D r = (rrL n N m P D r + rrH n N m P D r) / 2 := by unfold mdA; rw [if_pos h0]
    rw [eA, eZ]
    refine ⟨?_, by omega, by omega, xl n m P D r (rrL n N m P D r), xl n m P D r (rrH n N m P D r + 1), mdA n N m P K D r, lev_call (fv_at0 hf ⟨hr0, hr1⟩ ⟨by omega, by omega⟩) hN hK, lev_call (fv_at0 hf ⟨hr0, hr1⟩ ⟨by omega, by omega⟩) hN hK, fun w v va h hv => ?_, fun w v va h hv => ?_, fun w v va h hv => ?_, by rw [eM]; omega, by rw [eM]; omega⟩
    · unfold bpC
      rw [if_pos h00, if_neg (fun h => by have := hi.2 h; omega)]
    · have := middleLevelI_any w v n N m P 0 _ h (Nat.le_refl _) hN va K D 0 _ hv (Nat.le_refl _) (by omega) r
      rw [h0] at this
      exact this
    · have := in_call hB (xl n m P D r (rrL n N m P D r)) hN w v va h hv
      rw [decide_eq_true ((rng_in (y := xl n m P D r (rrL n N m P D r)) (x := xl n m P D r 0) (by omega) (rrL n N m P D r) (fun j _ => xl_shift n m P D r _ j)).2 ⟨Int.le_refl _, hl⟩)] at this
      exact this
    · have := in_call hB (xl n m P D r (rrH n N m P D r + 1)) hN w v va h hv
      rw [decide_eq_false (fun hh => by
        have := ((rng_in (x := xl n m P D r 0) (by omega) _ (fun j _ => xl_shift n m P D r _ j)).1 hh).2
        have e : mnF (hiF N (xl n m P D r 0)) (hiF N (xl n m P D r 0) 0) n = rrH n N m P D r := rfl
        omega)] at this
      exact this
set_option maxRecDepth 100000 in
set_option maxHeartbeats 20000000 in
theorem walk (v : Value) (w : World) (hc : CodeArg w v) :
    Calls Tryz.prog 6 #[v] w fun e w' => e = .returned (.bool true) ∧ Below w.heap.size w w' := by
  obtain ⟨p, len, cap, rfl, hlen, hcode⟩ := hc
  by_cases h4 : (4096 : Int) < len
  · clear hcode
    go_enter Tryz.func6, Tryz.ntmps6
    go_wp2_with (go_at_call 23; refine (draw.big_any _ _ _ _).mono ?_; rintro e w' ⟨rfl, rfl⟩)
    go_ret
    exact ⟨rfl, Below.refl _ _⟩
  have hc := hcode (by omega)
  clear hcode
  go_enter Tryz.func6, Tryz.ntmps6
  go_wp2_with (go_at_call 23; refine (draw.big_any _ _ _ _).mono ?_; rintro e w' ⟨rfl, rfl⟩)
  refine (draw.drawRootRange w _ len hc).mono ?_
  rintro e w1 ⟨v, n, m, N, P, b1, b2, vl, K, D, r, rfl, hn, hm, hK, hnm, o1, l1, l2, hL1, C1⟩
  obtain ⟨ra, rb, rc, ti, ts, ba, bv, bc, tb, h7, hz⟩ := rrFacts n N m P K D r hnm (by omega)
  have TI := Lib.hid ti
  have TS := Lib.hid ts
  have TB := Lib.hid tb
  have H7 := Lib.hid h7
  have HZ := Lib.hid hz
  clear ti ts tb h7 hz
  clear hc
  obtain ⟨pl, cl, rfl⟩ := draw.sl_sh hL1
  have hb2 : (rc != rc) = false := by simp
  have hb3 : (ra != ra) = false := by simp
  have hb4 : (rb != rb) = false := by simp
  have lxx := o1.lts
  obtain ⟨sx1, sx2, sx3, sx4, rfl⟩ := o1.shape
  go_wp2_with fail
  have bb := mem.below_new w1 (.cells #[.slice sx1 n sx2, .slice sx3 m sx4] 33)
  have B_x := boxed w1 (.slice sx1 n sx2) (.slice sx3 m sx4) 33
  have hs2 := bb.size
  have C2 := belowNext C1 bb
  have L2 := hL1.next bb
  have x2 := o1.next bb
  clear bb C1 hL1 o1
  generalize hW2 : w1.alloc (Obj.cells #[.slice sx1 n sx2, .slice sx3 m sx4] 33) = w2 at *
  clear hW2
  have Bx2 := B_x
  clear B_x
  have lBx := Bx2.lt
  refine (TI.out _ _ _ x2.net L2.zero).mono ?_
  rintro e w3 ⟨rfl, bb⟩
  have hs3 := bb.size
  have C3 := belowNext C2 bb
  have L3 := L2.next bb
  have x3 := x2.next bb
  have Bx3 := Bx2.next bb
  clear bb C2 L2 x2 Bx2
  have qBx0 := Bx3.b0
  have qBx1 := Bx3.b1
  have qBx2 := Bx3.lt
  go_wp2_with fail
  refine (TS.out _ _ _ x3.net L3.zero).mono ?_
  rintro e w4 ⟨rfl, bb⟩
  have hs4 := bb.size
  have C4 := belowNext C3 bb
  have L4 := L3.next bb
  have x4 := x3.next bb
  have Bx4 := Bx3.next bb
  clear qBx0 qBx1 qBx2
  clear bb C3 L3 x3 Bx3
  have qBx0 := Bx4.b0
  have qBx1 := Bx4.b1
  have qBx2 := Bx4.lt
  go_wp2_with fail
  refine (TB.out _ _ _ x4.net L4.zero).mono ?_
  rintro e w5 ⟨rfl, bb⟩
  have hs5 := bb.size
  have C5 := belowNext C4 bb
  have L5 := L4.next bb
  have x5 := x4.next bb
  have Bx5 := Bx4.next bb
  clear qBx0 qBx1 qBx2
  clear bb C4 L4 x4 Bx4
  by_cases h7 : rc = 7
  · subst h7
    obtain rfl := H7.out (by trivial)
    have qBx0 := Bx5.b0
    have qBx1 := Bx5.b1
    have qBx2 := Bx5.lt
    go_wp2_with fail
    go_ret
    exact ⟨rfl, C5⟩
  have h7' : (rc == 7) = false := by simpa using h7
  by_cases hrc : rc = 0
  · subst hrc
    obtain ⟨rfl, e1, e2, xi, xo, mid, q1, q2, q3, q4, q5, hle1, hle2⟩ := HZ.out (by trivial)
    have Q1 := Lib.hid q1
    have Q2 := Lib.hid q2
    have Q3 := Lib.hid q3
    have Q4 := Lib.hid q4
    have Q5 := Lib.hid q5
    clear q1 q2 q3 q4 q5
    clear HZ TI TS TB H7
    have hwr : IntKind.i64.wrap (rb + 1) = rb + 1 := IntWalk.i64_in _ (by omega)
    have hd1 : decide (ra ≤ mid) = true := decide_eq_true hle1
    have hd2 : decide (mid ≤ rb) = true := decide_eq_true hle2
    have qBx0 := Bx5.b0
    have qBx1 := Bx5.b1
    have qBx2 := Bx5.lt
    go_wp2_with fail
    refine (Q1.out _ _ _ x5.net L5.zero).mono ?_
    rintro e w6 ⟨xI, gI, rfl, oI, lI, bb⟩
    have hs6 := bb.size
    have C6 := belowNext C5 bb
    have L6 := L5.next bb
    have x6 := x5.next bb
    have Bx6 := Bx5.next bb
    clear qBx0 qBx1 qBx2
    clear bb C5 L5 x5 Bx5
    have lxI := oI.lt
    obtain ⟨sI1, sI2, rfl⟩ := oI.shape
    have qBx0 := Bx6.b0
    have qBx1 := Bx6.b1
    have qBx2 := Bx6.lt
    go_wp2_with fail
    refine (Q2.out _ _ _ x6.net L6.zero).mono ?_
    rintro e w7 ⟨xO, gO, rfl, oO, lO, bb⟩
    have hs7 := bb.size
    have C7 := belowNext C6 bb
    have L7 := L6.next bb
    have x7 := x6.next bb
    have Bx7 := Bx6.next bb
    have I7 := oI.next bb
    clear qBx0 qBx1 qBx2
    clear bb C6 L6 x6 Bx6 oI
    have lxO := oO.lt
    obtain ⟨sO1, sO2, rfl⟩ := oO.shape
    have qBx0 := Bx7.b0
    have qBx1 := Bx7.b1
    have qBx2 := Bx7.lt
    go_wp2_with fail
    refine (Q3.out _ _ _ x7.net L7.zero).mono ?_
    rintro e w8 ⟨rfl, bb⟩
    have hs8 := bb.size
    have C8 := belowNext C7 bb
    have L8 := L7.next bb
    have x8 := x7.next bb
    have Bx8 := Bx7.next bb
    have I8 := I7.next bb
    have O8 := oO.next bb
    clear qBx0 qBx1 qBx2
    clear bb C7 L7 x7 Bx7 I7 oO
    have qBx0 := Bx8.b0
    have qBx1 := Bx8.b1
    have qBx2 := Bx8.lt
    go_wp2_with fail
    refine (Q4.out _ _ _ x8.net (owns_sl I8)).mono ?_
    rintro e w9 ⟨rfl, bb⟩
    have hs9 := bb.size
    have C9 := belowNext C8 bb
    have L9 := L8.next bb
    have x9 := x8.next bb
    have Bx9 := Bx8.next bb
    have I9 := I8.next bb
    have O9 := O8.next bb
    clear qBx0 qBx1 qBx2
    clear bb C8 L8 x8 Bx8 I8 O8
    have qBx0 := Bx9.b0
    have qBx1 := Bx9.b1
    have qBx2 := Bx9.lt
    go_wp2_with fail
    refine (Q5.out _ _ _ x9.net (owns_sl O9)).mono ?_
    rintro e w10 ⟨rfl, bb⟩
    have hs10 := bb.size
    have C10 := belowNext C9 bb
    have L10 := L9.next bb
    have x10 := x9.next bb
    have Bx10 := Bx9.next bb
    have I10 := I9.next bb
    have O10 := O9.next bb
    clear qBx0 qBx1 qBx2
    clear bb C9 L9 x9 Bx9 I9 O9
    have qBx0 := Bx10.b0
    have qBx1 := Bx10.b1
    have qBx2 := Bx10.lt
    go_wp2_with fail
    go_ret
    exact ⟨rfl, C10⟩
  · have hrc' : (rc != 0) = true := by simpa using hrc
    clear h7 hrc
    have qBx0 := Bx5.b0
    have qBx1 := Bx5.b1
    have qBx2 := Bx5.lt
    go_wp2_with fail
    go_ret
    exact ⟨rfl, C5⟩

set_option maxRecDepth 100000 in
theorem lifted (os : Os) (started : os.Started) (H : Type) (enc : TypeId × Value → H) :
    ReturnsInHanded {} Tryz.checked os 6 .any (Rows.fnRootRangeSpec.pre6 enc Tryz.prog Tryz.f6 Rows.fnRootRangeRow.domain false) (Rows.fnRootRangeSpec.post enc Tryz.prog Tryz.f6 false true false false) := by
  refine returnsInHanded_of_change (C := Tryz.checked) own started (by kernel_rfl) Tryz.func6
    (ChangeSpec.witness6 (enc := enc) (C := Tryz.checked) false ⟨#[], #[.slice none 0 0], []⟩ 8 (by kernel_rfl) (by kernel_rfl) (by kernel_rfl) (by kernel_rfl)) ?_
  intro W base args ds gs before hval0 hW hcnd _
  have hval : ∀ (j : Nat) t v, Tryz.f6.params[j]? = some t → args[j]? = some v → Value.okWide Tryz.prog W .any base t v := hval0
  have hW' := hW
  obtain ⟨p, q, hA0, hV, rfl, hfz, hnd⟩ := hW
  have hA : DataW.TrodAll enc Tryz.prog W 0 (fun _ => true) true Tryz.f6.params.toList args.toList ds p := hA0
  rw [Tryz.params6] at hA hval
  obtain ⟨v0, vs0, d0, ds0, p0, q0, hargs, rfl, rfl, h0, r0⟩ := trodAll_cons hA
  obtain ⟨rfl, rfl, rfl⟩ := trodAll_nil r0
  obtain rfl : args = #[v0] := by cases args; simp_all
  obtain ⟨rfl, rfl⟩ := trodVars_none hV
  have hc := open_code (hval 0 46 v0 rfl rfl) h0
  refine (walk v0 W hc).mono fun e W' ⟨he, hg⟩ => ?_
  subst he
  exact ⟨_, rfl, law.law_post hW' hg laidOut (by kernel_rfl) rfl rfl (by kernel_rfl) Tryz.underlying4⟩

theorem over : Rows.fnRootRangeRow.holds Tryz.pinned (OpenSpec.ofChange Rows.fnRootRangeSpec) :=
  OpenClaim.holds_of_wide 6 Tryz.f6 rfl rfl rfl rfl rfl rfl rfl ⟨rfl, rfl, rfl, rfl, rfl⟩ rfl rfl rfl rfl rfl (by kernel_rfl) Tryz.func6 (by kernel_rfl)
    (of_decide_eq_true (by kernel_rfl)) (by unfold Func.isWrapper; first | (rw [if_pos (by decide +kernel)]; kernel_rfl) | (rw [if_neg (by decide +kernel)]; exact ⟨rfl, rfl⟩))
    (fun os started H enc _ => lifted os started H enc)

theorem proved : Rows.FnRootRangeSaid :=
  over
#print axioms proved
end Go.Proofs.YtebbnhnggjmbiaaGreat.fnRootRange
