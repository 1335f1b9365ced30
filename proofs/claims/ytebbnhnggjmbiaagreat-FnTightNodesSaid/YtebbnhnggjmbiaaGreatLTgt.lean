/-
  FnTightNodes returns true at every slice of bytes, and leaves it as it was. No condition.
-/
import Derived.Test.YtebbnhnggjmbiaaGreatRows
import Derived.Test.YtebbnhnggjmbiaaGreatLaw
import Derived.Test.YtebbnhnggjmbiaaGreatCode
import Derived.Test.YtebbnhnggjmbiaaGreatLikeI
import Derived.Test.YtebbnhnggjmbiaaGreatKkM
import Derived.Test.YtebbnhnggjmbiaaGreatDr8b
import Derived.WalkKit
import Derived.ProofKit
import Derived.OpenShut
import Derived.Lib.Hide
import Derived.Deep.QuietTactic
import Derived.BigQuiet
import Derived.OwnWalk
import Derived.Outline
import Derived.Deep.RegionHeld3
import Derived.Deep.RegionHeldLaw
import Derived.IntWalk
namespace Go.Proofs.YtebbnhnggjmbiaaGreat.fnTightNodes
open Go.ChangeShapes Go.WideShapes Go.ChangeAt Go.RowKit Go.Proofs.YtebbnhnggjmbiaaGreat.draw Go.Proofs.YtebbnhnggjmbiaaGreat.mem
set_option linter.unusedVariables false

theorem own : ownKnob Tryz.prog.godebug = none := by kernel_rfl
theorem laidOut : laidOutB Tryz.prog = true := by kernel_rfl

theorem own_at {w : World} {p : Option Addr} {n c b : Nat} {d : Nat → Int} (h : OwnS w (.slice p n c) n 1 (fun i _ => .int .i64 (d i)) b) {k : Nat} (hk : k < n) : p = some ⟨b, 0, none⟩ ∧ b < w.heap.size ∧ w.cell? ⟨b, k, none⟩ = some (.int .i64 (d k)) := by
  obtain ⟨p', cap, hv, h1, h2, h3⟩ := h.ex
  injection hv with e1 _ e3
  subst e1
  rcases h3 with h3 | ⟨h3, h4⟩
  · omega
  · refine ⟨h3, h4.lt, ?_⟩
    have := h4.cell k 0 hk (by omega)
    simpa using this
theorem owns_sl {w : World} {v : Value} {n b : Nat} {d : Nat → Int} (h : OwnS w v n 1 (fun i _ => .int .i64 (d i)) b) : Sl w v n d 0 w.heap.size := by
  obtain ⟨p', cap, hv, h1, h2, h3⟩ := h.ex
  refine ⟨p', cap, hv, ?_⟩
  rcases h3 with h3 | ⟨h3, h4⟩
  · exact .inl h3
  · refine .inr ⟨b, 0, h3, Nat.zero_le _, h4.lt, fun k hk => ?_⟩
    have := h4.cell k 0 hk (by omega)
    simpa using this
theorem fv_at0 {n : Nat} {N : Nat → Nod} {m : Nat} {P : Nat → Pip} {K : Nat} {d : Nat → Int} {r l r' l' : Int} (h : fvC n N m P K d r l = 0) (hr : 0 ≤ r' ∧ r' < n) (hl : -500000000000000000 ≤ l' ∧ l' ≤ 500000000000000000) : fvC n N m P K d r' l' = 0 := by
  have hz : (inR r' 0 (n - 1) && rlB l') = true := by
    rw [Bool.and_eq_true]
    exact ⟨inR_iff.2 ⟨hr.1, by omega⟩, inR_iff.2 hl⟩
  unfold fvC at h ⊢
  split at h
  · next hf =>
    rw [if_pos hf, if_pos hz]
    split at h
    · exact h
    · omega
  · next hf => exact absurd h hf
theorem xl_bnd0 {n : Nat} {N : Nat → Nod} {m : Nat} {P : Nat → Pip} {K : Nat} {d : Nat → Int} {r l : Int} (h : fvC n N m P K d r l = 0) {j : Nat} (hj : j < n) : l - 50000000000000 ≤ xl n m P d r l j ∧ xl n m P d r l j ≤ l + 50000000000000 := by
  obtain ⟨hB, hKm, hn1, hn24, hr0, hr1, _, _, _, _⟩ := fv_ok h
  exact lvl_bnd (x := d) (root := r) (level := l) (z := ((j : Nat) : Int)) hB hn24 (fv_con h).2 ⟨hr0, hr1⟩ ⟨Int.natCast_nonneg _, by omega⟩
theorem rng_pair {n : Nat} {N : Nat → Nod} {m : Nat} {P : Nat → Pip} {K : Nat} {d : Nat → Int} {r : Int} (h : fvC n N m P K d r 0 = 0) : fvC n N m P K d 0 0 = 0 ∧ (rrH n N m P d r < rrL n N m P d r ↔ bdA n N (xl n m P d 0 0) < n) := by
  obtain ⟨hB, hKm, hn1, hn24, hr0, hr1, _, _, _, _⟩ := fv_ok h
  refine ⟨fv_at0 h ⟨Int.le_refl _, by omega⟩ ⟨by omega, by omega⟩, ?_⟩
  obtain ⟨R, rfl⟩ := Int.eq_ofNat_of_zero_le hr0
  unfold rrH rrL
  exact rng_bd (by omega) (-xl n m P d 0 0 R) (fun j hj => xl_root n m P d R j)
theorem rr_tight {n : Nat} {N : Nat → Nod} {m : Nat} {P : Nat → Pip} {K : Nat} {d : Nat → Int} {r : Int} (h : rrC n N m P K d r = 0) : rrL n N m P d r ≤ rrH n N m P d r ∧ -60000000000000 ≤ rrL n N m P d r ∧ rrH n N m P d r ≤ 60000000000000 := by
  obtain ⟨hf, hl⟩ := rr_ok h
  obtain ⟨hB, hKm, hn1, hn24, hr0, hr1, hl0, hl1, hfn, hbd⟩ := fv_ok hf
  have h0 := xl_bnd0 hf (j := 0) (by omega)
  have hn := nod_bounds hB 0 (by omega)
  have a := (mxF_ge (f := loF N (xl n m P d r 0)) (s := loF N (xl n m P d r 0) 0) (k := n)).1
  have b := (mnF_ge (f := hiF N (xl n m P d r 0)) (s := hiF N (xl n m P d r 0) 0) (k := n)).1
  refine ⟨hl, ?_, ?_⟩
  · unfold rrL
    unfold loF at a ⊢
    omega
  · unfold rrH
    unfold hiF at b ⊢
    omega
theorem lev_call {n : Nat} {N : Nat → Nod} {m : Nat} {P : Nat → Pip} {K : Nat} {D : Nat → Int} {r l : Int} (h : fvC n N m P K D r l = 0) (hN : ∀ i, i < n → (N i).s.size ≤ 9223372036854775807) (hK : K ≤ 2000000) : ∀ w v va, NetAt w v n N m P 0 w.heap.size → Sl w va K D 0 w.heap.size → Calls Tryz.prog 26 #[v, va, .int .i64 r, .int .i64 l] w (LIPost w n (xl n m P D r l) 0) := by
  intro w v va hn hv
  have := forestLevelsI_any w v n N m P 0 _ hn (Nat.le_refl _) hN va K D 0 _ hv (Nat.le_refl _) (by omega) r l
  have hfn : fvN n N m P K D r l = n := by unfold fvN; rw [if_pos h]
  rw [h, hfn] at this
  exact this
theorem in_call {n : Nat} {N : Nat → Nod} {m : Nat} {P : Nat → Pip} (hB : netB n N m P = true) (x : Nat → Int) (hN : ∀ i, i < n → (N i).s.size ≤ 9223372036854775807) : ∀ w v va, NetAt w v n N m P 0 w.heap.size → Sl w va n x 0 w.heap.size → Calls Tryz.prog 27 #[v, va] w (BPost w (decide ((fl (inB N x) n).length = n))) := by
  intro w v va hn hv
  have hz := net_sz hB
  have := isWithinI_any w v n N m P 0 _ hn (Nat.le_refl _) hN va n x 0 _ hv (Nat.le_refl _) (by omega)
  have hi : iwB n N m P n x = decide ((fl (inB N x) n).length = n) := by
    unfold iwB
    rw [hB, decide_eq_true (rfl : n = n)]
    rfl
  rw [hi] at this
  exact this
theorem tnFacts (n : Nat) (N : Nat → Nod) (m : Nat) (P : Nat → Pip) (K : Nat) (D : Nat → Int) (r l : Int) (hN : ∀ i, i < n → (N i).s.size ≤ 9223372036854775807) (hn : n ≤ 1000) (hK : K ≤ 2000000) :
    ∃ (tn : Nat) (td : Nat → Int) (tc ms : Int), tn ≤ 1000 ∧ (∀ w v va, NetAt w v n N m P 0 w.heap.size → Sl w va K D 0 w.heap.size → Calls Tryz.prog 17 #[v, va, .int .i64 r, .int .i64 l] w (LIPost w tn td tc)) ∧ (∀ w v va, NetAt w v n N m P 0 w.heap.size → Sl w va K D 0 w.heap.size → Calls Tryz.prog 16 #[v, va, .int .i64 r, .int .i64 l] w (LIPost w tn td tc)) ∧ (∀ w v va, NetAt w v n N m P 0 w.heap.size → Sl w va K D 0 w.heap.size → Calls Tryz.prog 29 #[v, va, .int .i64 r, .int .i64 l] w (IIPost w ms tc)) ∧ (∀ w v va, NetAt w v n N m P 0 w.heap.size → Sl w va K D 0 w.heap.size → Calls Tryz.prog 30 #[v, va, .int .i64 r, .int .i64 l] w (IIPost w ms tc)) ∧
      (tc = 0 → ∃ (x : Nat → Int) (ra rb rc : Int), (∀ w v va, NetAt w v n N m P 0 w.heap.size → Sl w va K D 0 w.heap.size → Calls Tryz.prog 26 #[v, va, .int .i64 r, .int .i64 l] w (LIPost w n x 0)) ∧ (∀ w v va, NetAt w v n N m P 0 w.heap.size → Sl w va K D 0 w.heap.size → Calls Tryz.prog 13 #[v, va, .int .i64 r] w (IIIPost w ra rb rc)) ∧ (∀ w v va, NetAt w v n N m P 0 w.heap.size → Sl w va n x 0 w.heap.size → Calls Tryz.prog 27 #[v, va] w (BPost w (decide (ms = 0)))) ∧ (rc = 0 → (ms = 0 ↔ ra ≤ l ∧ l ≤ rb) ∧ (l = ra ∨ l = rb → 0 < tn))) := by
  refine ⟨tnN n N m P K D r l, tnD n N m P D r l, fvC n N m P K D r l, msA n N m P K D r l, ?_, fun w v va h hv => tightNodesI_any w v n N m P 0 _ h (Nat.le_refl _) hN va K D 0 _ hv (Nat.le_refl _) (by omega) r l, fun w v va h hv => tightNodesS_any w v n N m P 0 _ h (Nat.le_refl _) hN va K D 0 _ hv (Nat.le_refl _) (by omega) r l, fun w v va h hv => missedByI_any w v n N m P 0 _ h (Nat.le_refl _) hN va K D 0 _ hv (Nat.le_refl _) (by omega) r l, fun w v va h hv => missedByS_any w v n N m P 0 _ h (Nat.le_refl _) hN va K D 0 _ hv (Nat.le_refl _) (by omega) r l, fun h0 => ?_⟩
  · unfold tnN
    have := fl_le (tiB N (xl n m P D r l)) n
    split <;> omega
  obtain ⟨hB, hKm, hn1, hn24, hr0, hr1, _, _, _, _⟩ := fv_ok h0
  have eM : msA n N m P K D r l = mxF (miF N (xl n m P D r l)) 0 n := by unfold msA; rw [if_pos h0]
  have eT : tnN n N m P K D r l = (fl (tiB N (xl n m P D r l)) n).length := by unfold tnN; rw [if_pos h0]
  refine ⟨xl n m P D r l, rrA n N m P K D r, rrZ n N m P K D r, rrC n N m P K D r, lev_call h0 hN hK, fun w v va h hv => rootRangeI_any w v n N m P 0 _ h (Nat.le_refl _) hN va K D 0 _ hv (Nat.le_refl _) (by omega) r, fun w v va h hv => ?_, fun hc => ?_⟩
  · have := in_call hB (xl n m P D r l) hN w v va h hv
    have e : decide ((fl (inB N (xl n m P D r l)) n).length = n) = decide (msA n N m P K D r l = 0) := decide_eq_decide.2 (by rw [eM]; exact mis_in.symm)
    rw [e] at this
    exact this
  · have eA : rrA n N m P K D r = mxF (loF N (xl n m P D r 0)) (loF N (xl n m P D r 0) 0) n := by unfold rrA; rw [if_pos hc]; rfl
    have eZ : rrZ n N m P K D r = mnF (hiF N (xl n m P D r 0)) (hiF N (xl n m P D r 0) 0) n := by unfold rrZ; rw [if_pos hc]; rfl
    rw [eA, eZ, eM, eT, mis_in, rng_in (x := xl n m P D r 0) (by omega) l (fun j _ => xl_shift n m P D r l j)]
    exact ⟨Iff.rfl, fun h => tight_end (x := xl n m P D r 0) (by omega) l (fun j _ => xl_shift n m P D r l j) h⟩
set_option maxRecDepth 100000 in
set_option maxHeartbeats 20000000 in
theorem walk (v : Value) (w : World) (hc : CodeArg w v) :
    Calls Tryz.prog 7 #[v] w fun e w' => e = .returned (.bool true) ∧ Below w.heap.size w w' := by
  obtain ⟨p, len, cap, rfl, hlen, hcode⟩ := hc
  by_cases h4 : (4096 : Int) < len
  · clear hcode
    go_enter Tryz.func7, Tryz.ntmps7
    go_wp2_with (go_at_call 23; refine (draw.big_any _ _ _ _).mono ?_; rintro e w' ⟨rfl, rfl⟩)
    go_ret
    exact ⟨rfl, Below.refl _ _⟩
  have hc := hcode (by omega)
  clear hcode
  go_enter Tryz.func7, Tryz.ntmps7
  go_wp2_with (go_at_call 23; refine (draw.big_any _ _ _ _).mono ?_; rintro e w' ⟨rfl, rfl⟩)
  refine (draw.drawTightNodes w _ len hc).mono ?_
  rintro e w1 ⟨v, n, m, N, P, b1, b2, vl, K, D, r, l, rfl, hn, hm, hK, hnm, o1, l1, l2, hL1, C1⟩
  obtain ⟨tn, td, tc, ms, htn, ti, ts, mi, mv, hz⟩ := tnFacts n N m P K D r l hnm hn (by omega)
  have TI := Lib.hid ti
  have TS := Lib.hid ts
  have MI := Lib.hid mi
  have MV := Lib.hid mv
  have HZ := Lib.hid hz
  clear ti ts mi mv hz
  clear hc
  obtain ⟨pl, cl, rfl⟩ := draw.sl_sh hL1
  have hb2 : (tc != tc) = false := by simp
  have hb3 : (ms != ms) = false := by simp
  have lxx := o1.lts
  obtain ⟨sx1, sx2, sx3, sx4, rfl⟩ := o1.shape
  go_wp2_with fail
  have bb := mem.below_new w1 (.cells #[.slice sx1 n sx2, .slice sx3 m sx4] 33)
  have B_x := boxed w1 (.slice sx1 n sx2) (.slice sx3 m sx4) 33
  have hs2 := bb.size
  have C2 := belowNext C1 bb
  have L2 := hL1.next bb
  have x2 := o1.next bb
  clear bb C1 hL1 o1
  generalize hW2 : w1.alloc (Obj.cells #[.slice sx1 n sx2, .slice sx3 m sx4] 33) = w2 at *
  clear hW2
  have Bx2 := B_x
  clear B_x
  have lBx := Bx2.lt
  refine (TI.out _ _ _ x2.net L2.zero).mono ?_
  rintro e w3 ⟨xA, gA, rfl, oA, lA, bb⟩
  have hs3 := bb.size
  have C3 := belowNext C2 bb
  have L3 := L2.next bb
  have x3 := x2.next bb
  have Bx3 := Bx2.next bb
  clear bb C2 L2 x2 Bx2
  have lxA := oA.lt
  obtain ⟨sA1, sA2, rfl⟩ := oA.shape
  have qBx0 := Bx3.b0
  have qBx1 := Bx3.b1
  have qBx2 := Bx3.lt
  go_wp2_with fail
  refine (TS.out _ _ _ x3.net L3.zero).mono ?_
  rintro e w4 ⟨xB, gB, rfl, oB, lB, bb⟩
  have hs4 := bb.size
  have C4 := belowNext C3 bb
  have L4 := L3.next bb
  have x4 := x3.next bb
  have Bx4 := Bx3.next bb
  have A4 := oA.next bb
  clear qBx0 qBx1 qBx2
  clear bb C3 L3 x3 Bx3 oA
  have lxB := oB.lt
  obtain ⟨sB1, sB2, rfl⟩ := oB.shape
  have qBx0 := Bx4.b0
  have qBx1 := Bx4.b1
  have qBx2 := Bx4.lt
  go_wp2_with fail
  refine (MI.out _ _ _ x4.net L4.zero).mono ?_
  rintro e w5 ⟨rfl, bb⟩
  have hs5 := bb.size
  have C5 := belowNext C4 bb
  have L5 := L4.next bb
  have x5 := x4.next bb
  have Bx5 := Bx4.next bb
  have A5 := A4.next bb
  have B5 := oB.next bb
  clear qBx0 qBx1 qBx2
  clear bb C4 L4 x4 Bx4 A4 oB
  have qBx0 := Bx5.b0
  have qBx1 := Bx5.b1
  have qBx2 := Bx5.lt
  go_wp2_with fail
  refine (MV.out _ _ _ x5.net L5.zero).mono ?_
  rintro e w6 ⟨rfl, bb⟩
  have hs6 := bb.size
  have C6 := belowNext C5 bb
  have L6 := L5.next bb
  have x6 := x5.next bb
  have Bx6 := Bx5.next bb
  have A6 := A5.next bb
  have B6 := B5.next bb
  clear qBx0 qBx1 qBx2
  clear bb C5 L5 x5 Bx5 A5 B5
  have qBx0 := Bx6.b0
  have qBx1 := Bx6.b1
  have qBx2 := Bx6.lt
  go_wp2_with fail
  refine (likeInts_any _ _ _ tn td 0 w6.heap.size 0 w6.heap.size (A6.cs (.inr rfl) (Nat.le_refl _)) (B6.cs (.inr rfl) (Nat.le_refl _))).mono ?_
  rintro e w7 ⟨rfl, bb⟩
  have hs7 := bb.size
  have C7 := belowNext C6 bb
  have L7 := L6.next bb
  have x7 := x6.next bb
  have Bx7 := Bx6.next bb
  have A7 := A6.next bb
  have B7 := B6.next bb
  clear qBx0 qBx1 qBx2
  clear bb C6 L6 x6 Bx6 A6 B6
  clear B7
  by_cases hrc : tc = 0
  · subst hrc
    obtain ⟨x, ra, rb, rc, q1, q2, q3, q4⟩ := HZ.out (by trivial)
    have Q1 := Lib.hid q1
    have Q2 := Lib.hid q2
    have Q3 := Lib.hid q3
    have Q4 := Lib.hid q4
    clear q1 q2 q3 q4
    clear HZ TI TS MI MV
    have qBx0 := Bx7.b0
    have qBx1 := Bx7.b1
    have qBx2 := Bx7.lt
    go_wp2_with fail
    refine (Q1.out _ _ _ x7.net L7.zero).mono ?_
    rintro e w8 ⟨xX, gX, rfl, oX, lX, bb⟩
    have hs8 := bb.size
    have C8 := belowNext C7 bb
    have L8 := L7.next bb
    have x8 := x7.next bb
    have Bx8 := Bx7.next bb
    have A8 := A7.next bb
    clear qBx0 qBx1 qBx2
    clear bb C7 L7 x7 Bx7 A7
    have lxX := oX.lt
    obtain ⟨sX1, sX2, rfl⟩ := oX.shape
    have qBx0 := Bx8.b0
    have qBx1 := Bx8.b1
    have qBx2 := Bx8.lt
    go_wp2_with fail
    refine (Q2.out _ _ _ x8.net L8.zero).mono ?_
    rintro e w9 ⟨rfl, bb⟩
    have hs9 := bb.size
    have C9 := belowNext C8 bb
    have L9 := L8.next bb
    have x9 := x8.next bb
    have Bx9 := Bx8.next bb
    have A9 := A8.next bb
    have X9 := oX.next bb
    clear qBx0 qBx1 qBx2
    clear bb C8 L8 x8 Bx8 A8 oX
    have qBx0 := Bx9.b0
    have qBx1 := Bx9.b1
    have qBx2 := Bx9.lt
    go_wp2_with fail
    refine (Q3.out _ _ _ x9.net (owns_sl X9)).mono ?_
    rintro e w10 ⟨rfl, bb⟩
    have hs10 := bb.size
    have C10 := belowNext C9 bb
    have L10 := L9.next bb
    have x10 := x9.next bb
    have Bx10 := Bx9.next bb
    have A10 := A9.next bb
    have X10 := X9.next bb
    clear qBx0 qBx1 qBx2
    clear bb C9 L9 x9 Bx9 A9 X9
    have hms : (ms == 0) = decide (ms = 0) := by rw [Bool.eq_iff_iff, beq_iff_eq, decide_eq_true_eq]
    have hbb : (decide (ms = 0) != decide (ms = 0)) = false := by simp
    by_cases hrc : rc = 0
    · subst hrc
      obtain ⟨hiff, hpos⟩ := Q4.out (by trivial)
      have HPOS := Lib.hid hpos
      have HIFF := Lib.hid hiff
      clear hiff hpos Q4
      by_cases hc1 : ra ≤ l
      ·
        by_cases hc2 : l ≤ rb
        ·
          by_cases he1 : l = ra
          ·
            have d1 : decide (ra ≤ l) = true := decide_eq_true hc1
            have d2 : decide (l ≤ rb) = true := decide_eq_true hc2
            have d0 : decide (ms = 0) = true := decide_eq_true (HIFF.out.2 ⟨hc1, hc2⟩)
            have d3 : (l != ra) = false := by simp [he1]
            have d5 : decide (0 < tn) = true := decide_eq_true (HPOS.out (.inl he1))
            rw [d0] at hms hbb
            clear hc1 he1 hc2
            rw [d0]
            have qBx0 := Bx10.b0
            have qBx1 := Bx10.b1
            have qBx2 := Bx10.lt
            go_wp2_with fail
            go_ret
            exact ⟨rfl, C10⟩
          ·
            by_cases he2 : l = rb
            ·
              have d1 : decide (ra ≤ l) = true := decide_eq_true hc1
              have d2 : decide (l ≤ rb) = true := decide_eq_true hc2
              have d0 : decide (ms = 0) = true := decide_eq_true (HIFF.out.2 ⟨hc1, hc2⟩)
              have d3 : (l != ra) = true := by simp [he1]
              have d4 : (l != rb) = false := by simp [he2]
              have d5 : decide (0 < tn) = true := decide_eq_true (HPOS.out (.inr he2))
              rw [d0] at hms hbb
              clear hc1 he1 hc2 he2
              rw [d0]
              have qBx0 := Bx10.b0
              have qBx1 := Bx10.b1
              have qBx2 := Bx10.lt
              go_wp2_with fail
              go_ret
              exact ⟨rfl, C10⟩
            ·
              have d1 : decide (ra ≤ l) = true := decide_eq_true hc1
              have d2 : decide (l ≤ rb) = true := decide_eq_true hc2
              have d0 : decide (ms = 0) = true := decide_eq_true (HIFF.out.2 ⟨hc1, hc2⟩)
              have d3 : (l != ra) = true := by simp [he1]
              have d4 : (l != rb) = true := by simp [he2]
              rw [d0] at hms hbb
              clear hc1 he1 hc2 he2
              rw [d0]
              have qBx0 := Bx10.b0
              have qBx1 := Bx10.b1
              have qBx2 := Bx10.lt
              go_wp2_with fail
              go_ret
              exact ⟨rfl, C10⟩
        ·
          by_cases he1 : l = ra
          ·
            have d1 : decide (ra ≤ l) = true := decide_eq_true hc1
            have d2 : decide (l ≤ rb) = false := decide_eq_false hc2
            have d0 : decide (ms = 0) = false := decide_eq_false (fun h => hc2 (HIFF.out.1 h).2)
            have d3 : (l != ra) = false := by simp [he1]
            have d5 : decide (0 < tn) = true := decide_eq_true (HPOS.out (.inl he1))
            rw [d0] at hms hbb
            clear hc1 he1 hc2
            rw [d0]
            have qBx0 := Bx10.b0
            have qBx1 := Bx10.b1
            have qBx2 := Bx10.lt
            go_wp2_with fail
            go_ret
            exact ⟨rfl, C10⟩
          ·
            by_cases he2 : l = rb
            ·
              have d1 : decide (ra ≤ l) = true := decide_eq_true hc1
              have d2 : decide (l ≤ rb) = false := decide_eq_false hc2
              have d0 : decide (ms = 0) = false := decide_eq_false (fun h => hc2 (HIFF.out.1 h).2)
              have d3 : (l != ra) = true := by simp [he1]
              have d4 : (l != rb) = false := by simp [he2]
              have d5 : decide (0 < tn) = true := decide_eq_true (HPOS.out (.inr he2))
              rw [d0] at hms hbb
              clear hc1 he1 hc2 he2
              rw [d0]
              have qBx0 := Bx10.b0
              have qBx1 := Bx10.b1
              have qBx2 := Bx10.lt
              go_wp2_with fail
              go_ret
              exact ⟨rfl, C10⟩
            ·
              have d1 : decide (ra ≤ l) = true := decide_eq_true hc1
              have d2 : decide (l ≤ rb) = false := decide_eq_false hc2
              have d0 : decide (ms = 0) = false := decide_eq_false (fun h => hc2 (HIFF.out.1 h).2)
              have d3 : (l != ra) = true := by simp [he1]
              have d4 : (l != rb) = true := by simp [he2]
              rw [d0] at hms hbb
              clear hc1 he1 hc2 he2
              rw [d0]
              have qBx0 := Bx10.b0
              have qBx1 := Bx10.b1
              have qBx2 := Bx10.lt
              go_wp2_with fail
              go_ret
              exact ⟨rfl, C10⟩
      ·
        by_cases he1 : l = ra
        ·
          have d1 : decide (ra ≤ l) = false := decide_eq_false hc1
          have d0 : decide (ms = 0) = false := decide_eq_false (fun h => hc1 (HIFF.out.1 h).1)
          have d3 : (l != ra) = false := by simp [he1]
          have d5 : decide (0 < tn) = true := decide_eq_true (HPOS.out (.inl he1))
          rw [d0] at hms hbb
          clear hc1 he1
          rw [d0]
          have qBx0 := Bx10.b0
          have qBx1 := Bx10.b1
          have qBx2 := Bx10.lt
          go_wp2_with fail
          go_ret
          exact ⟨rfl, C10⟩
        ·
          by_cases he2 : l = rb
          ·
            have d1 : decide (ra ≤ l) = false := decide_eq_false hc1
            have d0 : decide (ms = 0) = false := decide_eq_false (fun h => hc1 (HIFF.out.1 h).1)
            have d3 : (l != ra) = true := by simp [he1]
            have d4 : (l != rb) = false := by simp [he2]
            have d5 : decide (0 < tn) = true := decide_eq_true (HPOS.out (.inr he2))
            rw [d0] at hms hbb
            clear hc1 he1 he2
            rw [d0]
            have qBx0 := Bx10.b0
            have qBx1 := Bx10.b1
            have qBx2 := Bx10.lt
            go_wp2_with fail
            go_ret
            exact ⟨rfl, C10⟩
          ·
            have d1 : decide (ra ≤ l) = false := decide_eq_false hc1
            have d0 : decide (ms = 0) = false := decide_eq_false (fun h => hc1 (HIFF.out.1 h).1)
            have d3 : (l != ra) = true := by simp [he1]
            have d4 : (l != rb) = true := by simp [he2]
            rw [d0] at hms hbb
            clear hc1 he1 he2
            rw [d0]
            have qBx0 := Bx10.b0
            have qBx1 := Bx10.b1
            have qBx2 := Bx10.lt
            go_wp2_with fail
            go_ret
            exact ⟨rfl, C10⟩
    · have hrc' : (rc != 0) = true := by simpa using hrc
      clear hrc Q4
      cases hd0 : decide (ms = 0)
      ·
        rw [hd0] at hms hbb
        have qBx0 := Bx10.b0
        have qBx1 := Bx10.b1
        have qBx2 := Bx10.lt
        go_wp2_with fail
        go_ret
        exact ⟨rfl, C10⟩
      ·
        rw [hd0] at hms hbb
        have qBx0 := Bx10.b0
        have qBx1 := Bx10.b1
        have qBx2 := Bx10.lt
        go_wp2_with fail
        go_ret
        exact ⟨rfl, C10⟩
  · have hrc' : (tc != 0) = true := by simpa using hrc
    clear hrc
    have qBx0 := Bx7.b0
    have qBx1 := Bx7.b1
    have qBx2 := Bx7.lt
    go_wp2_with fail
    go_ret
    exact ⟨rfl, C7⟩

set_option maxRecDepth 100000 in
theorem lifted (os : Os) (started : os.Started) (H : Type) (enc : TypeId × Value → H) :
    ReturnsInHanded {} Tryz.checked os 7 .any (Rows.fnTightNodesSpec.pre6 enc Tryz.prog Tryz.f7 Rows.fnTightNodesRow.domain false) (Rows.fnTightNodesSpec.post enc Tryz.prog Tryz.f7 false true false false) := by
  refine returnsInHanded_of_change (C := Tryz.checked) own started (by kernel_rfl) Tryz.func7
    (ChangeSpec.witness6 (enc := enc) (C := Tryz.checked) false ⟨#[], #[.slice none 0 0], []⟩ 8 (by kernel_rfl) (by kernel_rfl) (by kernel_rfl) (by kernel_rfl)) ?_
  intro W base args ds gs before hval0 hW hcnd _
  have hval : ∀ (j : Nat) t v, Tryz.f7.params[j]? = some t → args[j]? = some v → Value.okWide Tryz.prog W .any base t v := hval0
  have hW' := hW
  obtain ⟨p, q, hA0, hV, rfl, hfz, hnd⟩ := hW
  have hA : DataW.TrodAll enc Tryz.prog W 0 (fun _ => true) true Tryz.f7.params.toList args.toList ds p := hA0
  rw [Tryz.params7] at hA hval
  obtain ⟨v0, vs0, d0, ds0, p0, q0, hargs, rfl, rfl, h0, r0⟩ := trodAll_cons hA
  obtain ⟨rfl, rfl, rfl⟩ := trodAll_nil r0
  obtain rfl : args = #[v0] := by cases args; simp_all
  obtain ⟨rfl, rfl⟩ := trodVars_none hV
  have hc := open_code (hval 0 46 v0 rfl rfl) h0
  refine (walk v0 W hc).mono fun e W' ⟨he, hg⟩ => ?_
  subst he
  exact ⟨_, rfl, law.law_post hW' hg laidOut (by kernel_rfl) rfl rfl (by kernel_rfl) Tryz.underlying4⟩

theorem over : Rows.fnTightNodesRow.holds Tryz.pinned (OpenSpec.ofChange Rows.fnTightNodesSpec) :=
  OpenClaim.holds_of_wide 7 Tryz.f7 rfl rfl rfl rfl rfl rfl rfl ⟨rfl, rfl, rfl, rfl, rfl⟩ rfl rfl rfl rfl rfl (by kernel_rfl) Tryz.func7 (by kernel_rfl)
    (of_decide_eq_true (by kernel_rfl)) (by unfold Func.isWrapper; first | (rw [if_pos (by decide +kernel)]; kernel_rfl) | (rw [if_neg (by decide +kernel)]; exact ⟨rfl, rfl⟩))
    (fun os started H enc _ => lifted os started H enc)

theorem proved : Rows.FnTightNodesSaid :=
  over
#print axioms proved
end Go.Proofs.YtebbnhnggjmbiaaGreat.fnTightNodes
