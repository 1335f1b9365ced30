/-
  The draw of a tree with supplies, a root and a level. Conditions: as each states.
-/
import Derived.Test.YtlcegdamjbpfpaaGreatRows
import Derived.Test.YtlcegdamjbpfpaaGreatDyM
import Derived.Test.YtlcegdamjbpfpaaGreatOux
import Derived.WalkKit
import Derived.ProofKit
import Derived.Lib.Hide
import Derived.OwnWalk
import Derived.Outline
import Derived.Deep.RegionHeld3
import Derived.Deep.RegionWith
import Derived.IntWalk
namespace Go.Proofs.YtlcegdamjbpfpaaGreat.draw
open Go.RowKit
set_option linter.unusedVariables false

def PipPost2 (w : World) (b : Nat) (cv : Value) (len : Nat) (x y : Int) (e : Ending) (w' : World) : Prop :=
  ∃ (q : mem.Pip) (i s : Int), e = .returned (.agg #[.int .i64 q.f, .int .i64 q.t, .int .i64 q.k, .int .i64 q.v, .int .i64 q.l]) ∧ ((q.f = x ∧ q.t = y) ∨ (q.f = y ∧ q.t = x)) ∧ Src w' b cv len i s ∧ mem.Upd (· = b) w w'
set_option maxHeartbeats 2000000 in
theorem pipe_any2 (w : World) (b B : Nat) (cv : Value) (len : Nat) (i s x y : Int) (h : Src w b cv len i s) (hc : CodeAt w cv len B) (hB : B ≤ b) :
    Calls Tryz.prog 100 #[.pointer (some ⟨b, 0, none⟩), .int .i64 x, .int .i64 y] w (PipPost2 w b cv len x y) := by
  have hlt := src_lt h
  have Z := mem.Ob.new w #[.int .i64 0, .int .i64 0, .int .i64 0, .int .i64 0, .int .i64 0] 48 5 (fun _ => .int .i64 0) rfl (by intro j hj; rcases (by omega : j = 0 ∨ j = 1 ∨ j = 2 ∨ j = 3 ∨ j = 4) with rfl | rfl | rfl | rfl | rfl <;> rfl)
  have h' := src_alloc h hlt (.cells #[.int .i64 0, .int .i64 0, .int .i64 0, .int .i64 0, .int .i64 0] 48)
  have hc' := codeAt_below hc ((Below.refl B w).alloc (by omega) (.cells #[.int .i64 0, .int .i64 0, .int .i64 0, .int .i64 0, .int .i64 0] 48))
  have U0 : mem.Upd (· = b) w (w.alloc (.cells #[.int .i64 0, .int .i64 0, .int .i64 0, .int .i64 0, .int .i64 0] 48)) := mem.Upd.of_below (mem.below_new _ _)
  go_enter Tryz.func100, Tryz.ntmps100
  go_wp2_with fail
  refine (next_any _ b B cv len i s 2 h' hc' hB (by omega)).mono ?_
  rintro e w1 ⟨v1, i1, s1, rfl, v0, hv1, h1, o1⟩
  have hc1 := codeAt_below hc' (only_below o1 hB)
  have Z1 := Z.keep (o1.block w.heap.size (by omega))
  have U1 := U0.trans (upd_of o1)
  clear U0 Z h' hc' h hc o1
  rcases (by omega : v1 = 0 ∨ v1 = 1) with rfl | rfl
  all_goals
    go_wp2_with fail
    refine (next_any _ b B cv len i1 s1 9 h1 hc1 hB (by omega)).mono ?_
    rintro e w2 ⟨v2, i2, s2, rfl, u0, hu1, h2, o2⟩
    have hc2 := codeAt_below hc1 (only_below o2 hB)
    have Z2 := Z1.keep (o2.block w.heap.size (by omega))
    have U2 := U1.trans (upd_of o2)
    clear U1 Z1 h1 hc1 o2
    go_wp2_with fail
    refine (next_any _ b B cv len i2 s2 100 h2 hc2 hB (by omega)).mono ?_
    rintro e w3 ⟨v3, i3, s3, rfl, t0, ht1, h3, o3⟩
    have hc3 := codeAt_below hc2 (only_below o3 hB)
    have Z3 := Z2.keep (o3.block w.heap.size (by omega))
    have U3 := U2.trans (upd_of o3)
    clear U2 Z2 h2 hc2 o3
    go_wp2_with fail
    refine (next_any _ b B cv len i3 s3 200 h3 hc3 hB (by omega)).mono ?_
    rintro e w4 ⟨v4, i4, s4, rfl, r0, hr1, h4, o4⟩
    have Z4 := Z3.keep (o4.block w.heap.size (by omega))
    have U4 := U3.trans (upd_of o4)
    clear U3 Z3 h3 hc3 o4
    have z0 := Z4.cell 0 (by omega)
    have z1 := Z4.cell 1 (by omega)
    have z2 := Z4.cell 2 (by omega)
    have z3 := Z4.cell 3 (by omega)
    have z4 := Z4.cell 4 (by omega)
    have f0 := Z4.free 0
    have f1 := Z4.free 1
    have f2 := Z4.free 2
    have f3 := Z4.free 3
    have f4 := Z4.free 4
    have HU := Lib.hid U4
    have HS := Lib.hid h4
    clear U4 h4 Z4
    go_wp2_with fail
  · have hO := (((((mem.Only.refl (w.heap.size) w4).setCell 0 (.int .i64 y)).setCell 1 (.int .i64 x)).setCell 2 (.int .i64 (1 + v2))).setCell 3 (.int .i64 v3)).setCell 4 (.int .i64 (1 + v4))
    have HS' := Lib.hid (src_upd HS.out (hO.block b (by omega)))
    have HU' := Lib.hid (upd_own HU.out hO (Nat.le_refl _))
    clear hO
    refine bodyPost_ret (v := .agg #[.int .i64 y, .int .i64 x, .int .i64 (1 + v2), .int .i64 v3, .int .i64 (1 + v4)]) (by simp [results, Tryz.results100, go_sem, z0, z1, z2, z3, z4]) rfl ⟨⟨y, x, 1 + v2, v3, 1 + v4⟩, i4, s4, rfl, .inr ⟨rfl, rfl⟩, HS'.out, HU'.out⟩
  · have hO := (((((mem.Only.refl (w.heap.size) w4).setCell 0 (.int .i64 x)).setCell 1 (.int .i64 y)).setCell 2 (.int .i64 (1 + v2))).setCell 3 (.int .i64 v3)).setCell 4 (.int .i64 (1 + v4))
    have HS' := Lib.hid (src_upd HS.out (hO.block b (by omega)))
    have HU' := Lib.hid (upd_own HU.out hO (Nat.le_refl _))
    clear hO
    refine bodyPost_ret (v := .agg #[.int .i64 x, .int .i64 y, .int .i64 (1 + v2), .int .i64 v3, .int .i64 (1 + v4)]) (by simp [results, Tryz.results100, go_sem, z0, z1, z2, z3, z4]) rfl ⟨⟨x, y, 1 + v2, v3, 1 + v4⟩, i4, s4, rfl, .inl ⟨rfl, rfl⟩, HS'.out, HU'.out⟩

/-- the pipes join different nodes among the first n -/
def Ends (P : Nat → mem.Pip) (m n : Nat) : Prop := ∀ a, a < m → (0 ≤ (P a).f ∧ (P a).f < n) ∧ (0 ≤ (P a).t ∧ (P a).t < n) ∧ (P a).f ≠ (P a).t
theorem Ends.more {P : Nat → mem.Pip} {m n n' : Nat} (h : Ends P m n) (hn : n ≤ n') : Ends P m n' := fun a ha => by
  have := h a ha
  exact ⟨⟨this.1.1, by omega⟩, ⟨this.2.1.1, by omega⟩, this.2.2⟩
theorem Ends.add {P : Nat → mem.Pip} {m n : Nat} {q : mem.Pip} (h : Ends P m n) (hq : (0 ≤ q.f ∧ q.f < n) ∧ (0 ≤ q.t ∧ q.t < n) ∧ q.f ≠ q.t) : Ends (addP P m q) (m + 1) n := fun a ha => by
  unfold addP
  split
  · next h1 => exact h a h1
  · exact hq
structure DrT (W1 : World) (b : Nat) (cv : Value) (len : Nat) (wr : World) (vN vP : Value) (n m : Nat) : Prop where
  ex : ∃ (N : Nat → mem.Nod) (P : Nat → mem.Pip) (i s : Int), RN W1.heap.size wr vN n (mem.nodC N) ∧ RP W1.heap.size wr vP m (mem.pipC P) ∧ (∀ i, i < n → (N i).s.size ≤ 9223372036854775807) ∧ Src wr b cv len i s ∧ mem.Upd (· = b) W1 wr ∧ Ends P m n
theorem DrT.addN {W1 wr w' : World} {b : Nat} {cv : Value} {len : Nat} {vN vP v' : Value} {n m : Nat} {N : Nat → mem.Nod} {P : Nat → mem.Pip} {q : mem.Nod} {i s : Int} (hb : b < W1.heap.size)
    (hN : RN W1.heap.size wr vN n (mem.nodC N)) (hP : RP W1.heap.size wr vP m (mem.pipC P)) (hs : ∀ i, i < n → (N i).s.size ≤ 9223372036854775807) (hq : q.s.size ≤ 9223372036854775807) (hS : Src wr b cv len i s) (hU : mem.Upd (· = b) W1 wr) (hE : Ends P m n)
    (h' : RN W1.heap.size w' v' (n + 1) (mem.nodC (draw.addN N n q))) (u : mem.Upd (fun x => some x = vN.ownBlock) wr w') : DrT W1 b cv len w' v' vP (n + 1) m := by
  refine ⟨_, P, i, s, h', hP.keep u (mem.rows_apart hP hN (by decide)), fun j hj => ?_, src_upd hS (u.block b (src_lt hS) (fun e => by have := (hN.own.lt b e.symm).1; omega)), upd_row hU hN (Nat.le_refl _) u, hE.more (by omega)⟩
  unfold draw.addN
  split
  · exact hs j (by assumption)
  · exact hq
theorem DrT.addP {W1 wr w' : World} {b : Nat} {cv : Value} {len : Nat} {vN vP v' : Value} {n m : Nat} {N : Nat → mem.Nod} {P : Nat → mem.Pip} {q : mem.Pip} {i s : Int} (hb : b < W1.heap.size)
    (hN : RN W1.heap.size wr vN n (mem.nodC N)) (hP : RP W1.heap.size wr vP m (mem.pipC P)) (hs : ∀ i, i < n → (N i).s.size ≤ 9223372036854775807) (hS : Src wr b cv len i s) (hU : mem.Upd (· = b) W1 wr) (hE : Ends P m n) (hq : (0 ≤ q.f ∧ q.f < n) ∧ (0 ≤ q.t ∧ q.t < n) ∧ q.f ≠ q.t)
    (h' : RP W1.heap.size w' v' (m + 1) (mem.pipC (draw.addP P m q))) (u : mem.Upd (fun x => some x = vP.ownBlock) wr w') : DrT W1 b cv len w' vN v' n (m + 1) :=
  ⟨N, _, i, s, hN.keep u (mem.rows_apart hN hP (by decide)), h', hs, src_upd hS (u.block b (src_lt hS) (fun e => by have := (hP.own.lt b e.symm).1; omega)), upd_row hU hP (Nat.le_refl _) u, hE.add hq⟩
theorem DrT.drawn {W1 wr w' : World} {b : Nat} {cv : Value} {len : Nat} {vN vP : Value} {n m : Nat} {i s : Int} (h : DrT W1 b cv len wr vN vP n m) (hb : b < W1.heap.size) (u : mem.Upd (· = b) wr w') (hS : Src w' b cv len i s) : DrT W1 b cv len w' vN vP n m := by
  obtain ⟨N, P, _, _, h1, h2, h3, _, h5, h6⟩ := h.ex
  exact ⟨N, P, i, s, h1.low u hb, h2.low u hb, h3, hS, h5.trans u, h6⟩
theorem DrT.net {W1 wr : World} {b : Nat} {cv : Value} {len : Nat} {vN vP : Value} {n m : Nat} (h : DrT W1 b cv len wr vN vP n m) : ∃ (N : Nat → mem.Nod) (P : Nat → mem.Pip) (i s : Int) (g1 g2 : Nat), mem.OwnS wr vN n 3 (mem.nodC N) g1 ∧ mem.OwnS wr vP m 5 (mem.pipC P) g2 ∧ (n = 0 ∨ m = 0 ∨ g1 ≠ g2) ∧ W1.heap.size ≤ g1 ∧ W1.heap.size ≤ g2 ∧ (∀ i, i < n → (N i).s.size ≤ 9223372036854775807) ∧ Src wr b cv len i s ∧ mem.Upd (· = b) W1 wr ∧ RN W1.heap.size wr vN n (mem.nodC N) ∧ RP W1.heap.size wr vP m (mem.pipC P) ∧ Ends P m n := by
  obtain ⟨N, P, i, s, hN, hP, hs, hS, hU, hE⟩ := h.ex
  obtain ⟨g1, a1, a2, a3⟩ := ownS2 hN
  obtain ⟨g2, c1, c2, c3⟩ := ownS2 hP
  refine ⟨N, P, i, s, g1, g2, a1, c1, ?_, a2, c2, hs, hS, hU, hN, hP, hE⟩
  rcases a3 with a3 | a3
  · rcases c3 with c3 | c3
    · refine .inr (.inr fun e => ?_)
      exact mem.rows_apart hN hP (by decide) g1 a3 (by rw [c3, e])
    · exact .inr (.inl c3)
  · exact .inl a3

set_option maxRecDepth 100000 in
set_option maxHeartbeats 8000000 in
theorem tree_any (w : World) (b B : Nat) (cv : Value) (len : Nat) (i s : Int) (h : Src w b cv len i s) (hc : CodeAt w cv len B) (hB : B ≤ b) :
    Calls Tryz.prog 58 #[.pointer (some ⟨b, 0, none⟩)] w (NLPost w b cv len) := by
  have hlt := src_lt h
  have h' := src_alloc h hlt (.cells #[.slice none 0 0, .slice none 0 0] 33)
  have HC := Lib.hid (codeAt_below hc ((Below.refl B w).alloc (by omega) (.cells #[.slice none 0 0, .slice none 0 0] 33)))
  have R1 := mem.boxed w (.slice none 0 0) (.slice none 0 0) 33
  have U0 := Lib.hid (mem.Upd.of_below (mem.below_new w (.cells #[.slice none 0 0, .slice none 0 0] 33)) (X := (· = b)))
  have hsz : w.heap.size + 1 ≤ (w.alloc (.cells #[.slice none 0 0, .slice none 0 0] 33)).heap.size := by simp
  go_enter Tryz.func58, Tryz.ntmps58
  go_wp2_with fail
  generalize hW : w.alloc (.cells #[.slice none 0 0, .slice none 0 0] 33) = Wa at *
  clear hW h hc
  have hb : b < Wa.heap.size := by omega
  refine (next_any _ b B cv len i s 8 h' HC.out hB (by omega)).mono ?_
  rintro e w0 ⟨v0, i0, s0, rfl, u0, hu0, h0, o0⟩
  have HC0 := Lib.hid (code_of HC.out (upd_of o0) hB hb)
  have U00 := Lib.hid (U0.out.trans (upd_of o0))
  have R0 := R1.keep (o0.block w.heap.size (by omega))
  have hz0 := o0.size
  have HR0 := Lib.hid R0
  clear h' o0 R1 U0 HC
  by_cases hv0 : v0 = 0
  · subst hv0
    go_wp2_with fail
    refine (six_any w0 b B cv len i0 s0 h0 HC0.out hB).mono ?_
    rintro e w1 ⟨v, n, m, N, P, b1, b2, vl, K, D, i1, s1, rfl, hn, hm, hK, hnm, hO, l1, l2, hL, hS, hU⟩
    obtain ⟨p0, c0, p1, c1, rfl⟩ := hO.shape
    obtain ⟨pl, cl, rfl⟩ := sl_sh hL
    have RX := R0.keep (hU.block w.heap.size (by omega) (by omega))
    have fx0 := RX.b0
    have fx1 := RX.b1
    have kx0 := RX.free 0
    have kx1 := RX.free 1
    have HF := Lib.hid (six_post (w := w) (hO) (by omega) (by omega) hn hm hK hnm hL (by omega) (Nat.le_refl _) hS (U00.out.trans hU) hlt)
    clear hO hL hS hU RX R0 h0
    go_wp2_with fail
    exact bodyPost_ret (v := .tuple #[.agg #[.slice p0 n c0, .slice p1 m c1], .slice pl K cl]) (by simp [results, Tryz.results58, go_sem, fx0, fx1]) rfl HF.out
  · have hv0' : (v0 == 0) = false := by simpa using hv0
    clear hv0
    go_wp2_with fail
    refine (next_any w0 b B cv len i0 s0 7 h0 HC0.out hB (by omega)).mono ?_
    rintro e w1 ⟨v1, i1, s1, rfl, t0, hv1, h1, o1⟩
    obtain ⟨c, rfl⟩ := Int.eq_ofNat_of_zero_le t0
    have hc6 : c ≤ 6 := by omega
    have U1 := upd_of o1
    have hs1 := U1.size
    have hb0 : b < w0.heap.size := by omega
    have HC1 := Lib.hid HC0.out
    clear t0 hv1 o1 R0 h0
    have D0 : DrT w0 b cv len ((w1.alloc (.cells #[] 92)).alloc (.cells #[] 48)) (.slice (some ⟨w1.heap.size, 0, none⟩) 0 0) (.slice (some ⟨w1.heap.size + 1, 0, none⟩) 0 0) 0 0 := by
      have r2 := mem.rowE_nil (B := w0.heap.size) (e := 48) (z := 5) (w1.alloc (.cells #[] 92)) (mem.pipC (fun _ => ⟨0, 0, 0, 0, 0⟩)) (by simp; omega)
      rw [show (w1.alloc (.cells #[] 92)).heap.size = w1.heap.size + 1 by simp] at r2
      exact ⟨fun _ => ⟨⟨#[]⟩, 0, 0⟩, fun _ => ⟨0, 0, 0, 0, 0⟩, i1, s1, (mem.rowE_nil (e := 92) (z := 3) w1 _ hs1).next (mem.below_new _ _), r2, fun i hi => by omega, src_alloc (src_alloc h1 (by omega) _) (by simp; omega) _, U1.trans (mem.Upd.of_below (mem.bel2 _ _ _)), fun a ha => by omega⟩
    clear h1 U1
    go_wp2_with fail
    generalize hW : (w1.alloc (.cells #[] 92)).alloc (.cells #[] 48) = W2 at *
    generalize hv : Value.slice (some ⟨w1.heap.size, 0, none⟩) 0 0 = vN0 at *
    generalize hv' : Value.slice (some ⟨w1.heap.size + 1, 0, none⟩) 0 0 = vP0 at *
    clear hW hv hv' hs1
    go_loopw [7, 5, 6] (fun i vN vP wr => ∃ (k m : Nat) (vN' vP' : Value), i = .int .i64 k ∧ vN' = vN ∧ vP' = vP ∧ k ≤ c + 1 ∧ m ≤ k ∧ DrT w0 b cv len wr vN vP k m) (fun i _ _ _ => c + 1 - (intOf i).toNat)
    case atStart => exact ⟨0, 0, _, _, rfl, rfl, rfl, Nat.zero_le _, Nat.le_refl _, D0⟩
    case round =>
      obtain ⟨k, m, vN, vP, rfl, rfl, rfl, hk, hm, D⟩ := hrel
      clear D0
      by_cases hlt' : k < c + 1
      · obtain ⟨N, P, i2, s2, hN, hP, hs, hS, hU, hE⟩ := D.ex
        clear D
        go_wp2_with fail
        refine (node_any wr b B cv len i2 s2 k hS (code_of HC1.out hU hB hb0) hB (by omega)).mono ?_
        rintro e w4 ⟨q, i4, s4, rfl, hq, hS4, U4⟩
        have hN4 := hN.low U4 hb0
        have hP4 := hP.low U4 hb0
        have hU4 := hU.trans U4
        obtain ⟨pN, cN, rfl⟩ := hN4.shape
        obtain ⟨v5, w5, hr, h5, u5⟩ := appNod _ w4 _ k N q hN4 hU4.size (by omega)
        have D5 := DrT.addN hb0 hN4 hP4 hs hq hS4 hU4 hE h5 u5
        clear hN hP hs hS hU U4 hN4 hP4 hU4 hS4 h5 u5 hE
        rcases Nat.eq_zero_or_pos k with hk0 | hk0
        · subst hk0
          go_wp2_with (at_builtin; refine mem.wpList_appT hr rfl _ _ rfl rfl rfl rfl ?_)
          clear hr
          go_roundw
          case rel => exact ⟨1, m, _, _, by go_num, rfl, rfl, by omega, by omega, D5⟩
          case measure => simp [intOf]
        · have hkI : (0 : Int) < (k : Int) := by omega
          go_wp2_with (at_builtin; refine mem.wpList_appT hr rfl _ _ rfl rfl rfl rfl ?_)
          clear hr
          obtain ⟨N5, P5, i5, s5, hN5, hP5, hs5, hS5, hU5, hE5⟩ := D5.ex
          refine (next_any w5 b B cv len i5 s5 k hS5 (code_of HC1.out hU5 hB hb0) hB (by omega)).mono ?_
          rintro e w7 ⟨v7, i7, s7, rfl, t7, ht7, hS7, o7⟩
          have D7 := D5.drawn hb0 (upd_of o7) hS7
          have hv7 : v7 < k := by omega
          clear D5 hN5 hP5 hs5 hS5 hU5 hE5 o7 hS7
          go_wp2_with fail
          obtain ⟨N5, P5, i5, s5, hN5, hP5, hs5, hS5, hU5, hE5⟩ := D7.ex
          refine (pipe_any2 w7 b B cv len i5 s5 v7 k hS5 (code_of HC1.out hU5 hB hb0) hB).mono ?_
          rintro e w8 ⟨q8, i8, s8, rfl, hq8, hS8, U8⟩
          have D8 := D7.drawn hb0 U8 hS8
          clear D7 hN5 hP5 hs5 hS5 hU5 hE5 U8 hS8
          obtain ⟨N8, P8, i8, s8, hN8, hP8, hs8, hS8, hU8, hE8⟩ := D8.ex
          obtain ⟨pP, cP, rfl⟩ := hP8.shape
          obtain ⟨v9, w9, hr9, h9, u9⟩ := appPip _ w8 _ m P8 q8 hP8 hU8.size (by omega)
          have D9 := DrT.addP hb0 hN8 hP8 hs8 hS8 hU8 hE8 (by rcases hq8 with ⟨e1, e2⟩ | ⟨e1, e2⟩ <;> rw [e1, e2] <;> exact ⟨⟨by omega, by omega⟩, ⟨by omega, by omega⟩, by omega⟩) h9 u9
          clear D8 hN8 hP8 hs8 hS8 hU8 hE8 h9 u9 hq8
          go_wp2_with (at_builtin; refine mem.wpList_appT hr9 rfl _ _ rfl rfl rfl rfl ?_)
          clear hr9
          go_roundw
          case rel => exact ⟨k + 1, m + 1, _, _, by go_num, rfl, rfl, by omega, by omega, D9⟩
          case measure => simp [intOf]; omega
      · obtain rfl : k = c + 1 := by omega
        clear hlt' hk
        obtain ⟨N, P, i5, s5, g1, g2, oN, oP, hd, l1, l2, hs5, hS5, hU5, rN, rP, hE⟩ := D.net
        obtain ⟨p1, c1, rfl⟩ := oN.shape
        obtain ⟨p2, c2, rfl⟩ := oP.shape
        have R5 := HR0.out.keep (hU5.block w.heap.size (by omega) (by omega))
        clear D rN rP
        have xN := mem.below_new wr (.cells #[.slice p1 (c + 1) c1, .slice p2 m c2] 33)
        have T6 := mem.boxed wr (.slice p1 (c + 1) c1) (.slice p2 m c2) 33
        have hO6 : mem.NetOwn (wr.alloc (.cells #[.slice p1 (c + 1) c1, .slice p2 m c2] 33)) (.agg #[.slice p1 (c + 1) c1, .slice p2 m c2]) (c + 1) N m P g1 g2 := (⟨_, _, rfl, oN, oP, hd⟩ : mem.NetOwn wr _ _ _ _ _ _ _).next xN
        have S6 := src_alloc hS5 (src_lt hS5) (.cells #[.slice p1 (c + 1) c1, .slice p2 m c2] 33)
        have U6 := Lib.hid (U00.out.trans ((hU5.trans (mem.Upd.of_below xN))))
        have R6 := R5.next xN
        have HC6 := Lib.hid (code_of HC1.out (hU5.trans (mem.Upd.of_below xN)) hB hb0)
        have hz6 : (wr.alloc (.cells #[.slice p1 (c + 1) c1, .slice p2 m c2] 33)).heap.size = wr.heap.size + 1 := by simp
        have hb5 := src_lt hS5
        have hzU := hU5.size
        have F0 := mem.Own.nilled (wr.alloc (.cells #[.slice p1 (c + 1) c1, .slice p2 m c2] 33)) (fun _ => 0)
        have x7 := mem.below_new (wr.alloc (.cells #[.slice p1 (c + 1) c1, .slice p2 m c2] 33)) (.cells #[] 2)
        simp only [World.size_alloc] at F0
        have D7 : Fl (wr.alloc (.cells #[.slice p1 (c + 1) c1, .slice p2 m c2] 33)) b cv len ((wr.alloc (.cells #[.slice p1 (c + 1) c1, .slice p2 m c2] 33)).alloc (.cells #[] 2)) (.slice (some ⟨wr.heap.size + 1, 0, none⟩) 0 0) 0 := ⟨fun _ => 0, wr.heap.size + 1, _, _, F0, fun j hj => by omega, by simp, src_upd S6 (x7.block b (by omega)), mem.Upd.of_below x7⟩
        have HO6 := Lib.hid hO6
        have HT6 := Lib.hid T6
        have HR6 := Lib.hid R6
        have HS6 := Lib.hid S6
        clear xN x7 F0 hO6 T6 R6 S6 R5 oN oP hS5 hU5
        go_wp2_with fail
        obtain ⟨T, hT⟩ : ∃ T, wr.heap.size = T := ⟨_, rfl⟩
        generalize hW : wr.alloc (.cells #[.slice p1 (c + 1) c1, .slice p2 m c2] 33) = w6 at *
        generalize hv : Value.slice (some ⟨wr.heap.size + 1, 0, none⟩) 0 0 = vl0 at *
        rw [hT] at HT6 ⊢
        have hT1 := Nat.le_antisymm_iff.1 hT
        clear hW hv hT
        have hTb : T ≠ b := by omega
        have hTl6 : T < w6.heap.size := by omega
        have hb6 : b < w6.heap.size := by omega
        go_loopw [9, 10] (fun ov iv wr => ∃ (k : Nat) (ov' : Value), ov' = ov ∧ iv = .int .i64 k ∧ k ≤ m ∧ Fl w6 b cv len wr ov' k) (fun _ iv _ => m - (intOf iv).toNat)
        case atStart => exact ⟨0, _, rfl, rfl, Nat.zero_le _, D7⟩
        case round =>
          obtain ⟨k, ov, rfl, rfl, hk, DF⟩ := hrel
          clear D7
          obtain ⟨D, g, i6, s6, hD, hDb, hg, hS6, hU6⟩ := DF.ex
          clear DF
          have k0' : (0 : Int) ≤ (k : Int) := Int.natCast_nonneg _
          by_cases hlt2 : k < m
          · have k1' : (k : Int) < (m : Int) := by omega
            go_wp2_with fail
            refine (next_any wr b B cv len i6 s6 60 hS6 (code_of HC6.out hU6 hB hb6) hB (by omega)).mono ?_
            rintro e w7 ⟨v7, i7, s7, rfl, t7, ht7, hS7, o7⟩
            obtain ⟨co, rfl⟩ := hD.shape
            have lg0 := hD.lt
            have hgb : g ≠ b := by omega
            have hD7 := hD.keep (o7.block g hgb)
            have hU7 := hU6.trans (upd_of o7)
            have hb1 : -4611686018427387904 ≤ v7 - 25 ∧ v7 - 25 ≤ 4611686018427387904 := by omega
            have lg := hD7.lt
            obtain ⟨v8, w8, g8, hr, ap⟩ := mem.app_run (w7.alloc (.cells #[.int .i64 (v7 - 25)] 2)) _ k _ g (v7 - 25) w7.heap.size (hD7.alloc _) (mem.cell_new1 w7 _) (by omega)
            have bl := ap.below (B := w6.heap.size) (by omega) (by rw [mem.szal]; omega)
            have xb : Below w6.heap.size w7 w8 := ((mem.below_new w7 _).mono hU7.size).trans bl.1
            have DF8 : Fl w6 b cv len w8 v8 (k + 1) := ⟨_, g8, i7, s7, ap.own, fun j hj => by
              unfold mem.upd
              split
              · omega
              · exact hDb j (by omega), bl.2, src_upd hS7 (xb.block b hb6), upd_bel hU7 xb⟩
            clear hD hDb hS6 hU6 hS7 o7 hD7 hU7 ap bl xb
            go_wp2_with (at_builtin; refine mem.wpList_app hr rfl _ _ rfl rfl rfl rfl ?_)
            clear hr
            go_roundw
            case rel => exact ⟨_, _, _, _, _, _, _, _, _, _, _, _, _, _, ⟨k + 1, _, rfl, by go_num, hlt2, DF8⟩, rfl⟩
            case measure => simp [intOf]; omega
          · obtain rfl : m = k := by omega
            have k1' : ¬ ((m : Int) < (m : Int)) := by omega
            have HO7 := Lib.hid (HO6.out.upd hU6 (.inr (by omega)) (.inr (by omega)))
            have T7 := HT6.out.keep (hU6.block T hTl6 hTb)
            have R7 := HR6.out.keep (hU6.block w.heap.size (by omega) (by omega))
            have lg := hD.lt
            have HD := Lib.hid (hD.sl.drewN 1)
            have HDb := Lib.hid hDb
            have hzq := hU6.size
            obtain ⟨co, rfl⟩ := hD.shape
            have HS7 := Lib.hid hS6
            have HU7 := Lib.hid (U6.out.trans hU6)
            have t0 := T7.b0
            have t1 := T7.b1
            have f0 := R7.b0
            have f1 := R7.b1
            have k0 := R7.free 0
            have k1 := R7.free 1
            have hTR : T ≠ w.heap.size := by omega
            clear hD hDb hS6 hU6
            go_wp2_with fail
            go_region_held3 (fun w' => w'.cell? ⟨T, 0, none⟩ = some (.slice p1 (c + 1) c1) ∧ w'.cell? ⟨T, 1, none⟩ = some (.slice p2 m c2)) (first | exact ⟨t0, t1⟩ | exact ⟨TX.b0, TX.b1⟩ | exact ⟨((((mem.Only.refl w.heap.size _).setCell _ _).setCell _ _).cell (a := ⟨T, 0, none⟩) hTR).trans TX.b0, ((((mem.Only.refl w.heap.size _).setCell _ _).setCell _ _).cell (a := ⟨T, 1, none⟩) hTR).trans TX.b1⟩ | go_keep)
              (first | (go_at_call 101; refine (mem.l05OutX_any wr.drew _ (c + 1) N m P 0 wr.heap.size HO7.out.drew.net (Nat.le_refl _) hs5 (by omega) (by omega) hE _ D g (g + 1) HD.out (by show g + 1 ≤ wr.heap.size; omega) HDb.out).mono ?_; rintro e wx ⟨v8, g8, rfl, hV8, lg8, x8⟩; have x8' := mem.below_dr0 x8; have TX := T7.below x8' (by omega); have RX := R7.below x8' (by omega); have fx0 := RX.b0; have fx1 := RX.b1; have kx0 := RX.free 0; have kx1 := RX.free 1))
            obtain ⟨c8, rfl⟩ := hV8.shape
            have lg8' : wr.heap.size ≤ g8 := lg8
            have l8 := hV8.lt
            have hz8 := x8'.size
            have HF := Lib.hid (six_post (w := w) (HO7.out.next x8') (by omega) (by omega) (by omega) (by omega) (by omega) hs5 hV8.sl (by omega) (by omega) (src_upd HS7.out (x8'.block b (src_lt HS7.out))) (HU7.out.trans (mem.Upd.of_below x8')) hlt)
            clear TX RX T7 R7 hV8 x8 x8'
            go_wp2_with fail
            exact bodyPost_ret (v := .tuple #[.agg #[.slice p1 (c + 1) c1, .slice p2 m c2], .slice (some ⟨g8, 0, none⟩) (c + 1) c8]) (by simp [results, Tryz.results58, go_sem, fx0, fx1]) rfl HF.out
set_option maxRecDepth 100000 in
set_option maxHeartbeats 8000000 in
theorem drawTreeLevels (w : World) (cv : Value) (len : Nat) (hc : CodeAt w cv len w.heap.size) : Calls Tryz.prog 25 #[cv] w (NLXYOnly w) := by
  have HC := Lib.hid hc
  have R1 := mem.boxed w (.slice none 0 0) (.slice none 0 0) 33
  have C1 := mem.below_new w (.cells #[.slice none 0 0, .slice none 0 0] 33)
  have hsz : (w.alloc (.cells #[.slice none 0 0, .slice none 0 0] 33)).heap.size = w.heap.size + 1 := by simp
  go_enter Tryz.func25, Tryz.ntmps25
  go_wp2_with fail
  generalize hW : w.alloc (.cells #[.slice none 0 0, .slice none 0 0] 33) = Wa at *
  clear hW hc
  replace hsz := Nat.le_antisymm_iff.1 hsz
  refine (from_any Wa cv len (by have := codeAt_below HC.out C1; rcases this with h | ⟨cb, co, cap, h1, h2, h3⟩; exact .inl h; exact .inr ⟨cb, co, cap, h1, by omega, h3⟩)).mono ?_
  rintro e w1 ⟨s1, rfl, hS1, B1, z1⟩
  obtain ⟨b, hbe⟩ : ∃ b, b = Wa.heap.size := ⟨_, rfl⟩
  rw [← hbe] at hS1 z1 ⊢
  replace hbe := Nat.le_antisymm_iff.1 hbe
  replace z1 := Nat.le_antisymm_iff.1 z1
  have C2 := mem.belowNext C1 B1
  have R2 := R1.next B1
  clear B1 C1 R1
  go_wp2_with fail
  refine (tree_any w1 b w.heap.size cv len 0 s1 hS1 (codeAt_below HC.out C2) (by omega)).mono ?_
  rintro e w2 ⟨v, n, m, N, P, b1, b2, vk, K, D, i2, s2, rfl, hn, hm, hK, hnm, hO, l1, l2, hL2, hS2, U2⟩
  obtain ⟨p0, c0, p1, c1, rfl⟩ := hO.shape
  obtain ⟨pk, ck, rfl⟩ := sl_sh hL2
  have xN := mem.below_new w2 (.cells #[.slice p0 n c0, .slice p1 m c1] 33)
  have C3 := Lib.hid ((C2.trans (U2.below (by omega) (by rintro x _ rfl; omega))).trans (xN.mono (by have := U2.size; omega)))
  have R3 := (R2.keep (U2.block w.heap.size (by omega) (by omega))).next xN
  have T3 := mem.boxed w2 (.slice p0 n c0) (.slice p1 m c1) 33
  have O3 := Lib.hid (hO.next xN)
  have S3 := src_alloc hS2 (src_lt hS2) (.cells #[.slice p0 n c0, .slice p1 m c1] 33)
  have hz3 : (w2.alloc (.cells #[.slice p0 n c0, .slice p1 m c1] 33)).heap.size = w2.heap.size + 1 := by simp
  have hb2 := src_lt hS2
  have hbT : b ≠ w2.heap.size := by omega
  have hbR : b ≠ w.heap.size := by omega
  have hTR : w2.heap.size ≠ w.heap.size := by omega
  have hl1 : b < b1 := by omega
  have hl2 : b < b2 := by omega
  have hU := U2.size
  have L3 := Lib.hid (hL2.below xN (Nat.le_refl _))
  clear hL2
  clear C2 R2 hO hS2 hS1 U2 xN
  have e0 := T3.b0
  have e1 := T3.b1
  go_wp2_with fail
  generalize hW : w2.alloc (.cells #[.slice p0 n c0, .slice p1 m c1] 33) = W3 at *
  clear hW
  refine (index_any W3 b w.heap.size cv len i2 s2 n S3 (codeAt_below HC.out C3.out) (by omega) (by omega)).mono ?_
  rintro e w4 ⟨x, i4, s4, rfl, x0, x1, S4, o4⟩
  have hz4 := o4.size
  have C4 := Lib.hid (C3.out.trans (only_below o4 (by omega)))
  have R4 := R3.keep (o4.block w.heap.size (by omega))
  have T4 := T3.keep (o4.block w2.heap.size (by omega))
  have O4 := Lib.hid (O3.out.upd (upd_of o4) (.inr (by omega)) (.inr (by omega)))
  have L4 := Lib.hid (sl_upd L3.out (upd_of o4) (by omega) (by omega))
  have hLw : w.heap.size ≤ w1.heap.size := by omega
  clear e0 e1 C3 R3 T3 O3 S3 o4 L3
  have t0 := T4.b0
  have t1 := T4.b1
  have f0 := R4.b0
  have f1 := R4.b1
  have k0 := R4.free 0
  have k1 := R4.free 1
  have HCd := Lib.hid (code_of (b := b) (B := w.heap.size) (codeAt_below HC.out C4.out) ⟨rfl, rfl, rfl, Nat.le_refl _, fun _ _ _ => rfl⟩ (by omega) (src_lt S4) : CodeAt w4.drew cv len w.heap.size)
  have hTT := T4.lt
  have hRR := R4.lt
  go_wp2_with fail
  go_region_held3 (fun w' => w'.cell? ⟨w2.heap.size, 0, none⟩ = some (.slice p0 n c0) ∧ w'.cell? ⟨w2.heap.size, 1, none⟩ = some (.slice p1 m c1)) (first | exact ⟨t0, t1⟩ | exact ⟨TY.b0, TY.b1⟩ | exact ⟨TX.b0, TX.b1⟩ | exact ⟨((((mem.Only.refl w.heap.size _).setCell _ _).setCell _ _).cell (a := ⟨w2.heap.size, 0, none⟩) hTR).trans TY.b0, ((((mem.Only.refl w.heap.size _).setCell _ _).setCell _ _).cell (a := ⟨w2.heap.size, 1, none⟩) hTR).trans TY.b1⟩ | exact ⟨((((mem.Only.refl w.heap.size _).setCell _ _).setCell _ _).cell (a := ⟨w2.heap.size, 0, none⟩) hTR).trans TX.b0, ((((mem.Only.refl w.heap.size _).setCell _ _).setCell _ _).cell (a := ⟨w2.heap.size, 1, none⟩) hTR).trans TX.b1⟩ | go_keep)
    (first | (go_at_call 49; refine (level_any _ b w.heap.size cv len i4 s4 (src_upd S4 rfl : Src w4.drew b cv len i4 s4) HCd.out (by omega)).mono ?_; rintro e wx ⟨y, ix, sx, rfl, hSx, Ux⟩; have TX := (T4.keep (Ux.block w2.heap.size hTT (by omega)) : mem.Ob wx w2.heap.size 2 _); have RX := (R4.keep (Ux.block w.heap.size hRR (by omega)) : mem.Ob wx w.heap.size 2 _); have fx0 := RX.b0; have fx1 := RX.b1; have kx0 := RX.free 0; have kx1 := RX.free 1))
  all_goals
    have hzd : w4.drew.heap.size = w4.heap.size := rfl
    have zx := Ux.size
    have hO := ((mem.Only.refl w.heap.size wx).setCell 0 (.slice p0 n c0)).setCell 1 (.slice p1 m c1)
    have HO := Lib.hid ((O4.out.drew.upd Ux (.inr (by omega)) (.inr (by omega))).upd (mem.Upd.of_only hO) (.inr (by omega)) (.inr (by omega)))
    have HB := Lib.hid (mem.below_only ((mem.below_dw C4.out).trans ((Ux).below (by omega) (by rintro x _ rfl; omega))) hO (by omega))
    have HLX := Lib.hid (((sl_upd (sl_drew L4.out) Ux (by omega) (by show _ ≤ w4.heap.size; omega)).only hO (.inl (by omega))).mono hLw (Nat.le_trans (by omega) (Nat.le_of_eq hO.size)))
    clear hO TX RX O4
    go_wp2_with fail
    refine bodyPost_ret (v := .tuple #[.agg #[.slice p0 n c0, .slice p1 m c1], .slice pk K ck, .int .i64 x, .int .i64 y]) (by simp [results, Tryz.results25, go_sem, fx0, fx1]) rfl ?_
    exact ⟨_, n, m, N, P, b1, b2, _, K, D, x, y, rfl, hn, hm, hK, hnm, HO.out, by omega, by omega, HLX.out, HB.out⟩
end Go.Proofs.YtlcegdamjbpfpaaGreat.draw
