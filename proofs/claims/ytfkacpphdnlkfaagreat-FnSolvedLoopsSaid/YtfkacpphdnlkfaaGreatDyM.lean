/-
  Several texts in one: Drl, Drc, Ouw, Dr6, Dr7, DrbM, Dr8.
-/
import Derived.Test.YtfkacpphdnlkfaaGreatRows
import Derived.Test.YtfkacpphdnlkfaaGreatDrG
import Derived.WalkKit
import Derived.ProofKit
import Derived.Lib.Hide
import Derived.OwnWalk
import Derived.Outline
import Derived.Test.YtfkacpphdnlkfaaGreatCsM
import Derived.Deep.Cut
import Derived.Deep.RegionHeld3
import Derived.Deep.RegionWith
import Derived.StillTailTactics
import Derived.Test.YtfkacpphdnlkfaaGreatBaM
import Derived.Test.YtfkacpphdnlkfaaGreatLfm
import Derived.IntWalk
namespace Go.Proofs.YtfkacpphdnlkfaaGreat.draw
open Go.RowKit
set_option linter.unusedVariables false

theorem upd_hi {X : Nat → Prop} {g : Nat} {w w1 w2 : World} (h : mem.Upd X w w1) (k : mem.Upd (fun x => x = g) w1 w2) (hg : w.heap.size ≤ g) : mem.Upd X w w2 :=
  ⟨k.os.trans h.os, k.tape.trans h.tape, k.output.trans h.output, Nat.le_trans h.size k.size, fun x hx hn => (k.block x (Nat.lt_of_lt_of_le hx h.size) (by omega)).trans (h.block x hx hn)⟩
theorem flatP {P : Nat → mem.Pip} {n : Nat} : ∀ u ∈ mem.flatL (mem.pipC P) n 5, u.oneCell' = true := by
  intro u hu
  unfold mem.flatL at hu
  obtain ⟨x, _, rfl⟩ := List.mem_map.1 hu
  unfold mem.pipC
  split <;> rfl
theorem appPips (W : World) (B B0 : Nat) (p : Option Addr) (m cap : Nat) (P : Nat → mem.Pip) (lo hi : Nat) (h0 : RP B W (.slice (some ⟨B0, 0, none⟩) 0 0) 0 (mem.pipC P)) (hB : B ≤ W.heap.size) (h : mem.Cs W (.slice p m cap) m 5 (mem.pipC P) lo hi) (hm : m ≤ 1000000) :
    ∃ v' w', Sem.run Tryz.prog (Builtin.append_ #[31, 31] 31 #[.slice (some ⟨B0, 0, none⟩) 0 0, .slice p m cap]) W = .ok v' w' ∧ RP B w' v' m (mem.pipC P) ∧ mem.Upd (fun x => x = B0) W w' := by
  obtain ⟨i0, hi0, hz0, hz1, hz2⟩ := info_parts mem.info_make_pipe
  obtain ⟨q, cq, hv, h1, h2, h3⟩ := h.ex
  injection hv with e1 _ e2
  subst e1 e2
  rcases Nat.eq_zero_or_pos m with rfl | hpos
  · refine ⟨.slice (some ⟨B0, 0, none⟩) 0 0, W, ?_, h0, ⟨rfl, rfl, rfl, Nat.le_refl _, fun _ _ _ => rfl⟩⟩
    rcases p with _ | a
    · simp [Builtin.append_, run_underlying Tryz.underlying31, sizeOf, typeInfo, hi0, Builtin.lenOf, Builtin.firstCells, storeCells]
    · have hf := run_firstCells_some (P := Tryz.prog) W i0.size 0 a 0 cap [] (by simp) (by intro j u hu; cases hu)
      simp [Builtin.append_, run_underlying Tryz.underlying31, sizeOf, typeInfo, hi0, Builtin.lenOf, hf, storeCells]
  · rcases h3 with h3 | ⟨b, o, rfl, g1, g2, g3⟩
    · omega
    obtain ⟨v', w', hr, ho, hgr, _⟩ := run_append_own (P := Tryz.prog) W B 31 31 100 i0 _ 5 40 Tryz.underlying31 hi0 hz0 hz1 hz2 (by kernel_rfl) (by omega) _ 0 _ h0.own ⟨b, o, none⟩ m cap (mem.flatL (mem.pipC P) m 5) (mem.flatL_len _ _ _) (mem.flatL_cell g3) flatP (by unfold maxLen; omega) (by omega) hB
    refine ⟨v', w', hr, ⟨?_⟩, ⟨hgr.os, hgr.tape, hgr.output, hgr.size, fun x hx hne => hgr.block x hx (by simp [Value.ownBlock]; exact hne)⟩⟩
    have e : mem.flatL (mem.pipC P) 0 5 = [] := by simp [mem.flatL]
    rw [e, List.nil_append, Nat.zero_add] at ho
    exact ho
/-- nodes and pipes while pipes are appended; a block below the pipes' row holds the drawn network -/
structure Dl (W1 : World) (b : Nat) (cv : Value) (len nb : Nat) (v0 v1 : Value) (wr : World) (vP : Value) (n m : Nat) : Prop where
  ex : ∃ (N : Nat → mem.Nod) (P : Nat → mem.Pip) (i s : Int), RN W1.heap.size wr v0 n (mem.nodC N) ∧ RP (nb + 1) wr vP m (mem.pipC P) ∧ (∀ i, i < n → (N i).s.size ≤ 9223372036854775807) ∧ Src wr b cv len i s ∧ mem.Upd (· = b) W1 wr ∧ mem.Ob wr nb 2 (mem.bx v0 v1)
theorem Dl.drawn {W1 wr w' : World} {b : Nat} {cv : Value} {len nb : Nat} {v0 v1 vP : Value} {n m : Nat} {i s : Int} (h : Dl W1 b cv len nb v0 v1 wr vP n m) (hb : b < W1.heap.size) (hnb : W1.heap.size ≤ nb) (u : mem.Upd (· = b) wr w') (hS : Src w' b cv len i s) : Dl W1 b cv len nb v0 v1 w' vP n m := by
  obtain ⟨N, P, _, _, h1, h2, h3, _, h5, h6⟩ := h.ex
  exact ⟨N, P, i, s, h1.low u hb, h2.low u (by omega), h3, hS, h5.trans u, h6.keep (u.block nb h6.lt (by omega))⟩
theorem Dl.addP {W1 wr w' : World} {b : Nat} {cv : Value} {len nb : Nat} {v0 v1 vP v' : Value} {n m : Nat} {N : Nat → mem.Nod} {P : Nat → mem.Pip} {q : mem.Pip} {i s : Int} (hb : b < W1.heap.size) (hnb : W1.heap.size ≤ nb)
    (hN : RN W1.heap.size wr v0 n (mem.nodC N)) (hP : RP (nb + 1) wr vP m (mem.pipC P)) (hs : ∀ i, i < n → (N i).s.size ≤ 9223372036854775807) (hS : Src wr b cv len i s) (hU : mem.Upd (· = b) W1 wr) (hO : mem.Ob wr nb 2 (mem.bx v0 v1))
    (h' : RP (nb + 1) w' v' (m + 1) (mem.pipC (draw.addP P m q))) (u : mem.Upd (fun x => some x = vP.ownBlock) wr w') : Dl W1 b cv len nb v0 v1 w' v' n (m + 1) :=
  ⟨N, _, i, s, hN.keep u (mem.rows_apart hN hP (by decide)), h', hs, src_upd hS (u.block b (src_lt hS) (fun e => by have := (hP.own.lt b e.symm).1; omega)), upd_row hU hP (by omega) u, hO.keep (u.block nb hO.lt (fun e => by have := (hP.own.lt nb e.symm).1; omega))⟩
theorem Dl.net {W1 wr : World} {b : Nat} {cv : Value} {len nb : Nat} {v0 v1 vP : Value} {n m : Nat} (h : Dl W1 b cv len nb v0 v1 wr vP n m) (hnb : W1.heap.size ≤ nb) : ∃ (N : Nat → mem.Nod) (P : Nat → mem.Pip) (i s : Int) (g1 g2 : Nat), mem.OwnS wr v0 n 3 (mem.nodC N) g1 ∧ mem.OwnS wr vP m 5 (mem.pipC P) g2 ∧ (n = 0 ∨ m = 0 ∨ g1 ≠ g2) ∧ W1.heap.size ≤ g1 ∧ W1.heap.size ≤ g2 ∧ (∀ i, i < n → (N i).s.size ≤ 9223372036854775807) ∧ Src wr b cv len i s ∧ mem.Upd (· = b) W1 wr ∧ mem.Ob wr nb 2 (mem.bx v0 v1) := by
  obtain ⟨N, P, i, s, hN, hP, hs, hS, hU, hO⟩ := h.ex
  obtain ⟨g1, a1, a2, a3⟩ := ownS2 hN
  obtain ⟨g2, c1, c2, c3⟩ := ownS2 hP
  refine ⟨N, P, i, s, g1, g2, a1, c1, ?_, a2, by omega, hs, hS, hU, hO⟩
  rcases a3 with a3 | a3
  · rcases c3 with c3 | c3
    · refine .inr (.inr fun e => ?_)
      exact mem.rows_apart hN hP (by decide) g1 a3 (by rw [c3, e])
    · exact .inr (.inl c3)
  · exact .inl a3
set_option maxRecDepth 100000 in
set_option maxHeartbeats 4000000 in
theorem loops_any (w : World) (b B : Nat) (cv : Value) (len : Nat) (i s : Int) (h : Src w b cv len i s) (hc : CodeAt w cv len B) (hB : B ≤ b) :
    Calls Tryz.prog 83 #[.pointer (some ⟨b, 0, none⟩)] w (AnyPost w b cv len) := by
  have hlt := src_lt h
  have h' := src_alloc h hlt (.cells #[.slice none 0 0, .slice none 0 0] 33)
  have HC := Lib.hid (codeAt_below hc ((Below.refl B w).alloc (by omega) (.cells #[.slice none 0 0, .slice none 0 0] 33)))
  have R1 := mem.boxed w (.slice none 0 0) (.slice none 0 0) 33
  have U0 := Lib.hid (mem.Upd.of_below (mem.below_new w (.cells #[.slice none 0 0, .slice none 0 0] 33)) (X := (· = b)))
  have hsz : w.heap.size + 1 ≤ (w.alloc (.cells #[.slice none 0 0, .slice none 0 0] 33)).heap.size := by simp
  go_enter Tryz.func83, Tryz.ntmps83
  go_wp2_with fail
  generalize hW : w.alloc (.cells #[.slice none 0 0, .slice none 0 0] 33) = Wa at *
  clear hW h hc
  have hb : b < Wa.heap.size := by omega
  refine (net_any Wa b B cv len i s h' HC.out hB).mono ?_
  rintro e w1 ⟨v, n, m, N, P, b1, b2, i1, s1, rfl, hn, hm, hn0, hnm, hO, l1, l2, hS1, U1, v0, v1, rfl, rN, rP⟩
  obtain ⟨p0, c0, rfl⟩ := rN.shape
  obtain ⟨p1, c1, rfl⟩ := rP.shape
  obtain ⟨u0, u1, he, _, gP⟩ := hO.net.ex
  simp only [Value.agg.injEq, Array.mk.injEq, List.cons.injEq, and_true] at he
  obtain ⟨rfl, rfl⟩ := he
  have hs1 := U1.size
  obtain ⟨w2, hw2⟩ : ∃ w2, w1.alloc (.cells #[.slice p0 n c0, .slice p1 m c1] 33) = w2 := ⟨_, rfl⟩
  have hs2 : w2.heap.size = w1.heap.size + 1 := by rw [← hw2]; simp
  have x2 : Below w1.heap.size w1 w2 := by rw [← hw2]; exact mem.below_new _ _
  have T2 := mem.boxed w1 (.slice p0 n c0) (.slice p1 m c1) 33
  rw [hw2] at T2
  obtain ⟨w3, hw3⟩ : ∃ w3, w2.alloc (.cells #[] 100) = w3 := ⟨_, rfl⟩
  have r3 := mem.rowE_nil (B := w1.heap.size + 1) (e := 100) (z := 5) w2 (mem.pipC P) (by omega)
  have x3 : Below w2.heap.size w2 w3 := by rw [← hw3]; exact mem.below_new _ _
  have x23 := x2.trans (x3.mono (by omega))
  have hs3 : w1.heap.size + 1 + 1 = w3.heap.size := by rw [← hw3]; simp [hs2]
  rw [hw3, hs2] at r3
  obtain ⟨v4, w4, hr, rP4, u4⟩ := appPips w3 (w1.heap.size + 1) (w1.heap.size + 1) p1 m c1 P 0 w1.heap.size r3 (by omega) (gP.below x23 (Nat.le_refl _)) (by omega)
  have hl4 := u4.size
  have D0 : Dl Wa b cv len w1.heap.size (.slice p0 n c0) (.slice p1 m c1) w4 v4 n m := ⟨N, P, i1, s1, (rN.next x23).keep u4 (fun k hk hx => by
      have := (rN.own.lt k hk).2
      omega), rP4, hnm, src_upd (src_upd hS1 (x23.block b (src_lt hS1))) (u4.block b (by have := src_lt hS1; omega) (by have := src_lt hS1; omega)), upd_hi (U1.trans (mem.Upd.of_below x23)) u4 (by omega), (T2.next x3).keep (u4.block w1.heap.size (by omega) (by omega))⟩
  have hcnt : (0 : Int) < (n : Int) := by omega
  have t2a := T2.b0
  have t2b := T2.b1
  have hnb : Wa.heap.size ≤ w1.heap.size := hs1
  clear rN rP hO gP hS1 U1 T2 r3 x2 x3 x23 rP4 u4 hs2 hs3
  subst hw3 hw2
  go_wp2_with (at_builtin; refine mem.wpList_appT hr rfl _ _ rfl rfl rfl rfl ?_)
  clear hr t2a t2b
  obtain ⟨N5, P5, i5, s5, hN5, hP5, hs5, hS5, hU5, hT5⟩ := D0.ex
  refine (next_any w4 b B cv len i5 s5 3 hS5 (code_of HC.out hU5 hB hb) hB (by omega)).mono ?_
  rintro e w6 ⟨v6, i6, s6, rfl, t0, ht, hS6, o6⟩
  have D6 := D0.drawn hb hnb (upd_of o6) hS6
  clear D0 hN5 hP5 hs5 hS5 hU5 hT5 o6 hS6
  obtain ⟨j0, rfl⟩ := Int.eq_ofNat_of_zero_le t0
  have hj0 : j0 ≤ 2 := by omega
  clear t0 ht
  go_wp2_with fail
  go_loopw [6, 5] (fun i vP wr => ∃ (j k : Nat) (vP' : Value), i = .int .i64 j ∧ vP' = vP ∧ j ≤ 2 ∧ k + j ≤ 102 ∧ Dl Wa b cv len w1.heap.size (.slice p0 n c0) (.slice p1 m c1) wr vP n k) (fun i _ _ => (intOf i).toNat)
  case atStart => exact ⟨j0, m, _, rfl, rfl, hj0, by omega, D6⟩
  case round =>
    obtain ⟨j, m', vP', rfl, rfl, hj, hmj, D⟩ := hrel
    clear D6
    rcases Nat.eq_zero_or_pos j with hj1 | hj1
    · subst hj1
      obtain ⟨N7, P7, i7, s7, g1, g2, o1, o2, hd, q1, q2, hs7, hS7, hU7, hT7⟩ := D.net hnb
      have R7 := R1.keep (hU7.block w.heap.size (by omega) (by omega))
      have f0 := R7.b0
      have f1 := R7.b1
      have k0 := R7.free 0
      have k1 := R7.free 1
      have t0 := hT7.b0
      have t1 := hT7.b1
      obtain ⟨p2, c2, rfl⟩ := o2.shape
      have hO := (((mem.Only.refl w.heap.size wr).setCell 0 (.slice p0 n c0)).setCell 1 (.slice p2 m' c2))
      have HF := Lib.hid (And.intro (mem.OwnS.set2 (g := w.heap.size) (o0 := 0) (o1 := 1) (u0 := .slice p0 n c0) (u1 := .slice p2 m' c2) o1 (by omega)) (And.intro (mem.OwnS.set2 (g := w.heap.size) (o0 := 0) (o1 := 1) (u0 := .slice p0 n c0) (u1 := .slice p2 m' c2) o2 (by omega)) (And.intro hd (And.intro hs7 (And.intro (src_upd hS7 (hO.block b (by omega))) (upd_own (U0.out.trans hU7) hO (Nat.le_refl _)))))))
      clear D R7 hU7 hS7 hs7 o1 o2 hO hd hT7
      go_wp2_with fail
      refine bodyPost_ret (v := .agg #[.slice p0 n c0, .slice p2 m' c2]) (by simp [results, Tryz.results83, go_sem, f0, f1]) rfl ⟨_, n, m', N7, P7, g1, g2, i7, s7, rfl, by omega, by omega, HF.out.2.2.2.1, ⟨_, _, rfl, HF.out.1, HF.out.2.1, HF.out.2.2.1⟩, by omega, by omega, HF.out.2.2.2.2.1, HF.out.2.2.2.2.2⟩
    have hjI : (0 : Int) < (j : Int) := by omega
    by_cases hc1 : n = 1
    · subst hc1
      obtain ⟨N7, P7, i7, s7, g1, g2, o1, o2, hd, q1, q2, hs7, hS7, hU7, hT7⟩ := D.net hnb
      have R7 := R1.keep (hU7.block w.heap.size (by omega) (by omega))
      have f0 := R7.b0
      have f1 := R7.b1
      have k0 := R7.free 0
      have k1 := R7.free 1
      have t0 := hT7.b0
      have t1 := hT7.b1
      obtain ⟨p2, c2, rfl⟩ := o2.shape
      have hO := (((mem.Only.refl w.heap.size wr).setCell 0 (.slice p0 1 c0)).setCell 1 (.slice p2 m' c2))
      have HF := Lib.hid (And.intro (mem.OwnS.set2 (g := w.heap.size) (o0 := 0) (o1 := 1) (u0 := .slice p0 1 c0) (u1 := .slice p2 m' c2) o1 (by omega)) (And.intro (mem.OwnS.set2 (g := w.heap.size) (o0 := 0) (o1 := 1) (u0 := .slice p0 1 c0) (u1 := .slice p2 m' c2) o2 (by omega)) (And.intro hd (And.intro hs7 (And.intro (src_upd hS7 (hO.block b (by omega))) (upd_own (U0.out.trans hU7) hO (Nat.le_refl _)))))))
      clear D R7 hU7 hS7 hs7 o1 o2 hO hd hT7
      go_wp2_with fail
      refine bodyPost_ret (v := .agg #[.slice p0 1 c0, .slice p2 m' c2]) (by simp [results, Tryz.results83, go_sem, f0, f1]) rfl ⟨_, 1, m', N7, P7, g1, g2, i7, s7, rfl, by omega, by omega, HF.out.2.2.2.1, ⟨_, _, rfl, HF.out.1, HF.out.2.1, HF.out.2.2.1⟩, by omega, by omega, HF.out.2.2.2.2.1, HF.out.2.2.2.2.2⟩
    have hcI : (1 : Int) < (n : Int) := by omega
    go_wp2_with fail
    obtain ⟨N5, P5, i5, s5, hN5, hP5, hs5, hS5, hU5, hT5⟩ := D.ex
    refine (next_any wr b B cv len i5 s5 _ hS5 (code_of HC.out hU5 hB hb) hB (by omega)).mono ?_
    rintro e w7 ⟨v7, i7, s7, rfl, t7, ht7, hS7, o7⟩
    have D7 := D.drawn hb hnb (upd_of o7) hS7
    clear D hN5 hP5 hs5 hS5 hU5 hT5 o7 hS7
    have hv7 : v7 ≤ 100 := by omega
    go_wp2_with fail
    obtain ⟨N5, P5, i5, s5, hN5, hP5, hs5, hS5, hU5, hT5⟩ := D7.ex
    refine (next_any w7 b B cv len i5 s5 _ hS5 (code_of HC.out hU5 hB hb) hB (by omega)).mono ?_
    rintro e w8 ⟨v8, i8, s8, rfl, t8, ht8, hS8, o8⟩
    have D8 := D7.drawn hb hnb (upd_of o8) hS8
    clear D7 hN5 hP5 hs5 hS5 hU5 hT5 o8 hS8
    have hv8 : v8 ≤ 100 := by omega
    have hne : (n : Int) ≠ 0 := by omega
    go_wp2_with fail
    obtain ⟨N5, P5, i5, s5, hN5, hP5, hs5, hS5, hU5, hT5⟩ := D8.ex
    refine (pipe_any w8 b B cv len i5 s5 _ _ hS5 (code_of HC.out hU5 hB hb) hB).mono ?_
    rintro e w9 ⟨q9, i9, s9, rfl, hS9, U9⟩
    have D9 := D8.drawn hb hnb U9 hS9
    clear D8 hN5 hP5 hs5 hS5 hU5 hT5 U9 hS9
    obtain ⟨N8, P8, i8, s8, hN8, hP8, hs8, hS8, hU8, hT8⟩ := D9.ex
    obtain ⟨pP, cP, rfl⟩ := hP8.shape
    obtain ⟨va, wa, hra, ha, ua⟩ := appPip (w1.heap.size + 1) w9 _ m' P8 q9 hP8 (by have := hT8.lt; omega) (by omega)
    have Da := Dl.addP hb hnb hN8 hP8 hs8 hS8 hU8 hT8 ha ua
    clear D9 hN8 hP8 hs8 hS8 hU8 hT8 ha ua
    go_wp2_with (at_builtin; refine mem.wpList_appT hra rfl _ _ rfl rfl rfl rfl ?_)
    clear hra
    go_roundw
    case rel => exact ⟨j - 1, m' + 1, _, by go_num, rfl, by omega, by omega, Da⟩
    case measure => simp [intOf]; omega
end Go.Proofs.YtfkacpphdnlkfaaGreat.draw

namespace Go.Proofs.YtfkacpphdnlkfaaGreat.draw
open Go.RowKit
set_option linter.unusedVariables false

/-- a network and a number have been drawn -/
def NCPost (w : World) (b : Nat) (cv : Value) (len : Nat) (e : Ending) (w' : World) : Prop :=
  ∃ (v : Value) (n m : Nat) (N : Nat → mem.Nod) (P : Nat → mem.Pip) (b1 b2 : Nat) (x i s : Int), e = .returned (.tuple #[v, .int .i64 x]) ∧ n ≤ 1000 ∧ m ≤ 1000 ∧ (∀ i, i < n → (N i).s.size ≤ 9223372036854775807) ∧ mem.NetOwn w' v n N m P b1 b2 ∧ w.heap.size ≤ b1 ∧ w.heap.size ≤ b2 ∧ Src w' b cv len i s ∧ mem.Upd (· = b) w w'
theorem chord_post {w X : World} {b len n m b1 b2 : Nat} {cv v0 v1 : Value} {N : Nat → mem.Nod} {P : Nat → mem.Pip} {i s x : Int} (hO : mem.NetOwn X (.agg #[v0, v1]) n N m P b1 b2) (hb1 : w.heap.size < b1) (hb2 : w.heap.size < b2) (hn : n ≤ 1000) (hm : m ≤ 1000) (hnm : ∀ i, i < n → (N i).s.size ≤ 9223372036854775807)
    (hS : Src X b cv len i s) (hU : mem.Upd (· = b) w X) (hlt : b < w.heap.size) : NCPost w b cv len (.returned (.tuple #[.agg #[v0, v1], .int .i64 x])) ((X.setCell ⟨w.heap.size, 0, none⟩ v0).setCell ⟨w.heap.size, 1, none⟩ v1) := by
  have hO2 := ((mem.Only.refl w.heap.size X).setCell 0 v0).setCell 1 v1
  exact ⟨_, n, m, N, P, b1, b2, x, i, s, rfl, hn, hm, hnm, hO.upd (mem.Upd.of_only hO2) (.inr (by omega)) (.inr (by omega)), by omega, by omega, src_upd hS (hO2.block b (by omega)), upd_own hU hO2 (Nat.le_refl _)⟩
def NCOnly (w : World) (e : Ending) (w' : World) : Prop :=
  ∃ (v : Value) (n m : Nat) (N : Nat → mem.Nod) (P : Nat → mem.Pip) (b1 b2 : Nat) (x : Int), e = .returned (.tuple #[v, .int .i64 x]) ∧ n ≤ 1000 ∧ m ≤ 1000 ∧ (∀ i, i < n → (N i).s.size ≤ 9223372036854775807) ∧ mem.NetOwn w' v n N m P b1 b2 ∧ w.heap.size ≤ b1 ∧ w.heap.size ≤ b2 ∧ Below w.heap.size w w'
end Go.Proofs.YtfkacpphdnlkfaaGreat.draw

namespace Go.Proofs.YtfkacpphdnlkfaaGreat.mem
open Go.RowKit
set_option linter.unusedVariables false

set_option maxRecDepth 100000 in
set_option maxHeartbeats 8000000 in
theorem l05OutW_any (w : World) (v : Value) (n : Nat) (N : Nat → Nod) (m : Nat) (P : Nat → Pip) (lo hi : Nat) (h : NetAt w v n N m P lo hi) (hhi : hi ≤ w.heap.size) (hN : ∀ i, i < n → (N i).s.size ≤ 9223372036854775807) (hB : netB n N m P = true) (va : Value) (d : Nat → Int) (la ha : Nat) (hv : Sl w va m d la ha) (hha : ha ≤ w.heap.size) (hf : flB d m = true) :
    Calls Tryz.prog 42 #[v, va] w fun e w' => ∃ v2 g, e = .returned v2 ∧ Own w' v2 n (fun z => dv P d m ((z : Nat) : Int)) g ∧ w.heap.size ≤ g ∧ Below w.heap.size w w' := by
  obtain ⟨p0, c0, p1, c1, rfl, hn9, hm9⟩ := h.parts
  obtain ⟨hn1, hn24, hm40⟩ := net_sz hB
  have HV := Lib.hid h
  have HPI := Lib.hid (fun a (ha : a < m) => pip_end (net_pip hB ha))
  have HFR := Lib.hid (show ∀ i, i < m → -30000 ≤ d i ∧ d i ≤ 30000 from fun i hi => flQ_iff.1 (flB_iff.1 hf i hi))
  obtain ⟨pa, ca, rfl, hva⟩ := hv
  have HVZ := Lib.hid hva
  have A0 := (boxed w (.slice p0 n c0) (.slice p1 m c1) 33).keep (Below.heap_alloc _ (.cells (zeros n) 2) _ (by simp only [World.size_alloc]; omega))
  have G0 := Own.made (w.alloc (.cells #[.slice p0 n c0, .slice p1 m c1] 33)) n (by omega)
  simp only [World.size_alloc] at G0
  have B0 := (below_new w (.cells #[.slice p0 n c0, .slice p1 m c1] 33)).trans ((below_new _ (.cells (zeros n) 2)).mono (by simp only [World.size_alloc]; omega))
  have e0' := (boxed w (.slice p0 n c0) (.slice p1 m c1) 33).b0
  have m1 := fun W => make_int64 W n (by omega)
  have n0 : (0 : Int) ≤ (n : Int) := Int.natCast_nonneg _
  have HA := Lib.hid A0
  have HG := Lib.hid G0
  have HBB := Lib.hid B0
  clear h hN hB A0 G0 B0 hva hf
  go_enter Tryz.func42, Tryz.ntmps42
  go_wp2_with fail
  generalize hW : (w.alloc (.cells #[.slice p0 n c0, .slice p1 m c1] 33)).alloc (.cells (zeros n) 2) = w2 at *
  clear hW m1 e0'
  go_loopw [6] (fun iv wr => ∃ k : Nat, iv = .int .i64 k ∧ k ≤ m ∧ Own wr (.slice (some ⟨w.heap.size + 1, 0, none⟩) n n) n (fun z => dv P d k ((z : Nat) : Int)) (w.heap.size + 1) ∧ Ob wr w.heap.size 2 (bx (.slice p0 n c0) (.slice p1 m c1)) ∧ Below w.heap.size w wr) (fun iv _ => m - (intOf iv).toNat)
  case atStart => exact ⟨0, rfl, Nat.zero_le _, HG.out.congr (fun k _ => rfl), HA.out, HBB.out⟩
  case round =>
    obtain ⟨k, rfl, hk, og, oa, hb⟩ := hrel
    clear HA HG HBB
    have HG := Lib.hid og
    have HA := Lib.hid oa
    have HBB := Lib.hid hb
    clear og oa hb
    generalize hQ : Exit.then _ _ = Q
    have HQ := Lib.hid hQ
    clear hQ
    have k0 : (0 : Int) ≤ (k : Int) := Int.natCast_nonneg _
    have lg := HG.out.lt
    by_cases hlt : k < m
    · have k1 : (k : Int) < (m : Int) := by omega
      obtain ⟨bp, op, rfl, q1, q2, r0, r1, r2, r3, r4⟩ := (HV.out.below HBB.out hhi).pipe hlt
      obtain ⟨ba, oa, rfl, g1, g2, hx⟩ : ∃ b o, pa = some ⟨b, o, none⟩ ∧ la ≤ b ∧ b < ha ∧ ∀ k, k < m → w.cell? ⟨b, o + k, none⟩ = some (.int .i64 (d k)) := by
        rcases HVZ.out with e | e
        · omega
        · exact e
      have ya : wr.cell? ⟨ba, oa + k, none⟩ = some (.int .i64 (d k)) := (HBB.out.cell (p := ⟨ba, oa + k, none⟩) (by show ba < w.heap.size; omega)).trans (hx k hlt)
      have HX := Lib.hid hx
      clear hx r2 r3 r4
      obtain ⟨hf0, ht0, hne⟩ := HPI.out k hlt
      obtain ⟨f, hf⟩ := Int.eq_ofNat_of_zero_le hf0.1
      obtain ⟨t, ht⟩ := Int.eq_ofNat_of_zero_le ht0.1
      rw [hf] at r0 hf0 hne
      rw [ht] at r1 ht0 hne
      have HFE := Lib.hid hf
      have HTE := Lib.hid ht
      clear hf ht
      have f0 := hf0.1
      have f1 := hf0.2
      have t0 := ht0.1
      have t1 := ht0.2
      have hfn : f < n := by omega
      have htn : t < n := by omega
      have e1 : wr.cell? ⟨w.heap.size, 1, none⟩ = some (.slice (some ⟨bp, op, none⟩) m c1) := HA.out.b1
      have yf : wr.cell? ⟨w.heap.size + 1, f, none⟩ = some (.int .i64 (dv P d k ((f : Nat) : Int))) := HG.out.row.cell f hfn
      have yz := HG.out.free f
      have hd := HFR.out k hlt
      have hb1 := dv_bd (P := P) (x := d) (z := ((f : Nat) : Int)) (k := k) (fun i hi => HFR.out i (by omega))
      have hb2 := dv_bd (P := P) (x := d) (z := ((t : Nat) : Int)) (k := k) (fun i hi => HFR.out i (by omega))
      have a1 : -4611686018427387904 ≤ dv P d k ((f : Nat) : Int) + d k ∧ dv P d k ((f : Nat) : Int) + d k ≤ 4611686018427387904 := by omega
      have a2 : -4611686018427387904 ≤ dv P d k ((t : Nat) : Int) - d k ∧ dv P d k ((t : Nat) : Int) - d k ≤ 4611686018427387904 := by omega
      clear hb1 hb2 hd hf0 ht0
      have hftN : f ≠ t := by omega
      have bne : bp ≠ w.heap.size + 1 := by omega
      have bna : ba ≠ w.heap.size + 1 := by omega
      have o1 := (Only.refl (w.heap.size + 1) wr).setCell f (.int .i64 (dv P d k ((f : Nat) : Int) + d k))
      have G1 := HG.out.put1 f (dv P d k ((f : Nat) : Int) + d k) hfn
      have wne : w.heap.size ≠ w.heap.size + 1 := by omega
      have z1 := (o1.cell (a := ⟨w.heap.size, 1, none⟩) wne).trans e1
      have z2 := (o1.cell (a := ⟨bp, op + k * 5, none⟩) bne).trans r0
      have z3 := (o1.cell (a := ⟨bp, op + k * 5 + 1, none⟩) bne).trans r1
      have z4 := (o1.cell (a := ⟨ba, oa + k, none⟩) bna).trans ya
      have Z1 := Lib.hid z1
      have Z2 := Lib.hid z2
      have Z3 := Lib.hid z3
      have Z4 := Lib.hid z4
      have H1 := Lib.hid a2
      have HR1 := Lib.hid r1
      clear z1 z2 z3 z4 a2 r1
      go_wp2_with fail
      go_still_tail 22, (by kernel_rfl)
      change wpList _ _ _ _ _ wr.drew
      go_wp2_with fail
      have ht2 : upd (fun z => dv P d k ((z : Nat) : Int)) f (dv P d k ((f : Nat) : Int) + d k) t = dv P d k ((t : Nat) : Int) := by
        unfold upd
        rw [if_neg (fun e => hftN e.symm)]
      have G1d : Own (wr.setCell ⟨w.heap.size + 1, f, none⟩ (.int .i64 (dv P d k ((f : Nat) : Int) + d k))).drew (.slice (some ⟨w.heap.size + 1, 0, none⟩) n n) n (upd (fun z => dv P d k ((z : Nat) : Int)) f (dv P d k ((f : Nat) : Int) + d k)) (w.heap.size + 1) := G1.keep rfl
      have OD := o1.below (B := w.heap.size) (by omega)
      obtain ⟨w3, hw3⟩ : ∃ w3, (wr.setCell ⟨w.heap.size + 1, f, none⟩ (.int .i64 (dv P d k ((f : Nat) : Int) + d k))).drew = w3 := ⟨_, rfl⟩
      have e1' : w3.cell? ⟨w.heap.size, 1, none⟩ = some (.slice (some ⟨bp, op, none⟩) m c1) := by rw [← hw3]; exact Z1.out
      have r1' : w3.cell? ⟨bp, op + k * 5 + 1, none⟩ = some (.int .i64 (t : Nat)) := by rw [← hw3]; exact Z3.out
      have ya' : w3.cell? ⟨ba, oa + k, none⟩ = some (.int .i64 (d k)) := by rw [← hw3]; exact Z4.out
      have yf' : w3.cell? ⟨w.heap.size + 1, t, none⟩ = some (.int .i64 (dv P d k ((t : Nat) : Int))) := by rw [← hw3, ← ht2]; exact G1d.row.cell t htn
      have oa3 : Ob w3 w.heap.size 2 (bx (.slice p0 n c0) (.slice (some ⟨bp, op, none⟩) m c1)) := by rw [← hw3]; exact (HA.out.only o1 (by omega)).keep rfl
      have b3 : Below w.heap.size w w3 := by rw [← hw3]; exact below_drw (HBB.out.trans OD)
      rw [hw3] at G1d ⊢
      clear hw3 e1 r0 ya yf yz o1 G1 Z1 Z2 Z3 Z4 HR1 OD a1 ht2
      have yz := G1d.free t
      have a2 := H1.out
      have HA3 := Lib.hid oa3
      have HB3 := Lib.hid b3
      have HG3 := Lib.hid G1d
      clear oa3 b3 G1d
      have o2 := (Only.refl (w.heap.size + 1) w3).setCell t (.int .i64 (dv P d k ((t : Nat) : Int) - d k))
      have z1 := Lib.hid ((o2.cell (a := ⟨w.heap.size, 1, none⟩) wne).trans e1')
      have z2 := Lib.hid ((o2.cell (a := ⟨bp, op + k * 5 + 1, none⟩) bne).trans r1')
      have z4 := Lib.hid ((o2.cell (a := ⟨ba, oa + k, none⟩) bna).trans ya')
      have G2 := Lib.hid (HG3.out.put1 t (dv P d k ((t : Nat) : Int) - d k) htn)
      have OA2 := Lib.hid (HA3.out.only o2 (by omega))
      have OB2 := Lib.hid (HB3.out.trans (o2.below (B := w.heap.size) (by omega)))
      clear o2
      go_still_tail 22, (by kernel_rfl)
      change wpList _ _ _ _ _ w3.drew
      go_wp2_with fail
      clear e1' r1' ya' yf' yz a2
      rw [← HQ.out]
      refine ⟨⟨_, _, _, _, _, _, _, _, _, _, _, _, _, _, _, _, _, _, _, _, _, _, _, _, _, _, _, _, _, _, _, _, _, _, _, _, _, _, _, _, _, _, _, _, _, _, _, _, _, _, _, ?rel, rfl⟩, ?measure⟩
      case rel =>
        refine ⟨k + 1, by go_num, hlt, (G2.out.congr (fun z _ => ?_)).keep rfl, OA2.out.keep rfl, below_drw OB2.out⟩
        simp only [upd]
        rw [dv, HFE.out, HTE.out]
        by_cases e : z = t
        · subst e
          rw [if_pos rfl, if_neg (show ¬ ((f : Nat) : Int) = ((z : Nat) : Int) by omega), if_pos rfl]
          omega
        · rw [if_neg e, if_neg (show ¬ ((t : Nat) : Int) = ((z : Nat) : Int) by omega)]
          by_cases e2 : z = f
          · subst e2
            rw [if_pos rfl, if_pos rfl]
            omega
          · rw [if_neg e2, if_neg (show ¬ ((f : Nat) : Int) = ((z : Nat) : Int) by omega)]
            omega
      case measure => simp [intOf]; omega
    · have hkn : m = k := by omega
      subst hkn
      have k1 : ¬ ((m : Int) < (m : Int)) := by omega
      go_wp2_with fail
      rw [← HQ.out]
      go_wp2_with fail
      go_ret
      exact ⟨_, w.heap.size + 1, rfl, HG.out, by omega, HBB.out⟩
end Go.Proofs.YtfkacpphdnlkfaaGreat.mem

namespace Go.Proofs.YtfkacpphdnlkfaaGreat.draw
open Go.RowKit
set_option linter.unusedVariables false

/-- a network and a list have been drawn -/
def NLPost (w : World) (b : Nat) (cv : Value) (len : Nat) (e : Ending) (w' : World) : Prop :=
  ∃ (v : Value) (n m : Nat) (N : Nat → mem.Nod) (P : Nat → mem.Pip) (b1 b2 : Nat) (vl : Value) (K : Nat) (D : Nat → Int) (i s : Int), e = .returned (.tuple #[v, vl]) ∧ n ≤ 1000 ∧ m ≤ 1000 ∧ K ≤ 2000 ∧ (∀ i, i < n → (N i).s.size ≤ 9223372036854775807) ∧ mem.NetOwn w' v n N m P b1 b2 ∧ w.heap.size ≤ b1 ∧ w.heap.size ≤ b2 ∧ mem.Sl w' vl K D w.heap.size w'.heap.size ∧ Src w' b cv len i s ∧ mem.Upd (· = b) w w'
theorem upd_bel {X : Nat → Prop} {w w1 w2 : World} (h : mem.Upd X w w1) (k : Below w.heap.size w1 w2) : mem.Upd X w w2 :=
  ⟨k.os.trans h.os, k.tape.trans h.tape, k.output.trans h.output, Nat.le_trans h.size k.size, fun x hx hn => (k.block x hx).trans (h.block x hx hn)⟩
/-- flows while they are drawn -/
structure Fl (W1 : World) (b : Nat) (cv : Value) (len : Nat) (wr : World) (v : Value) (k : Nat) : Prop where
  ex : ∃ (D : Nat → Int) (g : Nat) (i s : Int), mem.Own wr v k D g ∧ (∀ j, j < k → -30000 ≤ D j ∧ D j ≤ 30000) ∧ W1.heap.size ≤ g ∧ Src wr b cv len i s ∧ mem.Upd (· = b) W1 wr
theorem six_post {w X : World} {b len n m b1 b2 K lo hi : Nat} {cv v0 v1 vl : Value} {N : Nat → mem.Nod} {P : Nat → mem.Pip} {D : Nat → Int} {i s : Int} (hO : mem.NetOwn X (.agg #[v0, v1]) n N m P b1 b2) (hb1 : w.heap.size < b1) (hb2 : w.heap.size < b2) (hn : n ≤ 1000) (hm : m ≤ 1000) (hK : K ≤ 2000) (hnm : ∀ i, i < n → (N i).s.size ≤ 9223372036854775807)
    (hL : mem.Sl X vl K D lo hi) (hlo : w.heap.size < lo) (hhi : hi ≤ X.heap.size) (hS : Src X b cv len i s) (hU : mem.Upd (· = b) w X) (hlt : b < w.heap.size) : NLPost w b cv len (.returned (.tuple #[.agg #[v0, v1], vl])) ((X.setCell ⟨w.heap.size, 0, none⟩ v0).setCell ⟨w.heap.size, 1, none⟩ v1) := by
  have hO2 := ((mem.Only.refl w.heap.size X).setCell 0 v0).setCell 1 v1
  exact ⟨_, n, m, N, P, b1, b2, vl, K, D, i, s, rfl, hn, hm, hK, hnm, hO.upd (mem.Upd.of_only hO2) (.inr (by omega)) (.inr (by omega)), by omega, by omega, (hL.only hO2 (.inl hlo)).mono (by omega) (Nat.le_trans hhi (Nat.le_of_eq hO2.size)), src_upd hS (hO2.block b (by omega)), upd_own hU hO2 (Nat.le_refl _)⟩
set_option maxRecDepth 100000 in
set_option maxHeartbeats 8000000 in
theorem six_any (w : World) (b B : Nat) (cv : Value) (len : Nat) (i s : Int) (h : Src w b cv len i s) (hc : CodeAt w cv len B) (hB' : B ≤ b) :
    Calls Tryz.prog 48 #[.pointer (some ⟨b, 0, none⟩)] w (NLPost w b cv len) := by
  have hlt := src_lt h
  have h' := src_alloc h hlt (.cells #[.slice none 0 0, .slice none 0 0] 33)
  have HC := Lib.hid (codeAt_below hc ((Below.refl B w).alloc (by omega) (.cells #[.slice none 0 0, .slice none 0 0] 33)))
  have R1 := mem.boxed w (.slice none 0 0) (.slice none 0 0) 33
  have U0 := Lib.hid (mem.Upd.of_below (mem.below_new w (.cells #[.slice none 0 0, .slice none 0 0] 33)) (X := (· = b)))
  have hsz : w.heap.size + 1 ≤ (w.alloc (.cells #[.slice none 0 0, .slice none 0 0] 33)).heap.size := by simp
  go_enter Tryz.func48, Tryz.ntmps48
  go_wp2_with fail
  generalize hW : w.alloc (.cells #[.slice none 0 0, .slice none 0 0] 33) = Wa at *
  clear hW h hc
  have hb : b < Wa.heap.size := by omega
  refine (loops_any Wa b B cv len i s h' HC.out hB').mono ?_
  rintro e w1 ⟨v, n, m, N, P, b1, b2, i1, s1, rfl, hn, hm, hnm, hO, l1, l2, hS1, U1⟩
  obtain ⟨p0, c0, p1, c1, rfl⟩ := hO.shape
  have hTl := U1.size
  have hbt := src_lt hS1
  have x2 := mem.below_new w1 (.cells #[.slice p0 n c0, .slice p1 m c1] 33)
  have T1 := mem.boxed w1 (.slice p0 n c0) (.slice p1 m c1) 33
  have HO := Lib.hid (hO.next x2)
  have S2 := src_alloc hS1 (src_lt hS1) (.cells #[.slice p0 n c0, .slice p1 m c1] 33)
  have U2 := U1.trans (mem.Upd.of_below x2)
  clear hO hS1 U1 x2 h'
  go_wp2_with fail
  generalize hW : w1.alloc (.cells #[.slice p0 n c0, .slice p1 m c1] 33) = w2 at *
  obtain ⟨T, hTe⟩ : ∃ T, w1.heap.size = T := ⟨_, rfl⟩
  rw [hTe] at T1 hbt hTl ⊢
  clear hW hTe
  refine (next_any w2 b B cv len i1 s1 16 S2 (code_of HC.out U2 hB' hb) hB' (by omega)).mono ?_
  rintro e w3 ⟨v3, i3, s3, rfl, t3, ht3, S3, o3⟩
  have HO3 := Lib.hid (HO.out.upd (upd_of o3) (.inr (by omega)) (.inr (by omega)))
  have T3 := T1.keep (o3.block T (by omega))
  have U3 := U2.trans (upd_of o3)
  clear HO T1 U2 o3 S2
  have hltw : b < w.heap.size := by omega
  by_cases hv3 : v3 = 0
  · subst hv3
    clear HO3 l1 l2 hn hm hnm
    have hTl3 := T3.lt
    have j0 := T3.free 0
    have j1 := T3.free 1
    have q0 := T3.b0
    have q1 := T3.b1
    go_wp2_with fail
    refine (any_ok w3 b B cv len i3 s3 S3 (code_of HC.out U3 hB' hb) hB').mono ?_
    rintro e w4 ⟨v, n, m, N, P, b1, b2, i4, s4, rfl, hn, hm, hnm, hO, l1, l2, hS4, U4⟩
    obtain ⟨p0, c0, p1, c1, rfl⟩ := hO.shape
    have T4 := T3.keep (U4.block T hTl3 (by omega))
    have hU3 := U3.size
    have j0' := T4.free 0
    have j1' := T4.free 1
    have q0' := T4.b0
    have q1' := T4.b1
    have hU4 := U4.size
    have oT := ((mem.Only.refl T w4).setCell 0 (.slice p0 n c0)).setCell 1 (.slice p1 m c1)
    have HOx := Lib.hid (hO.upd (mem.Upd.of_only oT) (.inr (by omega)) (.inr (by omega)))
    have Tx := Lib.hid ((T4.set 0 (.slice p0 n c0) (by omega)).set 1 (.slice p1 m c1) (by omega))
    have Sx := src_upd hS4 (oT.block b (by omega))
    have Ux := upd_own (U3.trans U4) oT (by omega)
    have hzx := oT.size
    clear T3 j0 j1 q0 q1 T4 hO hS4 U4 oT U3 S3
    go_upto_region 4 with (fail)
    clear j0' j1' q0' q1'
    obtain ⟨w3, hw3⟩ : ∃ wx, (w4.setCell ⟨T, 0, none⟩ (.slice p0 n c0)).setCell ⟨T, 1, none⟩ (.slice p1 m c1) = wx := ⟨_, rfl⟩
    rw [hw3] at HOx Tx Sx Ux hzx ⊢
    clear hw3
    have HO3 := HOx
    have S3 := Sx
    have U3 := Ux
    clear HOx Sx Ux
    have T3 := Tx.out.congr (e := mem.bx (.slice p0 n c0) (.slice p1 m c1)) (by intro j hj; rcases (by omega : j = 0 ∨ j = 1) with rfl | rfl <;> rfl)
    have q0 := T3.b0
    have q1 := T3.b1
    clear Tx
    go_wp2_with fail
    clear q0 q1
    refine (mem.sIsNetwork_any w3 _ n N m P 0 w3.heap.size HO3.out.net (Nat.le_refl _) hnm).mono ?_
    rintro e w5 ⟨rfl, x5⟩
    have z5 := x5.size
    have HO5 := Lib.hid (HO3.out.next x5)
    have T5 := T3.next x5
    have hTl5 := T5.lt
    have S5 := src_upd S3 (x5.block b (src_lt S3))
    have U5 := U3.trans (mem.Upd.of_below x5)
    clear HO3 T3 S3 U3 x5
    cases hB : mem.netB n N m P
    · have L6 := mem.Ob.new w5 #[.int .i64 1, .int .i64 (-1)] 2 2 (mem.ia (fun k => if k = 0 then 1 else -1)) rfl (by intro j hj; rcases (by omega : j = 0 ∨ j = 1) with rfl | rfl <;> rfl)
      have x6 := mem.below_new w5 (.cells #[.int .i64 1, .int .i64 (-1)] 2)
      have z6 := x6.size
      have S6 := src_upd S5 (x6.block b (src_lt S5))
      have U6 := U5.trans (mem.Upd.of_below x6)
      have HF := Lib.hid (six_post (w := w) (HO5.out.next x6) (by omega) (by omega) hn hm (by omega) hnm (L6.sl 2 2 (Nat.le_refl _)) (by omega) (by have := L6.lt; omega) S6 (U0.out.trans U6) hltw)
      have q0 := T5.b0
      have q1 := T5.b1
      clear HO5 T5 S5 U5 L6 x6
      have R7 := R1.keep (U6.block w.heap.size (by omega) (by omega))
      have f0 := R7.b0
      have f1 := R7.b1
      have k0 := R7.free 0
      have k1 := R7.free 1
      clear R7 U6 S6
      go_wp2_with fail
      exact bodyPost_ret (v := .tuple #[.agg #[.slice p0 n c0, .slice p1 m c1], .slice (some ⟨w5.heap.size, 0, none⟩) 2 2]) (by simp [results, Tryz.results48, go_sem, f0, f1]) rfl HF.out
    · have HB := Lib.hid hB
      obtain ⟨hn1, hn24, hm40⟩ := mem.net_sz hB
      have F0 := mem.Own.nilled w5 (fun _ => 0)
      have x6 := mem.below_new w5 (.cells #[] 2)
      have D0 : Fl w5 b cv len (w5.alloc (.cells #[] 2)) (.slice (some ⟨w5.heap.size, 0, none⟩) 0 0) 0 := ⟨fun _ => 0, w5.heap.size, _, _, F0, fun j hj => by omega, Nat.le_refl _, src_upd S5 (x6.block b (src_lt S5)), mem.Upd.of_below x6⟩
      have HC5 := Lib.hid (code_of HC.out U5 hB' hb)
      have lts := HO5.out.lts
      have hb5 := src_lt S5
      have q1 := T5.b1
      clear F0 x6 hB
      go_wp2_with fail
      generalize hW : w5.alloc (.cells #[] 2) = w6 at *
      generalize hv : Value.slice (some ⟨w5.heap.size, 0, none⟩) 0 0 = vl0 at *
      clear hW hv q1
      go_loopw [5, 6] (fun ov iv wr => ∃ (k : Nat) (ov' : Value), ov' = ov ∧ iv = .int .i64 k ∧ k ≤ m ∧ Fl w5 b cv len wr ov' k) (fun _ iv _ => m - (intOf iv).toNat)
      case atStart => exact ⟨0, _, rfl, rfl, Nat.zero_le _, D0⟩
      case round =>
        obtain ⟨k, ov, rfl, rfl, hk, DF⟩ := hrel
        clear D0
        obtain ⟨D, g, i6, s6, hD, hDb, hg, hS6, hU6⟩ := DF.ex
        clear DF
        have T6 := T5.keep (hU6.block T hTl5 (by omega))
        have q0 := T6.b0
        have q1 := T6.b1
        have k0' : (0 : Int) ≤ (k : Int) := Int.natCast_nonneg _
        by_cases hlt : k < m
        · have k1' : (k : Int) < (m : Int) := by omega
          clear q0
          go_wp2_with fail
          refine (next_any wr b B cv len i6 s6 40 hS6 (code_of HC5.out hU6 hB' hb5) hB' (by omega)).mono ?_
          rintro e w7 ⟨v7, i7, s7, rfl, t7, ht7, hS7, o7⟩
          obtain ⟨co, rfl⟩ := hD.shape
          have lg0 := hD.lt
          have hgb : g ≠ b := by omega
          have hD7 := hD.keep (o7.block g hgb)
          have hU7 := hU6.trans (upd_of o7)
          have hb1 : -4611686018427387904 ≤ v7 - 15 ∧ v7 - 15 ≤ 4611686018427387904 := by omega
          have lg := hD7.lt
          obtain ⟨v8, w8, g8, hr, ap⟩ := mem.app_run (w7.alloc (.cells #[.int .i64 (v7 - 15)] 2)) _ k _ g (v7 - 15) w7.heap.size (hD7.alloc _) (mem.cell_new1 w7 _) (by omega)
          have bl := ap.below (B := w5.heap.size) (by omega) (by rw [mem.szal]; omega)
          have xb : Below w5.heap.size w7 w8 := ((mem.below_new w7 _).mono hU7.size).trans bl.1
          have DF8 : Fl w5 b cv len w8 v8 (k + 1) := ⟨_, g8, i7, s7, ap.own, fun j hj => by
            unfold mem.upd
            split
            · omega
            · exact hDb j (by omega), bl.2, src_upd hS7 (xb.block b hb5), upd_bel hU7 xb⟩
          clear hD hDb hS6 hU6 hS7 o7 hD7 hU7 ap bl xb T6 q1 T5 S5 U5 HO5
          go_wp2_with (at_builtin; refine mem.wpList_app hr rfl _ _ rfl rfl rfl rfl ?_)
          clear hr
          go_roundw
          case rel => exact ⟨k + 1, _, rfl, by go_num, hlt, DF8⟩
          case measure => simp [intOf]; omega
        · obtain rfl : m = k := by omega
          have k1' : ¬ ((m : Int) < (m : Int)) := by omega
          have HO6 := Lib.hid (HO5.out.upd hU6 (.inr (by omega)) (.inr (by omega)))
          have lg := hD.lt
          have HD := Lib.hid hD.sl
          have HDB := Lib.hid (mem.flB_iff.2 (fun j hj => mem.flQ_iff.2 (hDb j hj)))
          have HDb := Lib.hid hDb
          have hzr := hU6.size
          obtain ⟨co, rfl⟩ := hD.shape
          clear hD hDb T5 S5 HO5
          go_wp2_with fail
          refine (mem.l05OutW_any wr _ n N m P 0 wr.heap.size HO6.out.net (Nat.le_refl _) hnm HB.out _ D g (g + 1) HD.out (by omega) HDB.out).mono ?_
          rintro e w8 ⟨v8, g8, rfl, hV8, lg8, x8⟩
          obtain ⟨c8, rfl⟩ := hV8.shape
          have hz8 := x8.size
          have HO8 := Lib.hid (HO6.out.next x8)
          have T8 := T6.next x8
          have S8 := src_upd hS6 (x8.block b (src_lt hS6))
          have U8 := U5.trans (hU6.trans (mem.Upd.of_below x8))
          have hC8 := code_of HC.out U8 hB' hb
          clear T6 q0 q1 hS6 hU6 U5 HO6 HD HDB HC5 x8
          go_wp2_with fail
          refine (next_any w8 b B cv len i6 s6 n S8 hC8 hB' (by omega)).mono ?_
          rintro e w9 ⟨v9, i9, s9, rfl, t9, ht9, S9, o9⟩
          have hV9 := hV8.keep (o9.block g8 (by omega))
          have HO9 := Lib.hid (HO8.out.upd (upd_of o9) (.inr (by omega)) (.inr (by omega)))
          have T9 := T8.keep (o9.block T (by omega))
          have U9 := U8.trans (upd_of o9)
          have hC9 := code_of HC.out U9 hB' hb
          have hz9 := o9.size
          obtain ⟨J, rfl⟩ := Int.eq_ofNat_of_zero_le t9
          have hJ : J < n := by omega
          clear hC8 hV8 HO8 T8 U8 S8 o9 t9 ht9
          go_wp2_with fail
          refine (next_any w9 b B cv len i9 s9 24 S9 hC9 hB' (by omega)).mono ?_
          rintro e wa ⟨va, ia, sa, rfl, ta, hta, Sa, oa⟩
          have hVa := hV9.keep (oa.block g8 (by omega))
          have HOa := Lib.hid (HO9.out.upd (upd_of oa) (.inr (by omega)) (.inr (by omega)))
          have Ta := T9.keep (oa.block T (by omega))
          have Ua := U9.trans (upd_of oa)
          have hza := oa.size
          have lga := hVa.lt
          clear hC9 hV9 HO9 T9 U9 S9 oa
          have bd := mem.dv_bd2 (P := P) (x := D) (z := ((J : Nat) : Int)) (k := m) (fun i hi => HDb.out i (by omega))
          rcases (by omega : va = 0 ∨ va = 1 ∨ va = 2 ∨ (va ≠ 0 ∧ va ≠ 1 ∧ va ≠ 2)) with rfl | rfl | rfl | hva
          · have yf : wa.cell? ⟨g8, J, none⟩ = some (.int .i64 (mem.dv P D m ((J : Nat) : Int))) := hVa.row.cell J hJ
            have yz := hVa.free J
            have bd2 : -4611686018427387904 ≤ mem.dv P D m ((J : Nat) : Int) + 1 ∧ mem.dv P D m ((J : Nat) : Int) + 1 ≤ 4611686018427387904 := by omega
            have oX := (mem.Only.refl g8 wa).setCell J (.int .i64 (mem.dv P D m ((J : Nat) : Int) + 1))
            have hVx := hVa.put1 J (mem.dv P D m ((J : Nat) : Int) + 1) hJ
            have HOx := Lib.hid (HOa.out.upd (mem.Upd.of_only oX) (lts.1.imp_right fun h => by show ¬ (b1 = g8); omega) (lts.2.imp_right fun h => by show ¬ (b2 = g8); omega))
            clear bd
            go_upto_region 20 with (fail)
            obtain ⟨wx, hwx⟩ : ∃ wx, wa.setCell ⟨g8, J, none⟩ (.int .i64 (mem.dv P D m ((J : Nat) : Int) + 1)) = wx := ⟨_, rfl⟩
            rw [hwx] at oX hVx HOx ⊢
            clear hwx
            have Tx := Ta.keep (oX.block T (by omega))
            have Ux := upd_own Ua oX (by omega)
            have Sx := src_upd Sa (oX.block b (by omega))
            have HF := Lib.hid (six_post (w := w) HOx.out (by omega) (by omega) hn hm (show n ≤ 2000 by omega) hnm hVx.sl (by omega) (by have := hVx.lt; omega) Sx (U0.out.trans Ux) hltw)
            have q0 := Tx.b0
            have q1 := Tx.b1
            have R7 := R1.keep (Ux.block w.heap.size (by omega) (by omega))
            have f0 := R7.b0
            have f1 := R7.b1
            have k0 := R7.free 0
            have k1 := R7.free 1
            clear R7 Ux Sx Tx
            go_wp2_with fail
            exact bodyPost_ret (v := .tuple #[.agg #[.slice p0 n c0, .slice p1 m c1], .slice (some ⟨g8, 0, none⟩) n c8]) (by simp [results, Tryz.results48, go_sem, f0, f1]) rfl HF.out
          · have bA := mem.below_new wa (Obj.cells #[.int .i64 30000, .int .i64 30001] 2)
            have tA := tabI wa 2 #[.int .i64 30000, .int .i64 30001] (by
              intro j hj
              rcases (by simp at hj; omega : j = 0 ∨ j = 1) with rfl | rfl
              all_goals exact ⟨_, rfl⟩)
            have SA := src_alloc Sa (src_lt Sa) (Obj.cells #[.int .i64 30000, .int .i64 30001] 2)
            have UA := Ua.trans (mem.Upd.of_below bA)
            have CA := code_of HC.out UA hB' hb
            have HVA := Lib.hid (hVa.alloc (Obj.cells #[.int .i64 30000, .int .i64 30001] 2))
            have HOA := Lib.hid (HOa.out.next bA)
            have HTA := Lib.hid (Ta.next bA)
            have hzA : (wa.alloc (Obj.cells #[.int .i64 30000, .int .i64 30001] 2)).heap.size = wa.heap.size + 1 := by simp
            have lba := src_lt Sa
            have yzA := hVa.free J
            have lga2 : J < n := hJ
            clear bd bA Sa Ua Ta HOa hVa
            go_wp2_with fail
            refine (next_any _ b B cv len ia sa 2 SA CA hB' (by omega)).mono ?_
            rintro e wc ⟨vc, ic, sc, rfl, tc, htc, Sc, oc⟩
            have hzc := oc.size
            have HVc := Lib.hid (HVA.out.keep (oc.block g8 (by omega)))
            have HOc := Lib.hid (HOA.out.upd (upd_of oc) (.inr (by omega)) (.inr (by omega)))
            have HTc := Lib.hid (HTA.out.keep (oc.block T (by omega)))
            have Uc := UA.trans (upd_of oc)
            obtain ⟨x, rfl⟩ := Int.eq_ofNat_of_zero_le tc
            have hx : x < 2 := by omega
            have hx2 : (x : Int) < 2 := by omega
            obtain ⟨y, hy⟩ := tA x hx
            have hyc : wc.cell? ⟨wa.heap.size, x, none⟩ = some (.int .i64 y) := by
              have e := oc.block wa.heap.size (by omega)
              simp only [World.cell?] at hy ⊢
              rw [e]
              exact hy
            have yf := HVc.out.row.cell J hJ
            have yz := HVc.out.free J
            have oX := (mem.Only.refl g8 wc).setCell J (.int .i64 y)
            have hVx := HVc.out.put1 J y hJ
            have HOx := Lib.hid (HOc.out.upd (mem.Upd.of_only oX) (lts.1.imp_right fun h => by show ¬ (b1 = g8); omega) (lts.2.imp_right fun h => by show ¬ (b2 = g8); omega))
            clear tA SA CA UA HVA HOA HTA hy oc htc yzA HVc HOc
            go_upto_region 20 with (fail)
            obtain ⟨wx, hwx⟩ : ∃ wx, wc.setCell ⟨g8, J, none⟩ (.int .i64 y) = wx := ⟨_, rfl⟩
            rw [hwx] at oX hVx HOx ⊢
            clear hwx
            have Tx := HTc.out.keep (oX.block T (by omega))
            have Ux := upd_own Uc oX (by omega)
            have Sx := src_upd Sc (oX.block b (by omega))
            have HF := Lib.hid (six_post (w := w) HOx.out (by omega) (by omega) hn hm (show n ≤ 2000 by omega) hnm hVx.sl (by omega) (by have := hVx.lt; omega) Sx (U0.out.trans Ux) hltw)
            have q0 := Tx.b0
            have q1 := Tx.b1
            have R7 := R1.keep (Ux.block w.heap.size (by omega) (by omega))
            have f0 := R7.b0
            have f1 := R7.b1
            have k0 := R7.free 0
            have k1 := R7.free 1
            clear R7 Ux Sx Tx
            go_wp2_with fail
            exact bodyPost_ret (v := .tuple #[.agg #[.slice p0 n c0, .slice p1 m c1], .slice (some ⟨g8, 0, none⟩) n c8]) (by simp [results, Tryz.results48, go_sem, f0, f1]) rfl HF.out
          · have hbz : g8 < wa.heap.size := lga
            obtain ⟨vb, wb, gb, hr, ap⟩ := mem.app_run (wa.alloc (.cells #[.int .i64 0] 2)) _ n _ g8 0 wa.heap.size (hVa.alloc _) (mem.cell_new1 wa _) (by omega)
            have bl := ap.below (B := w5.heap.size) (by omega) (by rw [mem.szal]; omega)
            have xb : Below w5.heap.size wa wb := ((mem.below_new wa _).mono (by omega)).trans bl.1
            clear bd
            go_upto_region 20 with (at_builtin; refine mem.wpList_app hr rfl _ _ rfl rfl rfl rfl ?_)
            have Xb : mem.Upd (fun x => w5.heap.size ≤ x) wa wb := ⟨xb.os, xb.tape, xb.output, xb.size, fun x _ hn => xb.block x (by omega)⟩
            have HOx := Lib.hid (HOa.out.upd Xb (lts.1.imp_right fun h => by show ¬ (w5.heap.size ≤ b1); omega) (lts.2.imp_right fun h => by show ¬ (w5.heap.size ≤ b2); omega))
            have Tx := Ta.keep (xb.block T hTl5)
            have Ux := upd_bel Ua (xb.mono (by omega))
            have Sx := src_upd Sa (xb.block b hb5)
            have hlb := bl.2
            clear hr
            have HF := Lib.hid (six_post (w := w) HOx.out (by omega) (by omega) hn hm (show n + 1 ≤ 2000 by omega) hnm ap.own.sl (by omega) (by have := ap.own.lt; omega) Sx (U0.out.trans Ux) hltw)
            have q0 := Tx.b0
            have q1 := Tx.b1
            have R7 := R1.keep (Ux.block w.heap.size (by omega) (by omega))
            have f0 := R7.b0
            have f1 := R7.b1
            have k0 := R7.free 0
            have k1 := R7.free 1
            clear R7 Ux Sx Tx
            go_wp2_with fail
            exact bodyPost_ret (v := .tuple #[.agg #[.slice p0 n c0, .slice p1 m c1], vb]) (by simp [results, Tryz.results48, go_sem, f0, f1]) rfl HF.out
          · obtain ⟨hv0, hv1, hv2⟩ := hva
            have hv0' : (va == 0) = false := by simpa using hv0
            have hv1' : (va == 1) = false := by simpa using hv1
            have hv2' : (va == 2) = false := by simpa using hv2
            clear hv0 hv1 hv2 bd
            go_upto_region 20 with (fail)
            have HF := Lib.hid (six_post (w := w) HOa.out (by omega) (by omega) hn hm (show n ≤ 2000 by omega) hnm hVa.sl (by omega) (by omega) Sa (U0.out.trans Ua) hltw)
            have q0 := Ta.b0
            have q1 := Ta.b1
            have R7 := R1.keep (Ua.block w.heap.size (by omega) (by omega))
            have f0 := R7.b0
            have f1 := R7.b1
            have k0 := R7.free 0
            have k1 := R7.free 1
            clear R7 Ua Sa Ta
            go_wp2_with fail
            exact bodyPost_ret (v := .tuple #[.agg #[.slice p0 n c0, .slice p1 m c1], .slice (some ⟨g8, 0, none⟩) n c8]) (by simp [results, Tryz.results48, go_sem, f0, f1]) rfl HF.out
  · have hv3' : (v3 == 0) = false := by simpa using hv3
    have q0 := T3.b0
    have q1 := T3.b1
    clear hv3
    go_wp2_with fail
    clear q0 q1
    refine (mem.sIsNetwork_any w3 _ n N m P 0 w3.heap.size HO3.out.net (Nat.le_refl _) hnm).mono ?_
    rintro e w5 ⟨rfl, x5⟩
    have z5 := x5.size
    have HO5 := Lib.hid (HO3.out.next x5)
    have T5 := T3.next x5
    have hTl5 := T5.lt
    have S5 := src_upd S3 (x5.block b (src_lt S3))
    have U5 := U3.trans (mem.Upd.of_below x5)
    clear HO3 T3 S3 U3 x5
    cases hB : mem.netB n N m P
    · have L6 := mem.Ob.new w5 #[.int .i64 1, .int .i64 (-1)] 2 2 (mem.ia (fun k => if k = 0 then 1 else -1)) rfl (by intro j hj; rcases (by omega : j = 0 ∨ j = 1) with rfl | rfl <;> rfl)
      have x6 := mem.below_new w5 (.cells #[.int .i64 1, .int .i64 (-1)] 2)
      have z6 := x6.size
      have S6 := src_upd S5 (x6.block b (src_lt S5))
      have U6 := U5.trans (mem.Upd.of_below x6)
      have HF := Lib.hid (six_post (w := w) (HO5.out.next x6) (by omega) (by omega) hn hm (by omega) hnm (L6.sl 2 2 (Nat.le_refl _)) (by omega) (by have := L6.lt; omega) S6 (U0.out.trans U6) hltw)
      have q0 := T5.b0
      have q1 := T5.b1
      clear HO5 T5 S5 U5 L6 x6
      have R7 := R1.keep (U6.block w.heap.size (by omega) (by omega))
      have f0 := R7.b0
      have f1 := R7.b1
      have k0 := R7.free 0
      have k1 := R7.free 1
      clear R7 U6 S6
      go_wp2_with fail
      exact bodyPost_ret (v := .tuple #[.agg #[.slice p0 n c0, .slice p1 m c1], .slice (some ⟨w5.heap.size, 0, none⟩) 2 2]) (by simp [results, Tryz.results48, go_sem, f0, f1]) rfl HF.out
    · have HB := Lib.hid hB
      obtain ⟨hn1, hn24, hm40⟩ := mem.net_sz hB
      have F0 := mem.Own.nilled w5 (fun _ => 0)
      have x6 := mem.below_new w5 (.cells #[] 2)
      have D0 : Fl w5 b cv len (w5.alloc (.cells #[] 2)) (.slice (some ⟨w5.heap.size, 0, none⟩) 0 0) 0 := ⟨fun _ => 0, w5.heap.size, _, _, F0, fun j hj => by omega, Nat.le_refl _, src_upd S5 (x6.block b (src_lt S5)), mem.Upd.of_below x6⟩
      have HC5 := Lib.hid (code_of HC.out U5 hB' hb)
      have lts := HO5.out.lts
      have hb5 := src_lt S5
      have q1 := T5.b1
      clear F0 x6 hB
      go_wp2_with fail
      generalize hW : w5.alloc (.cells #[] 2) = w6 at *
      generalize hv : Value.slice (some ⟨w5.heap.size, 0, none⟩) 0 0 = vl0 at *
      clear hW hv q1
      go_loopw [5, 6] (fun ov iv wr => ∃ (k : Nat) (ov' : Value), ov' = ov ∧ iv = .int .i64 k ∧ k ≤ m ∧ Fl w5 b cv len wr ov' k) (fun _ iv _ => m - (intOf iv).toNat)
      case atStart => exact ⟨0, _, rfl, rfl, Nat.zero_le _, D0⟩
      case round =>
        obtain ⟨k, ov, rfl, rfl, hk, DF⟩ := hrel
        clear D0
        obtain ⟨D, g, i6, s6, hD, hDb, hg, hS6, hU6⟩ := DF.ex
        clear DF
        have T6 := T5.keep (hU6.block T hTl5 (by omega))
        have q0 := T6.b0
        have q1 := T6.b1
        have k0' : (0 : Int) ≤ (k : Int) := Int.natCast_nonneg _
        by_cases hlt : k < m
        · have k1' : (k : Int) < (m : Int) := by omega
          clear q0
          go_wp2_with fail
          refine (next_any wr b B cv len i6 s6 40 hS6 (code_of HC5.out hU6 hB' hb5) hB' (by omega)).mono ?_
          rintro e w7 ⟨v7, i7, s7, rfl, t7, ht7, hS7, o7⟩
          obtain ⟨co, rfl⟩ := hD.shape
          have lg0 := hD.lt
          have hgb : g ≠ b := by omega
          have hD7 := hD.keep (o7.block g hgb)
          have hU7 := hU6.trans (upd_of o7)
          have hb1 : -4611686018427387904 ≤ v7 - 15 ∧ v7 - 15 ≤ 4611686018427387904 := by omega
          have lg := hD7.lt
          obtain ⟨v8, w8, g8, hr, ap⟩ := mem.app_run (w7.alloc (.cells #[.int .i64 (v7 - 15)] 2)) _ k _ g (v7 - 15) w7.heap.size (hD7.alloc _) (mem.cell_new1 w7 _) (by omega)
          have bl := ap.below (B := w5.heap.size) (by omega) (by rw [mem.szal]; omega)
          have xb : Below w5.heap.size w7 w8 := ((mem.below_new w7 _).mono hU7.size).trans bl.1
          have DF8 : Fl w5 b cv len w8 v8 (k + 1) := ⟨_, g8, i7, s7, ap.own, fun j hj => by
            unfold mem.upd
            split
            · omega
            · exact hDb j (by omega), bl.2, src_upd hS7 (xb.block b hb5), upd_bel hU7 xb⟩
          clear hD hDb hS6 hU6 hS7 o7 hD7 hU7 ap bl xb T6 q1 T5 S5 U5 HO5
          go_wp2_with (at_builtin; refine mem.wpList_app hr rfl _ _ rfl rfl rfl rfl ?_)
          clear hr
          go_roundw
          case rel => exact ⟨k + 1, _, rfl, by go_num, hlt, DF8⟩
          case measure => simp [intOf]; omega
        · obtain rfl : m = k := by omega
          have k1' : ¬ ((m : Int) < (m : Int)) := by omega
          have HO6 := Lib.hid (HO5.out.upd hU6 (.inr (by omega)) (.inr (by omega)))
          have lg := hD.lt
          have HD := Lib.hid hD.sl
          have HDB := Lib.hid (mem.flB_iff.2 (fun j hj => mem.flQ_iff.2 (hDb j hj)))
          have HDb := Lib.hid hDb
          have hzr := hU6.size
          obtain ⟨co, rfl⟩ := hD.shape
          clear hD hDb T5 S5 HO5
          go_wp2_with fail
          refine (mem.l05OutW_any wr _ n N m P 0 wr.heap.size HO6.out.net (Nat.le_refl _) hnm HB.out _ D g (g + 1) HD.out (by omega) HDB.out).mono ?_
          rintro e w8 ⟨v8, g8, rfl, hV8, lg8, x8⟩
          obtain ⟨c8, rfl⟩ := hV8.shape
          have hz8 := x8.size
          have HO8 := Lib.hid (HO6.out.next x8)
          have T8 := T6.next x8
          have S8 := src_upd hS6 (x8.block b (src_lt hS6))
          have U8 := U5.trans (hU6.trans (mem.Upd.of_below x8))
          have hC8 := code_of HC.out U8 hB' hb
          clear T6 q0 q1 hS6 hU6 U5 HO6 HD HDB HC5 x8
          go_wp2_with fail
          refine (next_any w8 b B cv len i6 s6 n S8 hC8 hB' (by omega)).mono ?_
          rintro e w9 ⟨v9, i9, s9, rfl, t9, ht9, S9, o9⟩
          have hV9 := hV8.keep (o9.block g8 (by omega))
          have HO9 := Lib.hid (HO8.out.upd (upd_of o9) (.inr (by omega)) (.inr (by omega)))
          have T9 := T8.keep (o9.block T (by omega))
          have U9 := U8.trans (upd_of o9)
          have hC9 := code_of HC.out U9 hB' hb
          have hz9 := o9.size
          obtain ⟨J, rfl⟩ := Int.eq_ofNat_of_zero_le t9
          have hJ : J < n := by omega
          clear hC8 hV8 HO8 T8 U8 S8 o9 t9 ht9
          go_wp2_with fail
          refine (next_any w9 b B cv len i9 s9 24 S9 hC9 hB' (by omega)).mono ?_
          rintro e wa ⟨va, ia, sa, rfl, ta, hta, Sa, oa⟩
          have hVa := hV9.keep (oa.block g8 (by omega))
          have HOa := Lib.hid (HO9.out.upd (upd_of oa) (.inr (by omega)) (.inr (by omega)))
          have Ta := T9.keep (oa.block T (by omega))
          have Ua := U9.trans (upd_of oa)
          have hza := oa.size
          have lga := hVa.lt
          clear hC9 hV9 HO9 T9 U9 S9 oa
          have bd := mem.dv_bd2 (P := P) (x := D) (z := ((J : Nat) : Int)) (k := m) (fun i hi => HDb.out i (by omega))
          rcases (by omega : va = 0 ∨ va = 1 ∨ va = 2 ∨ (va ≠ 0 ∧ va ≠ 1 ∧ va ≠ 2)) with rfl | rfl | rfl | hva
          · have yf : wa.cell? ⟨g8, J, none⟩ = some (.int .i64 (mem.dv P D m ((J : Nat) : Int))) := hVa.row.cell J hJ
            have yz := hVa.free J
            have bd2 : -4611686018427387904 ≤ mem.dv P D m ((J : Nat) : Int) + 1 ∧ mem.dv P D m ((J : Nat) : Int) + 1 ≤ 4611686018427387904 := by omega
            have oX := (mem.Only.refl g8 wa).setCell J (.int .i64 (mem.dv P D m ((J : Nat) : Int) + 1))
            have hVx := hVa.put1 J (mem.dv P D m ((J : Nat) : Int) + 1) hJ
            have HOx := Lib.hid (HOa.out.upd (mem.Upd.of_only oX) (lts.1.imp_right fun h => by show ¬ (b1 = g8); omega) (lts.2.imp_right fun h => by show ¬ (b2 = g8); omega))
            clear bd
            go_upto_region 20 with (fail)
            obtain ⟨wx, hwx⟩ : ∃ wx, wa.setCell ⟨g8, J, none⟩ (.int .i64 (mem.dv P D m ((J : Nat) : Int) + 1)) = wx := ⟨_, rfl⟩
            rw [hwx] at oX hVx HOx ⊢
            clear hwx
            have Tx := Ta.keep (oX.block T (by omega))
            have Ux := upd_own Ua oX (by omega)
            have Sx := src_upd Sa (oX.block b (by omega))
            have HF := Lib.hid (six_post (w := w) HOx.out (by omega) (by omega) hn hm (show n ≤ 2000 by omega) hnm hVx.sl (by omega) (by have := hVx.lt; omega) Sx (U0.out.trans Ux) hltw)
            have q0 := Tx.b0
            have q1 := Tx.b1
            have R7 := R1.keep (Ux.block w.heap.size (by omega) (by omega))
            have f0 := R7.b0
            have f1 := R7.b1
            have k0 := R7.free 0
            have k1 := R7.free 1
            clear R7 Ux Sx Tx
            go_wp2_with fail
            exact bodyPost_ret (v := .tuple #[.agg #[.slice p0 n c0, .slice p1 m c1], .slice (some ⟨g8, 0, none⟩) n c8]) (by simp [results, Tryz.results48, go_sem, f0, f1]) rfl HF.out
          · have bA := mem.below_new wa (Obj.cells #[.int .i64 30000, .int .i64 30001] 2)
            have tA := tabI wa 2 #[.int .i64 30000, .int .i64 30001] (by
              intro j hj
              rcases (by simp at hj; omega : j = 0 ∨ j = 1) with rfl | rfl
              all_goals exact ⟨_, rfl⟩)
            have SA := src_alloc Sa (src_lt Sa) (Obj.cells #[.int .i64 30000, .int .i64 30001] 2)
            have UA := Ua.trans (mem.Upd.of_below bA)
            have CA := code_of HC.out UA hB' hb
            have HVA := Lib.hid (hVa.alloc (Obj.cells #[.int .i64 30000, .int .i64 30001] 2))
            have HOA := Lib.hid (HOa.out.next bA)
            have HTA := Lib.hid (Ta.next bA)
            have hzA : (wa.alloc (Obj.cells #[.int .i64 30000, .int .i64 30001] 2)).heap.size = wa.heap.size + 1 := by simp
            have lba := src_lt Sa
            have yzA := hVa.free J
            have lga2 : J < n := hJ
            clear bd bA Sa Ua Ta HOa hVa
            go_wp2_with fail
            refine (next_any _ b B cv len ia sa 2 SA CA hB' (by omega)).mono ?_
            rintro e wc ⟨vc, ic, sc, rfl, tc, htc, Sc, oc⟩
            have hzc := oc.size
            have HVc := Lib.hid (HVA.out.keep (oc.block g8 (by omega)))
            have HOc := Lib.hid (HOA.out.upd (upd_of oc) (.inr (by omega)) (.inr (by omega)))
            have HTc := Lib.hid (HTA.out.keep (oc.block T (by omega)))
            have Uc := UA.trans (upd_of oc)
            obtain ⟨x, rfl⟩ := Int.eq_ofNat_of_zero_le tc
            have hx : x < 2 := by omega
            have hx2 : (x : Int) < 2 := by omega
            obtain ⟨y, hy⟩ := tA x hx
            have hyc : wc.cell? ⟨wa.heap.size, x, none⟩ = some (.int .i64 y) := by
              have e := oc.block wa.heap.size (by omega)
              simp only [World.cell?] at hy ⊢
              rw [e]
              exact hy
            have yf := HVc.out.row.cell J hJ
            have yz := HVc.out.free J
            have oX := (mem.Only.refl g8 wc).setCell J (.int .i64 y)
            have hVx := HVc.out.put1 J y hJ
            have HOx := Lib.hid (HOc.out.upd (mem.Upd.of_only oX) (lts.1.imp_right fun h => by show ¬ (b1 = g8); omega) (lts.2.imp_right fun h => by show ¬ (b2 = g8); omega))
            clear tA SA CA UA HVA HOA HTA hy oc htc yzA HVc HOc
            go_upto_region 20 with (fail)
            obtain ⟨wx, hwx⟩ : ∃ wx, wc.setCell ⟨g8, J, none⟩ (.int .i64 y) = wx := ⟨_, rfl⟩
            rw [hwx] at oX hVx HOx ⊢
            clear hwx
            have Tx := HTc.out.keep (oX.block T (by omega))
            have Ux := upd_own Uc oX (by omega)
            have Sx := src_upd Sc (oX.block b (by omega))
            have HF := Lib.hid (six_post (w := w) HOx.out (by omega) (by omega) hn hm (show n ≤ 2000 by omega) hnm hVx.sl (by omega) (by have := hVx.lt; omega) Sx (U0.out.trans Ux) hltw)
            have q0 := Tx.b0
            have q1 := Tx.b1
            have R7 := R1.keep (Ux.block w.heap.size (by omega) (by omega))
            have f0 := R7.b0
            have f1 := R7.b1
            have k0 := R7.free 0
            have k1 := R7.free 1
            clear R7 Ux Sx Tx
            go_wp2_with fail
            exact bodyPost_ret (v := .tuple #[.agg #[.slice p0 n c0, .slice p1 m c1], .slice (some ⟨g8, 0, none⟩) n c8]) (by simp [results, Tryz.results48, go_sem, f0, f1]) rfl HF.out
          · have hbz : g8 < wa.heap.size := lga
            obtain ⟨vb, wb, gb, hr, ap⟩ := mem.app_run (wa.alloc (.cells #[.int .i64 0] 2)) _ n _ g8 0 wa.heap.size (hVa.alloc _) (mem.cell_new1 wa _) (by omega)
            have bl := ap.below (B := w5.heap.size) (by omega) (by rw [mem.szal]; omega)
            have xb : Below w5.heap.size wa wb := ((mem.below_new wa _).mono (by omega)).trans bl.1
            clear bd
            go_upto_region 20 with (at_builtin; refine mem.wpList_app hr rfl _ _ rfl rfl rfl rfl ?_)
            have Xb : mem.Upd (fun x => w5.heap.size ≤ x) wa wb := ⟨xb.os, xb.tape, xb.output, xb.size, fun x _ hn => xb.block x (by omega)⟩
            have HOx := Lib.hid (HOa.out.upd Xb (lts.1.imp_right fun h => by show ¬ (w5.heap.size ≤ b1); omega) (lts.2.imp_right fun h => by show ¬ (w5.heap.size ≤ b2); omega))
            have Tx := Ta.keep (xb.block T hTl5)
            have Ux := upd_bel Ua (xb.mono (by omega))
            have Sx := src_upd Sa (xb.block b hb5)
            have hlb := bl.2
            clear hr
            have HF := Lib.hid (six_post (w := w) HOx.out (by omega) (by omega) hn hm (show n + 1 ≤ 2000 by omega) hnm ap.own.sl (by omega) (by have := ap.own.lt; omega) Sx (U0.out.trans Ux) hltw)
            have q0 := Tx.b0
            have q1 := Tx.b1
            have R7 := R1.keep (Ux.block w.heap.size (by omega) (by omega))
            have f0 := R7.b0
            have f1 := R7.b1
            have k0 := R7.free 0
            have k1 := R7.free 1
            clear R7 Ux Sx Tx
            go_wp2_with fail
            exact bodyPost_ret (v := .tuple #[.agg #[.slice p0 n c0, .slice p1 m c1], vb]) (by simp [results, Tryz.results48, go_sem, f0, f1]) rfl HF.out
          · obtain ⟨hv0, hv1, hv2⟩ := hva
            have hv0' : (va == 0) = false := by simpa using hv0
            have hv1' : (va == 1) = false := by simpa using hv1
            have hv2' : (va == 2) = false := by simpa using hv2
            clear hv0 hv1 hv2 bd
            go_upto_region 20 with (fail)
            have HF := Lib.hid (six_post (w := w) HOa.out (by omega) (by omega) hn hm (show n ≤ 2000 by omega) hnm hVa.sl (by omega) (by omega) Sa (U0.out.trans Ua) hltw)
            have q0 := Ta.b0
            have q1 := Ta.b1
            have R7 := R1.keep (Ua.block w.heap.size (by omega) (by omega))
            have f0 := R7.b0
            have f1 := R7.b1
            have k0 := R7.free 0
            have k1 := R7.free 1
            clear R7 Ua Sa Ta
            go_wp2_with fail
            exact bodyPost_ret (v := .tuple #[.agg #[.slice p0 n c0, .slice p1 m c1], .slice (some ⟨g8, 0, none⟩) n c8]) (by simp [results, Tryz.results48, go_sem, f0, f1]) rfl HF.out
end Go.Proofs.YtfkacpphdnlkfaaGreat.draw

namespace Go.Proofs.YtfkacpphdnlkfaaGreat.draw
open Go.RowKit
set_option linter.unusedVariables false

def NLOnly (w : World) (e : Ending) (w' : World) : Prop :=
  ∃ (v : Value) (n m : Nat) (N : Nat → mem.Nod) (P : Nat → mem.Pip) (b1 b2 : Nat) (vl : Value) (K : Nat) (D : Nat → Int), e = .returned (.tuple #[v, vl]) ∧ n ≤ 1000 ∧ m ≤ 1000 ∧ K ≤ 2000 ∧ (∀ i, i < n → (N i).s.size ≤ 9223372036854775807) ∧ mem.NetOwn w' v n N m P b1 b2 ∧ w.heap.size ≤ b1 ∧ w.heap.size ≤ b2 ∧ mem.Sl w' vl K D w.heap.size w'.heap.size ∧ Below w.heap.size w w'
theorem sl_sh {w : World} {v : Value} {n : Nat} {d : Nat → Int} {lo hi : Nat} (h : mem.Sl w v n d lo hi) : ∃ p cap, v = .slice p n cap := by
  obtain ⟨p, cap, e, _⟩ := h.ex
  exact ⟨p, cap, e⟩
end Go.Proofs.YtfkacpphdnlkfaaGreat.draw

namespace Go.Proofs.YtfkacpphdnlkfaaGreat.draw
open Go.RowKit
set_option linter.unusedVariables false

/-- flows have been drawn -/
def FlPost (w : World) (b : Nat) (cv : Value) (len : Nat) (e : Ending) (w' : World) : Prop :=
  ∃ (vl : Value) (K : Nat) (D : Nat → Int) (i s : Int), e = .returned vl ∧ K ≤ 2000 ∧ mem.Sl w' vl K D w.heap.size w'.heap.size ∧ Src w' b cv len i s ∧ mem.Upd (· = b) w w'
set_option maxRecDepth 100000 in
set_option maxHeartbeats 8000000 in
theorem flows_any (w : World) (b B : Nat) (cv : Value) (len : Nat) (i s : Int) (h : Src w b cv len i s) (hc : CodeAt w cv len B) (hB' : B ≤ b) (p0 : Option Addr) (n c0 : Nat) (p1 : Option Addr) (m c1 : Nat) (hm : m ≤ 1000) :
    Calls Tryz.prog 62 #[.pointer (some ⟨b, 0, none⟩), .agg #[.slice p0 n c0, .slice p1 m c1]] w (FlPost w b cv len) := by
  have hlt := src_lt h
  have xA := mem.below_new w (.cells #[.slice p0 n c0, .slice p1 m c1] 33)
  have HC := Lib.hid (code_of hc (mem.Upd.of_below (X := (· = b)) xA) hB' hlt)
  have U0 := Lib.hid (mem.Upd.of_below xA (X := (· = b)))
  have T1 := mem.boxed w (.slice p0 n c0) (.slice p1 m c1) 33
  have xB := mem.below_new (w.alloc (.cells #[.slice p0 n c0, .slice p1 m c1] 33)) (.cells #[] 2)
  have F0 := mem.Own.nilled (w.alloc (.cells #[.slice p0 n c0, .slice p1 m c1] 33)) (fun _ => 0)
  have SA := src_alloc h hlt (.cells #[.slice p0 n c0, .slice p1 m c1] 33)
  have D0 : Fl (w.alloc (.cells #[.slice p0 n c0, .slice p1 m c1] 33)) b cv len ((w.alloc (.cells #[.slice p0 n c0, .slice p1 m c1] 33)).alloc (.cells #[] 2)) (.slice (some ⟨(w.alloc (.cells #[.slice p0 n c0, .slice p1 m c1] 33)).heap.size, 0, none⟩) 0 0) 0 := ⟨fun _ => 0, _, _, _, F0, fun j hj => by omega, Nat.le_refl _, src_upd SA (xB.block b (src_lt SA)), mem.Upd.of_below xB⟩
  have hza : (w.alloc (.cells #[.slice p0 n c0, .slice p1 m c1] 33)).heap.size = w.heap.size + 1 := by simp
  rw [hza] at D0
  clear F0 xB xA h hc SA
  go_enter Tryz.func62, Tryz.ntmps62
  go_wp2_with fail
  generalize hW : (w.alloc (.cells #[.slice p0 n c0, .slice p1 m c1] 33)).alloc (.cells #[] 2) = wb at *
  generalize hW2 : w.alloc (.cells #[.slice p0 n c0, .slice p1 m c1] 33) = wa at *
  generalize hv : Value.slice (some ⟨w.heap.size + 1, 0, none⟩) 0 0 = vl0 at *
  clear hW hW2 hv
  have hTl := T1.lt
  go_loopw [5, 6] (fun ov iv wr => ∃ (k : Nat) (ov' : Value), ov' = ov ∧ iv = .int .i64 k ∧ k ≤ m ∧ Fl wa b cv len wr ov' k) (fun _ iv _ => m - (intOf iv).toNat)
  case atStart => exact ⟨0, _, rfl, rfl, Nat.zero_le _, D0⟩
  case round =>
    obtain ⟨k, ov, rfl, rfl, hk, DF⟩ := hrel
    clear D0
    obtain ⟨D, g, i6, s6, hD, hDb, hg, hS6, hU6⟩ := DF.ex
    clear DF
    have T6 := T1.keep (hU6.block w.heap.size hTl (by omega))
    have q1 := T6.b1
    have k0' : (0 : Int) ≤ (k : Int) := Int.natCast_nonneg _
    by_cases hlt2 : k < m
    · have k1' : (k : Int) < (m : Int) := by omega
      go_wp2_with fail
      refine (next_any wr b B cv len i6 s6 60 hS6 (code_of HC.out hU6 hB' (by omega)) hB' (by omega)).mono ?_
      rintro e w7 ⟨v7, i7, s7, rfl, t7, ht7, hS7, o7⟩
      obtain ⟨co, rfl⟩ := hD.shape
      have hgb : g ≠ b := by omega
      have hD7 := hD.keep (o7.block g hgb)
      have hU7 := hU6.trans (upd_of o7)
      have hb1 : -4611686018427387904 ≤ v7 - 30 ∧ v7 - 30 ≤ 4611686018427387904 := by omega
      have lg := hD7.lt
      obtain ⟨v8, w8, g8, hr, ap⟩ := mem.app_run (w7.alloc (.cells #[.int .i64 (v7 - 30)] 2)) _ k _ g (v7 - 30) w7.heap.size (hD7.alloc _) (mem.cell_new1 w7 _) (by omega)
      have bl := ap.below (B := wa.heap.size) (by omega) (by rw [mem.szal]; omega)
      have xb : Below wa.heap.size w7 w8 := ((mem.below_new w7 _).mono hU7.size).trans bl.1
      have DF8 : Fl wa b cv len w8 v8 (k + 1) := ⟨_, g8, i7, s7, ap.own, fun j hj => by
        unfold mem.upd
        split
        · omega
        · exact hDb j (by omega), bl.2, src_upd hS7 (xb.block b (by omega)), upd_bel hU7 xb⟩
      clear hD hDb hS6 hU6 hS7 o7 hD7 hU7 ap bl xb T6 q1
      go_wp2_with (at_builtin; refine mem.wpList_app hr rfl _ _ rfl rfl rfl rfl ?_)
      clear hr
      go_roundw
      case rel => exact ⟨k + 1, _, rfl, by go_num, hlt2, DF8⟩
      case measure => simp [intOf]; omega
    · obtain rfl : m = k := by omega
      have k1' : ¬ ((m : Int) < (m : Int)) := by omega
      have lg := hD.lt
      have hC6 := code_of HC.out hU6 hB' (by omega)
      have hzr := hU6.size
      obtain ⟨co, rfl⟩ := hD.shape
      clear hDb
      go_wp2_with fail
      refine (next_any wr b B cv len i6 s6 30 hS6 hC6 hB' (by omega)).mono ?_
      rintro e wa' ⟨va, ia, sa, rfl, ta, hta, Sa, oa⟩
      have hVa := hD.keep (oa.block g (by omega))
      have Ua := hU6.trans (upd_of oa)
      have hza2 := oa.size
      have lga := hVa.lt
      clear hC6 hD hS6 hU6 oa T6 q1
      rcases (by omega : va = 0 ∨ va = 1 ∨ (va ≠ 0 ∧ va ≠ 1)) with rfl | rfl | hva
      · obtain ⟨vb, wz, gb, hr, ap⟩ := mem.app_run (wa'.alloc (.cells #[.int .i64 0] 2)) _ m _ g 0 wa'.heap.size (hVa.alloc _) (mem.cell_new1 wa' _) (by omega)
        have bl := ap.below (B := wa.heap.size) (by omega) (by rw [mem.szal]; omega)
        have xb : Below wa.heap.size wa' wz := ((mem.below_new wa' _).mono (by omega)).trans bl.1
        have hlz := ap.own.lt
        have HF := Lib.hid (And.intro (ap.own.sl.mono (show w.heap.size ≤ gb by omega) (show gb + 1 ≤ wz.heap.size by omega)) (And.intro (src_upd Sa (xb.block b (by omega))) (U0.out.trans (upd_bel Ua xb))))
        clear hVa Sa Ua ap bl xb
        go_wp2_with (at_builtin; refine mem.wpList_app hr rfl _ _ rfl rfl rfl rfl ?_)
        clear hr
        go_ret
        exact ⟨_, m + 1, _, _, _, rfl, by omega, HF.out.1, HF.out.2.1, HF.out.2.2⟩
      · rcases Nat.eq_zero_or_pos m with hm0 | hm0
        · subst hm0
          have HF := Lib.hid (And.intro (hVa.sl.mono (show w.heap.size ≤ g by omega) (show g + 1 ≤ wa'.heap.size by omega)) (And.intro Sa (U0.out.trans Ua)))
          clear hVa Sa Ua
          go_wp2_with fail
          go_ret
          exact ⟨_, 0, _, _, _, rfl, by omega, HF.out.1, HF.out.2.1, HF.out.2.2⟩
        · have hmI : (0 : Int) < (m : Int) := by omega
          have bA := mem.below_new wa' (.cells #[.int .i64 30000, .int .i64 30001, .int .i64 (-30000)] 2)
          have tA := tabI wa' 2 #[.int .i64 30000, .int .i64 30001, .int .i64 (-30000)] (by
            intro j hj
            rcases (by simp at hj; omega : j = 0 ∨ j = 1 ∨ j = 2) with rfl | rfl | rfl
            all_goals exact ⟨_, rfl⟩)
          have SA := src_alloc Sa (src_lt Sa) (.cells #[.int .i64 30000, .int .i64 30001, .int .i64 (-30000)] 2)
          have UA := Ua.trans (mem.Upd.of_below bA)
          have CA := code_of HC.out UA hB' (by omega)
          have HVA := Lib.hid (hVa.alloc (.cells #[.int .i64 30000, .int .i64 30001, .int .i64 (-30000)] 2))
          have hzA : (wa'.alloc (.cells #[.int .i64 30000, .int .i64 30001, .int .i64 (-30000)] 2)).heap.size = wa'.heap.size + 1 := by simp
          have lba := src_lt Sa
          have yzA := hVa.free 0
          clear Sa Ua hVa bA
          go_wp2_with fail
          refine (next_any _ b B cv len ia sa 3 SA CA hB' (by omega)).mono ?_
          rintro e wc ⟨vc, ic, sc, rfl, tc, htc, Sc, oc⟩
          have hzc := oc.size
          have HVc := Lib.hid (HVA.out.keep (oc.block g (by omega)))
          have Uc := UA.trans (upd_of oc)
          obtain ⟨x, rfl⟩ := Int.eq_ofNat_of_zero_le tc
          have hx : x < 3 := by omega
          have hx2 : (x : Int) < 3 := by omega
          obtain ⟨y, hy⟩ := tA x hx
          have hyc : wc.cell? ⟨wa'.heap.size, x, none⟩ = some (.int .i64 y) := by
            have e := oc.block wa'.heap.size (by omega)
            simp only [World.cell?] at hy ⊢
            rw [e]
            exact hy
          have yf := HVc.out.row.cell 0 hm0
          have yz := HVc.out.free 0
          have oX := (mem.Only.refl g wc).setCell 0 (.int .i64 y)
          have hVx := HVc.out.put1 0 y hm0
          have hlx := hVx.lt
          have HF := Lib.hid (And.intro (hVx.sl.mono (show w.heap.size ≤ g by omega) (show g + 1 ≤ _ from hlx)) (And.intro (src_upd Sc (oX.block b (by omega))) (U0.out.trans (upd_own Uc oX (by omega)))))
          clear tA SA CA UA HVA hy oc htc yzA HVc Sc Uc oX hVx hlx
          go_wp2_with fail
          go_ret
          exact ⟨_, m, _, _, _, rfl, by omega, HF.out.1, HF.out.2.1, HF.out.2.2⟩
      · obtain ⟨hv0, hv1⟩ := hva
        have hv0' : (va == 0) = false := by simpa using hv0
        have hv1' : (va == 1) = false := by simpa using hv1
        have HF := Lib.hid (And.intro (hVa.sl.mono (show w.heap.size ≤ g by omega) (show g + 1 ≤ wa'.heap.size by omega)) (And.intro Sa (U0.out.trans Ua)))
        clear hv0 hv1 hVa Sa Ua
        go_wp2_with fail
        go_ret
        exact ⟨_, m, _, _, _, rfl, by omega, HF.out.1, HF.out.2.1, HF.out.2.2⟩
end Go.Proofs.YtfkacpphdnlkfaaGreat.draw

namespace Go.Proofs.YtfkacpphdnlkfaaGreat.draw
open Go.RowKit
set_option linter.unusedVariables false

def NLLOnly (w : World) (e : Ending) (w' : World) : Prop :=
  ∃ (v : Value) (n m : Nat) (N : Nat → mem.Nod) (P : Nat → mem.Pip) (b1 b2 : Nat) (vk : Value) (K : Nat) (D : Nat → Int) (vl : Value) (L : Nat) (S : Nat → Int), e = .returned (.tuple #[v, vk, vl]) ∧ n ≤ 1000 ∧ m ≤ 1000 ∧ K ≤ 2000 ∧ L ≤ 2000 ∧ (∀ i, i < n → (N i).s.size ≤ 9223372036854775807) ∧ mem.NetOwn w' v n N m P b1 b2 ∧ w.heap.size ≤ b1 ∧ w.heap.size ≤ b2 ∧ mem.Sl w' vk K D w.heap.size w'.heap.size ∧ mem.Sl w' vl L S w.heap.size w'.heap.size ∧ Below w.heap.size w w'
theorem sl_upd {w w' : World} {v : Value} {n : Nat} {d : Nat → Int} {lo hi b : Nat} (h : mem.Sl w v n d lo hi) (u : mem.Upd (· = b) w w') (h1 : b < lo) (h2 : hi ≤ w.heap.size) : mem.Sl w' v n d lo hi := by
  obtain ⟨p, cap, rfl, h | ⟨c, o, rfl, g1, g2, g3⟩⟩ := h
  · exact ⟨p, cap, rfl, .inl h⟩
  · exact ⟨_, cap, rfl, .inr ⟨c, o, rfl, g1, g2, fun k hk => (World.cell?_of_block (u.block c (by omega) (by omega))).trans (g3 k hk)⟩⟩
theorem owns_slw {w : World} {v : Value} {n b lo : Nat} {d : Nat → Int} (h : mem.OwnS w v n 1 (fun i _ => .int .i64 (d i)) b) (hlo : lo ≤ b) : mem.Sl w v n d lo w.heap.size := by
  obtain ⟨p', cap, hv, h1, h2, h3⟩ := h.ex
  refine ⟨p', cap, hv, ?_⟩
  rcases h3 with h3 | ⟨h3, h4⟩
  · exact .inl h3
  · refine .inr ⟨b, 0, h3, hlo, h4.lt, fun k hk => ?_⟩
    have := h4.cell k 0 hk (by omega)
    simpa using this
theorem sl_drew {w : World} {v : Value} {n : Nat} {d : Nat → Int} {lo hi : Nat} (h : mem.Sl w v n d lo hi) : mem.Sl w.drew v n d lo hi := ⟨h.ex⟩
end Go.Proofs.YtfkacpphdnlkfaaGreat.draw

namespace Go.Proofs.YtfkacpphdnlkfaaGreat.draw
open Go.RowKit
set_option linter.unusedVariables false

def NLXYOnly (w : World) (e : Ending) (w' : World) : Prop :=
  ∃ (v : Value) (n m : Nat) (N : Nat → mem.Nod) (P : Nat → mem.Pip) (b1 b2 : Nat) (vk : Value) (K : Nat) (D : Nat → Int) (x y : Int), e = .returned (.tuple #[v, vk, .int .i64 x, .int .i64 y]) ∧ n ≤ 1000 ∧ m ≤ 1000 ∧ K ≤ 2000 ∧ (∀ i, i < n → (N i).s.size ≤ 9223372036854775807) ∧ mem.NetOwn w' v n N m P b1 b2 ∧ w.heap.size ≤ b1 ∧ w.heap.size ≤ b2 ∧ mem.Sl w' vk K D w.heap.size w'.heap.size ∧ Below w.heap.size w w'
def NXYOnly (w : World) (e : Ending) (w' : World) : Prop :=
  ∃ (v : Value) (n m : Nat) (N : Nat → mem.Nod) (P : Nat → mem.Pip) (b1 b2 : Nat) (x y : Int), e = .returned (.tuple #[v, .int .i64 x, .int .i64 y]) ∧ n ≤ 1000 ∧ m ≤ 1000 ∧ (∀ i, i < n → (N i).s.size ≤ 9223372036854775807) ∧ mem.NetOwn w' v n N m P b1 b2 ∧ w.heap.size ≤ b1 ∧ w.heap.size ≤ b2 ∧ Below w.heap.size w w'
/-- a level has been drawn -/
def LevPost (w : World) (b : Nat) (cv : Value) (len : Nat) (e : Ending) (w' : World) : Prop :=
  ∃ y i s : Int, e = .returned (.int .i64 y) ∧ Src w' b cv len i s ∧ mem.Upd (· = b) w w'
end Go.Proofs.YtfkacpphdnlkfaaGreat.draw
