/-
  Several texts in one: Drl, Drc, Ouw, Dr6, Dr7, DrbM, Dr8.
-/
import Derived.Test.YtpgcieefipjjfaaGreatRows
import Derived.Test.YtpgcieefipjjfaaGreatDrG
import Derived.WalkKit
import Derived.ProofKit
import Derived.Lib.Hide
import Derived.OwnWalk
import Derived.Outline
import Derived.Test.YtpgcieefipjjfaaGreatCsM
import Derived.Deep.Cut
import Derived.Deep.RegionHeld3
import Derived.Deep.RegionWith
import Derived.StillTailTactics
import Derived.Test.YtpgcieefipjjfaaGreatBaM
import Derived.Test.YtpgcieefipjjfaaGreatLfm
import Derived.IntWalk
namespace Go.Proofs.YtpgcieefipjjfaaGreat.draw
open Go.RowKit
set_option linter.unusedVariables false

theorem upd_hi {X : Nat → Prop} {g : Nat} {w w1 w2 : World} (h : mem.Upd X w w1) (k : mem.Upd (fun x => x = g) w1 w2) (hg : w.heap.size ≤ g) : mem.Upd X w w2 :=
  ⟨k.os.trans h.os, k.tape.trans h.tape, k.output.trans h.output, Nat.le_trans h.size k.size, fun x hx hn => (k.block x (Nat.lt_of_lt_of_le hx h.size) (by omega)).trans (h.block x hx hn)⟩
theorem flatP {P : Nat → mem.Pip} {n : Nat} : ∀ u ∈ mem.flatL (mem.pipC P) n 5, u.oneCell' = true := by
  intro u hu
  unfold mem.flatL at hu
  obtain ⟨x, _, rfl⟩ := List.mem_map.1 hu
  unfold mem.pipC
  split <;> rfl
theorem appPips (W : World) (B B0 : Nat) (p : Option Addr) (m cap : Nat) (P : Nat → mem.Pip) (lo hi : Nat) (h0 : RP B W (.slice (some ⟨B0, 0, none⟩) 0 0) 0 (mem.pipC P)) (hB : B ≤ W.heap.size) (h : mem.Cs W (.slice p m cap) m 5 (mem.pipC P) lo hi) (hm : m ≤ 1000000) :
    ∃ v' w', Sem.run Tryz.prog (Builtin.append_ #[25, 25] 25 #[.slice (some ⟨B0, 0, none⟩) 0 0, .slice p m cap]) W = .ok v' w' ∧ RP B w' v' m (mem.pipC P) ∧ mem.Upd (fun x => x = B0) W w' := by
  obtain ⟨i0, hi0, hz0, hz1, hz2⟩ := info_parts mem.info_make_pipe
  obtain ⟨q, cq, hv, h1, h2, h3⟩ := h.ex
  injection hv with e1 _ e2
  subst e1 e2
  rcases Nat.eq_zero_or_pos m with rfl | hpos
  · refine ⟨.slice (some ⟨B0, 0, none⟩) 0 0, W, ?_, h0, ⟨rfl, rfl, rfl, Nat.le_refl _, fun _ _ _ => rfl⟩⟩
    rcases p with _ | a
    · simp [Builtin.append_, run_underlying Tryz.underlying25, sizeOf, typeInfo, hi0, Builtin.lenOf, Builtin.firstCells, storeCells]
    · have hf := run_firstCells_some (P := Tryz.prog) W i0.size 0 a 0 cap [] (by simp) (by intro j u hu; cases hu)
      simp [Builtin.append_, run_underlying Tryz.underlying25, sizeOf, typeInfo, hi0, Builtin.lenOf, hf, storeCells]
  · rcases h3 with h3 | ⟨b, o, rfl, g1, g2, g3⟩
    · omega
    obtain ⟨v', w', hr, ho, hgr, _⟩ := run_append_own (P := Tryz.prog) W B 25 25 81 i0 _ 5 40 Tryz.underlying25 hi0 hz0 hz1 hz2 (by kernel_rfl) (by omega) _ 0 _ h0.own ⟨b, o, none⟩ m cap (mem.flatL (mem.pipC P) m 5) (mem.flatL_len _ _ _) (mem.flatL_cell g3) flatP (by unfold maxLen; omega) (by omega) hB
    refine ⟨v', w', hr, ⟨?_⟩, ⟨hgr.os, hgr.tape, hgr.output, hgr.size, fun x hx hne => hgr.block x hx (by simp [Value.ownBlock]; exact hne)⟩⟩
    have e : mem.flatL (mem.pipC P) 0 5 = [] := by simp [mem.flatL]
    rw [e, List.nil_append, Nat.zero_add] at ho
    exact ho
/-- nodes and pipes while pipes are appended; a block below the pipes' row holds the drawn network -/
structure Dl (W1 : World) (b : Nat) (cv : Value) (len nb : Nat) (v0 v1 : Value) (wr : World) (vP : Value) (n m : Nat) : Prop where
  ex : ∃ (N : Nat → mem.Nod) (P : Nat → mem.Pip) (i s : Int), RN W1.heap.size wr v0 n (mem.nodC N) ∧ RP (nb + 1) wr vP m (mem.pipC P) ∧ (∀ i, i < n → (N i).s.size ≤ 9223372036854775807) ∧ Src wr b cv len i s ∧ mem.Upd (· = b) W1 wr ∧ mem.Ob wr nb 2 (mem.bx v0 v1)
theorem Dl.drawn {W1 wr w' : World} {b : Nat} {cv : Value} {len nb : Nat} {v0 v1 vP : Value} {n m : Nat} {i s : Int} (h : Dl W1 b cv len nb v0 v1 wr vP n m) (hb : b < W1.heap.size) (hnb : W1.heap.size ≤ nb) (u : mem.Upd (· = b) wr w') (hS : Src w' b cv len i s) : Dl W1 b cv len nb v0 v1 w' vP n m := by
  obtain ⟨N, P, _, _, h1, h2, h3, _, h5, h6⟩ := h.ex
  exact ⟨N, P, i, s, h1.low u hb, h2.low u (by omega), h3, hS, h5.trans u, h6.keep (u.block nb h6.lt (by omega))⟩
theorem Dl.addP {W1 wr w' : World} {b : Nat} {cv : Value} {len nb : Nat} {v0 v1 vP v' : Value} {n m : Nat} {N : Nat → mem.Nod} {P : Nat → mem.Pip} {q : mem.Pip} {i s : Int} (hb : b < W1.heap.size) (hnb : W1.heap.size ≤ nb)
    (hN : RN W1.heap.size wr v0 n (mem.nodC N)) (hP : RP (nb + 1) wr vP m (mem.pipC P)) (hs : ∀ i, i < n → (N i).s.size ≤ 9223372036854775807) (hS : Src wr b cv len i s) (hU : mem.Upd (· = b) W1 wr) (hO : mem.Ob wr nb 2 (mem.bx v0 v1))
    (h' : RP (nb + 1) w' v' (m + 1) (mem.pipC (draw.addP P m q))) (u : mem.Upd (fun x => some x = vP.ownBlock) wr w') : Dl W1 b cv len nb v0 v1 w' v' n (m + 1) :=
  ⟨N, _, i, s, hN.keep u (mem.rows_apart hN hP (by decide)), h', hs, src_upd hS (u.block b (src_lt hS) (fun e => by have := (hP.own.lt b e.symm).1; omega)), upd_row hU hP (by omega) u, hO.keep (u.block nb hO.lt (fun e => by have := (hP.own.lt nb e.symm).1; omega))⟩
theorem Dl.net {W1 wr : World} {b : Nat} {cv : Value} {len nb : Nat} {v0 v1 vP : Value} {n m : Nat} (h : Dl W1 b cv len nb v0 v1 wr vP n m) (hnb : W1.heap.size ≤ nb) : ∃ (N : Nat → mem.Nod) (P : Nat → mem.Pip) (i s : Int) (g1 g2 : Nat), mem.OwnS wr v0 n 3 (mem.nodC N) g1 ∧ mem.OwnS wr vP m 5 (mem.pipC P) g2 ∧ (n = 0 ∨ m = 0 ∨ g1 ≠ g2) ∧ W1.heap.size ≤ g1 ∧ W1.heap.size ≤ g2 ∧ (∀ i, i < n → (N i).s.size ≤ 9223372036854775807) ∧ Src wr b cv len i s ∧ mem.Upd (· = b) W1 wr ∧ mem.Ob wr nb 2 (mem.bx v0 v1) := by
  obtain ⟨N, P, i, s, hN, hP, hs, hS, hU, hO⟩ := h.ex
  obtain ⟨g1, a1, a2, a3⟩ := ownS2 hN
  obtain ⟨g2, c1, c2, c3⟩ := ownS2 hP
  refine ⟨N, P, i, s, g1, g2, a1, c1, ?_, a2, by omega, hs, hS, hU, hO⟩
  rcases a3 with a3 | a3
  · rcases c3 with c3 | c3
    · refine .inr (.inr fun e => ?_)
      exact mem.rows_apart hN hP (by decide) g1 a3 (by rw [c3, e])
    · exact .inr (.inl c3)
  · exact .inl a3
set_option maxRecDepth 100000 in
set_option maxHeartbeats 4000000 in
theorem loops_any (w : World) (b B : Nat) (cv : Value) (len : Nat) (i s : Int) (h : Src w b cv len i s) (hc : CodeAt w cv len B) (hB : B ≤ b) :
    Calls Tryz.prog 66 #[.pointer (some ⟨b, 0, none⟩)] w (AnyPost w b cv len) := by
  have hlt := src_lt h
  have h' := src_alloc h hlt (.cells #[.slice none 0 0, .slice none 0 0] 27)
  have HC := Lib.hid (codeAt_below hc ((Below.refl B w).alloc (by omega) (.cells #[.slice none 0 0, .slice none 0 0] 27)))
  have R1 := mem.boxed w (.slice none 0 0) (.slice none 0 0) 27
  have U0 := Lib.hid (mem.Upd.of_below (mem.below_new w (.cells #[.slice none 0 0, .slice none 0 0] 27)) (X := (· = b)))
  have hsz : w.heap.size + 1 ≤ (w.alloc (.cells #[.slice none 0 0, .slice none 0 0] 27)).heap.size := by simp
  go_enter Tryz.func66, Tryz.ntmps66
  go_wp2_with fail
  generalize hW : w.alloc (.cells #[.slice none 0 0, .slice none 0 0] 27) = Wa at *
  clear hW h hc
  have hb : b < Wa.heap.size := by omega
  refine (net_any Wa b B cv len i s h' HC.out hB).mono ?_
  rintro e w1 ⟨v, n, m, N, P, b1, b2, i1, s1, rfl, hn, hm, hn0, hnm, hO, l1, l2, hS1, U1, v0, v1, rfl, rN, rP⟩
  obtain ⟨p0, c0, rfl⟩ := rN.shape
  obtain ⟨p1, c1, rfl⟩ := rP.shape
  obtain ⟨u0, u1, he, _, gP⟩ := hO.net.ex
  simp only [Value.agg.injEq, Array.mk.injEq, List.cons.injEq, and_true] at he
  obtain ⟨rfl, rfl⟩ := he
  have hs1 := U1.size
  obtain ⟨w2, hw2⟩ : ∃ w2, w1.alloc (.cells #[.slice p0 n c0, .slice p1 m c1] 27) = w2 := ⟨_, rfl⟩
  have hs2 : w2.heap.size = w1.heap.size + 1 := by rw [← hw2]; simp
  have x2 : Below w1.heap.size w1 w2 := by rw [← hw2]; exact mem.below_new _ _
  have T2 := mem.boxed w1 (.slice p0 n c0) (.slice p1 m c1) 27
  rw [hw2] at T2
  obtain ⟨w3, hw3⟩ : ∃ w3, w2.alloc (.cells #[] 81) = w3 := ⟨_, rfl⟩
  have r3 := mem.rowE_nil (B := w1.heap.size + 1) (e := 81) (z := 5) w2 (mem.pipC P) (by omega)
  have x3 : Below w2.heap.size w2 w3 := by rw [← hw3]; exact mem.below_new _ _
  have x23 := x2.trans (x3.mono (by omega))
  have hs3 : w1.heap.size + 1 + 1 = w3.heap.size := by rw [← hw3]; simp [hs2]
  rw [hw3, hs2] at r3
  obtain ⟨v4, w4, hr, rP4, u4⟩ := appPips w3 (w1.heap.size + 1) (w1.heap.size + 1) p1 m c1 P 0 w1.heap.size r3 (by omega) (gP.below x23 (Nat.le_refl _)) (by omega)
  have hl4 := u4.size
  have D0 : Dl Wa b cv len w1.heap.size (.slice p0 n c0) (.slice p1 m c1) w4 v4 n m := ⟨N, P, i1, s1, (rN.next x23).keep u4 (fun k hk hx => by
      have := (rN.own.lt k hk).2
      omega), rP4, hnm, src_upd (src_upd hS1 (x23.block b (src_lt hS1))) (u4.block b (by have := src_lt hS1; omega) (by have := src_lt hS1; omega)), upd_hi (U1.trans (mem.Upd.of_below x23)) u4 (by omega), (T2.next x3).keep (u4.block w1.heap.size (by omega) (by omega))⟩
  have hcnt : (0 : Int) < (n : Int) := by omega
  have t2a := T2.b0
  have t2b := T2.b1
  have hnb : Wa.heap.size ≤ w1.heap.size := hs1
  clear rN rP hO gP hS1 U1 T2 r3 x2 x3 x23 rP4 u4 hs2 hs3
  subst hw3 hw2
  go_wp2_with (at_builtin; refine mem.wpList_appT hr rfl _ _ rfl rfl rfl rfl ?_)
  clear hr t2a t2b
  obtain ⟨N5, P5, i5, s5, hN5, hP5, hs5, hS5, hU5, hT5⟩ := D0.ex
  refine (next_any w4 b B cv len i5 s5 3 hS5 (code_of HC.out hU5 hB hb) hB (by omega)).mono ?_
  rintro e w6 ⟨v6, i6, s6, rfl, t0, ht, hS6, o6⟩
  have D6 := D0.drawn hb hnb (upd_of o6) hS6
  clear D0 hN5 hP5 hs5 hS5 hU5 hT5 o6 hS6
  obtain ⟨j0, rfl⟩ := Int.eq_ofNat_of_zero_le t0
  have hj0 : j0 ≤ 2 := by omega
  clear t0 ht
  go_wp2_with fail
  go_loopw [6, 5] (fun i vP wr => ∃ (j k : Nat) (vP' : Value), i = .int .i64 j ∧ vP' = vP ∧ j ≤ 2 ∧ k + j ≤ 102 ∧ Dl Wa b cv len w1.heap.size (.slice p0 n c0) (.slice p1 m c1) wr vP n k) (fun i _ _ => (intOf i).toNat)
  case atStart => exact ⟨j0, m, _, rfl, rfl, hj0, by omega, D6⟩
  case round =>
    obtain ⟨j, m', vP', rfl, rfl, hj, hmj, D⟩ := hrel
    clear D6
    rcases Nat.eq_zero_or_pos j with hj1 | hj1
    · subst hj1
      obtain ⟨N7, P7, i7, s7, g1, g2, o1, o2, hd, q1, q2, hs7, hS7, hU7, hT7⟩ := D.net hnb
      have R7 := R1.keep (hU7.block w.heap.size (by omega) (by omega))
      have f0 := R7.b0
      have f1 := R7.b1
      have k0 := R7.free 0
      have k1 := R7.free 1
      have t0 := hT7.b0
      have t1 := hT7.b1
      obtain ⟨p2, c2, rfl⟩ := o2.shape
      have hO := (((mem.Only.refl w.heap.size wr).setCell 0 (.slice p0 n c0)).setCell 1 (.slice p2 m' c2))
      have HF := Lib.hid (And.intro (mem.OwnS.set2 (g := w.heap.size) (o0 := 0) (o1 := 1) (u0 := .slice p0 n c0) (u1 := .slice p2 m' c2) o1 (by omega)) (And.intro (mem.OwnS.set2 (g := w.heap.size) (o0 := 0) (o1 := 1) (u0 := .slice p0 n c0) (u1 := .slice p2 m' c2) o2 (by omega)) (And.intro hd (And.intro hs7 (And.intro (src_upd hS7 (hO.block b (by omega))) (upd_own (U0.out.trans hU7) hO (Nat.le_refl _)))))))
      clear D R7 hU7 hS7 hs7 o1 o2 hO hd hT7
      go_wp2_with fail
      refine bodyPost_ret (v := .agg #[.slice p0 n c0, .slice p2 m' c2]) (by simp [results, Tryz.results66, go_sem, f0, f1]) rfl ⟨_, n, m', N7, P7, g1, g2, i7, s7, rfl, by omega, by omega, HF.out.2.2.2.1, ⟨_, _, rfl, HF.out.1, HF.out.2.1, HF.out.2.2.1⟩, by omega, by omega, HF.out.2.2.2.2.1, HF.out.2.2.2.2.2⟩
    have hjI : (0 : Int) < (j : Int) := by omega
    by_cases hc1 : n = 1
    · subst hc1
      obtain ⟨N7, P7, i7, s7, g1, g2, o1, o2, hd, q1, q2, hs7, hS7, hU7, hT7⟩ := D.net hnb
      have R7 := R1.keep (hU7.block w.heap.size (by omega) (by omega))
      have f0 := R7.b0
      have f1 := R7.b1
      have k0 := R7.free 0
      have k1 := R7.free 1
      have t0 := hT7.b0
      have t1 := hT7.b1
      obtain ⟨p2, c2, rfl⟩ := o2.shape
      have hO := (((mem.Only.refl w.heap.size wr).setCell 0 (.slice p0 1 c0)).setCell 1 (.slice p2 m' c2))
      have HF := Lib.hid (And.intro (mem.OwnS.set2 (g := w.heap.size) (o0 := 0) (o1 := 1) (u0 := .slice p0 1 c0) (u1 := .slice p2 m' c2) o1 (by omega)) (And.intro (mem.OwnS.set2 (g := w.heap.size) (o0 := 0) (o1 := 1) (u0 := .slice p0 1 c0) (u1 := .slice p2 m' c2) o2 (by omega)) (And.intro hd (And.intro hs7 (And.intro (src_upd hS7 (hO.block b (by omega))) (upd_own (U0.out.trans hU7) hO (Nat.le_refl _)))))))
      clear D R7 hU7 hS7 hs7 o1 o2 hO hd hT7
      go_wp2_with fail
      refine bodyPost_ret (v := .agg #[.slice p0 1 c0, .slice p2 m' c2]) (by simp [results, Tryz.results66, go_sem, f0, f1]) rfl ⟨_, 1, m', N7, P7, g1, g2, i7, s7, rfl, by omega, by omega, HF.out.2.2.2.1, ⟨_, _, rfl, HF.out.1, HF.out.2.1, HF.out.2.2.1⟩, by omega, by omega, HF.out.2.2.2.2.1, HF.out.2.2.2.2.2⟩
    have hcI : (1 : Int) < (n : Int) := by omega
    go_wp2_with fail
    obtain ⟨N5, P5, i5, s5, hN5, hP5, hs5, hS5, hU5, hT5⟩ := D.ex
    refine (next_any wr b B cv len i5 s5 _ hS5 (code_of HC.out hU5 hB hb) hB (by omega)).mono ?_
    rintro e w7 ⟨v7, i7, s7, rfl, t7, ht7, hS7, o7⟩
    have D7 := D.drawn hb hnb (upd_of o7) hS7
    clear D hN5 hP5 hs5 hS5 hU5 hT5 o7 hS7
    have hv7 : v7 ≤ 100 := by omega
    go_wp2_with fail
    obtain ⟨N5, P5, i5, s5, hN5, hP5, hs5, hS5, hU5, hT5⟩ := D7.ex
    refine (next_any w7 b B cv len i5 s5 _ hS5 (code_of HC.out hU5 hB hb) hB (by omega)).mono ?_
    rintro e w8 ⟨v8, i8, s8, rfl, t8, ht8, hS8, o8⟩
    have D8 := D7.drawn hb hnb (upd_of o8) hS8
    clear D7 hN5 hP5 hs5 hS5 hU5 hT5 o8 hS8
    have hv8 : v8 ≤ 100 := by omega
    have hne : (n : Int) ≠ 0 := by omega
    go_wp2_with fail
    obtain ⟨N5, P5, i5, s5, hN5, hP5, hs5, hS5, hU5, hT5⟩ := D8.ex
    refine (pipe_any w8 b B cv len i5 s5 _ _ hS5 (code_of HC.out hU5 hB hb) hB).mono ?_
    rintro e w9 ⟨q9, i9, s9, rfl, hS9, U9⟩
    have D9 := D8.drawn hb hnb U9 hS9
    clear D8 hN5 hP5 hs5 hS5 hU5 hT5 U9 hS9
    obtain ⟨N8, P8, i8, s8, hN8, hP8, hs8, hS8, hU8, hT8⟩ := D9.ex
    obtain ⟨pP, cP, rfl⟩ := hP8.shape
    obtain ⟨va, wa, hra, ha, ua⟩ := appPip (w1.heap.size + 1) w9 _ m' P8 q9 hP8 (by have := hT8.lt; omega) (by omega)
    have Da := Dl.addP hb hnb hN8 hP8 hs8 hS8 hU8 hT8 ha ua
    clear D9 hN8 hP8 hs8 hS8 hU8 hT8 ha ua
    go_wp2_with (at_builtin; refine mem.wpList_appT hra rfl _ _ rfl rfl rfl rfl ?_)
    clear hra
    go_roundw
    case rel => exact ⟨j - 1, m' + 1, _, by go_num, rfl, by omega, by omega, Da⟩
    case measure => simp [intOf]; omega
end Go.Proofs.YtpgcieefipjjfaaGreat.draw

namespace Go.Proofs.YtpgcieefipjjfaaGreat.draw
open Go.RowKit
set_option linter.unusedVariables false

/-- a network and a number have been drawn -/
def NCPost (w : World) (b : Nat) (cv : Value) (len : Nat) (e : Ending) (w' : World) : Prop :=
  ∃ (v : Value) (n m : Nat) (N : Nat → mem.Nod) (P : Nat → mem.Pip) (b1 b2 : Nat) (x i s : Int), e = .returned (.tuple #[v, .int .i64 x]) ∧ n ≤ 1000 ∧ m ≤ 1000 ∧ (∀ i, i < n → (N i).s.size ≤ 9223372036854775807) ∧ mem.NetOwn w' v n N m P b1 b2 ∧ w.heap.size ≤ b1 ∧ w.heap.size ≤ b2 ∧ Src w' b cv len i s ∧ mem.Upd (· = b) w w'
theorem chord_post {w X : World} {b len n m b1 b2 : Nat} {cv v0 v1 : Value} {N : Nat → mem.Nod} {P : Nat → mem.Pip} {i s x : Int} (hO : mem.NetOwn X (.agg #[v0, v1]) n N m P b1 b2) (hb1 : w.heap.size < b1) (hb2 : w.heap.size < b2) (hn : n ≤ 1000) (hm : m ≤ 1000) (hnm : ∀ i, i < n → (N i).s.size ≤ 9223372036854775807)
    (hS : Src X b cv len i s) (hU : mem.Upd (· = b) w X) (hlt : b < w.heap.size) : NCPost w b cv len (.returned (.tuple #[.agg #[v0, v1], .int .i64 x])) ((X.setCell ⟨w.heap.size, 0, none⟩ v0).setCell ⟨w.heap.size, 1, none⟩ v1) := by
  have hO2 := ((mem.Only.refl w.heap.size X).setCell 0 v0).setCell 1 v1
  exact ⟨_, n, m, N, P, b1, b2, x, i, s, rfl, hn, hm, hnm, hO.upd (mem.Upd.of_only hO2) (.inr (by omega)) (.inr (by omega)), by omega, by omega, src_upd hS (hO2.block b (by omega)), upd_own hU hO2 (Nat.le_refl _)⟩
set_option maxRecDepth 100000 in
set_option maxHeartbeats 8000000 in
theorem chord_any (w : World) (b B : Nat) (cv : Value) (len : Nat) (i s : Int) (h : Src w b cv len i s) (hc : CodeAt w cv len B) (hB' : B ≤ b) :
    Calls Tryz.prog 39 #[.pointer (some ⟨b, 0, none⟩)] w (NCPost w b cv len) := by
  have hlt := src_lt h
  have h' := src_alloc h hlt (.cells #[.slice none 0 0, .slice none 0 0] 27)
  have HC := Lib.hid (codeAt_below hc ((Below.refl B w).alloc (by omega) (.cells #[.slice none 0 0, .slice none 0 0] 27)))
  have R1 := mem.boxed w (.slice none 0 0) (.slice none 0 0) 27
  have U0 := Lib.hid (mem.Upd.of_below (mem.below_new w (.cells #[.slice none 0 0, .slice none 0 0] 27)) (X := (· = b)))
  have hsz : w.heap.size + 1 ≤ (w.alloc (.cells #[.slice none 0 0, .slice none 0 0] 27)).heap.size := by simp
  go_enter Tryz.func39, Tryz.ntmps39
  go_wp2_with fail
  generalize hW : w.alloc (.cells #[.slice none 0 0, .slice none 0 0] 27) = Wa at *
  clear hW h hc
  have hb : b < Wa.heap.size := by omega
  refine (loops_any Wa b B cv len i s h' HC.out hB').mono ?_
  rintro e w1 ⟨v, n, m, N, P, b1, b2, i1, s1, rfl, hn, hm, hnm, hO, l1, l2, hS1, U1⟩
  obtain ⟨p0, c0, p1, c1, rfl⟩ := hO.shape
  have hTl := U1.size
  have hbt := src_lt hS1
  have x2 := mem.below_new w1 (.cells #[.slice p0 n c0, .slice p1 m c1] 27)
  have T1 := mem.boxed w1 (.slice p0 n c0) (.slice p1 m c1) 27
  have HO := Lib.hid (hO.next x2)
  have S2 := src_alloc hS1 (src_lt hS1) (.cells #[.slice p0 n c0, .slice p1 m c1] 27)
  have U2 := U1.trans (mem.Upd.of_below x2)
  clear hO hS1 U1 x2 h'
  go_wp2_with fail
  generalize hW : w1.alloc (.cells #[.slice p0 n c0, .slice p1 m c1] 27) = w2 at *
  obtain ⟨T, hTe⟩ : ∃ T, w1.heap.size = T := ⟨_, rfl⟩
  rw [hTe] at T1 hbt hTl ⊢
  clear hW hTe
  refine (next_any w2 b B cv len i1 s1 12 S2 (code_of HC.out U2 hB' hb) hB' (by omega)).mono ?_
  rintro e w3 ⟨v3, i3, s3, rfl, t3, ht3, S3, o3⟩
  have HO3 := Lib.hid (HO.out.upd (upd_of o3) (.inr (by omega)) (.inr (by omega)))
  have T3 := T1.keep (o3.block T (by omega))
  have U3 := U2.trans (upd_of o3)
  clear HO T1 U2 o3 S2
  have hltw : b < w.heap.size := by omega
  by_cases hv3 : v3 = 0
  · subst hv3
    clear HO3 l1 l2 hn hm hnm
    have hTl3 := T3.lt
    have j0 := T3.free 0
    have j1 := T3.free 1
    have q0 := T3.b0
    have q1 := T3.b1
    go_wp2_with fail
    refine (any_ok w3 b B cv len i3 s3 S3 (code_of HC.out U3 hB' hb) hB').mono ?_
    rintro e w4 ⟨v, n, m, N, P, b1, b2, i3, s3, rfl, hn, hm, hnm, hO, l1, l2, hS4, U4⟩
    obtain ⟨p0, c0, p1, c1, rfl⟩ := hO.shape
    have T4 := T3.keep (U4.block T hTl3 (by omega))
    have hU3 := U3.size
    have j0' := T4.free 0
    have j1' := T4.free 1
    have q0' := T4.b0
    have q1' := T4.b1
    have hU4 := U4.size
    have oT := ((mem.Only.refl T w4).setCell 0 (.slice p0 n c0)).setCell 1 (.slice p1 m c1)
    have HOx := Lib.hid (hO.upd (mem.Upd.of_only oT) (.inr (by omega)) (.inr (by omega)))
    have Tx := Lib.hid ((T4.set 0 (.slice p0 n c0) (by omega)).set 1 (.slice p1 m c1) (by omega))
    have Sx := src_upd hS4 (oT.block b (by omega))
    have Ux := upd_own (U3.trans U4) oT (by omega)
    have hzx := oT.size
    clear T3 j0 j1 q0 q1 T4 hO hS4 U4 oT U3 S3
    go_upto_region 4 with (fail)
    clear j0' j1' q0' q1'
    obtain ⟨w3, hw3⟩ : ∃ wx, (w4.setCell ⟨T, 0, none⟩ (.slice p0 n c0)).setCell ⟨T, 1, none⟩ (.slice p1 m c1) = wx := ⟨_, rfl⟩
    rw [hw3] at HOx Tx Sx Ux hzx ⊢
    clear hw3
    have HO3 := HOx
    have S3 := Sx
    have U3 := Ux
    clear HOx Sx Ux
    have T3 := Tx.out.congr (e := mem.bx (.slice p0 n c0) (.slice p1 m c1)) (by intro j hj; rcases (by omega : j = 0 ∨ j = 1) with rfl | rfl <;> rfl)
    have q0 := T3.b0
    have q1 := T3.b1
    clear Tx
    go_wp2_with fail
    clear q0 q1
    refine (mem.chordsOfS_any w3 _ n N m P 0 w3.heap.size HO3.out.net (Nat.le_refl _) hnm).mono ?_
    rintro e w5 ⟨vA, gA, rfl, oA, lA, x5⟩
    obtain ⟨cn, hcn⟩ : ∃ cn, mem.coN n N m P = cn := ⟨_, rfl⟩
    rw [hcn] at oA
    obtain ⟨pA, cA, rfl⟩ := oA.shape
    obtain ⟨dA, hdA⟩ : ∃ d, mem.fd (mem.chP n P m) m = d := ⟨_, rfl⟩
    rw [hdA] at oA
    have hcb : cn ≤ 9223372036854775807 ∧ (cn = 0 ∨ (pA = some ⟨gA, 0, none⟩ ∧ gA < w5.heap.size ∧ ∀ j, j < cn → w5.cell? ⟨gA, j, none⟩ = some (.int .i64 (dA j)))) := by
      obtain ⟨p', cap', hv, h1, h2, h3⟩ := oA.ex
      injection hv with e1 _ e3
      subst e1
      refine ⟨by omega, ?_⟩
      rcases h3 with h3 | ⟨h3, h4⟩
      · exact .inl h3
      · refine .inr ⟨h3, h4.lt, fun j hj => ?_⟩
        have := h4.cell j 0 hj (by omega)
        simpa using this
    obtain ⟨hcb, hcells⟩ := hcb
    have z5 := x5.size
    have hT3l := T3.lt
    have HO5 := Lib.hid (HO3.out.next x5)
    have T5 := T3.next x5
    have S5 := src_upd S3 (x5.block b (src_lt S3))
    have hb3 := src_lt S3
    have U5 := U3.trans (mem.Upd.of_below x5)
    have hTl5 := T5.lt
    have hTR : T ≠ w.heap.size := by omega
    have hzU := U5.size
    clear HO3 T3 S3 U3 x5 oA hcn hdA
    rcases hcells with hc0 | ⟨rfl, hgl, hcl⟩
    · subst hc0
      go_wp2_with fail
      have RR := R1.keep (U5.block w.heap.size (by omega) (by omega))
      have t0 := T5.b0
      have t1 := T5.b1
      have f0 := RR.b0
      have f1 := RR.b1
      have k0 := RR.free 0
      have k1 := RR.free 1
      have HCd := Lib.hid (code_of (b := b) HC.out (upd_dw' U5) hB' hb : CodeAt w5.drew cv len B)
      go_region_held3 (fun w' => w'.cell? ⟨T, 0, none⟩ = some (.slice p0 n c0) ∧ w'.cell? ⟨T, 1, none⟩ = some (.slice p1 m c1)) (first | exact ⟨t0, t1⟩ | exact ⟨TX.b0, TX.b1⟩ | exact ⟨((((mem.Only.refl w.heap.size _).setCell _ _).setCell _ _).cell (a := ⟨T, 0, none⟩) hTR).trans TX.b0, ((((mem.Only.refl w.heap.size _).setCell _ _).setCell _ _).cell (a := ⟨T, 1, none⟩) hTR).trans TX.b1⟩ | go_keep)
        (first | (go_at_call 68; refine (index_any _ b B cv len i3 s3 m (src_upd S5 rfl : Src w5.drew b cv len i3 s3) HCd.out hB' (by omega)).mono ?_; rintro e wx ⟨x, ix, sx, rfl, x0, x1, hSx, ox⟩; have TX := (T5.keep (ox.block T (by omega)) : mem.Ob wx T 2 _); have RX := (RR.keep (ox.block w.heap.size (by omega)) : mem.Ob wx w.heap.size 2 _); have fx0 := RX.b0; have fx1 := RX.b1; have kx0 := RX.free 0; have kx1 := RX.free 1))
      have HF := Lib.hid (chord_post (w := w) (x := x) (HO5.out.drew.upd (upd_of ox) (.inr (by omega)) (.inr (by omega))) (by omega) (by omega) hn hm hnm hSx (U0.out.trans ((upd_dw' U5).trans (upd_of ox))) hltw)
      clear HO5 S5 T5 U5 RR TX RX ox hSx
      go_wp2_with fail
      exact bodyPost_ret (v := .tuple #[.agg #[.slice p0 n c0, .slice p1 m c1], .int .i64 x]) (by simp [results, Tryz.results39, go_sem, fx0, fx1]) rfl HF.out
    · rcases Nat.eq_zero_or_pos cn with hc0 | hc0
      · subst hc0
        clear hcl
        go_wp2_with fail
        have RR := R1.keep (U5.block w.heap.size (by omega) (by omega))
        have t0 := T5.b0
        have t1 := T5.b1
        have f0 := RR.b0
        have f1 := RR.b1
        have k0 := RR.free 0
        have k1 := RR.free 1
        have HCd := Lib.hid (code_of (b := b) HC.out (upd_dw' U5) hB' hb : CodeAt w5.drew cv len B)
        go_region_held3 (fun w' => w'.cell? ⟨T, 0, none⟩ = some (.slice p0 n c0) ∧ w'.cell? ⟨T, 1, none⟩ = some (.slice p1 m c1)) (first | exact ⟨t0, t1⟩ | exact ⟨TX.b0, TX.b1⟩ | exact ⟨((((mem.Only.refl w.heap.size _).setCell _ _).setCell _ _).cell (a := ⟨T, 0, none⟩) hTR).trans TX.b0, ((((mem.Only.refl w.heap.size _).setCell _ _).setCell _ _).cell (a := ⟨T, 1, none⟩) hTR).trans TX.b1⟩ | go_keep)
          (first | (go_at_call 68; refine (index_any _ b B cv len i3 s3 m (src_upd S5 rfl : Src w5.drew b cv len i3 s3) HCd.out hB' (by omega)).mono ?_; rintro e wx ⟨x, ix, sx, rfl, x0, x1, hSx, ox⟩; have TX := (T5.keep (ox.block T (by omega)) : mem.Ob wx T 2 _); have RX := (RR.keep (ox.block w.heap.size (by omega)) : mem.Ob wx w.heap.size 2 _); have fx0 := RX.b0; have fx1 := RX.b1; have kx0 := RX.free 0; have kx1 := RX.free 1))
        have HF := Lib.hid (chord_post (w := w) (x := x) (HO5.out.drew.upd (upd_of ox) (.inr (by omega)) (.inr (by omega))) (by omega) (by omega) hn hm hnm hSx (U0.out.trans ((upd_dw' U5).trans (upd_of ox))) hltw)
        clear HO5 S5 T5 U5 RR TX RX ox hSx
        go_wp2_with fail
        exact bodyPost_ret (v := .tuple #[.agg #[.slice p0 n c0, .slice p1 m c1], .int .i64 x]) (by simp [results, Tryz.results39, go_sem, fx0, fx1]) rfl HF.out
      · have hcI : (cn == 0) = false := by simp; omega
        have hcI2 : ((cn : Int) == 0) = false := by simp; omega
        have HCL := Lib.hid hcl
        clear hcl
        go_wp2_with fail
        refine (next_any w5 b B cv len i3 s3 8 S5 (code_of HC.out U5 hB' hb) hB' (by omega)).mono ?_
        rintro e w6 ⟨v6, i6, s6, rfl, t6, ht6, S6, o6⟩
        have HY := Lib.hid (show ∀ j, j < cn → ∃ y : Int, w6.cell? ⟨gA, j, none⟩ = some (.int .i64 y) from fun j hj => ⟨dA j, (World.cell?_of_block (o6.block gA (by omega))).trans (HCL.out j hj)⟩)
        have HO6 := Lib.hid (HO5.out.upd (upd_of o6) (.inr (by omega)) (.inr (by omega)))
        have T6 := T5.keep (o6.block T (by omega))
        have U6 := U5.trans (upd_of o6)
        have hz6 := o6.size
        clear HO5 T5 S5 U5 o6 HCL hcI hcI2
        by_cases hv6 : v6 = 0
        · subst hv6
          go_wp2_with fail
          have RR := R1.keep (U6.block w.heap.size (by omega) (by omega))
          have t0 := T6.b0
          have t1 := T6.b1
          have f0 := RR.b0
          have f1 := RR.b1
          have k0 := RR.free 0
          have k1 := RR.free 1
          have HCd := Lib.hid (code_of (b := b) HC.out (upd_dw' U6) hB' hb : CodeAt w6.drew cv len B)
          go_region_held3 (fun w' => w'.cell? ⟨T, 0, none⟩ = some (.slice p0 n c0) ∧ w'.cell? ⟨T, 1, none⟩ = some (.slice p1 m c1)) (first | exact ⟨t0, t1⟩ | exact ⟨TX.b0, TX.b1⟩ | exact ⟨((((mem.Only.refl w.heap.size _).setCell _ _).setCell _ _).cell (a := ⟨T, 0, none⟩) hTR).trans TX.b0, ((((mem.Only.refl w.heap.size _).setCell _ _).setCell _ _).cell (a := ⟨T, 1, none⟩) hTR).trans TX.b1⟩ | go_keep)
            (first | (go_at_call 68; refine (index_any _ b B cv len i6 s6 m (src_upd S6 rfl : Src w6.drew b cv len i6 s6) HCd.out hB' (by omega)).mono ?_; rintro e wx ⟨x, ix, sx, rfl, x0, x1, hSx, ox⟩; have TX := (T6.keep (ox.block T (by omega)) : mem.Ob wx T 2 _); have RX := (RR.keep (ox.block w.heap.size (by omega)) : mem.Ob wx w.heap.size 2 _); have fx0 := RX.b0; have fx1 := RX.b1; have kx0 := RX.free 0; have kx1 := RX.free 1))
          have HF := Lib.hid (chord_post (w := w) (x := x) (HO6.out.drew.upd (upd_of ox) (.inr (by omega)) (.inr (by omega))) (by omega) (by omega) hn hm hnm hSx (U0.out.trans ((upd_dw' U6).trans (upd_of ox))) hltw)
          clear HO6 S6 T6 U6 RR TX RX ox hSx
          go_wp2_with fail
          exact bodyPost_ret (v := .tuple #[.agg #[.slice p0 n c0, .slice p1 m c1], .int .i64 x]) (by simp [results, Tryz.results39, go_sem, fx0, fx1]) rfl HF.out
        · have hv6' : (v6 == 0) = false := by simpa using hv6
          clear hv6
          go_wp2_with fail
          have RR := R1.keep (U6.block w.heap.size (by omega) (by omega))
          have t0 := T6.b0
          have t1 := T6.b1
          have f0 := RR.b0
          have f1 := RR.b1
          have k0 := RR.free 0
          have k1 := RR.free 1
          have HCd := Lib.hid (code_of (b := b) HC.out (upd_dw' U6) hB' hb : CodeAt w6.drew cv len B)
          go_region_with (first | (go_at_call 20; refine (next_any _ b B cv len i6 s6 cn (src_upd S6 rfl : Src w6.drew b cv len i6 s6) HCd.out hB' (by omega)).mono ?_; rintro e wx ⟨x, ix, sx, rfl, x0, x1, hSx, ox⟩; obtain ⟨j, rfl⟩ := Int.eq_ofNat_of_zero_le x0; have hjn : j < cn := (by omega); have hj1 : (j : Int) < cn := (by omega); have TX := (T6.keep (ox.block T (by omega)) : mem.Ob wx T 2 _); have RX := (RR.keep (ox.block w.heap.size (by omega)) : mem.Ob wx w.heap.size 2 _); have fx0 := RX.b0; have fx1 := RX.b1; have kx0 := RX.free 0; have kx1 := RX.free 1; obtain ⟨y, hy⟩ := HY.out j hjn; have hq : wx.cell? ⟨gA, j, none⟩ = some (.int .i64 y) := (World.cell?_of_block (ox.block gA (by omega))).trans hy; have hq2 := ((((mem.Only.refl w.heap.size wx).setCell 0 (.slice p0 n c0)).setCell 1 (.slice p1 m c1)).cell (a := ⟨gA, j, none⟩) (by show gA ≠ w.heap.size; omega)).trans hq; have tx0 := TX.b0; have tx1 := TX.b1))
          all_goals
            have HF := Lib.hid (chord_post (w := w) (x := y) (HO6.out.drew.upd (upd_of ox) (.inr (by omega)) (.inr (by omega))) (by omega) (by omega) hn hm hnm hSx (U0.out.trans ((upd_dw' U6).trans (upd_of ox))) hltw)
            clear HO6 S6 T6 U6 RR TX RX ox hSx
            go_wp2_with fail
            exact bodyPost_ret (v := .tuple #[.agg #[.slice p0 n c0, .slice p1 m c1], .int .i64 y]) (by simp [results, Tryz.results39, go_sem, fx0, fx1]) rfl HF.out
  · have hv3' : (v3 == 0) = false := by simpa using hv3
    have q0 := T3.b0
    have q1 := T3.b1
    clear hv3
    go_wp2_with fail
    clear q0 q1
    refine (mem.chordsOfS_any w3 _ n N m P 0 w3.heap.size HO3.out.net (Nat.le_refl _) hnm).mono ?_
    rintro e w5 ⟨vA, gA, rfl, oA, lA, x5⟩
    obtain ⟨cn, hcn⟩ : ∃ cn, mem.coN n N m P = cn := ⟨_, rfl⟩
    rw [hcn] at oA
    obtain ⟨pA, cA, rfl⟩ := oA.shape
    obtain ⟨dA, hdA⟩ : ∃ d, mem.fd (mem.chP n P m) m = d := ⟨_, rfl⟩
    rw [hdA] at oA
    have hcb : cn ≤ 9223372036854775807 ∧ (cn = 0 ∨ (pA = some ⟨gA, 0, none⟩ ∧ gA < w5.heap.size ∧ ∀ j, j < cn → w5.cell? ⟨gA, j, none⟩ = some (.int .i64 (dA j)))) := by
      obtain ⟨p', cap', hv, h1, h2, h3⟩ := oA.ex
      injection hv with e1 _ e3
      subst e1
      refine ⟨by omega, ?_⟩
      rcases h3 with h3 | ⟨h3, h4⟩
      · exact .inl h3
      · refine .inr ⟨h3, h4.lt, fun j hj => ?_⟩
        have := h4.cell j 0 hj (by omega)
        simpa using this
    obtain ⟨hcb, hcells⟩ := hcb
    have z5 := x5.size
    have hT3l := T3.lt
    have HO5 := Lib.hid (HO3.out.next x5)
    have T5 := T3.next x5
    have S5 := src_upd S3 (x5.block b (src_lt S3))
    have hb3 := src_lt S3
    have U5 := U3.trans (mem.Upd.of_below x5)
    have hTl5 := T5.lt
    have hTR : T ≠ w.heap.size := by omega
    have hzU := U5.size
    clear HO3 T3 S3 U3 x5 oA hcn hdA
    rcases hcells with hc0 | ⟨rfl, hgl, hcl⟩
    · subst hc0
      go_wp2_with fail
      have RR := R1.keep (U5.block w.heap.size (by omega) (by omega))
      have t0 := T5.b0
      have t1 := T5.b1
      have f0 := RR.b0
      have f1 := RR.b1
      have k0 := RR.free 0
      have k1 := RR.free 1
      have HCd := Lib.hid (code_of (b := b) HC.out (upd_dw' U5) hB' hb : CodeAt w5.drew cv len B)
      go_region_held3 (fun w' => w'.cell? ⟨T, 0, none⟩ = some (.slice p0 n c0) ∧ w'.cell? ⟨T, 1, none⟩ = some (.slice p1 m c1)) (first | exact ⟨t0, t1⟩ | exact ⟨TX.b0, TX.b1⟩ | exact ⟨((((mem.Only.refl w.heap.size _).setCell _ _).setCell _ _).cell (a := ⟨T, 0, none⟩) hTR).trans TX.b0, ((((mem.Only.refl w.heap.size _).setCell _ _).setCell _ _).cell (a := ⟨T, 1, none⟩) hTR).trans TX.b1⟩ | go_keep)
        (first | (go_at_call 68; refine (index_any _ b B cv len i3 s3 m (src_upd S5 rfl : Src w5.drew b cv len i3 s3) HCd.out hB' (by omega)).mono ?_; rintro e wx ⟨x, ix, sx, rfl, x0, x1, hSx, ox⟩; have TX := (T5.keep (ox.block T (by omega)) : mem.Ob wx T 2 _); have RX := (RR.keep (ox.block w.heap.size (by omega)) : mem.Ob wx w.heap.size 2 _); have fx0 := RX.b0; have fx1 := RX.b1; have kx0 := RX.free 0; have kx1 := RX.free 1))
      have HF := Lib.hid (chord_post (w := w) (x := x) (HO5.out.drew.upd (upd_of ox) (.inr (by omega)) (.inr (by omega))) (by omega) (by omega) hn hm hnm hSx (U0.out.trans ((upd_dw' U5).trans (upd_of ox))) hltw)
      clear HO5 S5 T5 U5 RR TX RX ox hSx
      go_wp2_with fail
      exact bodyPost_ret (v := .tuple #[.agg #[.slice p0 n c0, .slice p1 m c1], .int .i64 x]) (by simp [results, Tryz.results39, go_sem, fx0, fx1]) rfl HF.out
    · rcases Nat.eq_zero_or_pos cn with hc0 | hc0
      · subst hc0
        clear hcl
        go_wp2_with fail
        have RR := R1.keep (U5.block w.heap.size (by omega) (by omega))
        have t0 := T5.b0
        have t1 := T5.b1
        have f0 := RR.b0
        have f1 := RR.b1
        have k0 := RR.free 0
        have k1 := RR.free 1
        have HCd := Lib.hid (code_of (b := b) HC.out (upd_dw' U5) hB' hb : CodeAt w5.drew cv len B)
        go_region_held3 (fun w' => w'.cell? ⟨T, 0, none⟩ = some (.slice p0 n c0) ∧ w'.cell? ⟨T, 1, none⟩ = some (.slice p1 m c1)) (first | exact ⟨t0, t1⟩ | exact ⟨TX.b0, TX.b1⟩ | exact ⟨((((mem.Only.refl w.heap.size _).setCell _ _).setCell _ _).cell (a := ⟨T, 0, none⟩) hTR).trans TX.b0, ((((mem.Only.refl w.heap.size _).setCell _ _).setCell _ _).cell (a := ⟨T, 1, none⟩) hTR).trans TX.b1⟩ | go_keep)
          (first | (go_at_call 68; refine (index_any _ b B cv len i3 s3 m (src_upd S5 rfl : Src w5.drew b cv len i3 s3) HCd.out hB' (by omega)).mono ?_; rintro e wx ⟨x, ix, sx, rfl, x0, x1, hSx, ox⟩; have TX := (T5.keep (ox.block T (by omega)) : mem.Ob wx T 2 _); have RX := (RR.keep (ox.block w.heap.size (by omega)) : mem.Ob wx w.heap.size 2 _); have fx0 := RX.b0; have fx1 := RX.b1; have kx0 := RX.free 0; have kx1 := RX.free 1))
        have HF := Lib.hid (chord_post (w := w) (x := x) (HO5.out.drew.upd (upd_of ox) (.inr (by omega)) (.inr (by omega))) (by omega) (by omega) hn hm hnm hSx (U0.out.trans ((upd_dw' U5).trans (upd_of ox))) hltw)
        clear HO5 S5 T5 U5 RR TX RX ox hSx
        go_wp2_with fail
        exact bodyPost_ret (v := .tuple #[.agg #[.slice p0 n c0, .slice p1 m c1], .int .i64 x]) (by simp [results, Tryz.results39, go_sem, fx0, fx1]) rfl HF.out
      · have hcI : (cn == 0) = false := by simp; omega
        have hcI2 : ((cn : Int) == 0) = false := by simp; omega
        have HCL := Lib.hid hcl
        clear hcl
        go_wp2_with fail
        refine (next_any w5 b B cv len i3 s3 8 S5 (code_of HC.out U5 hB' hb) hB' (by omega)).mono ?_
        rintro e w6 ⟨v6, i6, s6, rfl, t6, ht6, S6, o6⟩
        have HY := Lib.hid (show ∀ j, j < cn → ∃ y : Int, w6.cell? ⟨gA, j, none⟩ = some (.int .i64 y) from fun j hj => ⟨dA j, (World.cell?_of_block (o6.block gA (by omega))).trans (HCL.out j hj)⟩)
        have HO6 := Lib.hid (HO5.out.upd (upd_of o6) (.inr (by omega)) (.inr (by omega)))
        have T6 := T5.keep (o6.block T (by omega))
        have U6 := U5.trans (upd_of o6)
        have hz6 := o6.size
        clear HO5 T5 S5 U5 o6 HCL hcI hcI2
        by_cases hv6 : v6 = 0
        · subst hv6
          go_wp2_with fail
          have RR := R1.keep (U6.block w.heap.size (by omega) (by omega))
          have t0 := T6.b0
          have t1 := T6.b1
          have f0 := RR.b0
          have f1 := RR.b1
          have k0 := RR.free 0
          have k1 := RR.free 1
          have HCd := Lib.hid (code_of (b := b) HC.out (upd_dw' U6) hB' hb : CodeAt w6.drew cv len B)
          go_region_held3 (fun w' => w'.cell? ⟨T, 0, none⟩ = some (.slice p0 n c0) ∧ w'.cell? ⟨T, 1, none⟩ = some (.slice p1 m c1)) (first | exact ⟨t0, t1⟩ | exact ⟨TX.b0, TX.b1⟩ | exact ⟨((((mem.Only.refl w.heap.size _).setCell _ _).setCell _ _).cell (a := ⟨T, 0, none⟩) hTR).trans TX.b0, ((((mem.Only.refl w.heap.size _).setCell _ _).setCell _ _).cell (a := ⟨T, 1, none⟩) hTR).trans TX.b1⟩ | go_keep)
            (first | (go_at_call 68; refine (index_any _ b B cv len i6 s6 m (src_upd S6 rfl : Src w6.drew b cv len i6 s6) HCd.out hB' (by omega)).mono ?_; rintro e wx ⟨x, ix, sx, rfl, x0, x1, hSx, ox⟩; have TX := (T6.keep (ox.block T (by omega)) : mem.Ob wx T 2 _); have RX := (RR.keep (ox.block w.heap.size (by omega)) : mem.Ob wx w.heap.size 2 _); have fx0 := RX.b0; have fx1 := RX.b1; have kx0 := RX.free 0; have kx1 := RX.free 1))
          have HF := Lib.hid (chord_post (w := w) (x := x) (HO6.out.drew.upd (upd_of ox) (.inr (by omega)) (.inr (by omega))) (by omega) (by omega) hn hm hnm hSx (U0.out.trans ((upd_dw' U6).trans (upd_of ox))) hltw)
          clear HO6 S6 T6 U6 RR TX RX ox hSx
          go_wp2_with fail
          exact bodyPost_ret (v := .tuple #[.agg #[.slice p0 n c0, .slice p1 m c1], .int .i64 x]) (by simp [results, Tryz.results39, go_sem, fx0, fx1]) rfl HF.out
        · have hv6' : (v6 == 0) = false := by simpa using hv6
          clear hv6
          go_wp2_with fail
          have RR := R1.keep (U6.block w.heap.size (by omega) (by omega))
          have t0 := T6.b0
          have t1 := T6.b1
          have f0 := RR.b0
          have f1 := RR.b1
          have k0 := RR.free 0
          have k1 := RR.free 1
          have HCd := Lib.hid (code_of (b := b) HC.out (upd_dw' U6) hB' hb : CodeAt w6.drew cv len B)
          go_region_with (first | (go_at_call 20; refine (next_any _ b B cv len i6 s6 cn (src_upd S6 rfl : Src w6.drew b cv len i6 s6) HCd.out hB' (by omega)).mono ?_; rintro e wx ⟨x, ix, sx, rfl, x0, x1, hSx, ox⟩; obtain ⟨j, rfl⟩ := Int.eq_ofNat_of_zero_le x0; have hjn : j < cn := (by omega); have hj1 : (j : Int) < cn := (by omega); have TX := (T6.keep (ox.block T (by omega)) : mem.Ob wx T 2 _); have RX := (RR.keep (ox.block w.heap.size (by omega)) : mem.Ob wx w.heap.size 2 _); have fx0 := RX.b0; have fx1 := RX.b1; have kx0 := RX.free 0; have kx1 := RX.free 1; obtain ⟨y, hy⟩ := HY.out j hjn; have hq : wx.cell? ⟨gA, j, none⟩ = some (.int .i64 y) := (World.cell?_of_block (ox.block gA (by omega))).trans hy; have hq2 := ((((mem.Only.refl w.heap.size wx).setCell 0 (.slice p0 n c0)).setCell 1 (.slice p1 m c1)).cell (a := ⟨gA, j, none⟩) (by show gA ≠ w.heap.size; omega)).trans hq; have tx0 := TX.b0; have tx1 := TX.b1))
          all_goals
            have HF := Lib.hid (chord_post (w := w) (x := y) (HO6.out.drew.upd (upd_of ox) (.inr (by omega)) (.inr (by omega))) (by omega) (by omega) hn hm hnm hSx (U0.out.trans ((upd_dw' U6).trans (upd_of ox))) hltw)
            clear HO6 S6 T6 U6 RR TX RX ox hSx
            go_wp2_with fail
            exact bodyPost_ret (v := .tuple #[.agg #[.slice p0 n c0, .slice p1 m c1], .int .i64 y]) (by simp [results, Tryz.results39, go_sem, fx0, fx1]) rfl HF.out
def NCOnly (w : World) (e : Ending) (w' : World) : Prop :=
  ∃ (v : Value) (n m : Nat) (N : Nat → mem.Nod) (P : Nat → mem.Pip) (b1 b2 : Nat) (x : Int), e = .returned (.tuple #[v, .int .i64 x]) ∧ n ≤ 1000 ∧ m ≤ 1000 ∧ (∀ i, i < n → (N i).s.size ≤ 9223372036854775807) ∧ mem.NetOwn w' v n N m P b1 b2 ∧ w.heap.size ≤ b1 ∧ w.heap.size ≤ b2 ∧ Below w.heap.size w w'
end Go.Proofs.YtpgcieefipjjfaaGreat.draw

namespace Go.Proofs.YtpgcieefipjjfaaGreat.mem
open Go.RowKit
set_option linter.unusedVariables false

end Go.Proofs.YtpgcieefipjjfaaGreat.mem

namespace Go.Proofs.YtpgcieefipjjfaaGreat.draw
open Go.RowKit
set_option linter.unusedVariables false

/-- a network and a list have been drawn -/
def NLPost (w : World) (b : Nat) (cv : Value) (len : Nat) (e : Ending) (w' : World) : Prop :=
  ∃ (v : Value) (n m : Nat) (N : Nat → mem.Nod) (P : Nat → mem.Pip) (b1 b2 : Nat) (vl : Value) (K : Nat) (D : Nat → Int) (i s : Int), e = .returned (.tuple #[v, vl]) ∧ n ≤ 1000 ∧ m ≤ 1000 ∧ K ≤ 2000 ∧ (∀ i, i < n → (N i).s.size ≤ 9223372036854775807) ∧ mem.NetOwn w' v n N m P b1 b2 ∧ w.heap.size ≤ b1 ∧ w.heap.size ≤ b2 ∧ mem.Sl w' vl K D w.heap.size w'.heap.size ∧ Src w' b cv len i s ∧ mem.Upd (· = b) w w'
theorem upd_bel {X : Nat → Prop} {w w1 w2 : World} (h : mem.Upd X w w1) (k : Below w.heap.size w1 w2) : mem.Upd X w w2 :=
  ⟨k.os.trans h.os, k.tape.trans h.tape, k.output.trans h.output, Nat.le_trans h.size k.size, fun x hx hn => (k.block x hx).trans (h.block x hx hn)⟩
/-- flows while they are drawn -/
structure Fl (W1 : World) (b : Nat) (cv : Value) (len : Nat) (wr : World) (v : Value) (k : Nat) : Prop where
  ex : ∃ (D : Nat → Int) (g : Nat) (i s : Int), mem.Own wr v k D g ∧ (∀ j, j < k → -30000 ≤ D j ∧ D j ≤ 30000) ∧ W1.heap.size ≤ g ∧ Src wr b cv len i s ∧ mem.Upd (· = b) W1 wr
theorem six_post {w X : World} {b len n m b1 b2 K lo hi : Nat} {cv v0 v1 vl : Value} {N : Nat → mem.Nod} {P : Nat → mem.Pip} {D : Nat → Int} {i s : Int} (hO : mem.NetOwn X (.agg #[v0, v1]) n N m P b1 b2) (hb1 : w.heap.size < b1) (hb2 : w.heap.size < b2) (hn : n ≤ 1000) (hm : m ≤ 1000) (hK : K ≤ 2000) (hnm : ∀ i, i < n → (N i).s.size ≤ 9223372036854775807)
    (hL : mem.Sl X vl K D lo hi) (hlo : w.heap.size < lo) (hhi : hi ≤ X.heap.size) (hS : Src X b cv len i s) (hU : mem.Upd (· = b) w X) (hlt : b < w.heap.size) : NLPost w b cv len (.returned (.tuple #[.agg #[v0, v1], vl])) ((X.setCell ⟨w.heap.size, 0, none⟩ v0).setCell ⟨w.heap.size, 1, none⟩ v1) := by
  have hO2 := ((mem.Only.refl w.heap.size X).setCell 0 v0).setCell 1 v1
  exact ⟨_, n, m, N, P, b1, b2, vl, K, D, i, s, rfl, hn, hm, hK, hnm, hO.upd (mem.Upd.of_only hO2) (.inr (by omega)) (.inr (by omega)), by omega, by omega, (hL.only hO2 (.inl hlo)).mono (by omega) (Nat.le_trans hhi (Nat.le_of_eq hO2.size)), src_upd hS (hO2.block b (by omega)), upd_own hU hO2 (Nat.le_refl _)⟩
end Go.Proofs.YtpgcieefipjjfaaGreat.draw

namespace Go.Proofs.YtpgcieefipjjfaaGreat.draw
open Go.RowKit
set_option linter.unusedVariables false

def NLOnly (w : World) (e : Ending) (w' : World) : Prop :=
  ∃ (v : Value) (n m : Nat) (N : Nat → mem.Nod) (P : Nat → mem.Pip) (b1 b2 : Nat) (vl : Value) (K : Nat) (D : Nat → Int), e = .returned (.tuple #[v, vl]) ∧ n ≤ 1000 ∧ m ≤ 1000 ∧ K ≤ 2000 ∧ (∀ i, i < n → (N i).s.size ≤ 9223372036854775807) ∧ mem.NetOwn w' v n N m P b1 b2 ∧ w.heap.size ≤ b1 ∧ w.heap.size ≤ b2 ∧ mem.Sl w' vl K D w.heap.size w'.heap.size ∧ Below w.heap.size w w'
theorem sl_sh {w : World} {v : Value} {n : Nat} {d : Nat → Int} {lo hi : Nat} (h : mem.Sl w v n d lo hi) : ∃ p cap, v = .slice p n cap := by
  obtain ⟨p, cap, e, _⟩ := h.ex
  exact ⟨p, cap, e⟩
end Go.Proofs.YtpgcieefipjjfaaGreat.draw

namespace Go.Proofs.YtpgcieefipjjfaaGreat.draw
open Go.RowKit
set_option linter.unusedVariables false

/-- flows have been drawn -/
def FlPost (w : World) (b : Nat) (cv : Value) (len : Nat) (e : Ending) (w' : World) : Prop :=
  ∃ (vl : Value) (K : Nat) (D : Nat → Int) (i s : Int), e = .returned vl ∧ K ≤ 2000 ∧ mem.Sl w' vl K D w.heap.size w'.heap.size ∧ Src w' b cv len i s ∧ mem.Upd (· = b) w w'
set_option maxRecDepth 100000 in
set_option maxHeartbeats 8000000 in
theorem flows_any (w : World) (b B : Nat) (cv : Value) (len : Nat) (i s : Int) (h : Src w b cv len i s) (hc : CodeAt w cv len B) (hB' : B ≤ b) (p0 : Option Addr) (n c0 : Nat) (p1 : Option Addr) (m c1 : Nat) (hm : m ≤ 1000) :
    Calls Tryz.prog 40 #[.pointer (some ⟨b, 0, none⟩), .agg #[.slice p0 n c0, .slice p1 m c1]] w (FlPost w b cv len) := by
  have hlt := src_lt h
  have xA := mem.below_new w (.cells #[.slice p0 n c0, .slice p1 m c1] 27)
  have HC := Lib.hid (code_of hc (mem.Upd.of_below (X := (· = b)) xA) hB' hlt)
  have U0 := Lib.hid (mem.Upd.of_below xA (X := (· = b)))
  have T1 := mem.boxed w (.slice p0 n c0) (.slice p1 m c1) 27
  have xB := mem.below_new (w.alloc (.cells #[.slice p0 n c0, .slice p1 m c1] 27)) (.cells #[] 2)
  have F0 := mem.Own.nilled (w.alloc (.cells #[.slice p0 n c0, .slice p1 m c1] 27)) (fun _ => 0)
  have SA := src_alloc h hlt (.cells #[.slice p0 n c0, .slice p1 m c1] 27)
  have D0 : Fl (w.alloc (.cells #[.slice p0 n c0, .slice p1 m c1] 27)) b cv len ((w.alloc (.cells #[.slice p0 n c0, .slice p1 m c1] 27)).alloc (.cells #[] 2)) (.slice (some ⟨(w.alloc (.cells #[.slice p0 n c0, .slice p1 m c1] 27)).heap.size, 0, none⟩) 0 0) 0 := ⟨fun _ => 0, _, _, _, F0, fun j hj => by omega, Nat.le_refl _, src_upd SA (xB.block b (src_lt SA)), mem.Upd.of_below xB⟩
  have hza : (w.alloc (.cells #[.slice p0 n c0, .slice p1 m c1] 27)).heap.size = w.heap.size + 1 := by simp
  rw [hza] at D0
  clear F0 xB xA h hc SA
  go_enter Tryz.func40, Tryz.ntmps40
  go_wp2_with fail
  generalize hW : (w.alloc (.cells #[.slice p0 n c0, .slice p1 m c1] 27)).alloc (.cells #[] 2) = wb at *
  generalize hW2 : w.alloc (.cells #[.slice p0 n c0, .slice p1 m c1] 27) = wa at *
  generalize hv : Value.slice (some ⟨w.heap.size + 1, 0, none⟩) 0 0 = vl0 at *
  clear hW hW2 hv
  have hTl := T1.lt
  go_loopw [5, 6] (fun ov iv wr => ∃ (k : Nat) (ov' : Value), ov' = ov ∧ iv = .int .i64 k ∧ k ≤ m ∧ Fl wa b cv len wr ov' k) (fun _ iv _ => m - (intOf iv).toNat)
  case atStart => exact ⟨0, _, rfl, rfl, Nat.zero_le _, D0⟩
  case round =>
    obtain ⟨k, ov, rfl, rfl, hk, DF⟩ := hrel
    clear D0
    obtain ⟨D, g, i6, s6, hD, hDb, hg, hS6, hU6⟩ := DF.ex
    clear DF
    have T6 := T1.keep (hU6.block w.heap.size hTl (by omega))
    have q1 := T6.b1
    have k0' : (0 : Int) ≤ (k : Int) := Int.natCast_nonneg _
    by_cases hlt2 : k < m
    · have k1' : (k : Int) < (m : Int) := by omega
      go_wp2_with fail
      refine (next_any wr b B cv len i6 s6 60 hS6 (code_of HC.out hU6 hB' (by omega)) hB' (by omega)).mono ?_
      rintro e w7 ⟨v7, i7, s7, rfl, t7, ht7, hS7, o7⟩
      obtain ⟨co, rfl⟩ := hD.shape
      have hgb : g ≠ b := by omega
      have hD7 := hD.keep (o7.block g hgb)
      have hU7 := hU6.trans (upd_of o7)
      have hb1 : -4611686018427387904 ≤ v7 - 30 ∧ v7 - 30 ≤ 4611686018427387904 := by omega
      have lg := hD7.lt
      obtain ⟨v8, w8, g8, hr, ap⟩ := mem.app_run (w7.alloc (.cells #[.int .i64 (v7 - 30)] 2)) _ k _ g (v7 - 30) w7.heap.size (hD7.alloc _) (mem.cell_new1 w7 _) (by omega)
      have bl := ap.below (B := wa.heap.size) (by omega) (by rw [mem.szal]; omega)
      have xb : Below wa.heap.size w7 w8 := ((mem.below_new w7 _).mono hU7.size).trans bl.1
      have DF8 : Fl wa b cv len w8 v8 (k + 1) := ⟨_, g8, i7, s7, ap.own, fun j hj => by
        unfold mem.upd
        split
        · omega
        · exact hDb j (by omega), bl.2, src_upd hS7 (xb.block b (by omega)), upd_bel hU7 xb⟩
      clear hD hDb hS6 hU6 hS7 o7 hD7 hU7 ap bl xb T6 q1
      go_wp2_with (at_builtin; refine mem.wpList_app hr rfl _ _ rfl rfl rfl rfl ?_)
      clear hr
      go_roundw
      case rel => exact ⟨k + 1, _, rfl, by go_num, hlt2, DF8⟩
      case measure => simp [intOf]; omega
    · obtain rfl : m = k := by omega
      have k1' : ¬ ((m : Int) < (m : Int)) := by omega
      have lg := hD.lt
      have hC6 := code_of HC.out hU6 hB' (by omega)
      have hzr := hU6.size
      obtain ⟨co, rfl⟩ := hD.shape
      clear hDb
      go_wp2_with fail
      refine (next_any wr b B cv len i6 s6 30 hS6 hC6 hB' (by omega)).mono ?_
      rintro e wa' ⟨va, ia, sa, rfl, ta, hta, Sa, oa⟩
      have hVa := hD.keep (oa.block g (by omega))
      have Ua := hU6.trans (upd_of oa)
      have hza2 := oa.size
      have lga := hVa.lt
      clear hC6 hD hS6 hU6 oa T6 q1
      rcases (by omega : va = 0 ∨ va = 1 ∨ (va ≠ 0 ∧ va ≠ 1)) with rfl | rfl | hva
      · obtain ⟨vb, wz, gb, hr, ap⟩ := mem.app_run (wa'.alloc (.cells #[.int .i64 0] 2)) _ m _ g 0 wa'.heap.size (hVa.alloc _) (mem.cell_new1 wa' _) (by omega)
        have bl := ap.below (B := wa.heap.size) (by omega) (by rw [mem.szal]; omega)
        have xb : Below wa.heap.size wa' wz := ((mem.below_new wa' _).mono (by omega)).trans bl.1
        have hlz := ap.own.lt
        have HF := Lib.hid (And.intro (ap.own.sl.mono (show w.heap.size ≤ gb by omega) (show gb + 1 ≤ wz.heap.size by omega)) (And.intro (src_upd Sa (xb.block b (by omega))) (U0.out.trans (upd_bel Ua xb))))
        clear hVa Sa Ua ap bl xb
        go_wp2_with (at_builtin; refine mem.wpList_app hr rfl _ _ rfl rfl rfl rfl ?_)
        clear hr
        go_ret
        exact ⟨_, m + 1, _, _, _, rfl, by omega, HF.out.1, HF.out.2.1, HF.out.2.2⟩
      · rcases Nat.eq_zero_or_pos m with hm0 | hm0
        · subst hm0
          have HF := Lib.hid (And.intro (hVa.sl.mono (show w.heap.size ≤ g by omega) (show g + 1 ≤ wa'.heap.size by omega)) (And.intro Sa (U0.out.trans Ua)))
          clear hVa Sa Ua
          go_wp2_with fail
          go_ret
          exact ⟨_, 0, _, _, _, rfl, by omega, HF.out.1, HF.out.2.1, HF.out.2.2⟩
        · have hmI : (0 : Int) < (m : Int) := by omega
          have bA := mem.below_new wa' (.cells #[.int .i64 30000, .int .i64 30001, .int .i64 (-30000)] 2)
          have tA := tabI wa' 2 #[.int .i64 30000, .int .i64 30001, .int .i64 (-30000)] (by
            intro j hj
            rcases (by simp at hj; omega : j = 0 ∨ j = 1 ∨ j = 2) with rfl | rfl | rfl
            all_goals exact ⟨_, rfl⟩)
          have SA := src_alloc Sa (src_lt Sa) (.cells #[.int .i64 30000, .int .i64 30001, .int .i64 (-30000)] 2)
          have UA := Ua.trans (mem.Upd.of_below bA)
          have CA := code_of HC.out UA hB' (by omega)
          have HVA := Lib.hid (hVa.alloc (.cells #[.int .i64 30000, .int .i64 30001, .int .i64 (-30000)] 2))
          have hzA : (wa'.alloc (.cells #[.int .i64 30000, .int .i64 30001, .int .i64 (-30000)] 2)).heap.size = wa'.heap.size + 1 := by simp
          have lba := src_lt Sa
          have yzA := hVa.free 0
          clear Sa Ua hVa bA
          go_wp2_with fail
          refine (next_any _ b B cv len ia sa 3 SA CA hB' (by omega)).mono ?_
          rintro e wc ⟨vc, ic, sc, rfl, tc, htc, Sc, oc⟩
          have hzc := oc.size
          have HVc := Lib.hid (HVA.out.keep (oc.block g (by omega)))
          have Uc := UA.trans (upd_of oc)
          obtain ⟨x, rfl⟩ := Int.eq_ofNat_of_zero_le tc
          have hx : x < 3 := by omega
          have hx2 : (x : Int) < 3 := by omega
          obtain ⟨y, hy⟩ := tA x hx
          have hyc : wc.cell? ⟨wa'.heap.size, x, none⟩ = some (.int .i64 y) := by
            have e := oc.block wa'.heap.size (by omega)
            simp only [World.cell?] at hy ⊢
            rw [e]
            exact hy
          have yf := HVc.out.row.cell 0 hm0
          have yz := HVc.out.free 0
          have oX := (mem.Only.refl g wc).setCell 0 (.int .i64 y)
          have hVx := HVc.out.put1 0 y hm0
          have hlx := hVx.lt
          have HF := Lib.hid (And.intro (hVx.sl.mono (show w.heap.size ≤ g by omega) (show g + 1 ≤ _ from hlx)) (And.intro (src_upd Sc (oX.block b (by omega))) (U0.out.trans (upd_own Uc oX (by omega)))))
          clear tA SA CA UA HVA hy oc htc yzA HVc Sc Uc oX hVx hlx
          go_wp2_with fail
          go_ret
          exact ⟨_, m, _, _, _, rfl, by omega, HF.out.1, HF.out.2.1, HF.out.2.2⟩
      · obtain ⟨hv0, hv1⟩ := hva
        have hv0' : (va == 0) = false := by simpa using hv0
        have hv1' : (va == 1) = false := by simpa using hv1
        have HF := Lib.hid (And.intro (hVa.sl.mono (show w.heap.size ≤ g by omega) (show g + 1 ≤ wa'.heap.size by omega)) (And.intro Sa (U0.out.trans Ua)))
        clear hv0 hv1 hVa Sa Ua
        go_wp2_with fail
        go_ret
        exact ⟨_, m, _, _, _, rfl, by omega, HF.out.1, HF.out.2.1, HF.out.2.2⟩
end Go.Proofs.YtpgcieefipjjfaaGreat.draw

namespace Go.Proofs.YtpgcieefipjjfaaGreat.draw
open Go.RowKit
set_option linter.unusedVariables false

def NLLOnly (w : World) (e : Ending) (w' : World) : Prop :=
  ∃ (v : Value) (n m : Nat) (N : Nat → mem.Nod) (P : Nat → mem.Pip) (b1 b2 : Nat) (vk : Value) (K : Nat) (D : Nat → Int) (vl : Value) (L : Nat) (S : Nat → Int), e = .returned (.tuple #[v, vk, vl]) ∧ n ≤ 1000 ∧ m ≤ 1000 ∧ K ≤ 2000 ∧ L ≤ 2000 ∧ (∀ i, i < n → (N i).s.size ≤ 9223372036854775807) ∧ mem.NetOwn w' v n N m P b1 b2 ∧ w.heap.size ≤ b1 ∧ w.heap.size ≤ b2 ∧ mem.Sl w' vk K D w.heap.size w'.heap.size ∧ mem.Sl w' vl L S w.heap.size w'.heap.size ∧ Below w.heap.size w w'
theorem sl_upd {w w' : World} {v : Value} {n : Nat} {d : Nat → Int} {lo hi b : Nat} (h : mem.Sl w v n d lo hi) (u : mem.Upd (· = b) w w') (h1 : b < lo) (h2 : hi ≤ w.heap.size) : mem.Sl w' v n d lo hi := by
  obtain ⟨p, cap, rfl, h | ⟨c, o, rfl, g1, g2, g3⟩⟩ := h
  · exact ⟨p, cap, rfl, .inl h⟩
  · exact ⟨_, cap, rfl, .inr ⟨c, o, rfl, g1, g2, fun k hk => (World.cell?_of_block (u.block c (by omega) (by omega))).trans (g3 k hk)⟩⟩
theorem owns_slw {w : World} {v : Value} {n b lo : Nat} {d : Nat → Int} (h : mem.OwnS w v n 1 (fun i _ => .int .i64 (d i)) b) (hlo : lo ≤ b) : mem.Sl w v n d lo w.heap.size := by
  obtain ⟨p', cap, hv, h1, h2, h3⟩ := h.ex
  refine ⟨p', cap, hv, ?_⟩
  rcases h3 with h3 | ⟨h3, h4⟩
  · exact .inl h3
  · refine .inr ⟨b, 0, h3, hlo, h4.lt, fun k hk => ?_⟩
    have := h4.cell k 0 hk (by omega)
    simpa using this
theorem sl_drew {w : World} {v : Value} {n : Nat} {d : Nat → Int} {lo hi : Nat} (h : mem.Sl w v n d lo hi) : mem.Sl w.drew v n d lo hi := ⟨h.ex⟩
end Go.Proofs.YtpgcieefipjjfaaGreat.draw

namespace Go.Proofs.YtpgcieefipjjfaaGreat.draw
open Go.RowKit
set_option linter.unusedVariables false

def NLXYOnly (w : World) (e : Ending) (w' : World) : Prop :=
  ∃ (v : Value) (n m : Nat) (N : Nat → mem.Nod) (P : Nat → mem.Pip) (b1 b2 : Nat) (vk : Value) (K : Nat) (D : Nat → Int) (x y : Int), e = .returned (.tuple #[v, vk, .int .i64 x, .int .i64 y]) ∧ n ≤ 1000 ∧ m ≤ 1000 ∧ K ≤ 2000 ∧ (∀ i, i < n → (N i).s.size ≤ 9223372036854775807) ∧ mem.NetOwn w' v n N m P b1 b2 ∧ w.heap.size ≤ b1 ∧ w.heap.size ≤ b2 ∧ mem.Sl w' vk K D w.heap.size w'.heap.size ∧ Below w.heap.size w w'
def NXYOnly (w : World) (e : Ending) (w' : World) : Prop :=
  ∃ (v : Value) (n m : Nat) (N : Nat → mem.Nod) (P : Nat → mem.Pip) (b1 b2 : Nat) (x y : Int), e = .returned (.tuple #[v, .int .i64 x, .int .i64 y]) ∧ n ≤ 1000 ∧ m ≤ 1000 ∧ (∀ i, i < n → (N i).s.size ≤ 9223372036854775807) ∧ mem.NetOwn w' v n N m P b1 b2 ∧ w.heap.size ≤ b1 ∧ w.heap.size ≤ b2 ∧ Below w.heap.size w w'
/-- a level has been drawn -/
def LevPost (w : World) (b : Nat) (cv : Value) (len : Nat) (e : Ending) (w' : World) : Prop :=
  ∃ y i s : Int, e = .returned (.int .i64 y) ∧ Src w' b cv len i s ∧ mem.Upd (· = b) w w'
end Go.Proofs.YtpgcieefipjjfaaGreat.draw
