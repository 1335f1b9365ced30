/-
  The draw of a network, walked. Conditions: the source lies in memory as l01From lays it.
-/
import Derived.Test.YtjjjdahegcjmaaaRows
import Derived.Test.YtjjjdahegcjmaaaDrD
import Derived.Test.YtjjjdahegcjmaaaNetCl
import Derived.WalkKit
import Derived.ProofKit
import Derived.Lib.Hide
import Derived.OwnWalk
import Derived.Outline
namespace Go.Proofs.Ytjjjdahegcjmaaa.draw
open Go.RowKit
set_option linter.unusedVariables false

theorem code_of {b B len : Nat} {cv : Value} {W1 wr : World} (h : CodeAt W1 cv len B) (u : mem.Upd (· = b) W1 wr) (hB : B ≤ b) (hb : b < W1.heap.size) : CodeAt wr cv len B :=
  codeAt_upd h (u.mono (fun x _ e => e ▸ hB)) (by omega)
def NetPost (w : World) (b : Nat) (cv : Value) (len : Nat) (e : Ending) (w' : World) : Prop :=
  ∃ (v : Value) (n m : Nat) (N : Nat → mem.Nod) (P : Nat → mem.Pip) (b1 b2 : Nat) (i s : Int), e = .returned v ∧ n ≤ 100 ∧ m ≤ 100 ∧ 0 < n ∧ (∀ i, i < n → (N i).s.size ≤ 9223372036854775807) ∧ mem.NetOwn w' v n N m P b1 b2 ∧ w.heap.size ≤ b1 ∧ w.heap.size ≤ b2 ∧ Src w' b cv len i s ∧ mem.Upd (· = b) w w' ∧ ∃ v0 v1, v = .agg #[v0, v1] ∧ RN w.heap.size w' v0 n (mem.nodC N) ∧ RP w.heap.size w' v1 m (mem.pipC P)

theorem rowE_mono {B B' : Nat} {e : TypeId} {z : Nat} {w : World} {v : Value} {n : Nat} {c : Nat → Nat → Value} (h : mem.RowE B e z w v n c) (hB : B' ≤ B) : mem.RowE B' e z w v n c := by
  refine ⟨h.own.1, ?_⟩
  rcases h.own.2 with h1 | ⟨g, cap, cur, rfl, h2, h3⟩
  · exact .inl h1
  · exact .inr ⟨g, cap, cur, rfl, Nat.le_trans hB h2, h3⟩
theorem ownS2 {B : Nat} {e : TypeId} {z : Nat} {w : World} {v : Value} {n : Nat} {c : Nat → Nat → Value} (h : mem.RowE B e z w v n c) : ∃ g, mem.OwnS w v n z c g ∧ B ≤ g ∧ (v.ownBlock = some g ∨ n = 0) := by
  obtain ⟨g, h1, h2⟩ := h.ownS
  rcases h.own.2 with ⟨hv, hn⟩ | ⟨g', cap, cur, hv, h3, h4⟩
  · subst hv hn
    exact ⟨B, mem.OwnS.none_ _ _ _ _, Nat.le_refl _, .inr rfl⟩
  · rcases Nat.eq_zero_or_pos n with h0 | h0
    · subst h0
      obtain ⟨p, cap, e1, e2, e3, _⟩ := h1.ex
      exact ⟨B, ⟨p, cap, e1, e2, e3, .inl rfl⟩, Nat.le_refl _, .inr rfl⟩
    · obtain ⟨p, cap', e1, e2, e3, e4 | ⟨e4, e5⟩⟩ := h1.ex
      · omega
      · rw [hv] at e1
        injection e1 with e1 _ _
        rw [e4] at e1
        injection e1 with e1
        injection e1 with e1
        subst e1
        exact ⟨g', h1, h3, .inl (by rw [hv]; rfl)⟩
theorem Dr.net {W1 wr : World} {b : Nat} {cv : Value} {len : Nat} {vN vP : Value} {n m : Nat} (h : Dr W1 b cv len wr vN vP n m) : ∃ (N : Nat → mem.Nod) (P : Nat → mem.Pip) (i s : Int) (g1 g2 : Nat), mem.OwnS wr vN n 3 (mem.nodC N) g1 ∧ mem.OwnS wr vP m 5 (mem.pipC P) g2 ∧ (n = 0 ∨ m = 0 ∨ g1 ≠ g2) ∧ W1.heap.size ≤ g1 ∧ W1.heap.size ≤ g2 ∧ (∀ i, i < n → (N i).s.size ≤ 9223372036854775807) ∧ Src wr b cv len i s ∧ mem.Upd (· = b) W1 wr ∧ RN W1.heap.size wr vN n (mem.nodC N) ∧ RP W1.heap.size wr vP m (mem.pipC P) := by
  obtain ⟨N, P, i, s, hN, hP, hs, hS, hU⟩ := h.ex
  obtain ⟨g1, a1, a2, a3⟩ := ownS2 hN
  obtain ⟨g2, c1, c2, c3⟩ := ownS2 hP
  refine ⟨N, P, i, s, g1, g2, a1, c1, ?_, a2, c2, hs, hS, hU, hN, hP⟩
  rcases a3 with a3 | a3
  · rcases c3 with c3 | c3
    · refine .inr (.inr fun e => ?_)
      exact mem.rows_apart hN hP (by decide) g1 a3 (by rw [c3, e])
    · exact .inr (.inl c3)
  · exact .inl a3
set_option maxRecDepth 100000 in
set_option maxHeartbeats 8000000 in
theorem net_any (w : World) (b B : Nat) (cv : Value) (len : Nat) (i s : Int) (h : Src w b cv len i s) (hc : CodeAt w cv len B) (hB : B ≤ b) :
    Calls Try.prog 110 #[.pointer (some ⟨b, 0, none⟩)] w (NetPost w b cv len) := by
  have hlt := src_lt h
  have h' := src_alloc h hlt (.cells #[.slice none 0 0, .slice none 0 0] 30)
  have HC := Lib.hid (codeAt_below hc ((Below.refl B w).alloc (by omega) (.cells #[.slice none 0 0, .slice none 0 0] 30)))
  have R1 := mem.boxed w (.slice none 0 0) (.slice none 0 0) 30
  have U0 := Lib.hid (mem.Upd.of_below (mem.below_new w (.cells #[.slice none 0 0, .slice none 0 0] 30)) (X := (· = b)))
  have hsz : w.heap.size + 1 ≤ (w.alloc (.cells #[.slice none 0 0, .slice none 0 0] 30)).heap.size := by simp
  go_enter Try.func110, Try.ntmps110
  go_wp2_with fail
  generalize hW : w.alloc (.cells #[.slice none 0 0, .slice none 0 0] 30) = Wa at *
  clear hW h hc
  have hb : b < Wa.heap.size := by omega
  refine (next_any _ b B cv len i s 7 h' HC.out hB (by omega)).mono ?_
  rintro e w1 ⟨v1, i1, s1, rfl, v0, hv1, h1, o1⟩
  obtain ⟨c, rfl⟩ := Int.eq_ofNat_of_zero_le v0
  have hc6 : c ≤ 6 := by omega
  have U1 := upd_of o1
  have hs1 := U1.size
  clear v0 hv1 o1 h'
  have D0 : Dr Wa b cv len ((w1.alloc (.cells #[] 98)).alloc (.cells #[] 51)) (.slice (some ⟨w1.heap.size, 0, none⟩) 0 0) (.slice (some ⟨w1.heap.size + 1, 0, none⟩) 0 0) 0 0 := by
    have r2 := mem.rowE_nil (B := Wa.heap.size) (e := 51) (z := 5) (w1.alloc (.cells #[] 98)) (mem.pipC (fun _ => ⟨0, 0, 0, 0, 0⟩)) (by simp; omega)
    rw [show (w1.alloc (.cells #[] 98)).heap.size = w1.heap.size + 1 by simp] at r2
    exact ⟨fun _ => ⟨⟨#[]⟩, 0, 0⟩, fun _ => ⟨0, 0, 0, 0, 0⟩, i1, s1, (mem.rowE_nil (e := 98) (z := 3) w1 _ hs1).next (mem.below_new _ _), r2, fun i hi => by omega, src_alloc (src_alloc h1 (by omega) _) (by simp; omega) _, U1.trans (mem.Upd.of_below (mem.bel2 _ _ _))⟩
  clear h1 U1
  go_wp2_with fail
  generalize hW : (w1.alloc (.cells #[] 98)).alloc (.cells #[] 51) = W2 at *
  generalize hv : Value.slice (some ⟨w1.heap.size, 0, none⟩) 0 0 = vN0 at *
  generalize hv' : Value.slice (some ⟨w1.heap.size + 1, 0, none⟩) 0 0 = vP0 at *
  clear hW hv hv' hs1
  go_loopw [6, 4, 5] (fun i vN vP wr => ∃ (k m : Nat) (vN' vP' : Value), i = .int .i64 k ∧ vN' = vN ∧ vP' = vP ∧ k ≤ c + 1 ∧ m ≤ k ∧ Dr Wa b cv len wr vN vP k m) (fun i _ _ _ => c + 1 - (intOf i).toNat)
  case atStart => exact ⟨0, 0, _, _, rfl, rfl, rfl, Nat.zero_le _, Nat.le_refl _, D0⟩
  case round =>
    obtain ⟨k, m, vN, vP, rfl, rfl, rfl, hk, hm, D⟩ := hrel
    clear D0
    by_cases hlt' : k < c + 1
    · obtain ⟨N, P, i2, s2, hN, hP, hs, hS, hU⟩ := D.ex
      clear D
      go_wp2_with fail
      refine (node_any wr b B cv len i2 s2 k hS (code_of HC.out hU hB hb) hB (by omega)).mono ?_
      rintro e w4 ⟨q, i4, s4, rfl, hq, hS4, U4⟩
      have hN4 := hN.low U4 hb
      have hP4 := hP.low U4 hb
      have hU4 := hU.trans U4
      obtain ⟨pN, cN, rfl⟩ := hN4.shape
      obtain ⟨v5, w5, hr, h5, u5⟩ := appNod _ w4 _ k N q hN4 hU4.size (by omega)
      have D5 := Dr.addN hb hN4 hP4 hs hq hS4 hU4 h5 u5
      clear hN hP hs hS hU U4 hN4 hP4 hU4 hS4 h5 u5
      rcases Nat.eq_zero_or_pos k with hk0 | hk0
      · subst hk0
        go_wp2_with (at_builtin; refine mem.wpList_appT hr rfl _ _ rfl rfl rfl rfl ?_)
        clear hr
        go_roundw
        case rel => exact ⟨1, m, _, _, by go_num, rfl, rfl, by omega, by omega, D5⟩
        case measure => simp [intOf]
      · have hkI : (0 : Int) < (k : Int) := by omega
        go_wp2_with (at_builtin; refine mem.wpList_appT hr rfl _ _ rfl rfl rfl rfl ?_)
        clear hr
        obtain ⟨N5, P5, i5, s5, hN5, hP5, hs5, hS5, hU5⟩ := D5.ex
        refine (next_any w5 b B cv len i5 s5 16 hS5 (code_of HC.out hU5 hB hb) hB (by omega)).mono ?_
        rintro e w6 ⟨v6, i6, s6, rfl, t0, ht, hS6, o6⟩
        have D6 := D5.drawn hb (upd_of o6) hS6
        clear D5 hN5 hP5 hs5 hS5 hU5 o6 hS6
        by_cases hv6 : v6 = 0
        · subst hv6
          go_wp2_with fail
          go_roundw
          case rel => exact ⟨k + 1, m, _, _, by go_num, rfl, rfl, by omega, by omega, D6⟩
          case measure => simp [intOf]; omega
        · have hv6' : (0 : Int) < v6 := by omega
          clear hv6
          go_wp2_with fail
          obtain ⟨N5, P5, i5, s5, hN5, hP5, hs5, hS5, hU5⟩ := D6.ex
          refine (next_any w6 b B cv len i5 s5 k hS5 (code_of HC.out hU5 hB hb) hB (by omega)).mono ?_
          rintro e w7 ⟨v7, i7, s7, rfl, t7, ht7, hS7, o7⟩
          have D7 := D6.drawn hb (upd_of o7) hS7
          clear D6 hN5 hP5 hs5 hS5 hU5 o7 hS7
          go_wp2_with fail
          obtain ⟨N5, P5, i5, s5, hN5, hP5, hs5, hS5, hU5⟩ := D7.ex
          refine (pipe_any w7 b B cv len i5 s5 v7 k hS5 (code_of HC.out hU5 hB hb) hB).mono ?_
          rintro e w8 ⟨q8, i8, s8, rfl, hS8, U8⟩
          have D8 := D7.drawn hb U8 hS8
          clear D7 hN5 hP5 hs5 hS5 hU5 U8 hS8
          obtain ⟨N8, P8, i8, s8, hN8, hP8, hs8, hS8, hU8⟩ := D8.ex
          obtain ⟨pP, cP, rfl⟩ := hP8.shape
          obtain ⟨v9, w9, hr9, h9, u9⟩ := appPip _ w8 _ m P8 q8 hP8 hU8.size (by omega)
          have D9 := Dr.addP hb hN8 hP8 hs8 hS8 hU8 h9 u9
          clear D8 hN8 hP8 hs8 hS8 hU8 h9 u9
          go_wp2_with (at_builtin; refine mem.wpList_appT hr9 rfl _ _ rfl rfl rfl rfl ?_)
          clear hr9
          go_roundw
          case rel => exact ⟨k + 1, m + 1, _, _, by go_num, rfl, rfl, by omega, by omega, D9⟩
          case measure => simp [intOf]; omega
    · obtain rfl : k = c + 1 := by omega
      clear hlt' hk
      go_wp2_with fail
      obtain ⟨N5, P5, i5, s5, hN5, hP5, hs5, hS5, hU5⟩ := D.ex
      refine (next_any wr b B cv len i5 s5 3 hS5 (code_of HC.out hU5 hB hb) hB (by omega)).mono ?_
      rintro e w6 ⟨v6, i6, s6, rfl, t0, ht, hS6, o6⟩
      have D6 := D.drawn hb (upd_of o6) hS6
      clear D hN5 hP5 hs5 hS5 hU5 o6 hS6
      obtain ⟨j0, rfl⟩ := Int.eq_ofNat_of_zero_le t0
      have hj0 : j0 ≤ 2 := by omega
      clear t0 ht
      go_wp2_with fail
      go_loopw [7, 5] (fun i vP wr => ∃ (j m : Nat) (vP' : Value), i = .int .i64 j ∧ vP' = vP ∧ j ≤ 2 ∧ m + j ≤ c + 3 ∧ Dr Wa b cv len wr vN vP (c + 1) m) (fun i _ _ => (intOf i).toNat)
      case atStart => exact ⟨j0, m, _, rfl, rfl, hj0, by omega, D6⟩
      case round =>
        obtain ⟨j, m', vP', rfl, rfl, hj, hmj, D⟩ := hrel
        clear D6
        rcases Nat.eq_zero_or_pos j with hj1 | hj1
        · subst hj1
          obtain ⟨N7, P7, i7, s7, g1, g2, o1, o2, hd, l1, l2, hs7, hS7, hU7, rN, rP⟩ := D.net
          have R7 := R1.keep (hU7.block w.heap.size (by omega) (by omega))
          have f0 := R7.b0
          have f1 := R7.b1
          have k0 := R7.free 0
          have k1 := R7.free 1
          obtain ⟨p1, c1, rfl⟩ := o1.shape
          obtain ⟨p2, c2, rfl⟩ := o2.shape
          have hO := (((mem.Only.refl w.heap.size wr).setCell 0 (.slice p1 (c + 1) c1)).setCell 1 (.slice p2 m' c2))
          have HF := Lib.hid (And.intro (mem.OwnS.set2 (g := w.heap.size) (o0 := 0) (o1 := 1) (u0 := .slice p1 (c + 1) c1) (u1 := .slice p2 m' c2) o1 (by omega)) (And.intro (mem.OwnS.set2 (g := w.heap.size) (o0 := 0) (o1 := 1) (u0 := .slice p1 (c + 1) c1) (u1 := .slice p2 m' c2) o2 (by omega)) (And.intro hd (And.intro hs7 (And.intro (src_upd hS7 (hO.block b (by omega))) (And.intro (upd_own (U0.out.trans hU7) hO (Nat.le_refl _)) (And.intro (rowE_mono (B' := w.heap.size) (rN.low (mem.Upd.of_only hO) (by omega)) (by omega)) (rowE_mono (B' := w.heap.size) (rP.low (mem.Upd.of_only hO) (by omega)) (by omega)))))))))
          clear D R7 hU7 hS7 hs7 o1 o2 hO hd rN rP
          go_wp2_with fail
          refine bodyPost_ret (v := .agg #[.slice p1 (c + 1) c1, .slice p2 m' c2]) (by simp [results, Try.results110, go_sem, f0, f1]) rfl ⟨_, c + 1, m', N7, P7, g1, g2, i7, s7, rfl, by omega, by omega, by omega, HF.out.2.2.2.1, ⟨_, _, rfl, HF.out.1, HF.out.2.1, HF.out.2.2.1⟩, by omega, by omega, HF.out.2.2.2.2.1, HF.out.2.2.2.2.2.1, _, _, rfl, HF.out.2.2.2.2.2.2.1, HF.out.2.2.2.2.2.2.2⟩

        have hjI : (0 : Int) < (j : Int) := by omega
        rcases Nat.eq_zero_or_pos c with hc1 | hc1
        · subst hc1
          obtain ⟨N7, P7, i7, s7, g1, g2, o1, o2, hd, l1, l2, hs7, hS7, hU7, rN, rP⟩ := D.net
          have R7 := R1.keep (hU7.block w.heap.size (by omega) (by omega))
          have f0 := R7.b0
          have f1 := R7.b1
          have k0 := R7.free 0
          have k1 := R7.free 1
          obtain ⟨p1, c1, rfl⟩ := o1.shape
          obtain ⟨p2, c2, rfl⟩ := o2.shape
          have hO := (((mem.Only.refl w.heap.size wr).setCell 0 (.slice p1 (0 + 1) c1)).setCell 1 (.slice p2 m' c2))
          have HF := Lib.hid (And.intro (mem.OwnS.set2 (g := w.heap.size) (o0 := 0) (o1 := 1) (u0 := .slice p1 (0 + 1) c1) (u1 := .slice p2 m' c2) o1 (by omega)) (And.intro (mem.OwnS.set2 (g := w.heap.size) (o0 := 0) (o1 := 1) (u0 := .slice p1 (0 + 1) c1) (u1 := .slice p2 m' c2) o2 (by omega)) (And.intro hd (And.intro hs7 (And.intro (src_upd hS7 (hO.block b (by omega))) (And.intro (upd_own (U0.out.trans hU7) hO (Nat.le_refl _)) (And.intro (rowE_mono (B' := w.heap.size) (rN.low (mem.Upd.of_only hO) (by omega)) (by omega)) (rowE_mono (B' := w.heap.size) (rP.low (mem.Upd.of_only hO) (by omega)) (by omega)))))))))
          clear D R7 hU7 hS7 hs7 o1 o2 hO hd rN rP
          go_wp2_with fail
          refine bodyPost_ret (v := .agg #[.slice p1 (0 + 1) c1, .slice p2 m' c2]) (by simp [results, Try.results110, go_sem, f0, f1]) rfl ⟨_, 0 + 1, m', N7, P7, g1, g2, i7, s7, rfl, by omega, by omega, by omega, HF.out.2.2.2.1, ⟨_, _, rfl, HF.out.1, HF.out.2.1, HF.out.2.2.1⟩, by omega, by omega, HF.out.2.2.2.2.1, HF.out.2.2.2.2.2.1, _, _, rfl, HF.out.2.2.2.2.2.2.1, HF.out.2.2.2.2.2.2.2⟩

        have hcI : (1 : Int) < 1 + (c : Int) := by omega
        go_wp2_with fail
        obtain ⟨N5, P5, i5, s5, hN5, hP5, hs5, hS5, hU5⟩ := D.ex
        refine (next_any wr b B cv len i5 s5 _ hS5 (code_of HC.out hU5 hB hb) hB (by omega)).mono ?_
        rintro e w7 ⟨v7, i7, s7, rfl, t7, ht7, hS7, o7⟩
        have D7 := D.drawn hb (upd_of o7) hS7
        clear D hN5 hP5 hs5 hS5 hU5 o7 hS7
        have hv7 : v7 ≤ 6 := by omega
        go_wp2_with fail
        obtain ⟨N5, P5, i5, s5, hN5, hP5, hs5, hS5, hU5⟩ := D7.ex
        refine (next_any w7 b B cv len i5 s5 _ hS5 (code_of HC.out hU5 hB hb) hB (by omega)).mono ?_
        rintro e w8 ⟨v8, i8, s8, rfl, t8, ht8, hS8, o8⟩
        have D8 := D7.drawn hb (upd_of o8) hS8
        clear D7 hN5 hP5 hs5 hS5 hU5 o8 hS8
        have hv8 : v8 ≤ 6 := by omega
        have hne : (1 + (c : Int)) ≠ 0 := by omega
        go_wp2_with fail
        obtain ⟨N5, P5, i5, s5, hN5, hP5, hs5, hS5, hU5⟩ := D8.ex
        refine (pipe_any w8 b B cv len i5 s5 _ _ hS5 (code_of HC.out hU5 hB hb) hB).mono ?_
        rintro e w9 ⟨q9, i9, s9, rfl, hS9, U9⟩
        have D9 := D8.drawn hb U9 hS9
        clear D8 hN5 hP5 hs5 hS5 hU5 U9 hS9
        obtain ⟨N8, P8, i8, s8, hN8, hP8, hs8, hS8, hU8⟩ := D9.ex
        obtain ⟨pP, cP, rfl⟩ := hP8.shape
        obtain ⟨va, wa, hra, ha, ua⟩ := appPip _ w9 _ m' P8 q9 hP8 hU8.size (by omega)
        have Da := Dr.addP hb hN8 hP8 hs8 hS8 hU8 ha ua
        clear D9 hN8 hP8 hs8 hS8 hU8 ha ua
        go_wp2_with (at_builtin; refine mem.wpList_appT hra rfl _ _ rfl rfl rfl rfl ?_)
        clear hra
        go_roundw
        case rel => exact ⟨j - 1, m' + 1, _, by go_num, rfl, by omega, by omega, Da⟩
        case measure => simp [intOf]; omega
end Go.Proofs.Ytjjjdahegcjmaaa.draw
