/-
  Several texts in one, part two of two.
-/
import Derived.Test.YtdbgcbkmcbgdiaaGreatRows
import Derived.Test.YtdbgcbkmcbgdiaaGreatCyM
import Derived.Test.YtdbgcbkmcbgdiaaGreatBaM
import Derived.IntWalk
import Derived.Laws.EntriesVeiled
import Derived.Test.YtdbgcbkmcbgdiaaGreatCsM
import Derived.BigQuiet
import Derived.Deep.Cut
import Derived.Deep.RegionHeld3
import Derived.Deep.MidRow
import Derived.Deep.CutRange
import Derived.Test.YtdbgcbkmcbgdiaaGreatDrG
import Derived.WalkKit
import Derived.ProofKit
import Derived.Lib.Hide
import Derived.OwnWalk
import Derived.Outline
import Derived.Deep.RegionWith
import Derived.StillTailTactics
import Derived.Test.YtdbgcbkmcbgdiaaGreatI64
import Derived.Test.YtdbgcbkmcbgdiaaGreatCs
import Derived.Deep.QuietTactic
import Derived.Laws.ResultCell
import Derived.Test.YtdbgcbkmcbgdiaaGreatLaw
import Derived.Test.YtdbgcbkmcbgdiaaGreatCode
import Derived.OpenShut
import Derived.Deep.RegionHeldLaw
import Derived.Test.YtdbgcbkmcbgdiaaGreatLSsp

namespace Go.Proofs.YtdbgcbkmcbgdiaaGreat.mem
open Go.RowKit
set_option linter.unusedVariables false

set_option maxRecDepth 100000 in
set_option maxHeartbeats 8000000 in
theorem l11Relax_any (w : World) (v : Value) (n : Nat) (N : Nat → Nod) (m : Nat) (P : Nat → Pip) (lo hi : Nat) (h : NetAt w v n N m P lo hi) (hhi : hi ≤ w.heap.size) (hN : ∀ i, i < n → (N i).s.size ≤ 9223372036854775807) (hB : netB n N m P = true) (va : Value) (x0 : Nat → Int) (la ha : Nat) (hv : Sl w va m x0 la ha) (hha : ha ≤ w.heap.size) (hx : ∀ k, k < m → -30000 ≤ x0 k ∧ x0 k ≤ 30000) (st0 : Int) (hst : 0 ≤ st0 ∧ st0 ≤ 100000) :
    Calls Tryz.prog 53 #[v, va, .int .i64 st0] w fun e w' => ∃ v2 g2, e = .returned (.tuple #[v2, .int .i64 (rlx m P (fun i => cyc P (fE n P m) (fD n P m) (chS n P m i)) (chN n P m) x0 st0).2]) ∧ Own w' v2 m (rlx m P (fun i => cyc P (fE n P m) (fD n P m) (chS n P m i)) (chN n P m) x0 st0).1 g2 ∧ w.heap.size ≤ g2 ∧ Below w.heap.size w w' := by
  obtain ⟨p0, c0, p1, c1, rfl, hn9, hm9⟩ := h.parts
  obtain ⟨hn1, hn24, hm40⟩ := net_sz hB
  obtain ⟨pa, ca, rfl⟩ := hv.sh
  have HV := Lib.hid h
  have HBN := Lib.hid hB
  have HSV := Lib.hid hv
  have HX0 := Lib.hid hx
  have A0 := boxed w (.slice p0 n c0) (.slice p1 m c1) 27
  have B0 := below_new w (.cells #[.slice p0 n c0, .slice p1 m c1] 27)
  have hs0 : (w.alloc (.cells #[.slice p0 n c0, .slice p1 m c1] 27)).heap.size = w.heap.size + 1 := by simp
  have e0 := A0.b0
  have e1 := A0.b1
  clear h hB hv hx
  go_enter Tryz.func53, Tryz.ntmps53
  go_wp2_with fail
  refine (l05Basis_any _ _ n N m P lo hi (HV.out.below B0 hhi) (by omega) hN HBN.out).mono ?_
  rintro e w1 ⟨vb, rfl, hbas, b1⟩
  have A1 := A0.below b1 (by omega)
  have B1 := B0.trans (b1.mono (by omega))
  have hs1 := b1.size
  have b2 := below_new w1 (.cells #[] 2)
  have hs2 : (w1.alloc (.cells #[] 2)).heap.size = w1.heap.size + 1 := by simp
  have O2 := Own.nilled w1 x0
  obtain ⟨v3, w3, g3, hr3, o3, hap⟩ := app_all (w1.alloc (.cells #[] 2)) _ (.slice pa m ca) x0 w1.heap.size m x0 la ha O2 (HSV.out.below (B1.trans (b2.mono (by omega))) hha) (by omega)
  obtain ⟨b3, hg3⟩ := hap w1.heap.size (Nat.le_refl _) (by omega)
  obtain ⟨c3, rfl⟩ := o3.shape
  have b23 := b2.trans b3
  have hs3 := b3.size
  have A3 := A1.below b23 (by omega)
  have B3 := B1.trans (b23.mono (by omega))
  have HB3 := Lib.hid ((hbas.next b23).low (show w.heap.size ≤ _ by omega))
  have HO3 := Lib.hid o3
  obtain ⟨pb, cb, rfl⟩ := hbas.shape
  clear A0 A1 B0 B1 b1 b2 O2 hap o3 b3 hbas
  have hw3 : w.heap.size + 1 ≤ w1.heap.size := by omega
  have hw3' : w1.heap.size + 1 ≤ w3.heap.size := by omega
  clear hs0 hs1 hs2 hs3
  go_upto_region 3 with (at_builtin; refine wpList_app hr3 rfl _ _ rfl rfl rfl rfl ?_)
  clear hr3 b23 e0 e1
  have HA := Lib.hid A3
  have HBB := Lib.hid B3
  clear A3 B3
  generalize hY : (fun i => cyc P (fE n P m) (fD n P m) (chS n P m i)) = Y at *
  have HYE := Lib.hid hY
  clear hY
  go_wp2_with fail
  go_loopw [2, 9, 10] (fun sv xv tv wr => ∃ (f gx cx : Nat) (x : Nat → Int) (tot st : Int), xv = .slice (some ⟨gx, 0, none⟩) m cx ∧ sv = .int .i64 st ∧ tv = .int .i64 tot ∧ Own wr (.slice (some ⟨gx, 0, none⟩) m cx) m x gx ∧ w1.heap.size ≤ gx ∧ 0 ≤ st ∧ st ≤ 100000 ∧ 0 ≤ tot ∧ tot ≤ 5000 ∧ 5000 - tot + st ≤ f ∧ rlS m P Y (chN n P m) f x tot st = rlx m P Y (chN n P m) x0 st0 ∧ (∀ k, k < m → -30000 ≤ x k ∧ x k ≤ 30000) ∧ w3.heap.size ≤ wr.heap.size ∧ Below w1.heap.size w3 wr ∧ Bas wr (.slice pb (chN n P m) cb) (chN n P m) m Y w.heap.size) (fun sv _ tv _ => (5000 - intOf tv + intOf sv).toNat)
  case atStart => exact ⟨5000 + st0.toNat, g3, c3, x0, 0, st0, rfl, rfl, rfl, HO3.out, hg3, hst.1, hst.2, Int.le_refl _, by omega, by omega, rfl, HX0.out, Nat.le_refl _, Below.refl _ _, HB3.out⟩
  case round =>
    obtain ⟨f, gx, cx, x, tot, st, rfl, rfl, rfl, hox, hgx, s0, s1, t0, t1, hf, hrl, hxr, hsz, hb, hbas⟩ := hrel
    have HRL := Lib.hid hrl
    have HXR := Lib.hid hxr
    have HOX := Lib.hid hox
    have HL := Lib.hid hb
    have HBA := Lib.hid hbas
    have lgx := hox.lt
    clear hrl hxr hox hb hbas HO3 HB3
    have BW := Lib.hid (HBB.out.trans (HL.out.mono (by omega)))
    by_cases hs1 : 1 ≤ st
    · have hd1 : decide (1 ≤ st) = true := decide_eq_true hs1
      by_cases ht5 : tot < 5000
      · have hd2 : decide (tot < 5000) = true := decide_eq_true ht5
        obtain ⟨f', rfl⟩ : ∃ f', f = f' + 1 := ⟨f - 1, by omega⟩
        have HRN := Lib.hid (by have := HRL.out; rwa [rlS_next ⟨hs1, ht5⟩] at this)
        have hpc := psS_cnt (m := m) (P := P) (Y := Y) (x := x) (step := st) (left := 5000 - tot) (by omega) (chN n P m)
        have HPR := Lib.hid (fun k hk => psS_rng (P := P) (Y := Y) (step := st) (left := 5000 - tot) HXR.out (chN n P m) k hk)
        have f0 := (HA.out.below HL.out (by omega)).b0
        have f1 := (HA.out.below HL.out (by omega)).b1
        have hw1 : IntKind.i64.wrap (5000 - tot) = 5000 - tot := IntWalk.i64_in _ (by omega)
        clear HRL
        go_upto_region 6 with (go_at_call 104; refine (l11Pass_any wr _ n N m P lo hi (HV.out.below BW.out hhi) (by omega) HBN.out _ w.heap.size (by rw [HYE.out]; exact HBA.out) _ x gx HOX.out HXR.out st (5000 - tot) (by omega) (by omega)).mono ?_; rw [HYE.out]; rintro e w5 ⟨v5, g5, rfl, o5, hg5, b5⟩; obtain ⟨c5, rfl⟩ := o5.shape)
        generalize hps : psS m P Y x st (5000 - tot) (chN n P m) = r at *
        obtain ⟨x', mv⟩ := r
        dsimp only at o5 HPR hpc HRN ⊢
        have hw2 : IntKind.i64.wrap (tot + mv) = tot + mv := IntWalk.i64_in _ (by omega)
        have s5 := b5.size
        have HL5 := HL.out.trans (b5.mono (by omega))
        have HB5 := HBA.out.next b5
        clear hps f0 f1 b5
        by_cases hm0 : mv = 0
        · subst hm0
          have hd3 : ((0 : Int) == 0) = true := rfl
          have hd4 : st.tdiv 2 = st / 2 := Int.tdiv_eq_ediv_of_nonneg s0
          have HR2 := HRN.out
          rw [if_pos rfl, Int.add_zero] at HR2
          have hq0 : 0 ≤ st / 2 ∧ st / 2 < st := by omega
          have HR3 := Lib.hid HR2
          clear HR2
          go_wp2_with fail
          go_roundw
          case rel => exact ⟨f', g5, c5, x', tot, st / 2, rfl, rfl, rfl, o5, by omega, hq0.1, by omega, by omega, by omega, by omega, HR3.out, HPR.out, by omega, HL5, HB5⟩
          case measure => simp [intOf]; omega
        · have hd3 : (mv == 0) = false := by simpa using hm0
          have HR2 := HRN.out
          rw [if_neg hm0] at HR2
          have HR3 := Lib.hid HR2
          clear HR2
          go_wp2_with fail
          go_roundw
          case rel => exact ⟨f', g5, c5, x', tot + mv, st, rfl, rfl, rfl, o5, by omega, s0, s1, by omega, by omega, by omega, HR3.out, HPR.out, by omega, HL5, HB5⟩
          case measure => simp [intOf]; omega
      · have hd2 : decide (tot < 5000) = false := decide_eq_false ht5
        have HR2 := Lib.hid (show rlx m P Y (chN n P m) x0 st0 = (x, tot) by rw [← HRL.out, rlS_stop (by omega)])
        clear ht5
        go_wp2_with fail
        go_ret2
        first | exact ⟨.slice (some ⟨gx, 0, none⟩) m cx, gx, (by (first | rw [HYE.out, HR2.out] | rw [HR2.out]); rfl), (by (first | rw [HYE.out, HR2.out] | rw [HR2.out]); exact HOX.out), (by omega), BW.out⟩ | exact ⟨.slice (some ⟨gx, 0, none⟩) m cx, (by (first | rw [HYE.out, HR2.out] | rw [HR2.out]); rfl), gx, (by (first | rw [HYE.out, HR2.out] | rw [HR2.out]); exact HOX.out), (by omega), BW.out⟩
    · have hd1 : decide (1 ≤ st) = false := decide_eq_false hs1
      have HR2 := Lib.hid (show rlx m P Y (chN n P m) x0 st0 = (x, tot) by rw [← HRL.out, rlS_stop (by omega)])
      clear hs1
      go_wp2_with fail
      go_ret2
      first | exact ⟨.slice (some ⟨gx, 0, none⟩) m cx, gx, (by (first | rw [HYE.out, HR2.out] | rw [HR2.out]); rfl), (by (first | rw [HYE.out, HR2.out] | rw [HR2.out]); exact HOX.out), (by omega), BW.out⟩ | exact ⟨.slice (some ⟨gx, 0, none⟩) m cx, (by (first | rw [HYE.out, HR2.out] | rw [HR2.out]); rfl), gx, (by (first | rw [HYE.out, HR2.out] | rw [HR2.out]); exact HOX.out), (by omega), BW.out⟩
end Go.Proofs.YtdbgcbkmcbgdiaaGreat.mem

namespace Go.Proofs.YtdbgcbkmcbgdiaaGreat.draw
open Go.RowKit
set_option linter.unusedVariables false

theorem upd_hi {X : Nat → Prop} {g : Nat} {w w1 w2 : World} (h : mem.Upd X w w1) (k : mem.Upd (fun x => x = g) w1 w2) (hg : w.heap.size ≤ g) : mem.Upd X w w2 :=
  ⟨k.os.trans h.os, k.tape.trans h.tape, k.output.trans h.output, Nat.le_trans h.size k.size, fun x hx hn => (k.block x (Nat.lt_of_lt_of_le hx h.size) (by omega)).trans (h.block x hx hn)⟩
theorem flatP {P : Nat → mem.Pip} {n : Nat} : ∀ u ∈ mem.flatL (mem.pipC P) n 5, u.oneCell' = true := by
  intro u hu
  unfold mem.flatL at hu
  obtain ⟨x, _, rfl⟩ := List.mem_map.1 hu
  unfold mem.pipC
  split <;> rfl
theorem appPips (W : World) (B B0 : Nat) (p : Option Addr) (m cap : Nat) (P : Nat → mem.Pip) (lo hi : Nat) (h0 : RP B W (.slice (some ⟨B0, 0, none⟩) 0 0) 0 (mem.pipC P)) (hB : B ≤ W.heap.size) (h : mem.Cs W (.slice p m cap) m 5 (mem.pipC P) lo hi) (hm : m ≤ 1000000) :
    ∃ v' w', Sem.run Tryz.prog (Builtin.append_ #[25, 25] 25 #[.slice (some ⟨B0, 0, none⟩) 0 0, .slice p m cap]) W = .ok v' w' ∧ RP B w' v' m (mem.pipC P) ∧ mem.Upd (fun x => x = B0) W w' := by
  obtain ⟨i0, hi0, hz0, hz1, hz2⟩ := info_parts mem.info_make_pipe
  obtain ⟨q, cq, hv, h1, h2, h3⟩ := h.ex
  injection hv with e1 _ e2
  subst e1 e2
  rcases Nat.eq_zero_or_pos m with rfl | hpos
  · refine ⟨.slice (some ⟨B0, 0, none⟩) 0 0, W, ?_, h0, ⟨rfl, rfl, rfl, Nat.le_refl _, fun _ _ _ => rfl⟩⟩
    rcases p with _ | a
    · simp [Builtin.append_, run_underlying Tryz.underlying25, sizeOf, typeInfo, hi0, Builtin.lenOf, Builtin.firstCells, storeCells]
    · have hf := run_firstCells_some (P := Tryz.prog) W i0.size 0 a 0 cap [] (by simp) (by intro j u hu; cases hu)
      simp [Builtin.append_, run_underlying Tryz.underlying25, sizeOf, typeInfo, hi0, Builtin.lenOf, hf, storeCells]
  · rcases h3 with h3 | ⟨b, o, rfl, g1, g2, g3⟩
    · omega
    obtain ⟨v', w', hr, ho, hgr, _⟩ := run_append_own (P := Tryz.prog) W B 25 25 121 i0 _ 5 40 Tryz.underlying25 hi0 hz0 hz1 hz2 (by kernel_rfl) (by omega) _ 0 _ h0.own ⟨b, o, none⟩ m cap (mem.flatL (mem.pipC P) m 5) (mem.flatL_len _ _ _) (mem.flatL_cell g3) flatP (by unfold maxLen; omega) (by omega) hB
    refine ⟨v', w', hr, ⟨?_⟩, ⟨hgr.os, hgr.tape, hgr.output, hgr.size, fun x hx hne => hgr.block x hx (by simp [Value.ownBlock]; exact hne)⟩⟩
    have e : mem.flatL (mem.pipC P) 0 5 = [] := by simp [mem.flatL]
    rw [e, List.nil_append, Nat.zero_add] at ho
    exact ho
/-- nodes and pipes while pipes are appended; a block below the pipes' row holds the drawn network -/
structure Dl (W1 : World) (b : Nat) (cv : Value) (len nb : Nat) (v0 v1 : Value) (wr : World) (vP : Value) (n m : Nat) : Prop where
  ex : ∃ (N : Nat → mem.Nod) (P : Nat → mem.Pip) (i s : Int), RN W1.heap.size wr v0 n (mem.nodC N) ∧ RP (nb + 1) wr vP m (mem.pipC P) ∧ (∀ i, i < n → (N i).s.size ≤ 9223372036854775807) ∧ Src wr b cv len i s ∧ mem.Upd (· = b) W1 wr ∧ mem.Ob wr nb 2 (mem.bx v0 v1)
theorem Dl.drawn {W1 wr w' : World} {b : Nat} {cv : Value} {len nb : Nat} {v0 v1 vP : Value} {n m : Nat} {i s : Int} (h : Dl W1 b cv len nb v0 v1 wr vP n m) (hb : b < W1.heap.size) (hnb : W1.heap.size ≤ nb) (u : mem.Upd (· = b) wr w') (hS : Src w' b cv len i s) : Dl W1 b cv len nb v0 v1 w' vP n m := by
  obtain ⟨N, P, _, _, h1, h2, h3, _, h5, h6⟩ := h.ex
  exact ⟨N, P, i, s, h1.low u hb, h2.low u (by omega), h3, hS, h5.trans u, h6.keep (u.block nb h6.lt (by omega))⟩
theorem Dl.addP {W1 wr w' : World} {b : Nat} {cv : Value} {len nb : Nat} {v0 v1 vP v' : Value} {n m : Nat} {N : Nat → mem.Nod} {P : Nat → mem.Pip} {q : mem.Pip} {i s : Int} (hb : b < W1.heap.size) (hnb : W1.heap.size ≤ nb)
    (hN : RN W1.heap.size wr v0 n (mem.nodC N)) (hP : RP (nb + 1) wr vP m (mem.pipC P)) (hs : ∀ i, i < n → (N i).s.size ≤ 9223372036854775807) (hS : Src wr b cv len i s) (hU : mem.Upd (· = b) W1 wr) (hO : mem.Ob wr nb 2 (mem.bx v0 v1))
    (h' : RP (nb + 1) w' v' (m + 1) (mem.pipC (draw.addP P m q))) (u : mem.Upd (fun x => some x = vP.ownBlock) wr w') : Dl W1 b cv len nb v0 v1 w' v' n (m + 1) :=
  ⟨N, _, i, s, hN.keep u (mem.rows_apart hN hP (by decide)), h', hs, src_upd hS (u.block b (src_lt hS) (fun e => by have := (hP.own.lt b e.symm).1; omega)), upd_row hU hP (by omega) u, hO.keep (u.block nb hO.lt (fun e => by have := (hP.own.lt nb e.symm).1; omega))⟩
theorem Dl.net {W1 wr : World} {b : Nat} {cv : Value} {len nb : Nat} {v0 v1 vP : Value} {n m : Nat} (h : Dl W1 b cv len nb v0 v1 wr vP n m) (hnb : W1.heap.size ≤ nb) : ∃ (N : Nat → mem.Nod) (P : Nat → mem.Pip) (i s : Int) (g1 g2 : Nat), mem.OwnS wr v0 n 3 (mem.nodC N) g1 ∧ mem.OwnS wr vP m 5 (mem.pipC P) g2 ∧ (n = 0 ∨ m = 0 ∨ g1 ≠ g2) ∧ W1.heap.size ≤ g1 ∧ W1.heap.size ≤ g2 ∧ (∀ i, i < n → (N i).s.size ≤ 9223372036854775807) ∧ Src wr b cv len i s ∧ mem.Upd (· = b) W1 wr ∧ mem.Ob wr nb 2 (mem.bx v0 v1) := by
  obtain ⟨N, P, i, s, hN, hP, hs, hS, hU, hO⟩ := h.ex
  obtain ⟨g1, a1, a2, a3⟩ := ownS2 hN
  obtain ⟨g2, c1, c2, c3⟩ := ownS2 hP
  refine ⟨N, P, i, s, g1, g2, a1, c1, ?_, a2, by omega, hs, hS, hU, hO⟩
  rcases a3 with a3 | a3
  · rcases c3 with c3 | c3
    · refine .inr (.inr fun e => ?_)
      exact mem.rows_apart hN hP (by decide) g1 a3 (by rw [c3, e])
    · exact .inr (.inl c3)
  · exact .inl a3
set_option maxRecDepth 100000 in
set_option maxHeartbeats 4000000 in
theorem loops_any (w : World) (b B : Nat) (cv : Value) (len : Nat) (i s : Int) (h : Src w b cv len i s) (hc : CodeAt w cv len B) (hB : B ≤ b) :
    Calls Tryz.prog 84 #[.pointer (some ⟨b, 0, none⟩)] w (AnyPost w b cv len) := by
  have hlt := src_lt h
  have h' := src_alloc h hlt (.cells #[.slice none 0 0, .slice none 0 0] 27)
  have HC := Lib.hid (codeAt_below hc ((Below.refl B w).alloc (by omega) (.cells #[.slice none 0 0, .slice none 0 0] 27)))
  have R1 := mem.boxed w (.slice none 0 0) (.slice none 0 0) 27
  have U0 := Lib.hid (mem.Upd.of_below (mem.below_new w (.cells #[.slice none 0 0, .slice none 0 0] 27)) (X := (· = b)))
  have hsz : w.heap.size + 1 ≤ (w.alloc (.cells #[.slice none 0 0, .slice none 0 0] 27)).heap.size := by simp
  go_enter Tryz.func84, Tryz.ntmps84
  go_wp2_with fail
  generalize hW : w.alloc (.cells #[.slice none 0 0, .slice none 0 0] 27) = Wa at *
  clear hW h hc
  have hb : b < Wa.heap.size := by omega
  refine (net_any Wa b B cv len i s h' HC.out hB).mono ?_
  rintro e w1 ⟨v, n, m, N, P, b1, b2, i1, s1, rfl, hn, hm, hn0, hnm, hO, l1, l2, hS1, U1, v0, v1, rfl, rN, rP⟩
  obtain ⟨p0, c0, rfl⟩ := rN.shape
  obtain ⟨p1, c1, rfl⟩ := rP.shape
  obtain ⟨u0, u1, he, _, gP⟩ := hO.net.ex
  simp only [Value.agg.injEq, Array.mk.injEq, List.cons.injEq, and_true] at he
  obtain ⟨rfl, rfl⟩ := he
  have hs1 := U1.size
  obtain ⟨w2, hw2⟩ : ∃ w2, w1.alloc (.cells #[.slice p0 n c0, .slice p1 m c1] 27) = w2 := ⟨_, rfl⟩
  have hs2 : w2.heap.size = w1.heap.size + 1 := by rw [← hw2]; simp
  have x2 : Below w1.heap.size w1 w2 := by rw [← hw2]; exact mem.below_new _ _
  have T2 := mem.boxed w1 (.slice p0 n c0) (.slice p1 m c1) 27
  rw [hw2] at T2
  obtain ⟨w3, hw3⟩ : ∃ w3, w2.alloc (.cells #[] 121) = w3 := ⟨_, rfl⟩
  have r3 := mem.rowE_nil (B := w1.heap.size + 1) (e := 121) (z := 5) w2 (mem.pipC P) (by omega)
  have x3 : Below w2.heap.size w2 w3 := by rw [← hw3]; exact mem.below_new _ _
  have x23 := x2.trans (x3.mono (by omega))
  have hs3 : w1.heap.size + 1 + 1 = w3.heap.size := by rw [← hw3]; simp [hs2]
  rw [hw3, hs2] at r3
  obtain ⟨v4, w4, hr, rP4, u4⟩ := appPips w3 (w1.heap.size + 1) (w1.heap.size + 1) p1 m c1 P 0 w1.heap.size r3 (by omega) (gP.below x23 (Nat.le_refl _)) (by omega)
  have hl4 := u4.size
  have D0 : Dl Wa b cv len w1.heap.size (.slice p0 n c0) (.slice p1 m c1) w4 v4 n m := ⟨N, P, i1, s1, (rN.next x23).keep u4 (fun k hk hx => by
      have := (rN.own.lt k hk).2
      omega), rP4, hnm, src_upd (src_upd hS1 (x23.block b (src_lt hS1))) (u4.block b (by have := src_lt hS1; omega) (by have := src_lt hS1; omega)), upd_hi (U1.trans (mem.Upd.of_below x23)) u4 (by omega), (T2.next x3).keep (u4.block w1.heap.size (by omega) (by omega))⟩
  have hcnt : (0 : Int) < (n : Int) := by omega
  have t2a := T2.b0
  have t2b := T2.b1
  have hnb : Wa.heap.size ≤ w1.heap.size := hs1
  clear rN rP hO gP hS1 U1 T2 r3 x2 x3 x23 rP4 u4 hs2 hs3
  subst hw3 hw2
  go_wp2_with (at_builtin; refine mem.wpList_appT hr rfl _ _ rfl rfl rfl rfl ?_)
  clear hr t2a t2b
  obtain ⟨N5, P5, i5, s5, hN5, hP5, hs5, hS5, hU5, hT5⟩ := D0.ex
  refine (next_any w4 b B cv len i5 s5 3 hS5 (code_of HC.out hU5 hB hb) hB (by omega)).mono ?_
  rintro e w6 ⟨v6, i6, s6, rfl, t0, ht, hS6, o6⟩
  have D6 := D0.drawn hb hnb (upd_of o6) hS6
  clear D0 hN5 hP5 hs5 hS5 hU5 hT5 o6 hS6
  obtain ⟨j0, rfl⟩ := Int.eq_ofNat_of_zero_le t0
  have hj0 : j0 ≤ 2 := by omega
  clear t0 ht
  go_wp2_with fail
  go_loopw [6, 5] (fun i vP wr => ∃ (j k : Nat) (vP' : Value), i = .int .i64 j ∧ vP' = vP ∧ j ≤ 2 ∧ k + j ≤ 102 ∧ Dl Wa b cv len w1.heap.size (.slice p0 n c0) (.slice p1 m c1) wr vP n k) (fun i _ _ => (intOf i).toNat)
  case atStart => exact ⟨j0, m, _, rfl, rfl, hj0, by omega, D6⟩
  case round =>
    obtain ⟨j, m', vP', rfl, rfl, hj, hmj, D⟩ := hrel
    clear D6
    rcases Nat.eq_zero_or_pos j with hj1 | hj1
    · subst hj1
      obtain ⟨N7, P7, i7, s7, g1, g2, o1, o2, hd, q1, q2, hs7, hS7, hU7, hT7⟩ := D.net hnb
      have R7 := R1.keep (hU7.block w.heap.size (by omega) (by omega))
      have f0 := R7.b0
      have f1 := R7.b1
      have k0 := R7.free 0
      have k1 := R7.free 1
      have t0 := hT7.b0
      have t1 := hT7.b1
      obtain ⟨p2, c2, rfl⟩ := o2.shape
      have hO := (((mem.Only.refl w.heap.size wr).setCell 0 (.slice p0 n c0)).setCell 1 (.slice p2 m' c2))
      have HF := Lib.hid (And.intro (mem.OwnS.set2 (g := w.heap.size) (o0 := 0) (o1 := 1) (u0 := .slice p0 n c0) (u1 := .slice p2 m' c2) o1 (by omega)) (And.intro (mem.OwnS.set2 (g := w.heap.size) (o0 := 0) (o1 := 1) (u0 := .slice p0 n c0) (u1 := .slice p2 m' c2) o2 (by omega)) (And.intro hd (And.intro hs7 (And.intro (src_upd hS7 (hO.block b (by omega))) (upd_own (U0.out.trans hU7) hO (Nat.le_refl _)))))))
      clear D R7 hU7 hS7 hs7 o1 o2 hO hd hT7
      go_wp2_with fail
      refine bodyPost_ret (v := .agg #[.slice p0 n c0, .slice p2 m' c2]) (by simp [results, Tryz.results84, go_sem, f0, f1]) rfl ⟨_, n, m', N7, P7, g1, g2, i7, s7, rfl, by omega, by omega, HF.out.2.2.2.1, ⟨_, _, rfl, HF.out.1, HF.out.2.1, HF.out.2.2.1⟩, by omega, by omega, HF.out.2.2.2.2.1, HF.out.2.2.2.2.2⟩
    have hjI : (0 : Int) < (j : Int) := by omega
    by_cases hc1 : n = 1
    · subst hc1
      obtain ⟨N7, P7, i7, s7, g1, g2, o1, o2, hd, q1, q2, hs7, hS7, hU7, hT7⟩ := D.net hnb
      have R7 := R1.keep (hU7.block w.heap.size (by omega) (by omega))
      have f0 := R7.b0
      have f1 := R7.b1
      have k0 := R7.free 0
      have k1 := R7.free 1
      have t0 := hT7.b0
      have t1 := hT7.b1
      obtain ⟨p2, c2, rfl⟩ := o2.shape
      have hO := (((mem.Only.refl w.heap.size wr).setCell 0 (.slice p0 1 c0)).setCell 1 (.slice p2 m' c2))
      have HF := Lib.hid (And.intro (mem.OwnS.set2 (g := w.heap.size) (o0 := 0) (o1 := 1) (u0 := .slice p0 1 c0) (u1 := .slice p2 m' c2) o1 (by omega)) (And.intro (mem.OwnS.set2 (g := w.heap.size) (o0 := 0) (o1 := 1) (u0 := .slice p0 1 c0) (u1 := .slice p2 m' c2) o2 (by omega)) (And.intro hd (And.intro hs7 (And.intro (src_upd hS7 (hO.block b (by omega))) (upd_own (U0.out.trans hU7) hO (Nat.le_refl _)))))))
      clear D R7 hU7 hS7 hs7 o1 o2 hO hd hT7
      go_wp2_with fail
      refine bodyPost_ret (v := .agg #[.slice p0 1 c0, .slice p2 m' c2]) (by simp [results, Tryz.results84, go_sem, f0, f1]) rfl ⟨_, 1, m', N7, P7, g1, g2, i7, s7, rfl, by omega, by omega, HF.out.2.2.2.1, ⟨_, _, rfl, HF.out.1, HF.out.2.1, HF.out.2.2.1⟩, by omega, by omega, HF.out.2.2.2.2.1, HF.out.2.2.2.2.2⟩
    have hcI : (1 : Int) < (n : Int) := by omega
    go_wp2_with fail
    obtain ⟨N5, P5, i5, s5, hN5, hP5, hs5, hS5, hU5, hT5⟩ := D.ex
    refine (next_any wr b B cv len i5 s5 _ hS5 (code_of HC.out hU5 hB hb) hB (by omega)).mono ?_
    rintro e w7 ⟨v7, i7, s7, rfl, t7, ht7, hS7, o7⟩
    have D7 := D.drawn hb hnb (upd_of o7) hS7
    clear D hN5 hP5 hs5 hS5 hU5 hT5 o7 hS7
    have hv7 : v7 ≤ 100 := by omega
    go_wp2_with fail
    obtain ⟨N5, P5, i5, s5, hN5, hP5, hs5, hS5, hU5, hT5⟩ := D7.ex
    refine (next_any w7 b B cv len i5 s5 _ hS5 (code_of HC.out hU5 hB hb) hB (by omega)).mono ?_
    rintro e w8 ⟨v8, i8, s8, rfl, t8, ht8, hS8, o8⟩
    have D8 := D7.drawn hb hnb (upd_of o8) hS8
    clear D7 hN5 hP5 hs5 hS5 hU5 hT5 o8 hS8
    have hv8 : v8 ≤ 100 := by omega
    have hne : (n : Int) ≠ 0 := by omega
    go_wp2_with fail
    obtain ⟨N5, P5, i5, s5, hN5, hP5, hs5, hS5, hU5, hT5⟩ := D8.ex
    refine (pipe_any w8 b B cv len i5 s5 _ _ hS5 (code_of HC.out hU5 hB hb) hB).mono ?_
    rintro e w9 ⟨q9, i9, s9, rfl, hS9, U9⟩
    have D9 := D8.drawn hb hnb U9 hS9
    clear D8 hN5 hP5 hs5 hS5 hU5 hT5 U9 hS9
    obtain ⟨N8, P8, i8, s8, hN8, hP8, hs8, hS8, hU8, hT8⟩ := D9.ex
    obtain ⟨pP, cP, rfl⟩ := hP8.shape
    obtain ⟨va, wa, hra, ha, ua⟩ := appPip (w1.heap.size + 1) w9 _ m' P8 q9 hP8 (by have := hT8.lt; omega) (by omega)
    have Da := Dl.addP hb hnb hN8 hP8 hs8 hS8 hU8 hT8 ha ua
    clear D9 hN8 hP8 hs8 hS8 hU8 hT8 ha ua
    go_wp2_with (at_builtin; refine mem.wpList_appT hra rfl _ _ rfl rfl rfl rfl ?_)
    clear hra
    go_roundw
    case rel => exact ⟨j - 1, m' + 1, _, by go_num, rfl, by omega, by omega, Da⟩
    case measure => simp [intOf]; omega
end Go.Proofs.YtdbgcbkmcbgdiaaGreat.draw

namespace Go.Proofs.YtdbgcbkmcbgdiaaGreat.draw
open Go.RowKit
set_option linter.unusedVariables false

end Go.Proofs.YtdbgcbkmcbgdiaaGreat.draw

namespace Go.Proofs.YtdbgcbkmcbgdiaaGreat.mem
open Go.RowKit
set_option linter.unusedVariables false

set_option maxRecDepth 100000 in
set_option maxHeartbeats 8000000 in
theorem l05OutW_any (w : World) (v : Value) (n : Nat) (N : Nat → Nod) (m : Nat) (P : Nat → Pip) (lo hi : Nat) (h : NetAt w v n N m P lo hi) (hhi : hi ≤ w.heap.size) (hN : ∀ i, i < n → (N i).s.size ≤ 9223372036854775807) (hB : netB n N m P = true) (va : Value) (d : Nat → Int) (la ha : Nat) (hv : Sl w va m d la ha) (hha : ha ≤ w.heap.size) (hf : flB d m = true) :
    Calls Tryz.prog 48 #[v, va] w fun e w' => ∃ v2 g, e = .returned v2 ∧ Own w' v2 n (fun z => dv P d m ((z : Nat) : Int)) g ∧ w.heap.size ≤ g ∧ Below w.heap.size w w' := by
  obtain ⟨p0, c0, p1, c1, rfl, hn9, hm9⟩ := h.parts
  obtain ⟨hn1, hn24, hm40⟩ := net_sz hB
  have HV := Lib.hid h
  have HPI := Lib.hid (fun a (ha : a < m) => pip_end (net_pip hB ha))
  have HFR := Lib.hid (show ∀ i, i < m → -30000 ≤ d i ∧ d i ≤ 30000 from fun i hi => flQ_iff.1 (flB_iff.1 hf i hi))
  obtain ⟨pa, ca, rfl, hva⟩ := hv
  have HVZ := Lib.hid hva
  have A0 := (boxed w (.slice p0 n c0) (.slice p1 m c1) 27).keep (Below.heap_alloc _ (.cells (zeros n) 2) _ (by simp only [World.size_alloc]; omega))
  have G0 := Own.made (w.alloc (.cells #[.slice p0 n c0, .slice p1 m c1] 27)) n (by omega)
  simp only [World.size_alloc] at G0
  have B0 := (below_new w (.cells #[.slice p0 n c0, .slice p1 m c1] 27)).trans ((below_new _ (.cells (zeros n) 2)).mono (by simp only [World.size_alloc]; omega))
  have e0' := (boxed w (.slice p0 n c0) (.slice p1 m c1) 27).b0
  have m1 := fun W => make_int64 W n (by omega)
  have n0 : (0 : Int) ≤ (n : Int) := Int.natCast_nonneg _
  have HA := Lib.hid A0
  have HG := Lib.hid G0
  have HBB := Lib.hid B0
  clear h hN hB A0 G0 B0 hva hf
  go_enter Tryz.func48, Tryz.ntmps48
  go_wp2_with fail
  generalize hW : (w.alloc (.cells #[.slice p0 n c0, .slice p1 m c1] 27)).alloc (.cells (zeros n) 2) = w2 at *
  clear hW m1 e0'
  go_loopw [6] (fun iv wr => ∃ k : Nat, iv = .int .i64 k ∧ k ≤ m ∧ Own wr (.slice (some ⟨w.heap.size + 1, 0, none⟩) n n) n (fun z => dv P d k ((z : Nat) : Int)) (w.heap.size + 1) ∧ Ob wr w.heap.size 2 (bx (.slice p0 n c0) (.slice p1 m c1)) ∧ Below w.heap.size w wr) (fun iv _ => m - (intOf iv).toNat)
  case atStart => exact ⟨0, rfl, Nat.zero_le _, HG.out.congr (fun k _ => rfl), HA.out, HBB.out⟩
  case round =>
    obtain ⟨k, rfl, hk, og, oa, hb⟩ := hrel
    clear HA HG HBB
    have HG := Lib.hid og
    have HA := Lib.hid oa
    have HBB := Lib.hid hb
    clear og oa hb
    generalize hQ : Exit.then _ _ = Q
    have HQ := Lib.hid hQ
    clear hQ
    have k0 : (0 : Int) ≤ (k : Int) := Int.natCast_nonneg _
    have lg := HG.out.lt
    by_cases hlt : k < m
    · have k1 : (k : Int) < (m : Int) := by omega
      obtain ⟨bp, op, rfl, q1, q2, r0, r1, r2, r3, r4⟩ := (HV.out.below HBB.out hhi).pipe hlt
      obtain ⟨ba, oa, rfl, g1, g2, hx⟩ : ∃ b o, pa = some ⟨b, o, none⟩ ∧ la ≤ b ∧ b < ha ∧ ∀ k, k < m → w.cell? ⟨b, o + k, none⟩ = some (.int .i64 (d k)) := by
        rcases HVZ.out with e | e
        · omega
        · exact e
      have ya : wr.cell? ⟨ba, oa + k, none⟩ = some (.int .i64 (d k)) := (HBB.out.cell (p := ⟨ba, oa + k, none⟩) (by show ba < w.heap.size; omega)).trans (hx k hlt)
      have HX := Lib.hid hx
      clear hx r2 r3 r4
      obtain ⟨hf0, ht0, hne⟩ := HPI.out k hlt
      obtain ⟨f, hf⟩ := Int.eq_ofNat_of_zero_le hf0.1
      obtain ⟨t, ht⟩ := Int.eq_ofNat_of_zero_le ht0.1
      rw [hf] at r0 hf0 hne
      rw [ht] at r1 ht0 hne
      have HFE := Lib.hid hf
      have HTE := Lib.hid ht
      clear hf ht
      have f0 := hf0.1
      have f1 := hf0.2
      have t0 := ht0.1
      have t1 := ht0.2
      have hfn : f < n := by omega
      have htn : t < n := by omega
      have e1 : wr.cell? ⟨w.heap.size, 1, none⟩ = some (.slice (some ⟨bp, op, none⟩) m c1) := HA.out.b1
      have yf : wr.cell? ⟨w.heap.size + 1, f, none⟩ = some (.int .i64 (dv P d k ((f : Nat) : Int))) := HG.out.row.cell f hfn
      have yz := HG.out.free f
      have hd := HFR.out k hlt
      have hb1 := dv_bd (P := P) (x := d) (z := ((f : Nat) : Int)) (k := k) (fun i hi => HFR.out i (by omega))
      have hb2 := dv_bd (P := P) (x := d) (z := ((t : Nat) : Int)) (k := k) (fun i hi => HFR.out i (by omega))
      have a1 : -4611686018427387904 ≤ dv P d k ((f : Nat) : Int) + d k ∧ dv P d k ((f : Nat) : Int) + d k ≤ 4611686018427387904 := by omega
      have a2 : -4611686018427387904 ≤ dv P d k ((t : Nat) : Int) - d k ∧ dv P d k ((t : Nat) : Int) - d k ≤ 4611686018427387904 := by omega
      clear hb1 hb2 hd hf0 ht0
      have hftN : f ≠ t := by omega
      have bne : bp ≠ w.heap.size + 1 := by omega
      have bna : ba ≠ w.heap.size + 1 := by omega
      have o1 := (Only.refl (w.heap.size + 1) wr).setCell f (.int .i64 (dv P d k ((f : Nat) : Int) + d k))
      have G1 := HG.out.put1 f (dv P d k ((f : Nat) : Int) + d k) hfn
      have wne : w.heap.size ≠ w.heap.size + 1 := by omega
      have z1 := (o1.cell (a := ⟨w.heap.size, 1, none⟩) wne).trans e1
      have z2 := (o1.cell (a := ⟨bp, op + k * 5, none⟩) bne).trans r0
      have z3 := (o1.cell (a := ⟨bp, op + k * 5 + 1, none⟩) bne).trans r1
      have z4 := (o1.cell (a := ⟨ba, oa + k, none⟩) bna).trans ya
      have Z1 := Lib.hid z1
      have Z2 := Lib.hid z2
      have Z3 := Lib.hid z3
      have Z4 := Lib.hid z4
      have H1 := Lib.hid a2
      have HR1 := Lib.hid r1
      clear z1 z2 z3 z4 a2 r1
      go_wp2_with fail
      go_still_tail 22, (by kernel_rfl)
      change wpList _ _ _ _ _ wr.drew
      go_wp2_with fail
      have ht2 : upd (fun z => dv P d k ((z : Nat) : Int)) f (dv P d k ((f : Nat) : Int) + d k) t = dv P d k ((t : Nat) : Int) := by
        unfold upd
        rw [if_neg (fun e => hftN e.symm)]
      have G1d : Own (wr.setCell ⟨w.heap.size + 1, f, none⟩ (.int .i64 (dv P d k ((f : Nat) : Int) + d k))).drew (.slice (some ⟨w.heap.size + 1, 0, none⟩) n n) n (upd (fun z => dv P d k ((z : Nat) : Int)) f (dv P d k ((f : Nat) : Int) + d k)) (w.heap.size + 1) := G1.keep rfl
      have OD := o1.below (B := w.heap.size) (by omega)
      obtain ⟨w3, hw3⟩ : ∃ w3, (wr.setCell ⟨w.heap.size + 1, f, none⟩ (.int .i64 (dv P d k ((f : Nat) : Int) + d k))).drew = w3 := ⟨_, rfl⟩
      have e1' : w3.cell? ⟨w.heap.size, 1, none⟩ = some (.slice (some ⟨bp, op, none⟩) m c1) := by rw [← hw3]; exact Z1.out
      have r1' : w3.cell? ⟨bp, op + k * 5 + 1, none⟩ = some (.int .i64 (t : Nat)) := by rw [← hw3]; exact Z3.out
      have ya' : w3.cell? ⟨ba, oa + k, none⟩ = some (.int .i64 (d k)) := by rw [← hw3]; exact Z4.out
      have yf' : w3.cell? ⟨w.heap.size + 1, t, none⟩ = some (.int .i64 (dv P d k ((t : Nat) : Int))) := by rw [← hw3, ← ht2]; exact G1d.row.cell t htn
      have oa3 : Ob w3 w.heap.size 2 (bx (.slice p0 n c0) (.slice (some ⟨bp, op, none⟩) m c1)) := by rw [← hw3]; exact (HA.out.only o1 (by omega)).keep rfl
      have b3 : Below w.heap.size w w3 := by rw [← hw3]; exact below_drw (HBB.out.trans OD)
      rw [hw3] at G1d ⊢
      clear hw3 e1 r0 ya yf yz o1 G1 Z1 Z2 Z3 Z4 HR1 OD a1 ht2
      have yz := G1d.free t
      have a2 := H1.out
      have HA3 := Lib.hid oa3
      have HB3 := Lib.hid b3
      have HG3 := Lib.hid G1d
      clear oa3 b3 G1d
      have o2 := (Only.refl (w.heap.size + 1) w3).setCell t (.int .i64 (dv P d k ((t : Nat) : Int) - d k))
      have z1 := Lib.hid ((o2.cell (a := ⟨w.heap.size, 1, none⟩) wne).trans e1')
      have z2 := Lib.hid ((o2.cell (a := ⟨bp, op + k * 5 + 1, none⟩) bne).trans r1')
      have z4 := Lib.hid ((o2.cell (a := ⟨ba, oa + k, none⟩) bna).trans ya')
      have G2 := Lib.hid (HG3.out.put1 t (dv P d k ((t : Nat) : Int) - d k) htn)
      have OA2 := Lib.hid (HA3.out.only o2 (by omega))
      have OB2 := Lib.hid (HB3.out.trans (o2.below (B := w.heap.size) (by omega)))
      clear o2
      go_still_tail 22, (by kernel_rfl)
      change wpList _ _ _ _ _ w3.drew
      go_wp2_with fail
      clear e1' r1' ya' yf' yz a2
      rw [← HQ.out]
      refine ⟨⟨_, _, _, _, _, _, _, _, _, _, _, _, _, _, _, _, _, _, _, _, _, _, _, _, _, _, _, _, _, _, _, _, _, _, _, _, _, _, _, _, _, _, _, _, _, _, _, _, _, _, _, ?rel, rfl⟩, ?measure⟩
      case rel =>
        refine ⟨k + 1, by go_num, hlt, (G2.out.congr (fun z _ => ?_)).keep rfl, OA2.out.keep rfl, below_drw OB2.out⟩
        simp only [upd]
        rw [dv, HFE.out, HTE.out]
        by_cases e : z = t
        · subst e
          rw [if_pos rfl, if_neg (show ¬ ((f : Nat) : Int) = ((z : Nat) : Int) by omega), if_pos rfl]
          omega
        · rw [if_neg e, if_neg (show ¬ ((t : Nat) : Int) = ((z : Nat) : Int) by omega)]
          by_cases e2 : z = f
          · subst e2
            rw [if_pos rfl, if_pos rfl]
            omega
          · rw [if_neg e2, if_neg (show ¬ ((f : Nat) : Int) = ((z : Nat) : Int) by omega)]
            omega
      case measure => simp [intOf]; omega
    · have hkn : m = k := by omega
      subst hkn
      have k1 : ¬ ((m : Int) < (m : Int)) := by omega
      go_wp2_with fail
      rw [← HQ.out]
      go_wp2_with fail
      go_ret
      exact ⟨_, w.heap.size + 1, rfl, HG.out, by omega, HBB.out⟩
end Go.Proofs.YtdbgcbkmcbgdiaaGreat.mem

namespace Go.Proofs.YtdbgcbkmcbgdiaaGreat.draw
open Go.RowKit
set_option linter.unusedVariables false

/-- a slice whose elements are a row at its block's start, to be read and written -/
def Fre (w : World) (v : Value) (K : Nat) (D : Nat → Int) (lo hi : Nat) : Prop := ∃ g cap, v = .slice (some ⟨g, 0, none⟩) K cap ∧ lo ≤ g ∧ g < hi ∧ mem.Row w g K D
theorem fre_own {w : World} {v : Value} {n g : Nat} {d : Nat → Int} (h : mem.Own w v n d g) : Fre w v n d g (g + 1) := by
  obtain ⟨c, rfl⟩ := h.shape
  exact ⟨g, c, rfl, Nat.le_refl _, Nat.lt_succ_self _, h.row⟩
theorem fre_ob {w : World} {b0 n cap : Nat} {d : Nat → Int} (h : mem.Ob w b0 n (mem.ia d)) : Fre w (.slice (some ⟨b0, 0, none⟩) n cap) n d b0 (b0 + 1) :=
  ⟨b0, cap, rfl, Nat.le_refl _, Nat.lt_succ_self _, fun k hk => h.cell k hk, fun k _ => h.free k⟩
theorem Fre.keep {w w' : World} {v : Value} {K lo hi : Nat} {D : Nat → Int} (h : Fre w v K D lo hi) (g : ∀ b, lo ≤ b → b < hi → w'.heap[b]? = w.heap[b]?) : Fre w' v K D lo hi := by
  obtain ⟨b, cap, e, h1, h2, h3⟩ := h
  exact ⟨b, cap, e, h1, h2, fun k hk => (World.cell?_of_block (a := ⟨b, k, none⟩) (g b h1 h2)).trans (h3.cell k hk), fun k hk => (World.frozen?_of_block (a := ⟨b, k, none⟩) (g b h1 h2)).trans (h3.free k hk)⟩
theorem Fre.mono {w : World} {v : Value} {K lo hi lo' hi' : Nat} {D : Nat → Int} (h : Fre w v K D lo hi) (h1 : lo' ≤ lo) (h2 : hi ≤ hi') : Fre w v K D lo' hi' := by
  obtain ⟨b, cap, e, g1, g2, g3⟩ := h
  exact ⟨b, cap, e, by omega, by omega, g3⟩
def NLPostW (w : World) (b : Nat) (cv : Value) (len : Nat) (e : Ending) (w' : World) : Prop :=
  ∃ (v : Value) (n m : Nat) (N : Nat → mem.Nod) (P : Nat → mem.Pip) (b1 b2 : Nat) (vl : Value) (K : Nat) (D : Nat → Int) (i s : Int), e = .returned (.tuple #[v, vl]) ∧ n ≤ 1000 ∧ m ≤ 1000 ∧ K ≤ 2000 ∧ (∀ i, i < n → (N i).s.size ≤ 9223372036854775807) ∧ mem.NetOwn w' v n N m P b1 b2 ∧ w.heap.size ≤ b1 ∧ w.heap.size ≤ b2 ∧ mem.Sl w' vl K D w.heap.size w'.heap.size ∧ Src w' b cv len i s ∧ mem.Upd (· = b) w w' ∧ (∃ lo hi, Fre w' vl K D lo hi ∧ w.heap.size ≤ lo ∧ hi ≤ w'.heap.size ∧ (n = 0 ∨ b1 < lo) ∧ (m = 0 ∨ b2 < lo))
theorem upd_bel {X : Nat → Prop} {w w1 w2 : World} (h : mem.Upd X w w1) (k : Below w.heap.size w1 w2) : mem.Upd X w w2 :=
  ⟨k.os.trans h.os, k.tape.trans h.tape, k.output.trans h.output, Nat.le_trans h.size k.size, fun x hx hn => (k.block x hx).trans (h.block x hx hn)⟩
/-- flows while they are drawn -/
structure Fl (W1 : World) (b : Nat) (cv : Value) (len : Nat) (wr : World) (v : Value) (k : Nat) : Prop where
  ex : ∃ (D : Nat → Int) (g : Nat) (i s : Int), mem.Own wr v k D g ∧ (∀ j, j < k → -30000 ≤ D j ∧ D j ≤ 30000) ∧ W1.heap.size ≤ g ∧ Src wr b cv len i s ∧ mem.Upd (· = b) W1 wr
theorem six_post {w X : World} {b len n m b1 b2 K lo hi : Nat} {cv v0 v1 vl : Value} {N : Nat → mem.Nod} {P : Nat → mem.Pip} {D : Nat → Int} {i s : Int} (hO : mem.NetOwn X (.agg #[v0, v1]) n N m P b1 b2) (hb1 : w.heap.size < b1) (hb2 : w.heap.size < b2) (hn : n ≤ 1000) (hm : m ≤ 1000) (hK : K ≤ 2000) (hnm : ∀ i, i < n → (N i).s.size ≤ 9223372036854775807)
    (hL : mem.Sl X vl K D lo hi) (hlo : w.heap.size < lo) (hhi : hi ≤ X.heap.size) (hS : Src X b cv len i s) (hU : mem.Upd (· = b) w X) (hlt : b < w.heap.size) (hF : Fre X vl K D lo hi) (hd : (n = 0 ∨ b1 < lo) ∧ (m = 0 ∨ b2 < lo)) : NLPostW w b cv len (.returned (.tuple #[.agg #[v0, v1], vl])) ((X.setCell ⟨w.heap.size, 0, none⟩ v0).setCell ⟨w.heap.size, 1, none⟩ v1) := by
  have hO2 := ((mem.Only.refl w.heap.size X).setCell 0 v0).setCell 1 v1
  exact ⟨_, n, m, N, P, b1, b2, vl, K, D, i, s, rfl, hn, hm, hK, hnm, hO.upd (mem.Upd.of_only hO2) (.inr (by omega)) (.inr (by omega)), by omega, by omega, (hL.only hO2 (.inl hlo)).mono (by omega) (Nat.le_trans hhi (Nat.le_of_eq hO2.size)), src_upd hS (hO2.block b (by omega)), upd_own hU hO2 (Nat.le_refl _), ⟨lo, hi, hF.keep (fun x hx1 hx2 => hO2.block x (by omega)), by omega, Nat.le_trans hhi (Nat.le_of_eq hO2.size), hd.1, hd.2⟩⟩
set_option maxRecDepth 100000 in
set_option maxHeartbeats 8000000 in
theorem six_anyW (w : World) (b B : Nat) (cv : Value) (len : Nat) (i s : Int) (h : Src w b cv len i s) (hc : CodeAt w cv len B) (hB' : B ≤ b) :
    Calls Tryz.prog 39 #[.pointer (some ⟨b, 0, none⟩)] w (NLPostW w b cv len) := by
  have hlt := src_lt h
  have h' := src_alloc h hlt (.cells #[.slice none 0 0, .slice none 0 0] 27)
  have HC := Lib.hid (codeAt_below hc ((Below.refl B w).alloc (by omega) (.cells #[.slice none 0 0, .slice none 0 0] 27)))
  have R1 := mem.boxed w (.slice none 0 0) (.slice none 0 0) 27
  have U0 := Lib.hid (mem.Upd.of_below (mem.below_new w (.cells #[.slice none 0 0, .slice none 0 0] 27)) (X := (· = b)))
  have hsz : w.heap.size + 1 ≤ (w.alloc (.cells #[.slice none 0 0, .slice none 0 0] 27)).heap.size := by simp
  go_enter Tryz.func39, Tryz.ntmps39
  go_wp2_with fail
  generalize hW : w.alloc (.cells #[.slice none 0 0, .slice none 0 0] 27) = Wa at *
  clear hW h hc
  have hb : b < Wa.heap.size := by omega
  refine (loops_any Wa b B cv len i s h' HC.out hB').mono ?_
  rintro e w1 ⟨v, n, m, N, P, b1, b2, i1, s1, rfl, hn, hm, hnm, hO, l1, l2, hS1, U1⟩
  obtain ⟨p0, c0, p1, c1, rfl⟩ := hO.shape
  have hTl := U1.size
  have hbt := src_lt hS1
  have x2 := mem.below_new w1 (.cells #[.slice p0 n c0, .slice p1 m c1] 27)
  have T1 := mem.boxed w1 (.slice p0 n c0) (.slice p1 m c1) 27
  have HO := Lib.hid (hO.next x2)
  have S2 := src_alloc hS1 (src_lt hS1) (.cells #[.slice p0 n c0, .slice p1 m c1] 27)
  have U2 := U1.trans (mem.Upd.of_below x2)
  clear hO hS1 U1 x2 h'
  go_wp2_with fail
  generalize hW : w1.alloc (.cells #[.slice p0 n c0, .slice p1 m c1] 27) = w2 at *
  obtain ⟨T, hTe⟩ : ∃ T, w1.heap.size = T := ⟨_, rfl⟩
  rw [hTe] at T1 hbt hTl ⊢
  clear hW hTe
  refine (next_any w2 b B cv len i1 s1 16 S2 (code_of HC.out U2 hB' hb) hB' (by omega)).mono ?_
  rintro e w3 ⟨v3, i3, s3, rfl, t3, ht3, S3, o3⟩
  have HO3 := Lib.hid (HO.out.upd (upd_of o3) (.inr (by omega)) (.inr (by omega)))
  have T3 := T1.keep (o3.block T (by omega))
  have U3 := U2.trans (upd_of o3)
  clear HO T1 U2 o3 S2
  have hltw : b < w.heap.size := by omega
  by_cases hv3 : v3 = 0
  · subst hv3
    clear HO3 l1 l2 hn hm hnm
    have hTl3 := T3.lt
    have j0 := T3.free 0
    have j1 := T3.free 1
    have q0 := T3.b0
    have q1 := T3.b1
    go_wp2_with fail
    refine (any_ok w3 b B cv len i3 s3 S3 (code_of HC.out U3 hB' hb) hB').mono ?_
    rintro e w4 ⟨v, n, m, N, P, b1, b2, i4, s4, rfl, hn, hm, hnm, hO, l1, l2, hS4, U4⟩
    obtain ⟨p0, c0, p1, c1, rfl⟩ := hO.shape
    have T4 := T3.keep (U4.block T hTl3 (by omega))
    have hU3 := U3.size
    have j0' := T4.free 0
    have j1' := T4.free 1
    have q0' := T4.b0
    have q1' := T4.b1
    have hU4 := U4.size
    have oT := ((mem.Only.refl T w4).setCell 0 (.slice p0 n c0)).setCell 1 (.slice p1 m c1)
    have HOx := Lib.hid (hO.upd (mem.Upd.of_only oT) (.inr (by omega)) (.inr (by omega)))
    have Tx := Lib.hid ((T4.set 0 (.slice p0 n c0) (by omega)).set 1 (.slice p1 m c1) (by omega))
    have Sx := src_upd hS4 (oT.block b (by omega))
    have Ux := upd_own (U3.trans U4) oT (by omega)
    have hzx := oT.size
    clear T3 j0 j1 q0 q1 T4 hO hS4 U4 oT U3 S3
    go_upto_region 4 with (fail)
    clear j0' j1' q0' q1'
    obtain ⟨w3, hw3⟩ : ∃ wx, (w4.setCell ⟨T, 0, none⟩ (.slice p0 n c0)).setCell ⟨T, 1, none⟩ (.slice p1 m c1) = wx := ⟨_, rfl⟩
    rw [hw3] at HOx Tx Sx Ux hzx ⊢
    clear hw3
    have HO3 := HOx
    have S3 := Sx
    have U3 := Ux
    clear HOx Sx Ux
    have T3 := Tx.out.congr (e := mem.bx (.slice p0 n c0) (.slice p1 m c1)) (by intro j hj; rcases (by omega : j = 0 ∨ j = 1) with rfl | rfl <;> rfl)
    have q0 := T3.b0
    have q1 := T3.b1
    clear Tx
    go_wp2_with fail
    clear q0 q1
    refine (mem.sIsNetwork_any w3 _ n N m P 0 w3.heap.size HO3.out.net (Nat.le_refl _) hnm).mono ?_
    rintro e w5 ⟨rfl, x5⟩
    have z5 := x5.size
    have HO5 := Lib.hid (HO3.out.next x5)
    have T5 := T3.next x5
    have hTl5 := T5.lt
    have S5 := src_upd S3 (x5.block b (src_lt S3))
    have U5 := U3.trans (mem.Upd.of_below x5)
    clear HO3 T3 S3 U3 x5
    cases hB : mem.netB n N m P
    · have L6 := mem.Ob.new w5 #[.int .i64 1, .int .i64 (-1)] 2 2 (mem.ia (fun k => if k = 0 then 1 else -1)) rfl (by intro j hj; rcases (by omega : j = 0 ∨ j = 1) with rfl | rfl <;> rfl)
      have x6 := mem.below_new w5 (.cells #[.int .i64 1, .int .i64 (-1)] 2)
      have z6 := x6.size
      have S6 := src_upd S5 (x6.block b (src_lt S5))
      have U6 := U5.trans (mem.Upd.of_below x6)
      have HF := Lib.hid (six_post (w := w) (HO5.out.next x6) (by omega) (by omega) hn hm (by omega) hnm (L6.sl 2 2 (Nat.le_refl _)) (by omega) (by have := L6.lt; omega) S6 (U0.out.trans U6) hltw (fre_ob L6) (by have := HO5.out.lts; omega))
      have q0 := T5.b0
      have q1 := T5.b1
      clear HO5 T5 S5 U5 L6 x6
      have R7 := R1.keep (U6.block w.heap.size (by omega) (by omega))
      have f0 := R7.b0
      have f1 := R7.b1
      have k0 := R7.free 0
      have k1 := R7.free 1
      clear R7 U6 S6
      go_wp2_with fail
      exact bodyPost_ret (v := .tuple #[.agg #[.slice p0 n c0, .slice p1 m c1], .slice (some ⟨w5.heap.size, 0, none⟩) 2 2]) (by simp [results, Tryz.results39, go_sem, f0, f1]) rfl HF.out
    · have HB := Lib.hid hB
      obtain ⟨hn1, hn24, hm40⟩ := mem.net_sz hB
      have F0 := mem.Own.nilled w5 (fun _ => 0)
      have x6 := mem.below_new w5 (.cells #[] 2)
      have D0 : Fl w5 b cv len (w5.alloc (.cells #[] 2)) (.slice (some ⟨w5.heap.size, 0, none⟩) 0 0) 0 := ⟨fun _ => 0, w5.heap.size, _, _, F0, fun j hj => by omega, Nat.le_refl _, src_upd S5 (x6.block b (src_lt S5)), mem.Upd.of_below x6⟩
      have HC5 := Lib.hid (code_of HC.out U5 hB' hb)
      have lts := HO5.out.lts
      have hb5 := src_lt S5
      have q1 := T5.b1
      clear F0 x6 hB
      go_wp2_with fail
      generalize hW : w5.alloc (.cells #[] 2) = w6 at *
      generalize hv : Value.slice (some ⟨w5.heap.size, 0, none⟩) 0 0 = vl0 at *
      clear hW hv q1
      go_loopw [5, 6] (fun ov iv wr => ∃ (k : Nat) (ov' : Value), ov' = ov ∧ iv = .int .i64 k ∧ k ≤ m ∧ Fl w5 b cv len wr ov' k) (fun _ iv _ => m - (intOf iv).toNat)
      case atStart => exact ⟨0, _, rfl, rfl, Nat.zero_le _, D0⟩
      case round =>
        obtain ⟨k, ov, rfl, rfl, hk, DF⟩ := hrel
        clear D0
        obtain ⟨D, g, i6, s6, hD, hDb, hg, hS6, hU6⟩ := DF.ex
        clear DF
        have T6 := T5.keep (hU6.block T hTl5 (by omega))
        have q0 := T6.b0
        have q1 := T6.b1
        have k0' : (0 : Int) ≤ (k : Int) := Int.natCast_nonneg _
        by_cases hlt : k < m
        · have k1' : (k : Int) < (m : Int) := by omega
          clear q0
          go_wp2_with fail
          refine (next_any wr b B cv len i6 s6 40 hS6 (code_of HC5.out hU6 hB' hb5) hB' (by omega)).mono ?_
          rintro e w7 ⟨v7, i7, s7, rfl, t7, ht7, hS7, o7⟩
          obtain ⟨co, rfl⟩ := hD.shape
          have lg0 := hD.lt
          have hgb : g ≠ b := by omega
          have hD7 := hD.keep (o7.block g hgb)
          have hU7 := hU6.trans (upd_of o7)
          have hb1 : -4611686018427387904 ≤ v7 - 15 ∧ v7 - 15 ≤ 4611686018427387904 := by omega
          have lg := hD7.lt
          obtain ⟨v8, w8, g8, hr, ap⟩ := mem.app_run (w7.alloc (.cells #[.int .i64 (v7 - 15)] 2)) _ k _ g (v7 - 15) w7.heap.size (hD7.alloc _) (mem.cell_new1 w7 _) (by omega)
          have bl := ap.below (B := w5.heap.size) (by omega) (by rw [mem.szal]; omega)
          have xb : Below w5.heap.size w7 w8 := ((mem.below_new w7 _).mono hU7.size).trans bl.1
          have DF8 : Fl w5 b cv len w8 v8 (k + 1) := ⟨_, g8, i7, s7, ap.own, fun j hj => by
            unfold mem.upd
            split
            · omega
            · exact hDb j (by omega), bl.2, src_upd hS7 (xb.block b hb5), upd_bel hU7 xb⟩
          clear hD hDb hS6 hU6 hS7 o7 hD7 hU7 ap bl xb T6 q1 T5 S5 U5 HO5
          go_wp2_with (at_builtin; refine mem.wpList_app hr rfl _ _ rfl rfl rfl rfl ?_)
          clear hr
          go_roundw
          case rel => exact ⟨k + 1, _, rfl, by go_num, hlt, DF8⟩
          case measure => simp [intOf]; omega
        · obtain rfl : m = k := by omega
          have k1' : ¬ ((m : Int) < (m : Int)) := by omega
          have HO6 := Lib.hid (HO5.out.upd hU6 (.inr (by omega)) (.inr (by omega)))
          have lg := hD.lt
          have HD := Lib.hid hD.sl
          have HDB := Lib.hid (mem.flB_iff.2 (fun j hj => mem.flQ_iff.2 (hDb j hj)))
          have HDb := Lib.hid hDb
          have hzr := hU6.size
          obtain ⟨co, rfl⟩ := hD.shape
          clear hD hDb T5 S5 HO5
          go_wp2_with fail
          refine (mem.l05OutW_any wr _ n N m P 0 wr.heap.size HO6.out.net (Nat.le_refl _) hnm HB.out _ D g (g + 1) HD.out (by omega) HDB.out).mono ?_
          rintro e w8 ⟨v8, g8, rfl, hV8, lg8, x8⟩
          obtain ⟨c8, rfl⟩ := hV8.shape
          have hz8 := x8.size
          have HO8 := Lib.hid (HO6.out.next x8)
          have HD8 := Lib.hid (show (n = 0 ∨ b1 < g8) ∧ (m = 0 ∨ b2 < g8) from by have := HO6.out.lts; omega)
          have T8 := T6.next x8
          have S8 := src_upd hS6 (x8.block b (src_lt hS6))
          have U8 := U5.trans (hU6.trans (mem.Upd.of_below x8))
          have hC8 := code_of HC.out U8 hB' hb
          clear T6 q0 q1 hS6 hU6 U5 HO6 HD HDB HC5 x8
          go_wp2_with fail
          refine (next_any w8 b B cv len i6 s6 n S8 hC8 hB' (by omega)).mono ?_
          rintro e w9 ⟨v9, i9, s9, rfl, t9, ht9, S9, o9⟩
          have hV9 := hV8.keep (o9.block g8 (by omega))
          have HO9 := Lib.hid (HO8.out.upd (upd_of o9) (.inr (by omega)) (.inr (by omega)))
          have T9 := T8.keep (o9.block T (by omega))
          have U9 := U8.trans (upd_of o9)
          have hC9 := code_of HC.out U9 hB' hb
          have hz9 := o9.size
          obtain ⟨J, rfl⟩ := Int.eq_ofNat_of_zero_le t9
          have hJ : J < n := by omega
          clear hC8 hV8 HO8 T8 U8 S8 o9 t9 ht9
          go_wp2_with fail
          refine (next_any w9 b B cv len i9 s9 24 S9 hC9 hB' (by omega)).mono ?_
          rintro e wa ⟨va, ia, sa, rfl, ta, hta, Sa, oa⟩
          have hVa := hV9.keep (oa.block g8 (by omega))
          have HOa := Lib.hid (HO9.out.upd (upd_of oa) (.inr (by omega)) (.inr (by omega)))
          have Ta := T9.keep (oa.block T (by omega))
          have Ua := U9.trans (upd_of oa)
          have hza := oa.size
          have lga := hVa.lt
          clear hC9 hV9 HO9 T9 U9 S9 oa
          have bd := mem.dv_bd2 (P := P) (x := D) (z := ((J : Nat) : Int)) (k := m) (fun i hi => HDb.out i (by omega))
          rcases (by omega : va = 0 ∨ va = 1 ∨ va = 2 ∨ (va ≠ 0 ∧ va ≠ 1 ∧ va ≠ 2)) with rfl | rfl | rfl | hva
          · have yf : wa.cell? ⟨g8, J, none⟩ = some (.int .i64 (mem.dv P D m ((J : Nat) : Int))) := hVa.row.cell J hJ
            have yz := hVa.free J
            have bd2 : -4611686018427387904 ≤ mem.dv P D m ((J : Nat) : Int) + 1 ∧ mem.dv P D m ((J : Nat) : Int) + 1 ≤ 4611686018427387904 := by omega
            have oX := (mem.Only.refl g8 wa).setCell J (.int .i64 (mem.dv P D m ((J : Nat) : Int) + 1))
            have hVx := hVa.put1 J (mem.dv P D m ((J : Nat) : Int) + 1) hJ
            have HOx := Lib.hid (HOa.out.upd (mem.Upd.of_only oX) (lts.1.imp_right fun h => by show ¬ (b1 = g8); omega) (lts.2.imp_right fun h => by show ¬ (b2 = g8); omega))
            clear bd
            go_upto_region 20 with (fail)
            obtain ⟨wx, hwx⟩ : ∃ wx, wa.setCell ⟨g8, J, none⟩ (.int .i64 (mem.dv P D m ((J : Nat) : Int) + 1)) = wx := ⟨_, rfl⟩
            rw [hwx] at oX hVx HOx ⊢
            clear hwx
            have Tx := Ta.keep (oX.block T (by omega))
            have Ux := upd_own Ua oX (by omega)
            have Sx := src_upd Sa (oX.block b (by omega))
            have HF := Lib.hid (six_post (w := w) HOx.out (by omega) (by omega) hn hm (show n ≤ 2000 by omega) hnm hVx.sl (by omega) (by have := hVx.lt; omega) Sx (U0.out.trans Ux) hltw (fre_own hVx) HD8.out)
            have q0 := Tx.b0
            have q1 := Tx.b1
            have R7 := R1.keep (Ux.block w.heap.size (by omega) (by omega))
            have f0 := R7.b0
            have f1 := R7.b1
            have k0 := R7.free 0
            have k1 := R7.free 1
            clear R7 Ux Sx Tx
            go_wp2_with fail
            exact bodyPost_ret (v := .tuple #[.agg #[.slice p0 n c0, .slice p1 m c1], .slice (some ⟨g8, 0, none⟩) n c8]) (by simp [results, Tryz.results39, go_sem, f0, f1]) rfl HF.out
          · have bA := mem.below_new wa (Obj.cells #[.int .i64 30000, .int .i64 30001] 2)
            have tA := tabI wa 2 #[.int .i64 30000, .int .i64 30001] (by
              intro j hj
              rcases (by simp at hj; omega : j = 0 ∨ j = 1) with rfl | rfl
              all_goals exact ⟨_, rfl⟩)
            have SA := src_alloc Sa (src_lt Sa) (Obj.cells #[.int .i64 30000, .int .i64 30001] 2)
            have UA := Ua.trans (mem.Upd.of_below bA)
            have CA := code_of HC.out UA hB' hb
            have HVA := Lib.hid (hVa.alloc (Obj.cells #[.int .i64 30000, .int .i64 30001] 2))
            have HOA := Lib.hid (HOa.out.next bA)
            have HTA := Lib.hid (Ta.next bA)
            have hzA : (wa.alloc (Obj.cells #[.int .i64 30000, .int .i64 30001] 2)).heap.size = wa.heap.size + 1 := by simp
            have lba := src_lt Sa
            have yzA := hVa.free J
            have lga2 : J < n := hJ
            clear bd bA Sa Ua Ta HOa hVa
            go_wp2_with fail
            refine (next_any _ b B cv len ia sa 2 SA CA hB' (by omega)).mono ?_
            rintro e wc ⟨vc, ic, sc, rfl, tc, htc, Sc, oc⟩
            have hzc := oc.size
            have HVc := Lib.hid (HVA.out.keep (oc.block g8 (by omega)))
            have HOc := Lib.hid (HOA.out.upd (upd_of oc) (.inr (by omega)) (.inr (by omega)))
            have HTc := Lib.hid (HTA.out.keep (oc.block T (by omega)))
            have Uc := UA.trans (upd_of oc)
            obtain ⟨x, rfl⟩ := Int.eq_ofNat_of_zero_le tc
            have hx : x < 2 := by omega
            have hx2 : (x : Int) < 2 := by omega
            obtain ⟨y, hy⟩ := tA x hx
            have hyc : wc.cell? ⟨wa.heap.size, x, none⟩ = some (.int .i64 y) := by
              have e := oc.block wa.heap.size (by omega)
              simp only [World.cell?] at hy ⊢
              rw [e]
              exact hy
            have yf := HVc.out.row.cell J hJ
            have yz := HVc.out.free J
            have oX := (mem.Only.refl g8 wc).setCell J (.int .i64 y)
            have hVx := HVc.out.put1 J y hJ
            have HOx := Lib.hid (HOc.out.upd (mem.Upd.of_only oX) (lts.1.imp_right fun h => by show ¬ (b1 = g8); omega) (lts.2.imp_right fun h => by show ¬ (b2 = g8); omega))
            clear tA SA CA UA HVA HOA HTA hy oc htc yzA HVc HOc
            go_upto_region 20 with (fail)
            obtain ⟨wx, hwx⟩ : ∃ wx, wc.setCell ⟨g8, J, none⟩ (.int .i64 y) = wx := ⟨_, rfl⟩
            rw [hwx] at oX hVx HOx ⊢
            clear hwx
            have Tx := HTc.out.keep (oX.block T (by omega))
            have Ux := upd_own Uc oX (by omega)
            have Sx := src_upd Sc (oX.block b (by omega))
            have HF := Lib.hid (six_post (w := w) HOx.out (by omega) (by omega) hn hm (show n ≤ 2000 by omega) hnm hVx.sl (by omega) (by have := hVx.lt; omega) Sx (U0.out.trans Ux) hltw (fre_own hVx) HD8.out)
            have q0 := Tx.b0
            have q1 := Tx.b1
            have R7 := R1.keep (Ux.block w.heap.size (by omega) (by omega))
            have f0 := R7.b0
            have f1 := R7.b1
            have k0 := R7.free 0
            have k1 := R7.free 1
            clear R7 Ux Sx Tx
            go_wp2_with fail
            exact bodyPost_ret (v := .tuple #[.agg #[.slice p0 n c0, .slice p1 m c1], .slice (some ⟨g8, 0, none⟩) n c8]) (by simp [results, Tryz.results39, go_sem, f0, f1]) rfl HF.out
          · have hbz : g8 < wa.heap.size := lga
            obtain ⟨vb, wb, gb, hr, ap⟩ := mem.app_run (wa.alloc (.cells #[.int .i64 0] 2)) _ n _ g8 0 wa.heap.size (hVa.alloc _) (mem.cell_new1 wa _) (by omega)
            have bl := ap.below (B := w5.heap.size) (by omega) (by rw [mem.szal]; omega)
            have xb : Below w5.heap.size wa wb := ((mem.below_new wa _).mono (by omega)).trans bl.1
            clear bd
            go_upto_region 20 with (at_builtin; refine mem.wpList_app hr rfl _ _ rfl rfl rfl rfl ?_)
            have Xb : mem.Upd (fun x => w5.heap.size ≤ x) wa wb := ⟨xb.os, xb.tape, xb.output, xb.size, fun x _ hn => xb.block x (by omega)⟩
            have HOx := Lib.hid (HOa.out.upd Xb (lts.1.imp_right fun h => by show ¬ (w5.heap.size ≤ b1); omega) (lts.2.imp_right fun h => by show ¬ (w5.heap.size ≤ b2); omega))
            have Tx := Ta.keep (xb.block T hTl5)
            have Ux := upd_bel Ua (xb.mono (by omega))
            have Sx := src_upd Sa (xb.block b hb5)
            have hlb := bl.2
            clear hr
            have HF := Lib.hid (six_post (w := w) HOx.out (by omega) (by omega) hn hm (show n + 1 ≤ 2000 by omega) hnm ap.own.sl (by omega) (by have := ap.own.lt; omega) Sx (U0.out.trans Ux) hltw (fre_own ap.own) (by have h8 := HD8.out; have h9 := (ap.below (B := g8) (Nat.le_refl _) (by rw [mem.szal]; omega)).2; omega))
            have q0 := Tx.b0
            have q1 := Tx.b1
            have R7 := R1.keep (Ux.block w.heap.size (by omega) (by omega))
            have f0 := R7.b0
            have f1 := R7.b1
            have k0 := R7.free 0
            have k1 := R7.free 1
            clear R7 Ux Sx Tx
            go_wp2_with fail
            exact bodyPost_ret (v := .tuple #[.agg #[.slice p0 n c0, .slice p1 m c1], vb]) (by simp [results, Tryz.results39, go_sem, f0, f1]) rfl HF.out
          · obtain ⟨hv0, hv1, hv2⟩ := hva
            have hv0' : (va == 0) = false := by simpa using hv0
            have hv1' : (va == 1) = false := by simpa using hv1
            have hv2' : (va == 2) = false := by simpa using hv2
            clear hv0 hv1 hv2 bd
            go_upto_region 20 with (fail)
            have HF := Lib.hid (six_post (w := w) HOa.out (by omega) (by omega) hn hm (show n ≤ 2000 by omega) hnm hVa.sl (by omega) (by omega) Sa (U0.out.trans Ua) hltw (fre_own hVa) HD8.out)
            have q0 := Ta.b0
            have q1 := Ta.b1
            have R7 := R1.keep (Ua.block w.heap.size (by omega) (by omega))
            have f0 := R7.b0
            have f1 := R7.b1
            have k0 := R7.free 0
            have k1 := R7.free 1
            clear R7 Ua Sa Ta
            go_wp2_with fail
            exact bodyPost_ret (v := .tuple #[.agg #[.slice p0 n c0, .slice p1 m c1], .slice (some ⟨g8, 0, none⟩) n c8]) (by simp [results, Tryz.results39, go_sem, f0, f1]) rfl HF.out
  · have hv3' : (v3 == 0) = false := by simpa using hv3
    have q0 := T3.b0
    have q1 := T3.b1
    clear hv3
    go_wp2_with fail
    clear q0 q1
    refine (mem.sIsNetwork_any w3 _ n N m P 0 w3.heap.size HO3.out.net (Nat.le_refl _) hnm).mono ?_
    rintro e w5 ⟨rfl, x5⟩
    have z5 := x5.size
    have HO5 := Lib.hid (HO3.out.next x5)
    have T5 := T3.next x5
    have hTl5 := T5.lt
    have S5 := src_upd S3 (x5.block b (src_lt S3))
    have U5 := U3.trans (mem.Upd.of_below x5)
    clear HO3 T3 S3 U3 x5
    cases hB : mem.netB n N m P
    · have L6 := mem.Ob.new w5 #[.int .i64 1, .int .i64 (-1)] 2 2 (mem.ia (fun k => if k = 0 then 1 else -1)) rfl (by intro j hj; rcases (by omega : j = 0 ∨ j = 1) with rfl | rfl <;> rfl)
      have x6 := mem.below_new w5 (.cells #[.int .i64 1, .int .i64 (-1)] 2)
      have z6 := x6.size
      have S6 := src_upd S5 (x6.block b (src_lt S5))
      have U6 := U5.trans (mem.Upd.of_below x6)
      have HF := Lib.hid (six_post (w := w) (HO5.out.next x6) (by omega) (by omega) hn hm (by omega) hnm (L6.sl 2 2 (Nat.le_refl _)) (by omega) (by have := L6.lt; omega) S6 (U0.out.trans U6) hltw (fre_ob L6) (by have := HO5.out.lts; omega))
      have q0 := T5.b0
      have q1 := T5.b1
      clear HO5 T5 S5 U5 L6 x6
      have R7 := R1.keep (U6.block w.heap.size (by omega) (by omega))
      have f0 := R7.b0
      have f1 := R7.b1
      have k0 := R7.free 0
      have k1 := R7.free 1
      clear R7 U6 S6
      go_wp2_with fail
      exact bodyPost_ret (v := .tuple #[.agg #[.slice p0 n c0, .slice p1 m c1], .slice (some ⟨w5.heap.size, 0, none⟩) 2 2]) (by simp [results, Tryz.results39, go_sem, f0, f1]) rfl HF.out
    · have HB := Lib.hid hB
      obtain ⟨hn1, hn24, hm40⟩ := mem.net_sz hB
      have F0 := mem.Own.nilled w5 (fun _ => 0)
      have x6 := mem.below_new w5 (.cells #[] 2)
      have D0 : Fl w5 b cv len (w5.alloc (.cells #[] 2)) (.slice (some ⟨w5.heap.size, 0, none⟩) 0 0) 0 := ⟨fun _ => 0, w5.heap.size, _, _, F0, fun j hj => by omega, Nat.le_refl _, src_upd S5 (x6.block b (src_lt S5)), mem.Upd.of_below x6⟩
      have HC5 := Lib.hid (code_of HC.out U5 hB' hb)
      have lts := HO5.out.lts
      have hb5 := src_lt S5
      have q1 := T5.b1
      clear F0 x6 hB
      go_wp2_with fail
      generalize hW : w5.alloc (.cells #[] 2) = w6 at *
      generalize hv : Value.slice (some ⟨w5.heap.size, 0, none⟩) 0 0 = vl0 at *
      clear hW hv q1
      go_loopw [5, 6] (fun ov iv wr => ∃ (k : Nat) (ov' : Value), ov' = ov ∧ iv = .int .i64 k ∧ k ≤ m ∧ Fl w5 b cv len wr ov' k) (fun _ iv _ => m - (intOf iv).toNat)
      case atStart => exact ⟨0, _, rfl, rfl, Nat.zero_le _, D0⟩
      case round =>
        obtain ⟨k, ov, rfl, rfl, hk, DF⟩ := hrel
        clear D0
        obtain ⟨D, g, i6, s6, hD, hDb, hg, hS6, hU6⟩ := DF.ex
        clear DF
        have T6 := T5.keep (hU6.block T hTl5 (by omega))
        have q0 := T6.b0
        have q1 := T6.b1
        have k0' : (0 : Int) ≤ (k : Int) := Int.natCast_nonneg _
        by_cases hlt : k < m
        · have k1' : (k : Int) < (m : Int) := by omega
          clear q0
          go_wp2_with fail
          refine (next_any wr b B cv len i6 s6 40 hS6 (code_of HC5.out hU6 hB' hb5) hB' (by omega)).mono ?_
          rintro e w7 ⟨v7, i7, s7, rfl, t7, ht7, hS7, o7⟩
          obtain ⟨co, rfl⟩ := hD.shape
          have lg0 := hD.lt
          have hgb : g ≠ b := by omega
          have hD7 := hD.keep (o7.block g hgb)
          have hU7 := hU6.trans (upd_of o7)
          have hb1 : -4611686018427387904 ≤ v7 - 15 ∧ v7 - 15 ≤ 4611686018427387904 := by omega
          have lg := hD7.lt
          obtain ⟨v8, w8, g8, hr, ap⟩ := mem.app_run (w7.alloc (.cells #[.int .i64 (v7 - 15)] 2)) _ k _ g (v7 - 15) w7.heap.size (hD7.alloc _) (mem.cell_new1 w7 _) (by omega)
          have bl := ap.below (B := w5.heap.size) (by omega) (by rw [mem.szal]; omega)
          have xb : Below w5.heap.size w7 w8 := ((mem.below_new w7 _).mono hU7.size).trans bl.1
          have DF8 : Fl w5 b cv len w8 v8 (k + 1) := ⟨_, g8, i7, s7, ap.own, fun j hj => by
            unfold mem.upd
            split
            · omega
            · exact hDb j (by omega), bl.2, src_upd hS7 (xb.block b hb5), upd_bel hU7 xb⟩
          clear hD hDb hS6 hU6 hS7 o7 hD7 hU7 ap bl xb T6 q1 T5 S5 U5 HO5
          go_wp2_with (at_builtin; refine mem.wpList_app hr rfl _ _ rfl rfl rfl rfl ?_)
          clear hr
          go_roundw
          case rel => exact ⟨k + 1, _, rfl, by go_num, hlt, DF8⟩
          case measure => simp [intOf]; omega
        · obtain rfl : m = k := by omega
          have k1' : ¬ ((m : Int) < (m : Int)) := by omega
          have HO6 := Lib.hid (HO5.out.upd hU6 (.inr (by omega)) (.inr (by omega)))
          have lg := hD.lt
          have HD := Lib.hid hD.sl
          have HDB := Lib.hid (mem.flB_iff.2 (fun j hj => mem.flQ_iff.2 (hDb j hj)))
          have HDb := Lib.hid hDb
          have hzr := hU6.size
          obtain ⟨co, rfl⟩ := hD.shape
          clear hD hDb T5 S5 HO5
          go_wp2_with fail
          refine (mem.l05OutW_any wr _ n N m P 0 wr.heap.size HO6.out.net (Nat.le_refl _) hnm HB.out _ D g (g + 1) HD.out (by omega) HDB.out).mono ?_
          rintro e w8 ⟨v8, g8, rfl, hV8, lg8, x8⟩
          obtain ⟨c8, rfl⟩ := hV8.shape
          have hz8 := x8.size
          have HO8 := Lib.hid (HO6.out.next x8)
          have HD8 := Lib.hid (show (n = 0 ∨ b1 < g8) ∧ (m = 0 ∨ b2 < g8) from by have := HO6.out.lts; omega)
          have T8 := T6.next x8
          have S8 := src_upd hS6 (x8.block b (src_lt hS6))
          have U8 := U5.trans (hU6.trans (mem.Upd.of_below x8))
          have hC8 := code_of HC.out U8 hB' hb
          clear T6 q0 q1 hS6 hU6 U5 HO6 HD HDB HC5 x8
          go_wp2_with fail
          refine (next_any w8 b B cv len i6 s6 n S8 hC8 hB' (by omega)).mono ?_
          rintro e w9 ⟨v9, i9, s9, rfl, t9, ht9, S9, o9⟩
          have hV9 := hV8.keep (o9.block g8 (by omega))
          have HO9 := Lib.hid (HO8.out.upd (upd_of o9) (.inr (by omega)) (.inr (by omega)))
          have T9 := T8.keep (o9.block T (by omega))
          have U9 := U8.trans (upd_of o9)
          have hC9 := code_of HC.out U9 hB' hb
          have hz9 := o9.size
          obtain ⟨J, rfl⟩ := Int.eq_ofNat_of_zero_le t9
          have hJ : J < n := by omega
          clear hC8 hV8 HO8 T8 U8 S8 o9 t9 ht9
          go_wp2_with fail
          refine (next_any w9 b B cv len i9 s9 24 S9 hC9 hB' (by omega)).mono ?_
          rintro e wa ⟨va, ia, sa, rfl, ta, hta, Sa, oa⟩
          have hVa := hV9.keep (oa.block g8 (by omega))
          have HOa := Lib.hid (HO9.out.upd (upd_of oa) (.inr (by omega)) (.inr (by omega)))
          have Ta := T9.keep (oa.block T (by omega))
          have Ua := U9.trans (upd_of oa)
          have hza := oa.size
          have lga := hVa.lt
          clear hC9 hV9 HO9 T9 U9 S9 oa
          have bd := mem.dv_bd2 (P := P) (x := D) (z := ((J : Nat) : Int)) (k := m) (fun i hi => HDb.out i (by omega))
          rcases (by omega : va = 0 ∨ va = 1 ∨ va = 2 ∨ (va ≠ 0 ∧ va ≠ 1 ∧ va ≠ 2)) with rfl | rfl | rfl | hva
          · have yf : wa.cell? ⟨g8, J, none⟩ = some (.int .i64 (mem.dv P D m ((J : Nat) : Int))) := hVa.row.cell J hJ
            have yz := hVa.free J
            have bd2 : -4611686018427387904 ≤ mem.dv P D m ((J : Nat) : Int) + 1 ∧ mem.dv P D m ((J : Nat) : Int) + 1 ≤ 4611686018427387904 := by omega
            have oX := (mem.Only.refl g8 wa).setCell J (.int .i64 (mem.dv P D m ((J : Nat) : Int) + 1))
            have hVx := hVa.put1 J (mem.dv P D m ((J : Nat) : Int) + 1) hJ
            have HOx := Lib.hid (HOa.out.upd (mem.Upd.of_only oX) (lts.1.imp_right fun h => by show ¬ (b1 = g8); omega) (lts.2.imp_right fun h => by show ¬ (b2 = g8); omega))
            clear bd
            go_upto_region 20 with (fail)
            obtain ⟨wx, hwx⟩ : ∃ wx, wa.setCell ⟨g8, J, none⟩ (.int .i64 (mem.dv P D m ((J : Nat) : Int) + 1)) = wx := ⟨_, rfl⟩
            rw [hwx] at oX hVx HOx ⊢
            clear hwx
            have Tx := Ta.keep (oX.block T (by omega))
            have Ux := upd_own Ua oX (by omega)
            have Sx := src_upd Sa (oX.block b (by omega))
            have HF := Lib.hid (six_post (w := w) HOx.out (by omega) (by omega) hn hm (show n ≤ 2000 by omega) hnm hVx.sl (by omega) (by have := hVx.lt; omega) Sx (U0.out.trans Ux) hltw (fre_own hVx) HD8.out)
            have q0 := Tx.b0
            have q1 := Tx.b1
            have R7 := R1.keep (Ux.block w.heap.size (by omega) (by omega))
            have f0 := R7.b0
            have f1 := R7.b1
            have k0 := R7.free 0
            have k1 := R7.free 1
            clear R7 Ux Sx Tx
            go_wp2_with fail
            exact bodyPost_ret (v := .tuple #[.agg #[.slice p0 n c0, .slice p1 m c1], .slice (some ⟨g8, 0, none⟩) n c8]) (by simp [results, Tryz.results39, go_sem, f0, f1]) rfl HF.out
          · have bA := mem.below_new wa (Obj.cells #[.int .i64 30000, .int .i64 30001] 2)
            have tA := tabI wa 2 #[.int .i64 30000, .int .i64 30001] (by
              intro j hj
              rcases (by simp at hj; omega : j = 0 ∨ j = 1) with rfl | rfl
              all_goals exact ⟨_, rfl⟩)
            have SA := src_alloc Sa (src_lt Sa) (Obj.cells #[.int .i64 30000, .int .i64 30001] 2)
            have UA := Ua.trans (mem.Upd.of_below bA)
            have CA := code_of HC.out UA hB' hb
            have HVA := Lib.hid (hVa.alloc (Obj.cells #[.int .i64 30000, .int .i64 30001] 2))
            have HOA := Lib.hid (HOa.out.next bA)
            have HTA := Lib.hid (Ta.next bA)
            have hzA : (wa.alloc (Obj.cells #[.int .i64 30000, .int .i64 30001] 2)).heap.size = wa.heap.size + 1 := by simp
            have lba := src_lt Sa
            have yzA := hVa.free J
            have lga2 : J < n := hJ
            clear bd bA Sa Ua Ta HOa hVa
            go_wp2_with fail
            refine (next_any _ b B cv len ia sa 2 SA CA hB' (by omega)).mono ?_
            rintro e wc ⟨vc, ic, sc, rfl, tc, htc, Sc, oc⟩
            have hzc := oc.size
            have HVc := Lib.hid (HVA.out.keep (oc.block g8 (by omega)))
            have HOc := Lib.hid (HOA.out.upd (upd_of oc) (.inr (by omega)) (.inr (by omega)))
            have HTc := Lib.hid (HTA.out.keep (oc.block T (by omega)))
            have Uc := UA.trans (upd_of oc)
            obtain ⟨x, rfl⟩ := Int.eq_ofNat_of_zero_le tc
            have hx : x < 2 := by omega
            have hx2 : (x : Int) < 2 := by omega
            obtain ⟨y, hy⟩ := tA x hx
            have hyc : wc.cell? ⟨wa.heap.size, x, none⟩ = some (.int .i64 y) := by
              have e := oc.block wa.heap.size (by omega)
              simp only [World.cell?] at hy ⊢
              rw [e]
              exact hy
            have yf := HVc.out.row.cell J hJ
            have yz := HVc.out.free J
            have oX := (mem.Only.refl g8 wc).setCell J (.int .i64 y)
            have hVx := HVc.out.put1 J y hJ
            have HOx := Lib.hid (HOc.out.upd (mem.Upd.of_only oX) (lts.1.imp_right fun h => by show ¬ (b1 = g8); omega) (lts.2.imp_right fun h => by show ¬ (b2 = g8); omega))
            clear tA SA CA UA HVA HOA HTA hy oc htc yzA HVc HOc
            go_upto_region 20 with (fail)
            obtain ⟨wx, hwx⟩ : ∃ wx, wc.setCell ⟨g8, J, none⟩ (.int .i64 y) = wx := ⟨_, rfl⟩
            rw [hwx] at oX hVx HOx ⊢
            clear hwx
            have Tx := HTc.out.keep (oX.block T (by omega))
            have Ux := upd_own Uc oX (by omega)
            have Sx := src_upd Sc (oX.block b (by omega))
            have HF := Lib.hid (six_post (w := w) HOx.out (by omega) (by omega) hn hm (show n ≤ 2000 by omega) hnm hVx.sl (by omega) (by have := hVx.lt; omega) Sx (U0.out.trans Ux) hltw (fre_own hVx) HD8.out)
            have q0 := Tx.b0
            have q1 := Tx.b1
            have R7 := R1.keep (Ux.block w.heap.size (by omega) (by omega))
            have f0 := R7.b0
            have f1 := R7.b1
            have k0 := R7.free 0
            have k1 := R7.free 1
            clear R7 Ux Sx Tx
            go_wp2_with fail
            exact bodyPost_ret (v := .tuple #[.agg #[.slice p0 n c0, .slice p1 m c1], .slice (some ⟨g8, 0, none⟩) n c8]) (by simp [results, Tryz.results39, go_sem, f0, f1]) rfl HF.out
          · have hbz : g8 < wa.heap.size := lga
            obtain ⟨vb, wb, gb, hr, ap⟩ := mem.app_run (wa.alloc (.cells #[.int .i64 0] 2)) _ n _ g8 0 wa.heap.size (hVa.alloc _) (mem.cell_new1 wa _) (by omega)
            have bl := ap.below (B := w5.heap.size) (by omega) (by rw [mem.szal]; omega)
            have xb : Below w5.heap.size wa wb := ((mem.below_new wa _).mono (by omega)).trans bl.1
            clear bd
            go_upto_region 20 with (at_builtin; refine mem.wpList_app hr rfl _ _ rfl rfl rfl rfl ?_)
            have Xb : mem.Upd (fun x => w5.heap.size ≤ x) wa wb := ⟨xb.os, xb.tape, xb.output, xb.size, fun x _ hn => xb.block x (by omega)⟩
            have HOx := Lib.hid (HOa.out.upd Xb (lts.1.imp_right fun h => by show ¬ (w5.heap.size ≤ b1); omega) (lts.2.imp_right fun h => by show ¬ (w5.heap.size ≤ b2); omega))
            have Tx := Ta.keep (xb.block T hTl5)
            have Ux := upd_bel Ua (xb.mono (by omega))
            have Sx := src_upd Sa (xb.block b hb5)
            have hlb := bl.2
            clear hr
            have HF := Lib.hid (six_post (w := w) HOx.out (by omega) (by omega) hn hm (show n + 1 ≤ 2000 by omega) hnm ap.own.sl (by omega) (by have := ap.own.lt; omega) Sx (U0.out.trans Ux) hltw (fre_own ap.own) (by have h8 := HD8.out; have h9 := (ap.below (B := g8) (Nat.le_refl _) (by rw [mem.szal]; omega)).2; omega))
            have q0 := Tx.b0
            have q1 := Tx.b1
            have R7 := R1.keep (Ux.block w.heap.size (by omega) (by omega))
            have f0 := R7.b0
            have f1 := R7.b1
            have k0 := R7.free 0
            have k1 := R7.free 1
            clear R7 Ux Sx Tx
            go_wp2_with fail
            exact bodyPost_ret (v := .tuple #[.agg #[.slice p0 n c0, .slice p1 m c1], vb]) (by simp [results, Tryz.results39, go_sem, f0, f1]) rfl HF.out
          · obtain ⟨hv0, hv1, hv2⟩ := hva
            have hv0' : (va == 0) = false := by simpa using hv0
            have hv1' : (va == 1) = false := by simpa using hv1
            have hv2' : (va == 2) = false := by simpa using hv2
            clear hv0 hv1 hv2 bd
            go_upto_region 20 with (fail)
            have HF := Lib.hid (six_post (w := w) HOa.out (by omega) (by omega) hn hm (show n ≤ 2000 by omega) hnm hVa.sl (by omega) (by omega) Sa (U0.out.trans Ua) hltw (fre_own hVa) HD8.out)
            have q0 := Ta.b0
            have q1 := Ta.b1
            have R7 := R1.keep (Ua.block w.heap.size (by omega) (by omega))
            have f0 := R7.b0
            have f1 := R7.b1
            have k0 := R7.free 0
            have k1 := R7.free 1
            clear R7 Ua Sa Ta
            go_wp2_with fail
            exact bodyPost_ret (v := .tuple #[.agg #[.slice p0 n c0, .slice p1 m c1], .slice (some ⟨g8, 0, none⟩) n c8]) (by simp [results, Tryz.results39, go_sem, f0, f1]) rfl HF.out
end Go.Proofs.YtdbgcbkmcbgdiaaGreat.draw

namespace Go.Proofs.YtdbgcbkmcbgdiaaGreat.draw
open Go.RowKit
set_option linter.unusedVariables false

theorem sl_sh {w : World} {v : Value} {n : Nat} {d : Nat → Int} {lo hi : Nat} (h : mem.Sl w v n d lo hi) : ∃ p cap, v = .slice p n cap := by
  obtain ⟨p, cap, e, _⟩ := h.ex
  exact ⟨p, cap, e⟩
end Go.Proofs.YtdbgcbkmcbgdiaaGreat.draw

namespace Go.Proofs.YtdbgcbkmcbgdiaaGreat.draw
open Go.RowKit
set_option linter.unusedVariables false

/-- flows have been drawn -/
def FlPost (w : World) (b : Nat) (cv : Value) (len : Nat) (e : Ending) (w' : World) : Prop :=
  ∃ (vl : Value) (K : Nat) (D : Nat → Int) (i s : Int), e = .returned vl ∧ K ≤ 2000 ∧ mem.Sl w' vl K D w.heap.size w'.heap.size ∧ Src w' b cv len i s ∧ mem.Upd (· = b) w w'
set_option maxRecDepth 100000 in
set_option maxHeartbeats 8000000 in
theorem flows_any (w : World) (b B : Nat) (cv : Value) (len : Nat) (i s : Int) (h : Src w b cv len i s) (hc : CodeAt w cv len B) (hB' : B ≤ b) (p0 : Option Addr) (n c0 : Nat) (p1 : Option Addr) (m c1 : Nat) (hm : m ≤ 1000) :
    Calls Tryz.prog 42 #[.pointer (some ⟨b, 0, none⟩), .agg #[.slice p0 n c0, .slice p1 m c1]] w (FlPost w b cv len) := by
  have hlt := src_lt h
  have xA := mem.below_new w (.cells #[.slice p0 n c0, .slice p1 m c1] 27)
  have HC := Lib.hid (code_of hc (mem.Upd.of_below (X := (· = b)) xA) hB' hlt)
  have U0 := Lib.hid (mem.Upd.of_below xA (X := (· = b)))
  have T1 := mem.boxed w (.slice p0 n c0) (.slice p1 m c1) 27
  have xB := mem.below_new (w.alloc (.cells #[.slice p0 n c0, .slice p1 m c1] 27)) (.cells #[] 2)
  have F0 := mem.Own.nilled (w.alloc (.cells #[.slice p0 n c0, .slice p1 m c1] 27)) (fun _ => 0)
  have SA := src_alloc h hlt (.cells #[.slice p0 n c0, .slice p1 m c1] 27)
  have D0 : Fl (w.alloc (.cells #[.slice p0 n c0, .slice p1 m c1] 27)) b cv len ((w.alloc (.cells #[.slice p0 n c0, .slice p1 m c1] 27)).alloc (.cells #[] 2)) (.slice (some ⟨(w.alloc (.cells #[.slice p0 n c0, .slice p1 m c1] 27)).heap.size, 0, none⟩) 0 0) 0 := ⟨fun _ => 0, _, _, _, F0, fun j hj => by omega, Nat.le_refl _, src_upd SA (xB.block b (src_lt SA)), mem.Upd.of_below xB⟩
  have hza : (w.alloc (.cells #[.slice p0 n c0, .slice p1 m c1] 27)).heap.size = w.heap.size + 1 := by simp
  rw [hza] at D0
  clear F0 xB xA h hc SA
  go_enter Tryz.func42, Tryz.ntmps42
  go_wp2_with fail
  generalize hW : (w.alloc (.cells #[.slice p0 n c0, .slice p1 m c1] 27)).alloc (.cells #[] 2) = wb at *
  generalize hW2 : w.alloc (.cells #[.slice p0 n c0, .slice p1 m c1] 27) = wa at *
  generalize hv : Value.slice (some ⟨w.heap.size + 1, 0, none⟩) 0 0 = vl0 at *
  clear hW hW2 hv
  have hTl := T1.lt
  go_loopw [5, 6] (fun ov iv wr => ∃ (k : Nat) (ov' : Value), ov' = ov ∧ iv = .int .i64 k ∧ k ≤ m ∧ Fl wa b cv len wr ov' k) (fun _ iv _ => m - (intOf iv).toNat)
  case atStart => exact ⟨0, _, rfl, rfl, Nat.zero_le _, D0⟩
  case round =>
    obtain ⟨k, ov, rfl, rfl, hk, DF⟩ := hrel
    clear D0
    obtain ⟨D, g, i6, s6, hD, hDb, hg, hS6, hU6⟩ := DF.ex
    clear DF
    have T6 := T1.keep (hU6.block w.heap.size hTl (by omega))
    have q1 := T6.b1
    have k0' : (0 : Int) ≤ (k : Int) := Int.natCast_nonneg _
    by_cases hlt2 : k < m
    · have k1' : (k : Int) < (m : Int) := by omega
      go_wp2_with fail
      refine (next_any wr b B cv len i6 s6 60 hS6 (code_of HC.out hU6 hB' (by omega)) hB' (by omega)).mono ?_
      rintro e w7 ⟨v7, i7, s7, rfl, t7, ht7, hS7, o7⟩
      obtain ⟨co, rfl⟩ := hD.shape
      have hgb : g ≠ b := by omega
      have hD7 := hD.keep (o7.block g hgb)
      have hU7 := hU6.trans (upd_of o7)
      have hb1 : -4611686018427387904 ≤ v7 - 30 ∧ v7 - 30 ≤ 4611686018427387904 := by omega
      have lg := hD7.lt
      obtain ⟨v8, w8, g8, hr, ap⟩ := mem.app_run (w7.alloc (.cells #[.int .i64 (v7 - 30)] 2)) _ k _ g (v7 - 30) w7.heap.size (hD7.alloc _) (mem.cell_new1 w7 _) (by omega)
      have bl := ap.below (B := wa.heap.size) (by omega) (by rw [mem.szal]; omega)
      have xb : Below wa.heap.size w7 w8 := ((mem.below_new w7 _).mono hU7.size).trans bl.1
      have DF8 : Fl wa b cv len w8 v8 (k + 1) := ⟨_, g8, i7, s7, ap.own, fun j hj => by
        unfold mem.upd
        split
        · omega
        · exact hDb j (by omega), bl.2, src_upd hS7 (xb.block b (by omega)), upd_bel hU7 xb⟩
      clear hD hDb hS6 hU6 hS7 o7 hD7 hU7 ap bl xb T6 q1
      go_wp2_with (at_builtin; refine mem.wpList_app hr rfl _ _ rfl rfl rfl rfl ?_)
      clear hr
      go_roundw
      case rel => exact ⟨k + 1, _, rfl, by go_num, hlt2, DF8⟩
      case measure => simp [intOf]; omega
    · obtain rfl : m = k := by omega
      have k1' : ¬ ((m : Int) < (m : Int)) := by omega
      have lg := hD.lt
      have hC6 := code_of HC.out hU6 hB' (by omega)
      have hzr := hU6.size
      obtain ⟨co, rfl⟩ := hD.shape
      clear hDb
      go_wp2_with fail
      refine (next_any wr b B cv len i6 s6 30 hS6 hC6 hB' (by omega)).mono ?_
      rintro e wa' ⟨va, ia, sa, rfl, ta, hta, Sa, oa⟩
      have hVa := hD.keep (oa.block g (by omega))
      have Ua := hU6.trans (upd_of oa)
      have hza2 := oa.size
      have lga := hVa.lt
      clear hC6 hD hS6 hU6 oa T6 q1
      rcases (by omega : va = 0 ∨ va = 1 ∨ (va ≠ 0 ∧ va ≠ 1)) with rfl | rfl | hva
      · obtain ⟨vb, wz, gb, hr, ap⟩ := mem.app_run (wa'.alloc (.cells #[.int .i64 0] 2)) _ m _ g 0 wa'.heap.size (hVa.alloc _) (mem.cell_new1 wa' _) (by omega)
        have bl := ap.below (B := wa.heap.size) (by omega) (by rw [mem.szal]; omega)
        have xb : Below wa.heap.size wa' wz := ((mem.below_new wa' _).mono (by omega)).trans bl.1
        have hlz := ap.own.lt
        have HF := Lib.hid (And.intro (ap.own.sl.mono (show w.heap.size ≤ gb by omega) (show gb + 1 ≤ wz.heap.size by omega)) (And.intro (src_upd Sa (xb.block b (by omega))) (U0.out.trans (upd_bel Ua xb))))
        clear hVa Sa Ua ap bl xb
        go_wp2_with (at_builtin; refine mem.wpList_app hr rfl _ _ rfl rfl rfl rfl ?_)
        clear hr
        go_ret
        exact ⟨_, m + 1, _, _, _, rfl, by omega, HF.out.1, HF.out.2.1, HF.out.2.2⟩
      · rcases Nat.eq_zero_or_pos m with hm0 | hm0
        · subst hm0
          have HF := Lib.hid (And.intro (hVa.sl.mono (show w.heap.size ≤ g by omega) (show g + 1 ≤ wa'.heap.size by omega)) (And.intro Sa (U0.out.trans Ua)))
          clear hVa Sa Ua
          go_wp2_with fail
          go_ret
          exact ⟨_, 0, _, _, _, rfl, by omega, HF.out.1, HF.out.2.1, HF.out.2.2⟩
        · have hmI : (0 : Int) < (m : Int) := by omega
          have bA := mem.below_new wa' (.cells #[.int .i64 30000, .int .i64 30001, .int .i64 (-30000)] 2)
          have tA := tabI wa' 2 #[.int .i64 30000, .int .i64 30001, .int .i64 (-30000)] (by
            intro j hj
            rcases (by simp at hj; omega : j = 0 ∨ j = 1 ∨ j = 2) with rfl | rfl | rfl
            all_goals exact ⟨_, rfl⟩)
          have SA := src_alloc Sa (src_lt Sa) (.cells #[.int .i64 30000, .int .i64 30001, .int .i64 (-30000)] 2)
          have UA := Ua.trans (mem.Upd.of_below bA)
          have CA := code_of HC.out UA hB' (by omega)
          have HVA := Lib.hid (hVa.alloc (.cells #[.int .i64 30000, .int .i64 30001, .int .i64 (-30000)] 2))
          have hzA : (wa'.alloc (.cells #[.int .i64 30000, .int .i64 30001, .int .i64 (-30000)] 2)).heap.size = wa'.heap.size + 1 := by simp
          have lba := src_lt Sa
          have yzA := hVa.free 0
          clear Sa Ua hVa bA
          go_wp2_with fail
          refine (next_any _ b B cv len ia sa 3 SA CA hB' (by omega)).mono ?_
          rintro e wc ⟨vc, ic, sc, rfl, tc, htc, Sc, oc⟩
          have hzc := oc.size
          have HVc := Lib.hid (HVA.out.keep (oc.block g (by omega)))
          have Uc := UA.trans (upd_of oc)
          obtain ⟨x, rfl⟩ := Int.eq_ofNat_of_zero_le tc
          have hx : x < 3 := by omega
          have hx2 : (x : Int) < 3 := by omega
          obtain ⟨y, hy⟩ := tA x hx
          have hyc : wc.cell? ⟨wa'.heap.size, x, none⟩ = some (.int .i64 y) := by
            have e := oc.block wa'.heap.size (by omega)
            simp only [World.cell?] at hy ⊢
            rw [e]
            exact hy
          have yf := HVc.out.row.cell 0 hm0
          have yz := HVc.out.free 0
          have oX := (mem.Only.refl g wc).setCell 0 (.int .i64 y)
          have hVx := HVc.out.put1 0 y hm0
          have hlx := hVx.lt
          have HF := Lib.hid (And.intro (hVx.sl.mono (show w.heap.size ≤ g by omega) (show g + 1 ≤ _ from hlx)) (And.intro (src_upd Sc (oX.block b (by omega))) (U0.out.trans (upd_own Uc oX (by omega)))))
          clear tA SA CA UA HVA hy oc htc yzA HVc Sc Uc oX hVx hlx
          go_wp2_with fail
          go_ret
          exact ⟨_, m, _, _, _, rfl, by omega, HF.out.1, HF.out.2.1, HF.out.2.2⟩
      · obtain ⟨hv0, hv1⟩ := hva
        have hv0' : (va == 0) = false := by simpa using hv0
        have hv1' : (va == 1) = false := by simpa using hv1
        have HF := Lib.hid (And.intro (hVa.sl.mono (show w.heap.size ≤ g by omega) (show g + 1 ≤ wa'.heap.size by omega)) (And.intro Sa (U0.out.trans Ua)))
        clear hv0 hv1 hVa Sa Ua
        go_wp2_with fail
        go_ret
        exact ⟨_, m, _, _, _, rfl, by omega, HF.out.1, HF.out.2.1, HF.out.2.2⟩
end Go.Proofs.YtdbgcbkmcbgdiaaGreat.draw

namespace Go.Proofs.YtdbgcbkmcbgdiaaGreat.draw
open Go.RowKit
set_option linter.unusedVariables false

theorem sl_upd {w w' : World} {v : Value} {n : Nat} {d : Nat → Int} {lo hi b : Nat} (h : mem.Sl w v n d lo hi) (u : mem.Upd (· = b) w w') (h1 : b < lo) (h2 : hi ≤ w.heap.size) : mem.Sl w' v n d lo hi := by
  obtain ⟨p, cap, rfl, h | ⟨c, o, rfl, g1, g2, g3⟩⟩ := h
  · exact ⟨p, cap, rfl, .inl h⟩
  · exact ⟨_, cap, rfl, .inr ⟨c, o, rfl, g1, g2, fun k hk => (World.cell?_of_block (u.block c (by omega) (by omega))).trans (g3 k hk)⟩⟩
theorem sl_drew {w : World} {v : Value} {n : Nat} {d : Nat → Int} {lo hi : Nat} (h : mem.Sl w v n d lo hi) : mem.Sl w.drew v n d lo hi := ⟨h.ex⟩
end Go.Proofs.YtdbgcbkmcbgdiaaGreat.draw

namespace Go.Proofs.YtdbgcbkmcbgdiaaGreat.draw
open Go.RowKit
set_option linter.unusedVariables false

end Go.Proofs.YtdbgcbkmcbgdiaaGreat.draw

namespace Go.Proofs.YtdbgcbkmcbgdiaaGreat.mem
open Go.RowKit
set_option linter.unusedVariables false

theorem likeInts_any (w : World) (v u : Value) (n : Nat) (d : Nat → Int) (lo hi lo' hi' : Nat) (h : Cs w v n 1 (intC d) lo hi) (g : Cs w u n 1 (intC d) lo' hi') :
    Calls Tryz.prog 13 #[v, u] w fun e w' => e = .returned (.bool true) ∧ Below w.heap.size w w' := by
  obtain ⟨p, cap, rfl, _, _, hc⟩ := h
  obtain ⟨p', cap', rfl, _, _, hc'⟩ := g
  have HC := Lib.hid hc
  have HC' := Lib.hid hc'
  clear hc hc'
  have hbb : ((n : Int) != n) = false := by simp
  go_enter Tryz.func13, Tryz.ntmps13
  go_wp2_with fail
  go_loopw [5] (fun i wr => ∃ k m : Nat, i = .int .i64 k ∧ k ≤ n ∧ wr = w.drewN m) (fun i _ => n - (intOf i).toNat)
  case atStart => exact ⟨0, 0, rfl, Nat.zero_le _, rfl⟩
  case round =>
    obtain ⟨k, m, rfl, hk, hw⟩ := hrel
    have HWR := Lib.hid hw
    by_cases hlt : k < n
    · rcases HC.out with h0 | ⟨b, o, rfl, g1, g2, g3⟩
      · omega
      rcases HC'.out with h0 | ⟨b', o', rfl, g1', g2', g3'⟩
      · omega
      have c1 : wr.cell? ⟨b, o + k, none⟩ = some (.int .i64 (d k)) := by rw [hw]; exact g3.int k hlt
      have c2 : wr.cell? ⟨b', o' + k, none⟩ = some (.int .i64 (d k)) := by rw [hw]; exact g3'.int k hlt
      have hkn : (k : Int) < (n : Int) := by omega
      have hdd : (d k != d k) = false := by simp
      clear hw g3 g3'
      go_wp2_with fail
      go_quiet (fail)
      go_wp2_with fail
      go_roundw
      case rel => exact ⟨k + 1, m + nq, by go_num, hlt, by rw [HWR.out]; exact (World.drewN_drewN _ _ _)⟩
      case measure => simp [intOf]; omega
    · clear hw
      go_wp2_with fail
      go_ret
      exact ⟨rfl, by rw [HWR.out]; exact below_self _ _ _⟩

end Go.Proofs.YtdbgcbkmcbgdiaaGreat.mem

namespace Go.Proofs.YtdbgcbkmcbgdiaaGreat.mem
open Go.RowKit
set_option linter.unusedVariables false

/-- loads and stores of arrays and of flows with their network -/
theorem wpList_ldN {ops : Array Oper} {rest : List Oper} {o : Oper} {a : Act} {w : World} {Q : Exit → Act → World → Prop} (hg : o.guard = none) (x : Operand) (ho : o.op = .load 115 x) (b : Nat) (s0 s1 : Value) (z : Nat → Int) (hx : a.eval x = .pointer (some ⟨b, 0, none⟩)) (hc : w.rangeAt b 0 (nfL s0 s1 z))
    (h : wpList Tryz.prog ops Q rest (a.put o.dst (.agg (nfL s0 s1 z).toArray)) w) : wpList Tryz.prog ops Q (o :: rest) a w :=
  wpList_load_mid hg 115 x ho b 0 hx (nfL s0 s1 z) _ hc Tryz.underlying115 rfl (by rw [nfL_len]; exact nf_info) h
theorem wpList_stN {ops : Array Oper} {rest : List Oper} {o : Oper} {a : Act} {w : World} {Q : Exit → Act → World → Prop} (hg : o.guard = none) (x y : Operand) (ho : o.op = .store 115 x y) (b : Nat) (s0 s1 : Value) (z : Nat → Int) (hx : a.eval x = .pointer (some ⟨b, 0, none⟩)) (hy : a.eval y = .agg (nfL s0 s1 z).toArray) (h0 : s0.oneCell' = true) (h1 : s1.oneCell' = true) (ht : w.there b 0 42)
    (h : wpList Tryz.prog ops Q rest (a.put o.dst undef) (w.setCells b 0 (nfL s0 s1 z))) : wpList Tryz.prog ops Q (o :: rest) a w :=
  wpList_store_mid hg 115 x y ho b 0 (nfL s0 s1 z).toArray hx hy (by rw [List.size_toArray, nfL_len]; exact ht) (by rw [List.size_toArray, nfL_len]; exact nf_info) (all_oneCell_toArray (nfL_one h0 h1 z)) h
/-- an element of an array of numbers by value -/
theorem run_indexV (w : World) (t : TypeId) (len : Nat) (cs : Array Value) (k : IntKind) (i : Int) (v : Value) (hu : Tryz.prog.underlying t = some (.array len 2)) (h0 : 0 ≤ i) (h1 : i < len) (hv : cs[i.toNat]? = some v) : (Instr.index t (.agg cs) (.int k i)).run Tryz.prog w = .ok v w := by
  obtain ⟨i0, hi0, hz0, hz1, hz2⟩ := info_parts info_make_int64
  simp [Instr.index, run_underlying hu, run_underlying Tryz.underlying2, asIntOf, h0, h1, part, isAgg, sizeOf, typeInfo, hi0, hz1, hv]
theorem wpList_indexV {ops : Array Oper} {rest : List Oper} {o : Oper} {a : Act} {w : World} {Q : Exit → Act → World → Prop} (hg : o.guard = none) (t : TypeId) (len : Nat) (x y : Operand) (ho : o.op = .index t x y) (cs : Array Value) (k : IntKind) (i : Int) (v : Value) (hx : a.eval x = .agg cs) (hy : a.eval y = .int k i) (hu : Tryz.prog.underlying t = some (.array len 2)) (h0 : 0 ≤ i) (h1 : i < len) (hv : cs[i.toNat]? = some v)
    (h : wpList Tryz.prog ops Q rest (a.put o.dst v) w) : wpList Tryz.prog ops Q (o :: rest) a w := by
  refine wpList_plain hg fun K hK => ?_
  unfold Oper.wp execOp
  simp only [ho, Sem.run_bind, hx, hy, run_indexV w t len cs k i v hu h0 h1 hv, Result.andThen_ok]
  exact hK _ _ h
/-- the number of times that a move adds a cycle, as arrays -/
def mvT (m : Nat) (P : Nat → Pip) (x y : Nat → Int) (st : Int) : Int := if loA m P x y st = true then st else if loA m P x y (-st) = true then -st else 0
set_option maxRecDepth 100000 in
set_option maxHeartbeats 8000000 in
theorem moveOf_any (w : World) (p0 p1 : Option Addr) (c0 c1 : Nat) (n : Nat) (N : Nat → Nod) (m : Nat) (P : Nat → Pip) (lo hi : Nat) (h : NetAt w (.agg #[.slice p0 n c0, .slice p1 m c1]) n N m P lo hi) (hhi : hi ≤ w.heap.size) (hB : netB n N m P = true) (x : Nat → Int) (hx : ∀ k, k < 40 → -30000 ≤ x k ∧ x k ≤ 30000) (y : Nat → Int) (hy : ∀ k, k < 40 → -1 ≤ y k ∧ y k ≤ 1) (st : Int) (hst : 1 ≤ st ∧ st ≤ 32768) :
    Calls Tryz.prog 145 #[.agg (nfL (.slice p0 n c0) (.slice p1 m c1) x).toArray, .agg (arr y), .int .i64 st] w fun e w' => e = .returned (.int .i64 (mvT m P x y st)) ∧ Below w.heap.size w w' := by
  have HV := Lib.hid h
  have HX := Lib.hid hx
  have HYB := Lib.hid hy
  have HBN := Lib.hid hB
  have A0 := (Ob.newN w (.slice p0 n c0) (.slice p1 m c1) x 115).keep (Below.heap_alloc _ (.cells (arr y) 111) _ (by rw [szal]; omega))
  have A1 := Ob.newA (w.alloc (.cells (nfL (.slice p0 n c0) (.slice p1 m c1) x).toArray 115)) y 111
  simp only [szal] at A1
  have B0 := (below_new w (.cells (nfL (.slice p0 n c0) (.slice p1 m c1) x).toArray 115)).trans ((below_new _ (.cells (arr y) 111)).mono (by rw [szal]; omega))
  have hs0 : ((w.alloc (.cells (nfL (.slice p0 n c0) (.slice p1 m c1) x).toArray 115)).alloc (.cells (arr y) 111)).heap.size = w.heap.size + 2 := by simp
  have hng : IntKind.i64.wrap (-st) = -st := IntWalk.i64_in _ (by omega)
  clear h hB hx hy
  go_enter Tryz.func145, Tryz.ntmps145
  go_upto_region 1 with (fail)
  obtain ⟨w1, hw1⟩ : ∃ w1, (w.alloc (.cells (nfL (.slice p0 n c0) (.slice p1 m c1) x).toArray 115)).alloc (.cells (arr y) 111) = w1 := ⟨_, rfl⟩
  rw [hw1] at A0 A1 B0 hs0 ⊢
  clear hw1
  have HA := Lib.hid A0
  have HA1 := Lib.hid A1
  have HB := Lib.hid B0
  obtain ⟨Ly, hLy, eLy⟩ : ∃ L : List Value, arr y = List.toArray L ∧ L = arrL y := ⟨_, rfl, rfl⟩
  have nLy : Ly.length = 40 := by rw [eLy, arr_len]
  have HLy := Lib.hid hLy
  have HEy := Lib.hid eLy
  clear hLy eLy A0 A1 B0
  have hs1 := Nat.le_antisymm_iff.1 hs0
  clear hs0
  go_wp2_with fail
  go_loopw [13] (fun iv wr => ∃ k : Nat, iv = .int .i64 k ∧ k ≤ 2 ∧ (0 < k → loA m P x y st = false) ∧ (1 < k → loA m P x y (-st) = false) ∧ w1.heap.size ≤ wr.heap.size ∧ Below w1.heap.size w1 wr) (fun iv _ => 2 - (intOf iv).toNat)
  case atStart => exact ⟨0, rfl, by omega, fun h => by omega, fun h => by omega, Nat.le_refl _, Below.refl _ _⟩
  case round =>
    obtain ⟨k, rfl, hk, hf1, hf2, hsz, hb⟩ := hrel
    have HBB := Lib.hid hb
    have BW := Lib.hid (HB.out.trans (HBB.out.mono (by omega)))
    have g0 := (HA.out.below HBB.out (by omega)).nall
    have g1 : wr.rangeAt (w.heap.size + 1) 0 Ly := by rw [HEy.out]; exact (HA1.out.below HBB.out (by omega)).range
    clear hb
    rcases (by omega : k = 0 ∨ k = 1 ∨ k = 2) with rfl | rfl | rfl
    · cases ht : loA m P x y st
      · have HT := Lib.hid ht
        clear ht hf1 hf2
        go_wp2_with (first
          | (refine wpList_indexV rfl 166 2 _ _ rfl #[.int .i64 st, .int .i64 (-st)] _ _ (.int .i64 (st)) rfl rfl Tryz.underlying166 (by omega) (by omega) rfl ?_)
          | (refine wpList_ldN rfl _ rfl w.heap.size (.slice p0 n c0) (.slice p1 m c1) x rfl g0 ?_)
          | (refine wpList_ldF rfl _ rfl (w.heap.size + 1) 0 Ly rfl nLy g1 ?_)
          | (go_at_call 168; rw [← HLy.out]; refine (isImprovedBy_any wr p0 p1 c0 c1 n N m P lo hi (HV.out.below BW.out hhi) (by omega) HBN.out x HX.out y HYB.out (st) (by omega)).mono ?_; rintro e wX ⟨rfl, hbX⟩; rw [HT.out]; have zX := hbX.size))
        go_roundw
        case rel => exact ⟨1, by go_num, by omega, (fun _ => by first | exact HT.out | trivial), fun h => by omega, by omega, HBB.out.trans (hbX.mono (by omega))⟩
        case measure => simp [intOf]
      · have HT := Lib.hid ht
        have HR := Lib.hid (show mvT m P x y st = st by unfold mvT; rw [if_pos ht])
        clear ht hf1 hf2
        go_wp2_with (first
          | (refine wpList_indexV rfl 166 2 _ _ rfl #[.int .i64 st, .int .i64 (-st)] _ _ (.int .i64 (st)) rfl rfl Tryz.underlying166 (by omega) (by omega) rfl ?_)
          | (refine wpList_ldN rfl _ rfl w.heap.size (.slice p0 n c0) (.slice p1 m c1) x rfl g0 ?_)
          | (refine wpList_ldF rfl _ rfl (w.heap.size + 1) 0 Ly rfl nLy g1 ?_)
          | (go_at_call 168; rw [← HLy.out]; refine (isImprovedBy_any wr p0 p1 c0 c1 n N m P lo hi (HV.out.below BW.out hhi) (by omega) HBN.out x HX.out y HYB.out (st) (by omega)).mono ?_; rintro e wX ⟨rfl, hbX⟩; rw [HT.out]; have zX := hbX.size))
        go_ret
        exact ⟨ret_i HR.out.symm, BW.out.trans (hbX.mono (by omega))⟩
    · have hf := hf1 (by omega)
      cases ht : loA m P x y (-st)
      · have HT := Lib.hid ht
        have HT0 := Lib.hid hf
        clear ht hf1 hf2 hf
        go_wp2_with (first
          | (refine wpList_indexV rfl 166 2 _ _ rfl #[.int .i64 st, .int .i64 (-st)] _ _ (.int .i64 (-st)) rfl rfl Tryz.underlying166 (by omega) (by omega) rfl ?_)
          | (refine wpList_ldN rfl _ rfl w.heap.size (.slice p0 n c0) (.slice p1 m c1) x rfl g0 ?_)
          | (refine wpList_ldF rfl _ rfl (w.heap.size + 1) 0 Ly rfl nLy g1 ?_)
          | (go_at_call 168; rw [← HLy.out]; refine (isImprovedBy_any wr p0 p1 c0 c1 n N m P lo hi (HV.out.below BW.out hhi) (by omega) HBN.out x HX.out y HYB.out (-st) (by omega)).mono ?_; rintro e wX ⟨rfl, hbX⟩; rw [HT.out]; have zX := hbX.size))
        go_roundw
        case rel => exact ⟨2, by go_num, by omega, (fun _ => by first | exact HT0.out | trivial), (fun _ => by first | exact HT.out | trivial), by omega, HBB.out.trans (hbX.mono (by omega))⟩
        case measure => simp [intOf]
      · have HT := Lib.hid ht
        have HR := Lib.hid (show mvT m P x y st = -st by unfold mvT; rw [if_neg (by rw [hf]; simp), if_pos ht])
        clear ht hf1 hf2 hf
        go_wp2_with (first
          | (refine wpList_indexV rfl 166 2 _ _ rfl #[.int .i64 st, .int .i64 (-st)] _ _ (.int .i64 (-st)) rfl rfl Tryz.underlying166 (by omega) (by omega) rfl ?_)
          | (refine wpList_ldN rfl _ rfl w.heap.size (.slice p0 n c0) (.slice p1 m c1) x rfl g0 ?_)
          | (refine wpList_ldF rfl _ rfl (w.heap.size + 1) 0 Ly rfl nLy g1 ?_)
          | (go_at_call 168; rw [← HLy.out]; refine (isImprovedBy_any wr p0 p1 c0 c1 n N m P lo hi (HV.out.below BW.out hhi) (by omega) HBN.out x HX.out y HYB.out (-st) (by omega)).mono ?_; rintro e wX ⟨rfl, hbX⟩; rw [HT.out]; have zX := hbX.size))
        go_ret
        exact ⟨ret_i HR.out.symm, BW.out.trans (hbX.mono (by omega))⟩
    · have h1 := hf1 (by omega)
      have h2 := hf2 (by omega)
      have HR := Lib.hid (show mvT m P x y st = 0 by unfold mvT; rw [if_neg (by rw [h1]; simp), if_neg (by rw [h2]; simp)])
      clear h1 h2 hf1 hf2
      go_wp2_with fail
      go_ret
      exact ⟨ret_i HR.out.symm, BW.out⟩
end Go.Proofs.YtdbgcbkmcbgdiaaGreat.mem

namespace Go.Proofs.YtdbgcbkmcbgdiaaGreat.mem
open Go.RowKit
set_option linter.unusedVariables false

theorem results_nf2 {fn : Func} {p u : Tmp} {tmps : Array Value} {w : World} {b : Nat} {s0 s1 v : Value} {x : Nat → Int} (h : fn.results = #[.cell p 115, .tmp u]) (hp : tmps.getD p undef = .pointer (some ⟨b, 0, none⟩)) (hv : tmps.getD u undef = v) (ho : Ob w b 42 (nfc s0 s1 x)) : (results fn tmps).run Tryz.prog w = .ok (.tuple #[.agg (nfL s0 s1 x).toArray, v]) w := by
  obtain ⟨t, h1⟩ := ho.nrow
  rw [results_cell_tmp h, hp, hv]
  simp [asAddr, run_loadVar_row w b t 115 _ (0, 0) _ h1 Tryz.underlying115 rfl (by rw [List.size_toArray, nfL_len]; exact nf_info), Result.andThen]
theorem pad_cyc {n : Nat} {N : Nat → Nod} {P : Nat → Pip} {m : Nat} (hN : netB n N m P = true) {c : Nat} (hc : c < m) (x : Nat → Int) (t : Int) : (fun a => pad m x a + cyc P (fE n P m) (fD n P m) c a * t) = pad m (fun a => x a + t * cyc P (fE n P m) (fD n P m) c a) := by
  funext a
  by_cases h : a < m
  · rw [pad_at h, pad_at h, Int.mul_comm]
  · rw [cyc_off hN hc (by omega)]
    unfold pad
    rw [if_neg h, if_neg h]
    omega
theorem mvT_pad {n : Nat} {N : Nat → Nod} {P : Nat → Pip} {m : Nat} (hN : netB n N m P = true) {d : Nat → Int} {c : Nat} {st : Int} (hc : c < m) : mvT m P (pad m d) (cyc P (fE n P m) (fD n P m) c) st = mvB m P d (cyc P (fE n P m) (fD n P m) c) st := by
  unfold mvT mvB
  rw [loA_pad hN hc, loA_pad hN hc]
set_option maxRecDepth 100000 in
set_option maxHeartbeats 8000000 in
theorem relaxedFrom_any (w : World) (p0 p1 : Option Addr) (c0 c1 : Nat) (n : Nat) (N : Nat → Nod) (m : Nat) (P : Nat → Pip) (lo hi : Nat) (h : NetAt w (.agg #[.slice p0 n c0, .slice p1 m c1]) n N m P lo hi) (hhi : hi ≤ w.heap.size) (hB : netB n N m P = true) (x0 : Nat → Int) (hx : ∀ k, k < m → -30000 ≤ x0 k ∧ x0 k ≤ 30000) (st0 : Int) (hst : 1 ≤ st0 ∧ st0 ≤ 32768) :
    Calls Tryz.prog 95 #[.agg (nfL (.slice p0 n c0) (.slice p1 m c1) (pad m x0)).toArray, .int .i64 st0] w fun e w' => e = .returned (.tuple #[.agg (nfL (.slice p0 n c0) (.slice p1 m c1) (pad m (rlx m P (fun i => cyc P (fE n P m) (fD n P m) (chS n P m i)) (chN n P m) x0 st0).1)).toArray, .int .i64 (rlx m P (fun i => cyc P (fE n P m) (fD n P m) (chS n P m i)) (chN n P m) x0 st0).2]) ∧ Below w.heap.size w w' := by
  obtain ⟨hn1, hn24, hm40⟩ := net_sz hB
  have hcn := chN_le n P m
  have HV := Lib.hid h
  have HX0 := Lib.hid hx
  have HBN := Lib.hid hB
  have A0 := (Ob.newN w (.slice p0 n c0) (.slice p1 m c1) (pad m x0) 115).keep (Below.heap_alloc _ (.cells #[Value.slice none 0 0, Value.slice none 0 0, Value.int IntKind.i64 0, Value.int IntKind.i64 0, Value.int IntKind.i64 0, Value.int IntKind.i64 0, Value.int IntKind.i64 0, Value.int IntKind.i64 0, Value.int IntKind.i64 0, Value.int IntKind.i64 0, Value.int IntKind.i64 0, Value.int IntKind.i64 0, Value.int IntKind.i64 0, Value.int IntKind.i64 0, Value.int IntKind.i64 0, Value.int IntKind.i64 0, Value.int IntKind.i64 0, Value.int IntKind.i64 0, Value.int IntKind.i64 0, Value.int IntKind.i64 0, Value.int IntKind.i64 0, Value.int IntKind.i64 0, Value.int IntKind.i64 0, Value.int IntKind.i64 0, Value.int IntKind.i64 0, Value.int IntKind.i64 0, Value.int IntKind.i64 0, Value.int IntKind.i64 0, Value.int IntKind.i64 0, Value.int IntKind.i64 0, Value.int IntKind.i64 0, Value.int IntKind.i64 0, Value.int IntKind.i64 0, Value.int IntKind.i64 0, Value.int IntKind.i64 0, Value.int IntKind.i64 0, Value.int IntKind.i64 0, Value.int IntKind.i64 0, Value.int IntKind.i64 0, Value.int IntKind.i64 0, Value.int IntKind.i64 0, Value.int IntKind.i64 0] 115) _ (by rw [szal]; omega))
  have A1 := Ob.newZ (w.alloc (.cells (nfL (.slice p0 n c0) (.slice p1 m c1) (pad m x0)).toArray 115)) 115
  simp only [szal] at A1
  have B0 := (below_new w (.cells (nfL (.slice p0 n c0) (.slice p1 m c1) (pad m x0)).toArray 115)).trans ((below_new _ (.cells #[Value.slice none 0 0, Value.slice none 0 0, Value.int IntKind.i64 0, Value.int IntKind.i64 0, Value.int IntKind.i64 0, Value.int IntKind.i64 0, Value.int IntKind.i64 0, Value.int IntKind.i64 0, Value.int IntKind.i64 0, Value.int IntKind.i64 0, Value.int IntKind.i64 0, Value.int IntKind.i64 0, Value.int IntKind.i64 0, Value.int IntKind.i64 0, Value.int IntKind.i64 0, Value.int IntKind.i64 0, Value.int IntKind.i64 0, Value.int IntKind.i64 0, Value.int IntKind.i64 0, Value.int IntKind.i64 0, Value.int IntKind.i64 0, Value.int IntKind.i64 0, Value.int IntKind.i64 0, Value.int IntKind.i64 0, Value.int IntKind.i64 0, Value.int IntKind.i64 0, Value.int IntKind.i64 0, Value.int IntKind.i64 0, Value.int IntKind.i64 0, Value.int IntKind.i64 0, Value.int IntKind.i64 0, Value.int IntKind.i64 0, Value.int IntKind.i64 0, Value.int IntKind.i64 0, Value.int IntKind.i64 0, Value.int IntKind.i64 0, Value.int IntKind.i64 0, Value.int IntKind.i64 0, Value.int IntKind.i64 0, Value.int IntKind.i64 0, Value.int IntKind.i64 0, Value.int IntKind.i64 0] 115)).mono (by rw [szal]; omega))
  have hs0 : ((w.alloc (.cells (nfL (.slice p0 n c0) (.slice p1 m c1) (pad m x0)).toArray 115)).alloc (.cells #[Value.slice none 0 0, Value.slice none 0 0, Value.int IntKind.i64 0, Value.int IntKind.i64 0, Value.int IntKind.i64 0, Value.int IntKind.i64 0, Value.int IntKind.i64 0, Value.int IntKind.i64 0, Value.int IntKind.i64 0, Value.int IntKind.i64 0, Value.int IntKind.i64 0, Value.int IntKind.i64 0, Value.int IntKind.i64 0, Value.int IntKind.i64 0, Value.int IntKind.i64 0, Value.int IntKind.i64 0, Value.int IntKind.i64 0, Value.int IntKind.i64 0, Value.int IntKind.i64 0, Value.int IntKind.i64 0, Value.int IntKind.i64 0, Value.int IntKind.i64 0, Value.int IntKind.i64 0, Value.int IntKind.i64 0, Value.int IntKind.i64 0, Value.int IntKind.i64 0, Value.int IntKind.i64 0, Value.int IntKind.i64 0, Value.int IntKind.i64 0, Value.int IntKind.i64 0, Value.int IntKind.i64 0, Value.int IntKind.i64 0, Value.int IntKind.i64 0, Value.int IntKind.i64 0, Value.int IntKind.i64 0, Value.int IntKind.i64 0, Value.int IntKind.i64 0, Value.int IntKind.i64 0, Value.int IntKind.i64 0, Value.int IntKind.i64 0, Value.int IntKind.i64 0, Value.int IntKind.i64 0] 115)).heap.size = w.heap.size + 2 := by simp
  have e0 := A0.n0
  have e1 := A0.n1
  clear h hB hx
  go_enter Tryz.func95, Tryz.ntmps95
  go_upto_region 1 with (fail)
  obtain ⟨w1, hw1⟩ : ∃ w1, (w.alloc (.cells (nfL (.slice p0 n c0) (.slice p1 m c1) (pad m x0)).toArray 115)).alloc (.cells #[Value.slice none 0 0, Value.slice none 0 0, Value.int IntKind.i64 0, Value.int IntKind.i64 0, Value.int IntKind.i64 0, Value.int IntKind.i64 0, Value.int IntKind.i64 0, Value.int IntKind.i64 0, Value.int IntKind.i64 0, Value.int IntKind.i64 0, Value.int IntKind.i64 0, Value.int IntKind.i64 0, Value.int IntKind.i64 0, Value.int IntKind.i64 0, Value.int IntKind.i64 0, Value.int IntKind.i64 0, Value.int IntKind.i64 0, Value.int IntKind.i64 0, Value.int IntKind.i64 0, Value.int IntKind.i64 0, Value.int IntKind.i64 0, Value.int IntKind.i64 0, Value.int IntKind.i64 0, Value.int IntKind.i64 0, Value.int IntKind.i64 0, Value.int IntKind.i64 0, Value.int IntKind.i64 0, Value.int IntKind.i64 0, Value.int IntKind.i64 0, Value.int IntKind.i64 0, Value.int IntKind.i64 0, Value.int IntKind.i64 0, Value.int IntKind.i64 0, Value.int IntKind.i64 0, Value.int IntKind.i64 0, Value.int IntKind.i64 0, Value.int IntKind.i64 0, Value.int IntKind.i64 0, Value.int IntKind.i64 0, Value.int IntKind.i64 0, Value.int IntKind.i64 0, Value.int IntKind.i64 0] 115) = w1 := ⟨_, rfl⟩
  rw [hw1] at A0 A1 B0 hs0 e0 e1 ⊢
  clear hw1
  have HA := Lib.hid A0
  have HA1 := Lib.hid A1
  have HB := Lib.hid B0
  replace hs0 := Nat.le_antisymm_iff.1 hs0
  clear A0 A1 B0
  go_step3
  go_wp2_with fail
  refine (cycles_any w1 _ n N m P lo hi (HV.out.below HB.out hhi) (by omega) HBN.out).mono ?_
  rintro e w3 ⟨vc, gc, rfl, oc, hgc, b3⟩
  obtain ⟨pc, cc, rfl⟩ := ownS_shE oc
  have hs3 := b3.size
  have HB3 := Lib.hid (HB.out.trans (b3.mono (by omega)))
  have HA3 := Lib.hid (HA.out.below b3 (by omega))
  have HA4 := Lib.hid (HA1.out.below b3 (by omega))
  generalize hY : (fun i => cyc P (fE n P m) (fD n P m) (chS n P m i)) = Y at *
  have HYE := Lib.hid hY
  have HC := Lib.hid (show OwnS w3 (.slice pc (chN n P m) cc) (chN n P m) 40 (fun j => ia (Y j)) gc by rw [← hY]; exact oc)
  clear oc b3 HB HA HA1 e0 e1 hY
  have hgc2 : gc ≠ w.heap.size ∧ gc ≠ w.heap.size + 1 ∨ chN n P m = 0 := by omega
  go_wp2_with fail
  go_step3
  go_wp2_with fail
  go_loopw [1, 6] (fun sv mv wr => ∃ (f : Nat) (x : Nat → Int) (tot st : Int), sv = .int .i64 st ∧ mv = .int .i64 tot ∧ 0 ≤ st ∧ st ≤ 32768 ∧ 0 ≤ tot ∧ tot ≤ 5000 ∧ 5000 - tot + st ≤ f ∧ rlS m P Y (chN n P m) f x tot st = rlx m P Y (chN n P m) x0 st0 ∧ (∀ k, k < m → -30000 ≤ x k ∧ x k ≤ 30000) ∧ Ob wr w.heap.size 42 (nfc (.slice p0 n c0) (.slice p1 m c1) (pad m x)) ∧ Ob wr (w.heap.size + 1) 42 (nfc (.slice none 0 0) (.slice none 0 0) (fun _ => 0)) ∧ OwnS wr (.slice pc (chN n P m) cc) (chN n P m) 40 (fun j => ia (Y j)) gc ∧ w3.heap.size ≤ wr.heap.size ∧ Below w.heap.size w wr) (fun sv mv _ => (5000 - intOf mv + intOf sv).toNat)
  case atStart => exact ⟨5000 + st0.toNat, x0, 0, st0, rfl, rfl, by omega, by omega, by omega, by omega, by omega, rfl, HX0.out, HA3.out, HA4.out, HC.out, Nat.le_refl _, HB3.out⟩
  case round =>
    obtain ⟨f, x, tot, st, rfl, rfl, s0, s1, t0, t1, hf, hrl, hxr, hob, ho1, hoc, hsz, hb⟩ := hrel
    have HRL := Lib.hid hrl
    have HXR := Lib.hid hxr
    have HOB := Lib.hid hob
    have HO1 := Lib.hid ho1
    have HOC := Lib.hid hoc
    have HBB := Lib.hid hb
    clear hrl hxr hob ho1 hoc hb HA3 HA4 HC HB3
    by_cases hs1 : 0 < st
    · have hd1 : decide (0 < st) = true := decide_eq_true hs1
      obtain ⟨f', rfl⟩ : ∃ f', f = f' + 1 := ⟨f - 1, by omega⟩
      have htot := And.intro t0 t1
      go_wp2_with fail
      go_loopw [6, 20] (fun mv iv wr2 => ∃ (k : Nat) (x' : Nat → Int) (mo : Int), mv = .int .i64 (tot + mo) ∧ iv = .int .i64 k ∧ k ≤ chN n P m ∧ (x', mo) = psS m P Y x st (5000 - tot) k ∧ Ob wr2 w.heap.size 42 (nfc (.slice p0 n c0) (.slice p1 m c1) (pad m x')) ∧ Ob wr2 (w.heap.size + 1) 42 (nfc (.slice none 0 0) (.slice none 0 0) (fun _ => 0)) ∧ OwnS wr2 (.slice pc (chN n P m) cc) (chN n P m) 40 (fun j => ia (Y j)) gc ∧ w3.heap.size ≤ wr2.heap.size ∧ Below w.heap.size w wr2) (fun _ iv _ => chN n P m - (intOf iv).toNat)
      case atStart => exact ⟨0, x, 0, by rw [Int.add_zero], rfl, Nat.zero_le _, rfl, HOB.out, HO1.out, HOC.out, hsz, HBB.out⟩
      case round =>
        obtain ⟨k, x', mo, rfl, rfl, hk, hps, hob, ho1, hoc, hsz2, hb⟩ := hrel
        have HPS := Lib.hid hps
        have hcnt : 0 ≤ mo ∧ mo ≤ 5000 - tot ∧ mo ≤ k := by
          have := psS_cnt (m := m) (P := P) (Y := Y) (x := x) (step := st) (show 0 ≤ 5000 - tot by omega) k
          rw [← hps] at this
          exact this
        have HXP := Lib.hid (show ∀ a, a < m → -30000 ≤ x' a ∧ x' a ≤ 30000 from fun a ha => by
          have := psS_rng (P := P) (Y := Y) (step := st) (left := 5000 - tot) HXR.out k a ha
          rw [← hps] at this
          exact this)
        have HOB := Lib.hid hob
        have HO1 := Lib.hid ho1
        have HC := Lib.hid hoc
        have BW := Lib.hid hb
        clear hps hob ho1 hoc hb HOC HBB
        have k0 : (0 : Int) ≤ (k : Int) := Int.natCast_nonneg _
        have hir : hi ≤ wr.heap.size := by omega
        by_cases hlt : k < chN n P m
        · have k1 : (k : Int) < (chN n P m : Int) := by omega
          obtain ⟨hcm, hcp⟩ := chS_at (n := n) (P := P) (m := m) hlt
          have HCR := Lib.hid (show ∀ a, a < 40 → -1 ≤ Y k a ∧ Y k a ≤ 1 from fun a _ => by rw [← HYE.out]; exact cyc_one HBN.out hcm hcp a)
          have HPC := Lib.hid (show ∀ t, (fun a => pad m x' a + Y k a * t) = pad m (fun a => x' a + t * Y k a) from fun t => by rw [← HYE.out]; exact pad_cyc HBN.out hcm x' t)
          have HMT := Lib.hid (show mvT m P (pad m x') (Y k) st = mvB m P x' (Y k) st by rw [← HYE.out]; exact mvT_pad HBN.out hcm)
          have HP1 := Lib.hid (show mo < 5000 - tot → mvB m P x' (Y k) st ≠ 0 → psS m P Y x st (5000 - tot) (k + 1) = (fun a => x' a + mvB m P x' (Y k) st * Y k a, mo + 1) from fun h1 h2 => ps_move HPS.out h1 h2)
          have HP2 := Lib.hid (show mo < 5000 - tot → mvB m P x' (Y k) st = 0 → psS m P Y x st (5000 - tot) (k + 1) = (x', mo) from fun h1 h2 => ps_stay HPS.out h1 (by omega) h2)
          have hmv := mvB_rng (m := m) (P := P) (x := x') (y := Y k) (st := st) (by omega)
          have HVI := Lib.hid (mvB_in (P := P) (x := x') (y := Y k) (st := st) HXP.out)
          have HMX := Lib.hid (rl_break (f := f') (by omega) htot hk HPS.out)
          obtain ⟨eq5, lg5, hKc, g5⟩ := own_rng HC.out hlt
          subst eq5
          generalize hy : Y k = y at *
          clear hy
          obtain ⟨Ly, hLy, eLy⟩ : ∃ L : List Value, arr y = List.toArray L ∧ L = arrL y := ⟨_, rfl, rfl⟩
          rw [← eLy] at g5
          have nLy : Ly.length = 40 := by rw [eLy, arr_len]
          have oLy : ∀ v ∈ Ly, v.oneCell' = true := by rw [eLy]; exact arr_oneL _
          have HLy := Lib.hid hLy
          have HEy := Lib.hid eLy
          clear hLy eLy
          have tC : (wr.alloc (.cells (arr fun _ => 0) 111)).there wr.heap.size 0 40 := (Ob.newA wr _ _).there
          generalize hmq : mvB m P x' y st = t at *
          clear hmq
          go_upto_region 8 with (first
            | (refine wpList_ixF rfl _ _ rfl gc _ _ k rfl rfl hlt ?_)
            | (refine wpList_ldF rfl _ rfl gc (k * 40) Ly rfl nLy g5 ?_)
            | (refine wpList_allocF rfl rfl ?_)
            | (refine wpList_stF rfl _ _ rfl wr.heap.size Ly rfl rfl nLy oLy tC ?_))
          clear tC g5
          have C0 := (Ob.newA wr (fun _ => 0) 111).setArr y
          rw [← HEy.out] at C0
          have bC := (below_new wr (.cells (arr fun _ => 0) 111)).trans (((Only.refl wr.heap.size (wr.alloc (.cells (arr fun _ => 0) 111))).setCs Ly 0).below (Nat.le_refl _))
          have lC := C0.lt
          obtain ⟨w5, hw5⟩ : ∃ w5, (wr.alloc (.cells (arr fun _ => 0) 111)).setCells wr.heap.size 0 Ly = w5 := ⟨_, rfl⟩
          obtain ⟨bc, hbc⟩ : ∃ bc, wr.heap.size = bc := ⟨_, rfl⟩
          rw [hw5] at C0 bC lC ⊢
          have s5 := bC.size
          rw [hbc] at C0 lC ⊢
          have hbc2 := Nat.le_antisymm_iff.1 hbc
          clear hw5 hbc
          have HC5 := Lib.hid C0
          have g1 : w5.rangeAt bc 0 Ly := by rw [HEy.out]; exact (HC5.out.congr (fun k _ => by rfl)).range
          clear C0
          have HB5 := Lib.hid (BW.out.trans (bC.mono (by omega)))
          have HOB5 := Lib.hid (HOB.out.below bC (by omega))
          have HO15 := Lib.hid (HO1.out.below bC (by omega))
          have HOC5 := Lib.hid (HC.out.below bC (by omega))
          have l5 : w.heap.size + 1 < w5.heap.size := by omega
          have gne : gc ≠ w.heap.size ∧ gc ≠ w.heap.size + 1 := by omega
          have hbd : ∀ a, a < 40 → -90000 ≤ y a * t ∧ y a * t ≤ 90000 := fun a ha => by
            have := mulc (b := 32768) hmv (HCR.out a ha)
            rw [Int.mul_comm]
            omega
          have HBD := Lib.hid hbd
          have HPR := Lib.hid (show ∀ a, -30000 ≤ pad m x' a ∧ pad m x' a ≤ 30000 from fun a => pad_rng HXP.out a)
          clear bC hbd HOB HO1 HC BW
          by_cases hmx : tot + mo = 5000
          · have hb5 : (tot + mo == 5000) = true := by simpa using hmx
            have HR := Lib.hid (show rlx m P Y (chN n P m) x0 st0 = (x', 5000) by rw [← HRL.out]; exact HMX.out hmx)
            clear HP1 HP2 HMX
            have g0 := HOB5.out.nall
            have t5 := HO15.out.there
            go_wp2_with (first
              | (refine wpList_ldN rfl _ rfl w.heap.size (.slice p0 n c0) (.slice p1 m c1) (pad m x') rfl g0 ?_)
              | (refine wpList_stN rfl _ _ rfl (w.heap.size + 1) (.slice p0 n c0) (.slice p1 m c1) (pad m x') rfl rfl rfl rfl t5 ?_))
            have a6 := HO15.out.nput (.slice p0 n c0) (.slice p1 m c1) (pad m x')
            try rw [Exit.noGoto_ret]
            refine bodyPost_ret (results_nf2 rfl rfl rfl a6) rfl ⟨by (first | rw [HYE.out, HR.out] | rw [HR.out]); try rfl, HB5.out.trans (((Only.refl (w.heap.size + 1) w5).setCs (nfL (.slice p0 n c0) (.slice p1 m c1) (pad m x')) 0).below (by omega))⟩
          · have hb5 : (tot + mo == 5000) = false := by simpa using hmx
            have hml : mo < 5000 - tot := by omega
            have hw1 : IntKind.i64.wrap (tot + mo + 1) = tot + mo + 1 := IntWalk.i64_in _ (by omega)
            have g0 := HOB5.out.nall
            by_cases ht0 : t = 0
            · have hb6 : (t != 0) = false := by simpa using ht0
              have HN := Lib.hid (HP2.out hml ht0)
              clear HP1 HP2 HMX ht0
              go_wp2_with (first
                | (refine wpList_ldN rfl _ rfl w.heap.size (.slice p0 n c0) (.slice p1 m c1) (pad m x') rfl g0 ?_)
                | (refine wpList_ldF rfl _ rfl bc 0 Ly rfl nLy g1 ?_)
                | (go_at_call 145; rw [← HLy.out]; refine (moveOf_any w5 p0 p1 c0 c1 n N m P lo hi (HV.out.below HB5.out hhi) (by omega) HBN.out (pad m x') (fun a _ => HPR.out a) y HCR.out st (by omega)).mono ?_; rintro e wX ⟨rfl, hbX⟩; rw [HMT.out]; have zX := hbX.size))
              go_roundw
              case rel => exact ⟨k + 1, x', mo, rfl, by go_num, hlt, HN.out.symm, HOB5.out.below hbX (by omega), HO15.out.below hbX (by omega), HOC5.out.below hbX (Nat.le_refl _), by omega, HB5.out.trans (hbX.mono (by omega))⟩
              case measure => simp [intOf]; omega
            · have hb6 : (t != 0) = true := by simpa using ht0
              have HN := Lib.hid (HP1.out hml ht0)
              have HPC2 := Lib.hid (HPC.out t)
              clear HP1 HP2 HMX ht0 HPC
              generalize hz : (fun a => x' a + t * y a) = z at *
              clear hz
              have HKS := Lib.hid (show ∀ W : World, Below w5.heap.size w5 W → W.rangeAt w.heap.size 0 (nfL (.slice p0 n c0) (.slice p1 m c1) (pad m x')) ∧ W.rangeAt bc 0 Ly from fun W hW => ⟨range_blockN g0 (hW.block _ (by omega)), range_blockN g1 (hW.block _ lC)⟩)
              go_upto_region 12 with (first
                | (refine wpList_ldN rfl _ rfl w.heap.size (.slice p0 n c0) (.slice p1 m c1) (pad m x') rfl g0 ?_)
                | (refine wpList_ldF rfl _ rfl bc 0 Ly rfl nLy g1 ?_)
                | (refine wpList_ldN rfl _ rfl w.heap.size (.slice p0 n c0) (.slice p1 m c1) (pad m x') rfl g2 ?_)
                | (refine wpList_ldF rfl _ rfl bc 0 Ly rfl nLy g3 ?_)
                | (go_at_call 145; rw [← HLy.out]; refine (moveOf_any w5 p0 p1 c0 c1 n N m P lo hi (HV.out.below HB5.out hhi) (by omega) HBN.out (pad m x') (fun a _ => HPR.out a) y HCR.out st (by omega)).mono ?_; rintro e wX ⟨rfl, hbX⟩; rw [HMT.out]; have zX := hbX.size; have g2 := (HKS.out wX hbX).1; have g3 := (HKS.out wX hbX).2)
                | (go_at_call 146; have hpc := plusCycle_any wX (.slice p0 n c0) (.slice p1 m c1) rfl rfl (pad m x') y t (fun a ha => by have h1 := HBD.out a ha; have h2 := HPR.out a; omega) (fun a ha => by have h1 := HBD.out a ha; omega); rw [HPC2.out, HLy.out] at hpc; refine hpc.mono ?_; clear hpc; rintro e wC ⟨rfl, hbC⟩; have zC := hbC.size; have hC5 := hbX.trans (hbC.mono zX); have t5 := (HOB5.out.below hC5 (by omega)).there)
                | (refine wpList_stN rfl _ _ rfl w.heap.size (.slice p0 n c0) (.slice p1 m c1) (pad m z) rfl rfl rfl rfl t5 ?_))
              have oy := (Only.refl w.heap.size wC).setCs (nfL (.slice p0 n c0) (.slice p1 m c1) (pad m z)) 0
              have zz : wC.heap.size ≤ (wC.setCells w.heap.size 0 (nfL (.slice p0 n c0) (.slice p1 m c1) (pad m z))).heap.size := (oy.below (B := 0) (Nat.zero_le _)).size
              have q1 := Lib.hid ((HOB5.out.below hC5 (by omega)).nput (.slice p0 n c0) (.slice p1 m c1) (pad m z))
              have q2 := Lib.hid ((HO15.out.below hC5 (by omega)).only oy (by omega))
              have q3 := Lib.hid ((HOC5.out.below hC5 (Nat.le_refl _)).keep (.inr (oy.block gc gne.1)))
              have q4 := Lib.hid ((HB5.out.trans (hC5.mono (by omega))).trans (oy.below (Nat.le_refl _)))
              obtain ⟨wS, hwS⟩ : ∃ wS, wC.setCells w.heap.size 0 (nfL (.slice p0 n c0) (.slice p1 m c1) (pad m z)) = wS := ⟨_, rfl⟩
              rw [hwS] at q1 q2 q3 q4 zz ⊢
              have zS : w3.heap.size ≤ wS.heap.size := by omega
              clear hwS oy zz g2 g3 g0 g1 hbX hbC hC5 t5
              go_wp2_with fail
              go_roundw
              case rel => exact ⟨k + 1, z, mo + 1, by rw [Int.add_assoc], by go_num, hlt, HN.out.symm, q1.out, q2.out, q3.out, zS, q4.out⟩
              case measure => simp [intOf]; omega
        · have hkn : k = chN n P m := by omega
          have HRN := Lib.hid (show rlS m P Y (chN n P m) f' x' (tot + mo) (if mo = 0 then st / 2 else st) = rlx m P Y (chN n P m) x0 st0 by rw [← rl_pass (by omega) htot (by rw [← hkn]; exact HPS.out)]; exact HRL.out)
          have k1 : ¬ ((k : Int) < (chN n P m : Int)) := by omega
          clear hkn
          by_cases hm0 : mo = 0
          · subst hm0
            have hR2 := HRN.out
            rw [if_pos rfl] at hR2
            have HR2 := Lib.hid hR2
            have hb5 : (tot + 0 == tot) = true := by simp
            have hd4 : st.tdiv 2 = st / 2 := Int.tdiv_eq_ediv_of_nonneg s0
            have hq0 : 0 ≤ st / 2 ∧ st / 2 < st := by omega
            clear hR2
            go_wp2_with fail
            go_roundw
            case rel => exact ⟨f', x', tot + 0, st / 2, rfl, rfl, by omega, by omega, by omega, by omega, by omega, HR2.out, HXP.out, HOB.out, HO1.out, HC.out, hsz2, BW.out⟩
            case measure => simp [intOf]; omega
          · have hR2 := HRN.out
            rw [if_neg hm0] at hR2
            have HR2 := Lib.hid hR2
            have hb5 : (tot + mo == tot) = false := by simpa using (show ¬ tot + mo = tot by omega)
            clear hR2
            go_wp2_with fail
            go_roundw
            case rel => exact ⟨f', x', tot + mo, st, rfl, rfl, by omega, by omega, by omega, by omega, by omega, HR2.out, HXP.out, HOB.out, HO1.out, HC.out, hsz2, BW.out⟩
            case measure => simp [intOf]; omega
    · have hd1 : decide (0 < st) = false := decide_eq_false hs1
      have HR := Lib.hid (show rlx m P Y (chN n P m) x0 st0 = (x, tot) by rw [← HRL.out, rlS_stop (by omega)])
      have g0 := HOB.out.nall
      have t5 := HO1.out.there
      go_wp2_with (first
        | (refine wpList_ldN rfl _ rfl w.heap.size (.slice p0 n c0) (.slice p1 m c1) (pad m x) rfl g0 ?_)
        | (refine wpList_stN rfl _ _ rfl (w.heap.size + 1) (.slice p0 n c0) (.slice p1 m c1) (pad m x) rfl rfl rfl rfl t5 ?_))
      have a6 := HO1.out.nput (.slice p0 n c0) (.slice p1 m c1) (pad m x)
      try rw [Exit.noGoto_ret]
      refine bodyPost_ret (results_nf2 rfl rfl rfl a6) rfl ⟨by (first | rw [HYE.out, HR.out] | rw [HR.out]); try rfl, HBB.out.trans (((Only.refl (w.heap.size + 1) wr).setCs (nfL (.slice p0 n c0) (.slice p1 m c1) (pad m x)) 0).below (by omega))⟩
end Go.Proofs.YtdbgcbkmcbgdiaaGreat.mem

namespace Go.Proofs.YtdbgcbkmcbgdiaaGreat.mem
open Go.RowKit
set_option linter.unusedVariables false

def LIIPost (w : World) (cnt : Nat) (d : Nat → Int) (a c : Int) (e : Ending) (w' : World) : Prop :=
  ∃ v g, e = .returned (.tuple #[v, .int .i64 a, .int .i64 c]) ∧ OwnS w' v cnt 1 (fun i _ => .int .i64 (d i)) g ∧ w.heap.size ≤ g ∧ Below w.heap.size w w'
theorem lii_err {w w' : World} {cnt : Nat} {d : Nat → Int} {a c c' : Int} {e : Ending} (h0 : cnt = 0) (ha : a = 0) (hc : c = c') (he : e = .returned (.tuple #[.slice none 0 0, .int .i64 0, .int .i64 c])) (hb : Below w.heap.size w w') : LIIPost w cnt d a c' e w' := by
  subst h0 hc ha
  exact ⟨_, w.heap.size, he, OwnS.none_ _ _ _ _, Nat.le_refl _, hb⟩
theorem lii_ok {w w' : World} {v : Value} {cnt n g : Nat} {d : Nat → Int} {a a' c c' : Int} {e : Ending} (h0 : n = cnt) (ha : a = a') (hc : c = c') (he : e = .returned (.tuple #[v, .int .i64 a, .int .i64 c])) (h : Own w' v n d g) (hg : w.heap.size ≤ g) (hb : Below w.heap.size w w') : LIIPost w cnt d a' c' e w' := by
  subst h0 ha hc
  exact ⟨v, g, he, h.ownS, hg, hb⟩
noncomputable def rfC (n : Nat) (N : Nat → Nod) (m : Nat) (P : Nat → Pip) (K : Nat) (d : Nat → Int) (st : Int) : Int := if flC n N m P K d = 0 then (if stB st = true then 0 else 2) else flC n N m P K d
def rfR (n : Nat) (m : Nat) (P : Nat → Pip) (d : Nat → Int) (st : Int) : (Nat → Int) × Int := rlx m P (fun i => cyc P (fE n P m) (fD n P m) (chS n P m i)) (chN n P m) d st
noncomputable def rfN (n : Nat) (N : Nat → Nod) (m : Nat) (P : Nat → Pip) (K : Nat) (d : Nat → Int) (st : Int) : Nat := if rfC n N m P K d st = 0 then m else 0
noncomputable def rfM (n : Nat) (N : Nat → Nod) (m : Nat) (P : Nat → Pip) (K : Nat) (d : Nat → Int) (st : Int) : Int := if rfC n N m P K d st = 0 then (rfR n m P d st).2 else 0
theorem bits_and_i64_nat (a b : Nat) (ha : a < 4294967296) (hb : b < 4294967296) : bits .and .i64 (a : Int) (b : Int) = ((a &&& b : Nat) : Int) := by
  have hx : a &&& b < 2 ^ 32 := Nat.and_lt_two_pow _ (by omega)
  have h1 : (BitVec.ofInt 64 (a : Int)).toNat = a := by
    rw [BitVec.ofInt_natCast, BitVec.toNat_ofNat]; exact Nat.mod_eq_of_lt (by omega)
  have h2 : (BitVec.ofInt 64 (b : Int)).toNat = b := by
    rw [BitVec.ofInt_natCast, BitVec.toNat_ofNat]; exact Nat.mod_eq_of_lt (by omega)
  show IntKind.i64.wrap ((BitVec.ofInt 64 (a : Int) &&& BitVec.ofInt 64 (b : Int)).toNat : Int) = _
  rw [BitVec.toNat_and, h1, h2]
  exact IntWalk.i64_in _ (by omega)
theorem stB_no {x : Int} (h : inR x 1 32768 = false) : stB x = false := by
  cases hs : stB x
  · rfl
  · have h1 := stB_rng hs
    rw [inR_iff.2 h1] at h
    exact absurd h (by simp)
theorem isStep_any (x : Int) (w : World) : Calls Tryz.prog 93 #[.int .i64 x] w fun e w' => e = .returned (.bool (stB x)) ∧ w = w' := by
  cases hx : inR x 1 32768
  · have HS := Lib.hid (stB_no hx)
    have HX := Lib.hid hx
    clear hx
    go_enter Tryz.func93, Tryz.ntmps93
    go_wp2_with (go_at_call 109; refine (inRange_any _ _ _ _).mono ?_; rintro e w' ⟨rfl, rfl⟩; rw [HX.out])
    go_ret
    exact ⟨ret_b HS.out.symm, rfl⟩
  · obtain ⟨h0, h1⟩ := inR_iff.1 hx
    have HX := Lib.hid hx
    obtain ⟨k, rfl⟩ := Int.eq_ofNat_of_zero_le (show 0 ≤ x by omega)
    have hw : IntKind.i64.wrap ((k : Int) - 1) = (k : Int) - 1 := IntWalk.i64_in _ (by omega)
    have hb : bits .and .i64 (k : Int) ((k : Int) - 1) = ((k &&& (k - 1) : Nat) : Int) := by
      rw [show (k : Int) - 1 = ((k - 1 : Nat) : Int) by omega]
      exact bits_and_i64_nat _ _ (by omega) (by omega)
    have hp := and_p2 16 k (by omega) (by have : (2 : Nat) ^ 16 = 65536 := by decide
                                          omega)
    have hs : stB (k : Int) = p2N 16 k := by
      unfold stB
      rw [Int.toNat_natCast, decide_eq_true (show (0 : Int) < (k : Int) by omega), Bool.and_true]
    clear hx
    cases h2 : p2N 16 k
    · have HS := Lib.hid (hs.trans h2)
      have hq : (((k &&& (k - 1) : Nat) : Int) == 0) = false := by
        have : ¬ (k &&& (k - 1)) = 0 := fun e => by rw [hp.1 e] at h2; exact absurd h2 (by simp)
        simpa using this
      clear hp hs h2
      go_enter Tryz.func93, Tryz.ntmps93
      go_wp2_with (go_at_call 109; refine (inRange_any _ _ _ _).mono ?_; rintro e w' ⟨rfl, rfl⟩; rw [HX.out])
      go_ret
      exact ⟨ret_b HS.out.symm, rfl⟩
    · have HS := Lib.hid (hs.trans h2)
      have hq : (((k &&& (k - 1) : Nat) : Int) == 0) = true := by
        have := hp.2 h2
        rw [this]
        rfl
      clear hp hs h2
      go_enter Tryz.func93, Tryz.ntmps93
      go_wp2_with (go_at_call 109; refine (inRange_any _ _ _ _).mono ?_; rintro e w' ⟨rfl, rfl⟩; rw [HX.out])
      go_ret
      exact ⟨ret_b HS.out.symm, rfl⟩
theorem info_nf : (Tryz.prog.info? 115).map (fun i => (i.zero, i.size, i.bytes)) = some (some (.agg (nfL (.slice none 0 0) (.slice none 0 0) fun _ => 0).toArray), 42, 368) := by kernel_rfl
theorem run_allocN (w : World) : (Instr.alloc 115 true (.tuple #[])).run Tryz.prog w = .ok (.pointer (some ⟨w.heap.size, 0, none⟩)) (w.alloc (.cells (nfL (.slice none 0 0) (.slice none 0 0) fun _ => 0).toArray 115)) := by
  obtain ⟨i0, hi0, hz0, hz1, hz2⟩ := info_parts info_nf
  simp [Instr.alloc, zeroValue, typeInfo, hi0, hz0, newVar, newRow, Value.cells]
/-- flows with their network, all zero -/
theorem wpList_allocN {ops : Array Oper} {rest : List Oper} {o : Oper} {a : Act} {w : World} {Q : Exit → Act → World → Prop} (hg : o.guard = none) (ho : o.op = .alloc 115)
    (h : wpList Tryz.prog ops Q rest (a.put o.dst (.pointer (some ⟨w.heap.size, 0, none⟩))) (w.alloc (.cells (nfL (.slice none 0 0) (.slice none 0 0) fun _ => 0).toArray 115))) : wpList Tryz.prog ops Q (o :: rest) a w := by
  refine wpList_plain hg fun K hK => ?_
  unfold Oper.wp execOp
  simp only [ho, Sem.run_bind, run_allocN, Result.andThen_ok]
  exact hK _ _ h
set_option maxRecDepth 100000 in
set_option maxHeartbeats 8000000 in
theorem relaxFlowsI_any (w : World) (v : Value) (n : Nat) (N : Nat → Nod) (m : Nat) (P : Nat → Pip) (lo hi : Nat) (h : NetAt w v n N m P lo hi) (hhi : hi ≤ w.heap.size) (hN : ∀ i, i < n → (N i).s.size ≤ 9223372036854775807) (va : Value) (K : Nat) (d : Nat → Int) (la ha : Nat) (hv : Sl w va K d la ha) (hha : ha ≤ w.heap.size) (hK9 : K ≤ 9223372036854775807)  (st : Int) :
    Calls Tryz.prog 45 #[v, va, .int .i64 st] w (LIIPost w (rfN n N m P K d st) (rfR n m P d st).1 (rfM n N m P K d st) (rfC n N m P K d st)) := by
  obtain ⟨p0, c0, p1, c1, rfl, hn9, hm9⟩ := h.parts
  have HV := Lib.hid h
  have HN := Lib.hid hN
  have HSV := Lib.hid hv
  obtain ⟨pa, ca, rfl⟩ := hv.sh
  have A0 := (boxed w (.slice p0 n c0) (.slice p1 m c1) 27).keep (Below.heap_alloc _ (.cells #[.slice pa K ca] 28) _ (by rw [szal]; omega))
  have B0 := (below_new w (.cells #[.slice p0 n c0, .slice p1 m c1] 27)).trans ((below_new _ (.cells #[.slice pa K ca] 28)).mono (by rw [szal]; omega))
  have hs0 : ((w.alloc (.cells #[.slice p0 n c0, .slice p1 m c1] 27)).alloc (.cells #[.slice pa K ca] 28)).heap.size = w.heap.size + 1 + 1 := by simp
  have y0' := cell_newV (w.alloc (.cells #[.slice p0 n c0, .slice p1 m c1] 27)) (.slice pa K ca) 28
  simp only [szal] at y0'
  clear h hN hv
  go_enter Tryz.func45, Tryz.ntmps45
  have e0' := A0.b0
  have e1' := A0.b1
  go_wp2_with fail
  refine (checkFlows_any _ _ n N m P lo hi (HV.out.below B0 hhi) (by omega) HN.out _ _ y0' (by omega) K d la ha (HSV.out.below B0 hha) (by omega) hK9).mono ?_
  rintro e w1 ⟨rfl, b1⟩
  have A1 := A0.below b1 (by omega)
  have B1 := B0.trans (b1.mono (by omega))
  have hs1 := b1.size
  have e0 := A1.b0
  have e1 := A1.b1
  have e2 : w.heap.size < w1.heap.size := by omega
  clear A0 B0 b1 e0' e1'
  by_cases hc : flC n N m P K d = 0
  · obtain ⟨hB, rfl, hf⟩ := flC_ok hc
    have hm40 := (net_sz hB).2.2
    have HB := Lib.hid hB
    have HC := Lib.hid hc
    have HF := Lib.hid (show ∀ k, k < K → -30000 ≤ d k ∧ d k ≤ 30000 from fun k hk => flQ_iff.1 (flB_iff.1 hf k hk))
    rw [hc]
    clear hc hB hf
    cases hst : stB st
    · have H4 := Lib.hid (show rfC n N K P K d st = 2 by unfold rfC; rw [if_pos HC.out, hst]; rfl)
      have H3 := Lib.hid (show rfN n N K P K d st = 0 by unfold rfN; rw [H4.out]; rfl)
      have H2 := Lib.hid (show rfM n N K P K d st = 0 by unfold rfM; rw [H4.out]; rfl)
      go_wp2_with (go_at_call 93; refine (isStep_any _ _).mono ?_; rintro e w' ⟨rfl, rfl⟩; rw [hst])
      go_ret3
      exact lii_err H3.out H2.out H4.out.symm rfl B1
    · have H4 := Lib.hid (show rfC n N K P K d st = 0 by unfold rfC; rw [if_pos HC.out, hst]; rfl)
      have H3 := Lib.hid (show rfN n N K P K d st = K by unfold rfN; rw [H4.out]; rfl)
      have H2 := Lib.hid (show rfM n N K P K d st = (rfR n K P d st).2 by unfold rfM; rw [H4.out]; rfl)
      have hsr := stB_rng hst
      have HREL := Lib.hid (fun (W : World) (hW : Below w.heap.size w W) => relaxedFrom_any W p0 p1 c0 c1 n N K P lo hi (HV.out.below hW hhi) (Nat.le_trans hhi hW.size) HB.out d HF.out st hsr)
      have hRR : rlx K P (fun i => cyc P (fE n P K) (fD n P K) (chS n P K i)) (chN n P K) d st = rfR n K P d st := rfl
      rw [hRR] at HREL
      clear hRR
      generalize hr : rfR n K P d st = r at *
      have HRE := Lib.hid hr
      clear hr
      go_upto_region 7 with (first
        | (go_at_call 93; refine (isStep_any _ _).mono ?_; rintro e w' ⟨rfl, rfl⟩; rw [hst])
        | (go_at_call 94; refine (withFlows_any _ p0 p1 c0 c1 n K _ K d la ha (HSV.out.below B1 hha) (by omega) hm40).mono ?_; rintro e wX ⟨rfl, hbX⟩; have zX := hbX.size; have BX := B1.trans (hbX.mono (by omega)))
        | (go_at_call 95; refine (HREL.out wX BX).mono ?_; rintro e wY ⟨rfl, hbY⟩; have zY := hbY.size; have BY := BX.trans (hbY.mono BX.size); have tY := (Ob.newN wY (.slice none 0 0) (.slice none 0 0) (fun _ => 0) 115).there)
        | (refine wpList_allocN rfl rfl ?_)
        | (refine wpList_stN rfl _ _ rfl wY.heap.size (.slice p0 n c0) (.slice p1 K c1) (pad K r.1) rfl rfl rfl rfl tY ?_; obtain ⟨wZ, hwZ⟩ : ∃ wZ, (wY.alloc (.cells (nfL (.slice none 0 0) (.slice none 0 0) fun _ => 0).toArray 115)).setCells wY.heap.size 0 (nfL (.slice p0 n c0) (.slice p1 K c1) (pad K r.1)) = wZ := ⟨_, rfl⟩; rw [hwZ]; have HWZ := Lib.hid hwZ; clear hwZ))
      have C0 := (Ob.newN wY (.slice none 0 0) (.slice none 0 0) (fun _ => 0) 115).nput (.slice p0 n c0) (.slice p1 K c1) (pad K r.1)
      have bZ := (below_new wY (.cells (nfL (.slice none 0 0) (.slice none 0 0) fun _ => 0).toArray 115)).trans (((Only.refl wY.heap.size (wY.alloc (.cells (nfL (.slice none 0 0) (.slice none 0 0) fun _ => 0).toArray 115))).setCs (nfL (.slice p0 n c0) (.slice p1 K c1) (pad K r.1)) 0).below (Nat.le_refl _))
      rw [HWZ.out] at C0 bZ
      clear tY
      have sZ := bZ.size
      have BZ := BY.trans (bZ.mono BY.size)
      have bYZ := (hbX.trans (hbY.mono zX)).trans (bZ.mono (by omega))
      have f0 := (A1.below bYZ (by omega)).b0
      have f1 := (A1.below bYZ (by omega)).b1
      have g2 := C0.nrange
      obtain ⟨Lx, hLx, eLx⟩ : ∃ L : List Value, arr (pad K r.1) = List.toArray L ∧ L = arrL (pad K r.1) := ⟨_, rfl, rfl⟩
      rw [← eLx] at g2
      have nLx : Lx.length = 40 := by rw [eLx, arr_len]
      have HLx := Lib.hid hLx
      obtain ⟨bq, hbq⟩ : ∃ bq, wY.heap.size = bq := ⟨_, rfl⟩
      rw [hbq] at g2 ⊢
      clear hLx eLx e0 e1 bYZ A1 B1 BX BY hbX hbY bZ hbq C0
      go_wp2_with (first
        | (refine wpList_ldF rfl _ rfl bq 2 Lx rfl nLx g2 ?_)
        | (go_at_call 96; rw [← HLx.out]; refine (listOf_any _ p0 p1 n K c0 c1 _ hm40).mono ?_; rintro e wL ⟨v5, g5, rfl, o5, hg5, hb5⟩))
      go_ret3
      exact lii_ok H3.out.symm H2.out.symm H4.out.symm rfl (o5.congr (fun k hk => by rw [HRE.out]; exact pad_at hk)) (by have := BZ.size; omega) (BZ.trans (hb5.mono BZ.size))
  · have hb1 : (flC n N m P K d != 0) = true := by simpa using hc
    have H4 := Lib.hid (show rfC n N m P K d st = flC n N m P K d by unfold rfC; rw [if_neg hc])
    have H3 := Lib.hid (show rfN n N m P K d st = 0 by unfold rfN; rw [H4.out, if_neg hc])
    have H2 := Lib.hid (show rfM n N m P K d st = 0 by unfold rfM; rw [H4.out, if_neg hc])
    clear hc
    go_wp2_with fail
    go_ret3
    exact lii_err H3.out H2.out H4.out.symm rfl B1
end Go.Proofs.YtdbgcbkmcbgdiaaGreat.mem

namespace Go.Proofs.YtdbgcbkmcbgdiaaGreat.mem
open Go.RowKit
set_option linter.unusedVariables false

theorem owns_sl1 {w : World} {v : Value} {n b : Nat} {d : Nat → Int} (h : OwnS w v n 1 (fun i _ => .int .i64 (d i)) b) : Sl w v n d 0 w.heap.size := by
  obtain ⟨p', cap, hv, h1, h2, h3⟩ := h.ex
  refine ⟨p', cap, hv, ?_⟩
  rcases h3 with h3 | ⟨h3, h4⟩
  · exact .inl h3
  · refine .inr ⟨b, 0, h3, Nat.zero_le _, h4.lt, fun k hk => ?_⟩
    have := h4.cell k 0 hk (by omega)
    simpa using this
theorem stB_one : stB 1 = true := by decide
noncomputable def slN (n : Nat) (N : Nat → Nod) (m : Nat) (P : Nat → Pip) (K : Nat) (d : Nat → Int) : Nat := if ffC n N m P K d = 0 then m else 0
noncomputable def slM (n : Nat) (N : Nat → Nod) (m : Nat) (P : Nat → Pip) (K : Nat) (d : Nat → Int) : Int := if ffC n N m P K d = 0 then (rfR n m P (fflN n P m d) 32768).2 else 0
theorem rf_of {n : Nat} {N : Nat → Nod} {m : Nat} {P : Nat → Pip} {x : Nat → Int} {st : Int} (hB : netB n N m P = true) (hf : flB x m = true) (hs : stB st = true) : rfC n N m P m x st = 0 ∧ rfN n N m P m x st = m ∧ rfM n N m P m x st = (rfR n m P x st).2 := by
  have h0 : rfC n N m P m x st = 0 := by unfold rfC; rw [if_pos (flC_is hB hf), if_pos hs]
  exact ⟨h0, by unfold rfN; rw [if_pos h0], by unfold rfM; rw [if_pos h0]⟩
set_option maxRecDepth 100000 in
set_option maxHeartbeats 8000000 in
theorem solveLoopsS_any (w : World) (v : Value) (n : Nat) (N : Nat → Nod) (m : Nat) (P : Nat → Pip) (lo hi : Nat) (h : NetAt w v n N m P lo hi) (hhi : hi ≤ w.heap.size) (hN : ∀ i, i < n → (N i).s.size ≤ 9223372036854775807) (va : Value) (K : Nat) (d : Nat → Int) (la ha : Nat) (hv : Sl w va K d la ha) (hha : ha ≤ w.heap.size) (hK9 : K ≤ 9223372036854775807) :
    Calls Tryz.prog 40 #[v, va] w (LIPost w (slN n N m P K d) (rfR n m P (fflN n P m d) 32768).1 (ffC n N m P K d)) := by
  obtain ⟨p0, c0, p1, c1, rfl, hn9, hm9⟩ := h.parts
  have HV := Lib.hid h
  have HN := Lib.hid hN
  obtain ⟨pa, ca, rfl⟩ := hv.sh
  have HSV := Lib.hid hv
  have A0 := boxed w (.slice p0 n c0) (.slice p1 m c1) 27
  have B0 := below_new w (.cells #[.slice p0 n c0, .slice p1 m c1] 27)
  have hs0 : (w.alloc (.cells #[.slice p0 n c0, .slice p1 m c1] 27)).heap.size = w.heap.size + 1 := by simp
  clear h hN hv
  go_enter Tryz.func40, Tryz.ntmps40
  have e0' := A0.b0
  have e1' := A0.b1
  go_wp2_with fail
  refine (forestFlowsS_any _ _ n N m P lo hi (HV.out.below B0 hhi) (by omega) HN.out _ K d la ha (HSV.out.below B0 hha) (by omega) hK9).mono ?_
  rintro e w1 ⟨vr, gr, rfl, or, hgr, b1⟩
  have A1 := A0.below b1 (by omega)
  have B1 := B0.trans (b1.mono (by omega))
  have hs1 := b1.size
  have e0 := A1.b0
  have e1 := A1.b1
  have e2 : w.heap.size < w1.heap.size := by omega
  clear A0 B0 b1 e0' e1'
  by_cases hc : ffC n N m P K d = 0
  rotate_left 1
  · obtain ⟨p9, c9, rfl⟩ := ownS_shE or
    have hb1 : (ffC n N m P K d != 0) = true := by simpa using hc
    have H3 := Lib.hid (show slN n N m P K d = 0 by unfold slN; rw [if_neg hc])
    have H2 := Lib.hid (show slM n N m P K d = 0 by unfold slM; rw [if_neg hc])
    clear hc or
    go_wp2_with fail
    go_ret2
    exact li_err H3.out rfl rfl B1
  · obtain ⟨hB, hKn, hfd, hev, hff⟩ := ffC_ok hc
    have h3 : slN n N m P K d = m := by unfold slN; rw [if_pos hc]
    have h2 : slM n N m P K d = (rfR n m P (fflN n P m d) 32768).2 := by unfold slM; rw [if_pos hc]
    have hfn : ffN n N m P K d = m := by unfold ffN; rw [if_pos hc]
    have HN3 := Lib.hid h3
    have HM2 := Lib.hid h2
    have HCC := Lib.hid hc
    rw [hc]
    rw [hfn] at or
    have OS := owns_sl1 or
    obtain ⟨p9, c9, rfl⟩ := ownS_shE or
    have hpc := l11Relax_any w1 _ n N m P lo hi (HV.out.below B1 hhi) (by omega) HN.out hB _ (fflN n P m d) 0 _ OS (Nat.le_refl _) (fun k hk => flQ_iff.1 (flB_iff.1 hff k hk)) 32768 (by omega)
    rw [show rlx m P (fun i => cyc P (fE n P m) (fD n P m) (chS n P m i)) (chN n P m) (fflN n P m d) 32768 = (rfR n m P (fflN n P m d) 32768) from rfl] at hpc
    generalize hr : (rfR n m P (fflN n P m d) 32768) = r at *
    have HRE := Lib.hid hr
    clear hr OS hB hff hev hfd hfn h2 h3 hc or
    go_wp2_with fail
    refine hpc.mono ?_
    rintro e w2 ⟨v2, g2, rfl, o2, hg2, b2⟩
    clear hpc
    go_wp2_with fail
    go_ret2
    rw [HN3.out, HCC.out, HRE.out]
    exact ⟨v2, g2, rfl, o2.ownS, by omega, B1.trans (b2.mono B1.size)⟩

end Go.Proofs.YtdbgcbkmcbgdiaaGreat.mem

namespace Go.Proofs.YtdbgcbkmcbgdiaaGreat.mem
open Go.RowKit
set_option linter.unusedVariables false

theorem csm_bdW {R s : Nat → Int} {z : Int} : ∀ {k : Nat}, (∀ i, i < k → -4000000 ≤ s i ∧ s i ≤ 4000000) → -4000000 * (k : Int) ≤ csm R s k z ∧ csm R s k z ≤ 4000000 * (k : Int)
  | 0, _ => by show _ ≤ (0 : Int) ∧ (0 : Int) ≤ _; omega
  | k + 1, h => by
    have ih := csm_bdW (R := R) (s := s) (z := z) (k := k) (fun i hi => h i (by omega))
    have h1 := h k (by omega)
    unfold csm
    split <;> omega
set_option maxRecDepth 100000 in
set_option maxHeartbeats 8000000 in
theorem l06EvenW_any (w : World) (v : Value) (n : Nat) (N : Nat → Nod) (m : Nat) (P : Nat → Pip) (lo hi : Nat) (h : NetAt w v n N m P lo hi) (hhi : hi ≤ w.heap.size) (hN : ∀ i, i < n → (N i).s.size ≤ 9223372036854775807) (hB : netB n N m P = true) (va : Value) (s : Nat → Int) (la ha : Nat) (hv : Sl w va n s la ha) (hha : ha ≤ w.heap.size) (hf : ∀ i, i < n → -4000000 ≤ s i ∧ s i ≤ 4000000) :
    Calls Tryz.prog 49 #[v, va] w fun e w' => e = .returned (.bool (evB n P m s)) ∧ Below w.heap.size w w' := by
  obtain ⟨p0, c0, p1, c1, rfl, hn9, hm9⟩ := h.parts
  obtain ⟨hn1, hn24, hm40⟩ := net_sz hB
  have HV := Lib.hid h
  have HN := Lib.hid hN
  have HB := Lib.hid hB
  have HFR := Lib.hid hf
  obtain ⟨pa, ca, rfl, hva⟩ := hv
  have HVZ := Lib.hid hva
  have A0 := boxed w (.slice p0 n c0) (.slice p1 m c1) 27
  have B0 := below_new w (.cells #[.slice p0 n c0, .slice p1 m c1] 27)
  have hs0 : (w.alloc (.cells #[.slice p0 n c0, .slice p1 m c1] 27)).heap.size = w.heap.size + 1 := by simp
  have m1 := fun W => make_int64 W n (by omega)
  have n0 : (0 : Int) ≤ (n : Int) := Int.natCast_nonneg _
  clear h hN hB hva hf
  go_enter Tryz.func49, Tryz.ntmps49
  have e0' := A0.b0
  have e1' := A0.b1
  go_wp2_with fail
  refine (l04Components_any _ _ n N m P lo hi (HV.out.below B0 hhi) (by omega) HN.out HB.out).mono ?_
  rintro e w1 ⟨gc, rfl, hgc, oc, b1⟩
  have B1 := B0.trans (b1.mono (by omega))
  have hs1 := b1.size
  have b2 := below_new w1 (.cells (zeros n) 2)
  have lc := oc.lt
  have HS := Lib.hid (Ob.zeros w1 n)
  have HC := Lib.hid (oc.below b2 lc)
  have HBB := Lib.hid (B1.trans (b2.mono (by omega)))
  have hgl : w.heap.size < w1.heap.size := by omega
  clear A0 B0 e0' e1' b1 b2 oc B1 hs0 hs1 hgc
  go_wp2_with fail
  obtain ⟨w2, hw2⟩ : ∃ w2, w1.alloc (.cells (zeros n) 2) = w2 := ⟨_, rfl⟩
  obtain ⟨gs, hgs⟩ : ∃ gs, w1.heap.size = gs := ⟨_, rfl⟩
  rw [hw2] at HC HBB HS ⊢
  rw [hgs] at HS lc hgl ⊢
  clear hw2 hgs m1
  go_loopw [7] (fun iv wr => ∃ k : Nat, iv = .int .i64 k ∧ k ≤ n ∧ Ob wr gs n (ia (fun z => csm (cmpN n P m) s k ((z : Nat) : Int))) ∧ Ob wr gc n (tabC (cmp n P m n)) ∧ Below w.heap.size w wr) (fun iv _ => n - (intOf iv).toNat)
  case atStart => exact ⟨0, rfl, Nat.zero_le _, HS.out.congr (fun k _ => rfl), HC.out, HBB.out⟩
  case round =>
    obtain ⟨k, rfl, hk, os, oc, hb⟩ := hrel
    clear HS HC HBB
    have HS := Lib.hid os
    have HC := Lib.hid oc
    have HBB := Lib.hid hb
    clear os oc hb
    generalize hQ : Exit.then _ _ = Q
    have HQ := Lib.hid hQ
    clear hQ
    have k0 : (0 : Int) ≤ (k : Int) := Int.natCast_nonneg _
    by_cases hlt : k < n
    · have k1 : (k : Int) < (n : Int) := by omega
      obtain ⟨r, hr, hcr⟩ := cmp_nat (P := P) (m := m) HB.out hlt
      have yc : wr.cell? ⟨gc, k, none⟩ = some (.int .i64 (r : Nat)) := by rw [← hcr]; exact HC.out.cell k hlt
      obtain ⟨ba, oa, rfl, g1, g2, hx⟩ : ∃ b o, pa = some ⟨b, o, none⟩ ∧ la ≤ b ∧ b < ha ∧ ∀ k, k < n → w.cell? ⟨b, o + k, none⟩ = some (.int .i64 (s k)) := by
        rcases HVZ.out with e | e
        · omega
        · exact e
      have ya : wr.cell? ⟨ba, oa + k, none⟩ = some (.int .i64 (s k)) := (HBB.out.cell (p := ⟨ba, oa + k, none⟩) (by show ba < w.heap.size; omega)).trans (hx k hlt)
      have HX := Lib.hid hx
      clear hx
      have ys : wr.cell? ⟨gs, r, none⟩ = some (.int .i64 (csm (cmpN n P m) s k ((r : Nat) : Int))) := HS.out.cell r hr
      have yz := HS.out.free r
      have hb1 := csm_bdW (R := cmpN n P m) (s := s) (z := ((r : Nat) : Int)) (k := k) (fun i hi => HFR.out i (by omega))
      have hd := HFR.out k hlt
      have a1 : -4611686018427387904 ≤ csm (cmpN n P m) s k ((r : Nat) : Int) + s k ∧ csm (cmpN n P m) s k ((r : Nat) : Int) + s k ≤ 4611686018427387904 := by omega
      have r0 : (0 : Int) ≤ (r : Int) := Int.natCast_nonneg _
      have r1 : (r : Int) < (n : Int) := by omega
      have HU := Lib.hid (show ∀ z : Nat, upd (fun z => csm (cmpN n P m) s k ((z : Nat) : Int)) r (csm (cmpN n P m) s k ((r : Nat) : Int) + s k) z = csm (cmpN n P m) s (k + 1) ((z : Nat) : Int) from fun z => by
        simp only [upd]
        rw [csm]
        unfold cmpN
        rw [hcr]
        by_cases e : z = r
        · subst e; rw [if_pos rfl, if_pos rfl]
        · rw [if_neg e, if_neg (show ¬ ((r : Nat) : Int) = ((z : Nat) : Int) by omega), Int.add_zero])
      have o1 := (Only.refl gs wr).setCell r (.int .i64 (csm (cmpN n P m) s k ((r : Nat) : Int) + s k))
      have HS1 := Lib.hid (HS.out.setIn r (csm (cmpN n P m) s k ((r : Nat) : Int) + s k) hr)
      have HC1 := Lib.hid (HC.out.only o1 (by omega))
      have HB1 := Lib.hid (HBB.out.trans (o1.below (B := w.heap.size) (by omega)))
      clear hb1 hd hcr o1
      go_wp2_with fail
      go_still_tail 18, (by kernel_rfl)
      change wpList _ _ _ _ _ wr.drew
      go_wp2_with fail
      rw [← HQ.out]
      refine ⟨⟨_, _, _, _, _, _, _, _, _, _, _, _, _, _, _, _, _, _, _, _, _, _, _, _, _, ?rel, rfl⟩, ?measure⟩
      case rel => exact ⟨k + 1, by go_num, hlt, (HS1.out.congr (fun z _ => by unfold ia; rw [HU.out z])).keep rfl, HC1.out.keep rfl, below_drw HB1.out⟩
      case measure => simp [intOf]; omega
    · have hkn : n = k := by omega
      have hr : Ob wr gs n (ia (fun z => csm (cmpN n P m) s n ((z : Nat) : Int))) := by
        have := HS.out
        rwa [← hkn] at this
      have HR := Lib.hid hr
      have k1 : ¬ ((k : Int) < (n : Int)) := by omega
      clear hkn hr
      go_wp2_with fail
      rw [← HQ.out]
      go_wp2_with fail
      refine (l05Zero_any _ _ n _ _ _ (HR.out.sl n n (Nat.le_refl _)) (by omega)).mono ?_
      rintro e w9 ⟨rfl, rfl⟩
      go_wp2_with fail
      go_ret
      exact ⟨rfl, HBB.out⟩
end Go.Proofs.YtdbgcbkmcbgdiaaGreat.mem

namespace Go.Proofs.YtdbgcbkmcbgdiaaGreat.mem
open Go.RowKit
set_option linter.unusedVariables false

theorem ffl_bd {n : Nat} {N : Nat → Nod} {P : Nat → Pip} {m : Nat} (hN : netB n N m P = true) {s : Nat → Int} (hs : ∀ i, i < n → -30000 ≤ s i ∧ s i ≤ 30000) (a : Nat) : ∀ k, k ≤ n → -30000 * (k : Int) ≤ ffl P (fE n P m) (fD n P m) s k a ∧ ffl P (fE n P m) (fD n P m) s k a ≤ 30000 * (k : Int)
  | 0, _ => by show _ ≤ (0 : Int) ∧ (0 : Int) ≤ _; omega
  | k + 1, hk => by
    have ih := ffl_bd hN hs a k (by omega)
    have h1 := (fo_net hN).asc_rng (z := ((k : Nat) : Int)) ⟨by omega, by omega⟩ a
    have h2 := hs k (by omega)
    unfold ffl
    rcases (by omega : asc P (fE n P m) (fD n P m) ((k : Nat) : Int) a = -1 ∨ asc P (fE n P m) (fD n P m) ((k : Nat) : Int) a = 0 ∨ asc P (fE n P m) (fD n P m) ((k : Nat) : Int) a = 1) with e | e | e
    all_goals
      rw [e]
      omega
def ssX (n m : Nat) (P : Nat → Pip) (d s : Nat → Int) (k : Nat) : Int := d k + 1 * fflN n P m s k + -1 * fflN n P m (suD m P d) k
def ssB (n m : Nat) (P : Nat → Pip) (d s : Nat → Int) : Bool := flB (fflN n P m s) m && flB (fflN n P m (suD m P d)) m && flB (ssX n m P d s) m
noncomputable def ssC (n : Nat) (N : Nat → Nod) (m : Nat) (P : Nat → Pip) (K : Nat) (d : Nat → Int) (L : Nat) (s : Nat → Int) : Int :=
  if flC n N m P K d = 0 then (if liB n L s = true then (if evB n P m s = true then (if flB (suD m P d) n = true then (if ssB n m P d s = true then 0 else 2) else 2) else 5) else 3) else flC n N m P K d
noncomputable def ssN (n : Nat) (N : Nat → Nod) (m : Nat) (P : Nat → Pip) (K : Nat) (d : Nat → Int) (L : Nat) (s : Nat → Int) : Nat := if ssC n N m P K d L s = 0 then m else 0
theorem sv_li {n : Nat} {N : Nat → Nod} {m : Nat} {P : Nat → Pip} {L : Nat} {s : Nat → Int} (hB : netB n N m P = true) : svC n N m P L s = if liB n L s = true then 0 else 3 := by
  unfold svC
  rw [if_pos hB]
  cases hl : liB n L s
  · rw [if_neg (fun g => by rw [liB_iff.2 g] at hl; cases hl)]
    rfl
  · rw [if_pos (liB_iff.1 hl)]
    rfl
theorem ss_ff {n : Nat} {N : Nat → Nod} {m : Nat} {P : Nat → Pip} {K : Nat} {d : Nat → Int} {L : Nat} {s : Nat → Int} (hc : flC n N m P K d = 0) (h : ffC n N m P L s ≠ 0) : ssC n N m P K d L s = ffC n N m P L s := by
  obtain ⟨hB, _, _⟩ := flC_ok hc
  unfold ssC ffC at *
  rw [if_pos hc]
  rw [sv_li hB] at h ⊢
  cases hl : liB n L s
  · rfl
  · rw [hl] at h
    simp only [if_true] at h ⊢
    cases he : evB n P m s
    · rfl
    · rw [he] at h
      simp only [if_true] at h ⊢
      cases hf : flB (fflN n P m s) m
      · have hq : ssB n m P d s = false := by unfold ssB; rw [hf]; rfl
        rw [hq]
        simp
      · rw [hf] at h
        simp at h
theorem ss_su {n : Nat} {N : Nat → Nod} {m : Nat} {P : Nat → Pip} {K : Nat} {d : Nat → Int} {L : Nat} {s : Nat → Int} (hc : flC n N m P K d = 0) (h : ffC n N m P L s = 0) (hu : suC n N m P K d ≠ 0) : suC n N m P K d = 2 ∧ ssC n N m P K d L s = 2 := by
  obtain ⟨hB, _, hf0⟩ := flC_ok hc
  obtain ⟨_, h1, h2, h3, h4⟩ := ffC_ok h
  have hl : liB n L s = true := liB_iff.2 ⟨h1, h2⟩
  have hs : flB (suD m P d) n = false := by
    cases hx : flB (suD m P d) n
    · rfl
    · exfalso
      apply hu
      unfold suC
      rw [if_pos hc, if_pos (show flB (fun z => dv P d m ((z : Nat) : Int)) n = true from hx)]
  refine ⟨by unfold suC; rw [if_pos hc, if_neg (by rw [show (fun z => dv P d m ((z : Nat) : Int)) = suD m P d from rfl, hs]; simp)], ?_⟩
  unfold ssC
  rw [if_pos hc, if_pos hl, if_pos h3, if_neg (by rw [hs]; simp)]
theorem su_ok {n : Nat} {N : Nat → Nod} {m : Nat} {P : Nat → Pip} {K : Nat} {d : Nat → Int} (hc : flC n N m P K d = 0) (hu : suC n N m P K d = 0) : flB (suD m P d) n = true := by
  unfold suC at hu
  rw [if_pos hc] at hu
  split at hu
  · next h => exact h
  · omega
theorem ss_fo {n : Nat} {N : Nat → Nod} {m : Nat} {P : Nat → Pip} {K : Nat} {d : Nat → Int} {L : Nat} {s : Nat → Int} (hc : flC n N m P K d = 0) (h : ffC n N m P L s = 0) (hu : suC n N m P K d = 0) (hp : ffC n N m P n (suD m P d) ≠ 0) : ffC n N m P n (suD m P d) = 2 ∧ ssC n N m P K d L s = 2 := by
  obtain ⟨hB, _, _⟩ := flC_ok hc
  obtain ⟨_, h1, h2, h3, h4⟩ := ffC_ok h
  have hl : liB n L s = true := liB_iff.2 ⟨h1, h2⟩
  have hs := su_ok hc hu
  have he : evB n P m (suD m P d) = true := even_of hB (fun z _ => rfl)
  have hf : flB (fflN n P m (suD m P d)) m = false := by
    cases hx : flB (fflN n P m (suD m P d)) m
    · rfl
    · exfalso
      apply hp
      unfold ffC
      rw [if_pos (svC_is hB hs), if_pos he, if_pos hx]
  refine ⟨by unfold ffC; rw [if_pos (svC_is hB hs), if_pos he, if_neg (by rw [hf]; simp)], ?_⟩
  unfold ssC ssB
  rw [if_pos hc, if_pos hl, if_pos h3, if_pos hs, h4, hf]
  rfl
theorem ss_all {n : Nat} {N : Nat → Nod} {m : Nat} {P : Nat → Pip} {K : Nat} {d : Nat → Int} {L : Nat} {s : Nat → Int} (hc : flC n N m P K d = 0) (h : ffC n N m P L s = 0) (hu : suC n N m P K d = 0) (hp : ffC n N m P n (suD m P d) = 0) : ssC n N m P K d L s = if flB (ssX n m P d s) m = true then 0 else 2 := by
  obtain ⟨hB, _, _⟩ := flC_ok hc
  obtain ⟨_, h1, h2, h3, h4⟩ := ffC_ok h
  obtain ⟨_, _, _, _, h5⟩ := ffC_ok hp
  unfold ssC ssB
  rw [if_pos hc, if_pos (liB_iff.2 ⟨h1, h2⟩), if_pos h3, if_pos (su_ok hc hu), h4, h5]
  rfl
end Go.Proofs.YtdbgcbkmcbgdiaaGreat.mem

namespace Go.Proofs.YtdbgcbkmcbgdiaaGreat.mem
open Go.RowKit
set_option linter.unusedVariables false

set_option maxRecDepth 100000 in
set_option maxHeartbeats 8000000 in
theorem flowsWith_any (w : World) (v : Value) (n : Nat) (N : Nat → Nod) (m : Nat) (P : Nat → Pip) (lo hi : Nat) (h : NetAt w v n N m P lo hi) (hhi : hi ≤ w.heap.size) (hN : ∀ i, i < n → (N i).s.size ≤ 9223372036854775807) (va : Value) (K : Nat) (d : Nat → Int) (la ha : Nat) (hv : Sl w va K d la ha) (hha : ha ≤ w.heap.size) (hK9 : K ≤ 9223372036854775807) (vb : Value) (L : Nat) (s : Nat → Int) (lb hb : Nat) (hu : Sl w vb L s lb hb) (hhb : hb ≤ w.heap.size) (hL9 : L ≤ 9223372036854775807) :
    Calls Tryz.prog 44 #[v, va, vb] w (LIPost w (ssN n N m P K d L s) (ssX n m P d s) (ssC n N m P K d L s)) := by
  obtain ⟨p0, c0, p1, c1, rfl, hn9, hm9⟩ := h.parts
  have HV := Lib.hid h
  have HN := Lib.hid hN
  obtain ⟨pa, ca, rfl⟩ := hv.sh
  obtain ⟨pb, cb, rfl⟩ := hu.sh
  have HSV := Lib.hid hv
  have HSU := Lib.hid hu
  have A0 := (boxed w (.slice p0 n c0) (.slice p1 m c1) 27).keep (Below.heap_alloc _ (.cells #[.slice pa K ca] 28) _ (by rw [szal]; omega))
  have B0 := (below_new w (.cells #[.slice p0 n c0, .slice p1 m c1] 27)).trans ((below_new _ (.cells #[.slice pa K ca] 28)).mono (by rw [szal]; omega))
  have hs0 : ((w.alloc (.cells #[.slice p0 n c0, .slice p1 m c1] 27)).alloc (.cells #[.slice pa K ca] 28)).heap.size = w.heap.size + 1 + 1 := by simp
  have y0' := cell_newV (w.alloc (.cells #[.slice p0 n c0, .slice p1 m c1] 27)) (.slice pa K ca) 28
  simp only [szal] at y0'
  clear h hN hv hu
  go_enter Tryz.func44, Tryz.ntmps44
  have e0' := A0.b0
  have e1' := A0.b1
  go_wp2_with fail
  refine (checkFlows_any _ _ n N m P lo hi (HV.out.below B0 hhi) (by omega) HN.out _ _ y0' (by omega) K d la ha (HSV.out.below B0 hha) (by omega) hK9).mono ?_
  rintro e w1 ⟨rfl, b1⟩
  have A1 := A0.below b1 (by omega)
  have B1 := B0.trans (b1.mono (by omega))
  have z1 := b1.size
  have u1 : w.heap.size < w1.heap.size := by omega
  have e0 := A1.b0
  have e1 := A1.b1
  clear A0 B0 b1 e0' e1' y0' hs0
  by_cases hc : flC n N m P K d = 0
  rotate_left 1
  · have hb1 : (flC n N m P K d != 0) = true := by simpa using hc
    have H4 := Lib.hid (show ssC n N m P K d L s = flC n N m P K d by unfold ssC; rw [if_neg hc])
    have H3 := Lib.hid (show ssN n N m P K d L s = 0 by unfold ssN; rw [H4.out, if_neg hc])
    clear hc
    go_wp2_with fail
    go_ret2
    exact li_err H3.out H4.out.symm rfl B1
  obtain ⟨hB, hKm, hf⟩ := flC_ok hc
  subst hKm
  obtain ⟨hn1, hn24, hm40⟩ := net_sz hB
  have HBN := Lib.hid hB
  have HCC := Lib.hid hc
  have HFL := Lib.hid hf
  rw [hc]
  clear hc hB hf
  go_wp2_with fail
  refine (forestFlowsI_any _ _ n N K P lo hi (HV.out.below B1 hhi) (by omega) HN.out _ L s lb hb (HSU.out.below B1 hhb) (by omega) hL9).mono ?_
  rintro e w2 ⟨vw, gw, rfl, ow, hgw, b2⟩
  have A2 := A1.below b2 (by omega)
  have B2 := B1.trans (b2.mono (by omega))
  have z2 := b2.size
  have u2 : w.heap.size < w2.heap.size := by omega
  clear A1 B1 b2 e0 e1
  have e0 := A2.b0
  have e1 := A2.b1
  obtain ⟨pw, cw, rfl⟩ := ownS_shE ow
  by_cases hfs : ffC n N K P L s = 0
  rotate_left 1
  · have hb1 : (ffC n N K P L s != 0) = true := by simpa using hfs
    have H4 := Lib.hid (ss_ff HCC.out hfs)
    have H3 := Lib.hid (show ssN n N K P K d L s = 0 by unfold ssN; rw [H4.out, if_neg hfs])
    clear hfs ow
    go_wp2_with fail
    go_ret2
    exact li_err H3.out H4.out.symm rfl B2
  have HFS := Lib.hid hfs
  obtain ⟨_, _, _, _, hwf⟩ := ffC_ok hfs
  rw [show ffN n N K P L s = K by unfold ffN; rw [if_pos hfs]] at ow ⊢
  have HWF := Lib.hid hwf
  have lw := ow.lt
  have OW := Lib.hid (owns_sl1 ow)
  rw [hfs]
  clear hfs hwf ow
  go_wp2_with fail
  refine (suppliesOfI_any _ _ n N K P lo hi (HV.out.below B2 hhi) (by omega) HN.out _ K d la ha (HSV.out.below B2 hha) (by omega) hK9).mono ?_
  rintro e w3 ⟨vo, go, rfl, oo, hgo, b3⟩
  have A3 := A2.below b3 (by omega)
  have B3 := B2.trans (b3.mono (by omega))
  have z3 := b3.size
  have u3 : w.heap.size < w3.heap.size := by omega
  have OW3 := Lib.hid (OW.out.below b3 (Nat.le_refl _))
  clear A2 B2 b3 e0 e1 OW
  have e0 := A3.b0
  have e1 := A3.b1
  obtain ⟨po, co, rfl⟩ := ownS_shE oo
  by_cases hsu : suC n N K P K d = 0
  rotate_left 1
  · have hb1 : (suC n N K P K d != 0) = true := by simpa using hsu
    obtain ⟨q2, q4⟩ := ss_su HCC.out HFS.out hsu
    have H4 := Lib.hid (show ssC n N K P K d L s = suC n N K P K d by rw [q2, q4])
    have H3 := Lib.hid (show ssN n N K P K d L s = 0 by unfold ssN; rw [H4.out, if_neg hsu])
    clear hsu oo q2 q4
    go_wp2_with fail
    go_ret2
    exact li_err H3.out H4.out.symm rfl B3
  have HSC := Lib.hid hsu
  rw [show suN n N K P K d = n by unfold suN; rw [if_pos hsu]] at oo ⊢
  have OO := Lib.hid (owns_sl1 oo)
  rw [hsu]
  clear hsu oo
  go_wp2_with fail
  refine (forestFlowsI_any _ _ n N K P lo hi (HV.out.below B3 hhi) (by omega) HN.out _ n (suD K P d) 0 w3.heap.size OO.out (Nat.le_refl _) hn9).mono ?_
  rintro e w4 ⟨vp, gp, rfl, op, hgp, b4⟩
  have A4 := A3.below b4 (by omega)
  have B4 := B3.trans (b4.mono (by omega))
  have z4 := b4.size
  have u4 : w.heap.size < w4.heap.size := by omega
  have OW4 := Lib.hid (OW3.out.below b4 (by omega))
  clear A3 B3 b4 e0 e1 OW3 OO
  have e0 := A4.b0
  have e1 := A4.b1
  obtain ⟨pp, cp, rfl⟩ := ownS_shE op
  by_cases hfp : ffC n N K P n (suD K P d) = 0
  rotate_left 1
  · have hb1 : (ffC n N K P n (suD K P d) != 0) = true := by simpa using hfp
    obtain ⟨q2, q4⟩ := ss_fo HCC.out HFS.out HSC.out hfp
    have H4 := Lib.hid (show ssC n N K P K d L s = ffC n N K P n (suD K P d) by rw [q2, q4])
    have H3 := Lib.hid (show ssN n N K P K d L s = 0 by unfold ssN; rw [H4.out, if_neg hfp])
    clear hfp op q2 q4
    go_wp2_with fail
    go_ret2
    exact li_err H3.out H4.out.symm rfl B4
  have HSS := Lib.hid (ss_all HCC.out HFS.out HSC.out hfp)
  obtain ⟨_, _, _, _, hpf⟩ := ffC_ok hfp
  rw [show ffN n N K P n (suD K P d) = K by unfold ffN; rw [if_pos hfp]] at op ⊢
  have HPF := Lib.hid hpf
  have OP4 := Lib.hid (owns_sl1 op)
  rw [hfp]
  clear hfp hpf op
  obtain ⟨xw, hxw⟩ : ∃ x : Nat → Int, fflN n P K s = x := ⟨_, rfl⟩
  obtain ⟨xp, hxp⟩ : ∃ x : Nat → Int, fflN n P K (suD K P d) = x := ⟨_, rfl⟩
  rw [hxw] at OW4 HWF
  rw [hxp] at OP4 HPF
  have HX := Lib.hid (show ssX n K P d s = fun k => d k + 1 * xw k + -1 * xp k by unfold ssX; rw [hxw, hxp])
  clear hxw hxp
  have hr1 : ∀ k, k < 40 → -30000 ≤ pad K d k ∧ pad K d k ≤ 30000 := fun k _ => by
    unfold pad
    split
    · next hk => exact flQ_iff.1 (flB_iff.1 HFL.out k hk)
    · omega
  have hr2 : ∀ k, k < 40 → -30000 ≤ pad K xw k ∧ pad K xw k ≤ 30000 := fun k _ => by
    unfold pad
    split
    · next hk => exact flQ_iff.1 (flB_iff.1 HWF.out k hk)
    · omega
  have hr3 : ∀ k, k < 40 → -30000 ≤ pad K xp k ∧ pad K xp k ≤ 30000 := fun k _ => by
    unfold pad
    split
    · next hk => exact flQ_iff.1 (flB_iff.1 HPF.out k hk)
    · omega
  have HP1 := Lib.hid (show ∀ k, k < 40 → (-4611686018427387904 ≤ pad K d k + pad K xw k * 1 ∧ pad K d k + pad K xw k * 1 ≤ 4611686018427387904) ∧ (-4611686018427387904 ≤ pad K xw k * 1 ∧ pad K xw k * 1 ≤ 4611686018427387904) from fun k hk => by have := hr1 k hk; have := hr2 k hk; omega)
  have HP2 := Lib.hid (show ∀ k, k < 40 → (-4611686018427387904 ≤ (fun k => pad K d k + pad K xw k * 1) k + pad K xp k * -1 ∧ (fun k => pad K d k + pad K xw k * 1) k + pad K xp k * -1 ≤ 4611686018427387904) ∧ (-4611686018427387904 ≤ pad K xp k * -1 ∧ pad K xp k * -1 ≤ 4611686018427387904) from fun k hk => by have := hr1 k hk; have := hr2 k hk; have := hr3 k hk; dsimp only; omega)
  have HZ := Lib.hid (show flB (fun k => (fun k => pad K d k + pad K xw k * 1) k + pad K xp k * -1) 40 = flB (ssX n K P d s) K from by
    rw [HX.out, flB_ext hm40 (fun k hk => by dsimp only; unfold pad; rw [if_neg (by omega), if_neg (by omega), if_neg (by omega)]; rfl)]
    refine flB_congr fun k hk => ?_
    dsimp only
    unfold pad
    rw [if_pos hk, if_pos hk, if_pos hk]
    omega)
  have HQ := Lib.hid (show ∀ k, k < K → (fun k => (fun k => pad K d k + pad K xw k * 1) k + pad K xp k * -1) k = ssX n K P d s k from fun k hk => by
    rw [HX.out]
    dsimp only
    unfold pad
    rw [if_pos hk, if_pos hk, if_pos hk]
    omega)
  have K0 : Below w4.heap.size w4 w4.drew := below_drw (Below.refl _ _)
  have HD1 := Lib.hid (fun (W : World) (hW : Below w4.heap.size w4 W) => arrayOf_any W (.slice pa K ca) K d la ha (HSV.out.below (B4.trans (hW.mono (by omega))) hha) (by have := hW.size; omega) hm40)
  have HD2 := Lib.hid (fun (W : World) (hW : Below w4.heap.size w4 W) => arrayOf_any W (.slice pw K cw) K xw _ _ (OW4.out.below hW (by omega)) (by have := hW.size; omega) hm40)
  have HD3 := Lib.hid (fun (W : World) (hW : Below w4.heap.size w4 W) => arrayOf_any W (.slice pp K cp) K xp _ _ (OP4.out.below hW (Nat.le_refl _)) (by have := hW.size; omega) hm40)
  have KS : ∀ W : World, Below w4.heap.size w4 W → (W.cell? ⟨w.heap.size, 0, none⟩ = some (.slice p0 n c0) ∧ W.cell? ⟨w.heap.size, 1, none⟩ = some (.slice p1 K c1)) := fun W hW => ⟨(hW.cell (p := ⟨w.heap.size, 0, none⟩) u4).trans e0, (hW.cell (p := ⟨w.heap.size, 1, none⟩) u4).trans e1⟩
  generalize hX1 : pad K d = X1 at *
  generalize hX2 : pad K xw = X2 at *
  generalize hX3 : pad K xp = X3 at *
  clear hX1 hX2 hX3 hr1 hr2 hr3
  have HPL1 := Lib.hid (fun (W : World) => plus_any W X1 X2 1 (fun k hk => (HP1.out k hk).1) (fun k hk => (HP1.out k hk).2))
  obtain ⟨X4, hX4⟩ : ∃ X4 : Nat → Int, (fun k => X1 k + X2 k * 1) = X4 := ⟨_, rfl⟩
  rw [hX4] at HPL1 HP2 HZ HQ
  have HPL2 := Lib.hid (fun (W : World) => plus_any W X4 X3 (-1) (fun k hk => (HP2.out k hk).1) (fun k hk => (HP2.out k hk).2))
  obtain ⟨X5, hX5⟩ : ∃ X5 : Nat → Int, (fun k => X4 k + X3 k * -1) = X5 := ⟨_, rfl⟩
  rw [hX5] at HPL2 HZ HQ
  clear hX4 hX5
  go_wp2_with fail
  go_region_held3 (fun w' : World => w'.cell? ⟨w.heap.size, 0, none⟩ = some (.slice p0 n c0) ∧ w'.cell? ⟨w.heap.size, 1, none⟩ = some (.slice p1 K c1))
    (first | exact ⟨e0, e1⟩ | exact KS _ KF | exact KS _ KE | exact KS _ KD | exact KS _ KC | exact KS _ KB | exact KS _ KA)
    (first
      | (go_at_call 90; refine (flowListOf_any _ p0 p1 n K c0 c1 _ hm40).mono ?_; rintro e wF ⟨hbF, hcase⟩; obtain ⟨v2, cd, rfl, hout⟩ := flo_out hcase; have KF := KE.trans (hbF.mono KE.size))
      | (go_at_call 92; have hpre := KD; go_loud (with_reducible refine (HPL2.out _).mono ?_); rintro e wE ⟨rfl, hbE⟩; have KE := KD.trans (hbE.mono KD.size))
      | (go_at_call 91; have hpre := KC; refine (HD3.out _ KC).mono ?_; rintro e wD ⟨rfl, hbD⟩; have KD := KC.trans (hbD.mono KC.size))
      | (go_at_call 92; with_reducible refine (HPL1.out _).mono ?_; rintro e wC ⟨rfl, hbC⟩; have KC := KB.trans (hbC.mono KB.size))
      | (go_at_call 91; have hpre := KA; refine (HD2.out _ KA).mono ?_; rintro e wB ⟨rfl, hbB⟩; have KB := KA.trans (hbB.mono KA.size))
      | (go_at_call 91; refine (HD1.out _ K0).mono ?_; rintro e wA ⟨rfl, hbA⟩; have KA := K0.trans (hbA.mono K0.size)))
  go_wp2_with fail
  go_ret2
  have BF := B4.trans (KF.mono (by omega))
  rcases hout.out with ⟨hz, rfl, g, ho, hg⟩ | ⟨hz, rfl, rfl⟩
  · rw [HZ.out] at hz
    have H4 := Lib.hid (show ssC n N K P K d L s = 0 by rw [HSS.out, hz]; rfl)
    exact li_ok (show K = _ by unfold ssN; rw [H4.out]; rfl) (by rw [H4.out]; rfl) (ho.congr HQ.out) (by have := KE.size; omega) BF
  · rw [HZ.out] at hz
    have H4 := Lib.hid (show ssC n N K P K d L s = 2 by rw [HSS.out, hz]; rfl)
    exact li_err (show _ = 0 by unfold ssN; rw [H4.out]; rfl) H4.out.symm rfl BF
set_option maxRecDepth 100000 in
set_option maxHeartbeats 8000000 in
theorem solveStepI_any (w : World) (v : Value) (n : Nat) (N : Nat → Nod) (m : Nat) (P : Nat → Pip) (lo hi : Nat) (h : NetAt w v n N m P lo hi) (hhi : hi ≤ w.heap.size) (hN : ∀ i, i < n → (N i).s.size ≤ 9223372036854775807) (va : Value) (K : Nat) (d : Nat → Int) (la ha : Nat) (hv : Sl w va K d la ha) (hha : ha ≤ w.heap.size) (hK9 : K ≤ 9223372036854775807) (vb : Value) (L : Nat) (s : Nat → Int) (lb hb : Nat) (hu : Sl w vb L s lb hb) (hhb : hb ≤ w.heap.size) (hL9 : L ≤ 9223372036854775807) :
    Calls Tryz.prog 11 #[v, va, vb] w (LIPost w (ssN n N m P K d L s) (rfR n m P (ssX n m P d s) 1).1 (ssC n N m P K d L s)) := by
  obtain ⟨p0, c0, p1, c1, rfl, hn9, hm9⟩ := h.parts
  have HV := Lib.hid h
  have HN := Lib.hid hN
  obtain ⟨pa, ca, rfl⟩ := hv.sh
  obtain ⟨pb, cb, rfl⟩ := hu.sh
  have A0 := boxed w (.slice p0 n c0) (.slice p1 m c1) 27
  have B0 := below_new w (.cells #[.slice p0 n c0, .slice p1 m c1] 27)
  have hs0 : (w.alloc (.cells #[.slice p0 n c0, .slice p1 m c1] 27)).heap.size = w.heap.size + 1 := by simp
  have HC := Lib.hid (flowsWith_any _ _ n N m P lo hi (HV.out.below B0 hhi) (by omega) HN.out _ K d la ha (hv.below B0 hha) (by omega) hK9 _ L s lb hb (hu.below B0 hhb) (by omega) hL9)
  clear h hN hv hu
  go_enter Tryz.func11, Tryz.ntmps11
  have e0' := A0.b0
  have e1' := A0.b1
  go_wp2_with fail
  refine HC.out.mono ?_
  rintro e w1 ⟨vr, gr, rfl, or, hgr, b1⟩
  have A1 := A0.below b1 (by omega)
  have B1 := B0.trans (b1.mono (by omega))
  have z1 := b1.size
  have u1 : w.heap.size < w1.heap.size := by omega
  have e0 := A1.b0
  have e1 := A1.b1
  clear A0 B0 b1 e0' e1' hs0 HC
  obtain ⟨p9, c9, rfl⟩ := ownS_shE or
  by_cases hc : ssC n N m P K d L s = 0
  rotate_left 1
  · have hb1 : (ssC n N m P K d L s != 0) = true := by simpa using hc
    have H3 := Lib.hid (show ssN n N m P K d L s = 0 by unfold ssN; rw [if_neg hc])
    clear hc or
    go_wp2_with fail
    go_ret2
    exact li_err H3.out rfl rfl B1
  have hmm : ssN n N m P K d L s = m := by unfold ssN; rw [if_pos hc]
  have HM := Lib.hid hmm
  have HCC := Lib.hid hc
  obtain ⟨hB, hx⟩ : netB n N m P = true ∧ flB (ssX n m P d s) m = true := by
    unfold ssC at hc
    split at hc
    · next h0 =>
      refine ⟨(flC_ok h0).1, ?_⟩
      split at hc
      · split at hc
        · split at hc
          · split at hc
            · next h4 =>
              unfold ssB at h4
              rw [Bool.and_eq_true] at h4
              exact h4.2
            · omega
          · omega
        · omega
      · omega
    · next h0 => exact absurd hc h0
  obtain ⟨q1, q2, q3⟩ := rf_of hB hx stB_one
  have hm40 := (net_sz hB).2.2
  rw [hmm] at or ⊢
  have OS := owns_sl1 or
  have hpc := relaxFlowsI_any w1 _ n N m P lo hi (HV.out.below B1 hhi) (by omega) HN.out _ m (ssX n m P d s) 0 _ OS (Nat.le_refl _) (by omega) 1
  rw [q1, q2, q3] at hpc
  generalize hr : (rfR n m P (ssX n m P d s) 1) = r at *
  have HRE := Lib.hid hr
  rw [hc]
  clear hr OS hB hx hmm hc or q1 q2 q3
  go_wp2_with fail
  refine hpc.mono ?_
  rintro e w2 ⟨v2, g2, rfl, o2, hg2, b2⟩
  clear hpc
  obtain ⟨p8, c8, rfl⟩ := ownS_shE o2
  go_wp2_with fail
  go_ret2
  rw [HM.out, HCC.out, HRE.out]
  exact ⟨_, g2, rfl, o2, by omega, B1.trans (b2.mono B1.size)⟩
end Go.Proofs.YtdbgcbkmcbgdiaaGreat.mem

namespace Go.Proofs.YtdbgcbkmcbgdiaaGreat.mem
open Go.RowKit
set_option linter.unusedVariables false

set_option maxRecDepth 100000 in
set_option maxHeartbeats 8000000 in
theorem solveStepS_any (w : World) (v : Value) (n : Nat) (N : Nat → Nod) (m : Nat) (P : Nat → Pip) (lo hi : Nat) (h : NetAt w v n N m P lo hi) (hhi : hi ≤ w.heap.size) (hN : ∀ i, i < n → (N i).s.size ≤ 9223372036854775807) (va : Value) (K : Nat) (d : Nat → Int) (la ha : Nat) (hv : Sl w va K d la ha) (hha : ha ≤ w.heap.size) (hK9 : K ≤ 9223372036854775807) (vb : Value) (L : Nat) (s : Nat → Int) (lb hb : Nat) (hu : Sl w vb L s lb hb) (hhb : hb ≤ w.heap.size) (hL9 : L ≤ 9223372036854775807) :
    Calls Tryz.prog 12 #[v, va, vb] w (LIPost w (ssN n N m P K d L s) (rfR n m P (ssX n m P d s) 1).1 (ssC n N m P K d L s)) := by
  obtain ⟨p0, c0, p1, c1, rfl, hn9, hm9⟩ := h.parts
  have HV := Lib.hid h
  have HN := Lib.hid hN
  obtain ⟨pa, ca, rfl⟩ := hv.sh
  obtain ⟨pb, cb, rfl⟩ := hu.sh
  have A0 := boxed w (.slice p0 n c0) (.slice p1 m c1) 27
  have B0 := below_new w (.cells #[.slice p0 n c0, .slice p1 m c1] 27)
  have hs0 : (w.alloc (.cells #[.slice p0 n c0, .slice p1 m c1] 27)).heap.size = w.heap.size + 1 := by simp
  clear h hN
  go_enter Tryz.func12, Tryz.ntmps12
  have e0' := A0.b0
  have e1' := A0.b1
  go_wp2_with fail
  refine (l05Code_any _ _ n N m P lo hi (HV.out.below B0 hhi) (by omega) HN.out _ K d la ha (hv.below B0 hha) (by omega) hK9).mono ?_
  rintro e w1 ⟨rfl, b1⟩
  have A1 := A0.below b1 (by omega)
  have B1 := B0.trans (b1.mono (by omega))
  have hs1 := b1.size
  have e0 := A1.b0
  have e1 := A1.b1
  have e2 : w.heap.size < w1.heap.size := by omega
  have H1 := Lib.hid (hv.below B1 hha)
  have H2 := Lib.hid (hu.below B1 hhb)
  clear A0 B0 b1 e0' e1' hv hu
  by_cases hc : flC n N m P K d = 0
  rotate_left 1
  · have hb1 : (flC n N m P K d == 0) = false := by simpa using hc
    have hb2 : (flC n N m P K d != 0) = true := by simpa using hc
    have H4 := Lib.hid (show ssC n N m P K d L s = flC n N m P K d by unfold ssC; rw [if_neg hc])
    have H3 := Lib.hid (show ssN n N m P K d L s = 0 by unfold ssN; rw [H4.out, if_neg hc])
    clear hc
    go_wp2_with fail
    go_ret2
    exact li_err H3.out H4.out.symm rfl B1
  · obtain ⟨hB, rfl, hf⟩ := flC_ok hc
    obtain ⟨hn1, hn24, hm40⟩ := net_sz hB
    have HB := Lib.hid hB
    have HFL := Lib.hid hf
    have HRG := Lib.hid (show ∀ j, j < K → -30000 ≤ d j ∧ d j ≤ 30000 from fun j hj => flQ_iff.1 (flB_iff.1 hf j hj))
    have HSC := Lib.hid (show ssC n N K P K d L s = if liB n L s = true then (if evB n P K s = true then (if flB (suD K P d) n = true then (if ssB n K P d s = true then 0 else 2) else 2) else 5) else 3 by unfold ssC; rw [if_pos hc])
    have HEO := Lib.hid (show evB n P K (suD K P d) = true from even_of hB (fun z _ => rfl))
    have HOB := Lib.hid (show ∀ z, z < n → -4000000 ≤ suD K P d z ∧ suD K P d z ≤ 4000000 from fun z _ => by
      have := dv_bd (P := P) (x := d) (z := ((z : Nat) : Int)) (k := K) HRG.out
      unfold suD
      omega)
    rw [hc]
    clear hc hB hf
    cases hl : liB n L s
    · have H4 := Lib.hid (show ssC n N K P K d L s = 3 by rw [HSC.out, hl]; rfl)
      have H3 := Lib.hid (show ssN n N K P K d L s = 0 by unfold ssN; rw [H4.out]; rfl)
      go_wp2_with (go_at_call 47; refine (l06List_any _ p0 p1 n K c0 c1 _ L s _ _ H2.out (by omega) hL9 hn9).mono ?_; rintro e w4 ⟨rfl, hb4⟩; rw [hl])
      go_ret2
      exact li_err H3.out H4.out.symm rfl (B1.trans (hb4.mono (by omega)))
    · obtain ⟨hLn, hf2⟩ := liB_iff.1 hl
      obtain rfl : n = L := hLn.symm
      have HLL := Lib.hid hl
      have HF2 := Lib.hid hf2
      clear hl hf2 hLn
      cases hev : evB n P K s
      · have HEV := Lib.hid hev
        have H4 := Lib.hid (show ssC n N K P K d n s = 5 by rw [HSC.out, HLL.out, HEV.out]; rfl)
        have H3 := Lib.hid (show ssN n N K P K d n s = 0 by unfold ssN; rw [H4.out]; rfl)
        clear hev
        go_wp2_with (first
          | (go_at_call 47; with_reducible refine (l06List_any w1 p0 p1 n K c0 c1 (.slice pb n cb) n s lb hb H2.out (by omega) hL9 hn9).mono ?_; rintro e w4 ⟨rfl, hb4⟩; rw [HLL.out]; have B4 := B1.trans (hb4.mono (by omega)); have z4 := hb4.size; have A4 := A1.below hb4 e2; have f0 := A4.b0; have f1 := A4.b1; clear e0 e1)
          | (go_at_call 48; refine (l05Out_any w4 _ n N K P lo hi (HV.out.below B4 hhi) (by omega) HN.out HB.out _ d la ha (H1.out.below hb4 (by omega)) (by omega) HFL.out).mono ?_; rintro e w5 ⟨vo, go, rfl, ho, hgo, hgo2, b5⟩; obtain ⟨po, co, rfl⟩ := ho.sh; have z5 := b5.size; have B5 := B4.trans (b5.mono (by omega)); have A5 := A4.below b5 (by omega); have g0 := A5.b0; have g1 := A5.b1; have HO := Lib.hid (show Sl w5 (.slice po n co) n (suD K P d) go (go + 1) from ho); clear f0 f1)
          | (go_at_call 49; with_reducible refine (l06Even_any w5 _ n N K P lo hi (HV.out.below B5 hhi) (by omega) HN.out HB.out (.slice pb n cb) s lb hb ((H2.out.below hb4 (by omega)).below b5 (by omega)) (by omega) HF2.out).mono ?_; rintro e w6 ⟨rfl, b6⟩; rw [HEV.out]; have z6 := b6.size; have B6 := B5.trans (b6.mono (by omega)); have A6 := A5.below b6 (by omega); have i0 := A6.b0; have i1 := A6.b1; have HO6 := Lib.hid (HO.out.below b6 (by omega)); clear g0 g1))
        go_ret2
        exact li_err H3.out H4.out.symm rfl B6
      · have HEV := Lib.hid hev
        clear hev
        cases hlo : flB (suD K P d) n
        · have HLO := Lib.hid hlo
          have H4 := Lib.hid (show ssC n N K P K d n s = 2 by rw [HSC.out, HLL.out, HEV.out, HLO.out]; rfl)
          have H3 := Lib.hid (show ssN n N K P K d n s = 0 by unfold ssN; rw [H4.out]; rfl)
          clear hlo
          go_wp2_with (first
            | (go_at_call 47; with_reducible refine (l06List_any w1 p0 p1 n K c0 c1 (.slice pb n cb) n s lb hb H2.out (by omega) hL9 hn9).mono ?_; rintro e w4 ⟨rfl, hb4⟩; rw [HLL.out]; have B4 := B1.trans (hb4.mono (by omega)); have z4 := hb4.size; have A4 := A1.below hb4 e2; have f0 := A4.b0; have f1 := A4.b1; clear e0 e1)
            | (go_at_call 48; refine (l05Out_any w4 _ n N K P lo hi (HV.out.below B4 hhi) (by omega) HN.out HB.out _ d la ha (H1.out.below hb4 (by omega)) (by omega) HFL.out).mono ?_; rintro e w5 ⟨vo, go, rfl, ho, hgo, hgo2, b5⟩; obtain ⟨po, co, rfl⟩ := ho.sh; have z5 := b5.size; have B5 := B4.trans (b5.mono (by omega)); have A5 := A4.below b5 (by omega); have g0 := A5.b0; have g1 := A5.b1; have HO := Lib.hid (show Sl w5 (.slice po n co) n (suD K P d) go (go + 1) from ho); clear f0 f1)
            | (go_at_call 49; with_reducible refine (l06Even_any w5 _ n N K P lo hi (HV.out.below B5 hhi) (by omega) HN.out HB.out (.slice pb n cb) s lb hb ((H2.out.below hb4 (by omega)).below b5 (by omega)) (by omega) HF2.out).mono ?_; rintro e w6 ⟨rfl, b6⟩; rw [HEV.out]; have z6 := b6.size; have B6 := B5.trans (b6.mono (by omega)); have A6 := A5.below b6 (by omega); have i0 := A6.b0; have i1 := A6.b1; have HO6 := Lib.hid (HO.out.below b6 (by omega)); clear g0 g1)
            | (go_at_call 49; refine (l06EvenW_any w6 _ n N K P lo hi (HV.out.below B6 hhi) (by omega) HN.out HB.out _ (suD K P d) go (go + 1) HO6.out (by omega) HOB.out).mono ?_; rintro e w7 ⟨rfl, b7⟩; rw [HEO.out]; have z7 := b7.size; have B7 := B6.trans (b7.mono (by omega)); have A7 := A6.below b7 (by omega); have j0 := A7.b0; have j1 := A7.b1; have HO7 := Lib.hid (HO6.out.below b7 (by omega)); clear i0 i1)
            | (go_at_call 47; refine (l06List_any w7 p0 p1 n K c0 c1 _ n (suD K P d) go (go + 1) HO7.out (by omega) hn9 hn9).mono ?_; rintro e w8 ⟨rfl, b8⟩; rw [show liB n n (suD K P d) = flB (suD K P d) n from by unfold liB; simp, HLO.out]; have z8 := b8.size; have B8 := B7.trans (b8.mono (by omega)); have A8 := A7.below b8 (by omega); have l0 := A8.b0; have l1 := A8.b1; have HO8 := Lib.hid (HO7.out.below b8 (by omega)); clear j0 j1))
          go_ret2
          exact li_err H3.out H4.out.symm rfl B8
        · have HLO := Lib.hid hlo
          clear hlo
          have HSD := Lib.hid (show ssC n N K P K d n s = if ssB n K P d s = true then 0 else 2 by rw [HSC.out, HLL.out, HEV.out, HLO.out]; rfl)
          go_wp2_with (first
            | (go_at_call 47; with_reducible refine (l06List_any w1 p0 p1 n K c0 c1 (.slice pb n cb) n s lb hb H2.out (by omega) hL9 hn9).mono ?_; rintro e w4 ⟨rfl, hb4⟩; rw [HLL.out]; have B4 := B1.trans (hb4.mono (by omega)); have z4 := hb4.size; have A4 := A1.below hb4 e2; have f0 := A4.b0; have f1 := A4.b1; clear e0 e1)
            | (go_at_call 48; refine (l05Out_any w4 _ n N K P lo hi (HV.out.below B4 hhi) (by omega) HN.out HB.out _ d la ha (H1.out.below hb4 (by omega)) (by omega) HFL.out).mono ?_; rintro e w5 ⟨vo, go, rfl, ho, hgo, hgo2, b5⟩; obtain ⟨po, co, rfl⟩ := ho.sh; have z5 := b5.size; have B5 := B4.trans (b5.mono (by omega)); have A5 := A4.below b5 (by omega); have g0 := A5.b0; have g1 := A5.b1; have HO := Lib.hid (show Sl w5 (.slice po n co) n (suD K P d) go (go + 1) from ho); clear f0 f1)
            | (go_at_call 49; with_reducible refine (l06Even_any w5 _ n N K P lo hi (HV.out.below B5 hhi) (by omega) HN.out HB.out (.slice pb n cb) s lb hb ((H2.out.below hb4 (by omega)).below b5 (by omega)) (by omega) HF2.out).mono ?_; rintro e w6 ⟨rfl, b6⟩; rw [HEV.out]; have z6 := b6.size; have B6 := B5.trans (b6.mono (by omega)); have A6 := A5.below b6 (by omega); have i0 := A6.b0; have i1 := A6.b1; have HO6 := Lib.hid (HO.out.below b6 (by omega)); clear g0 g1)
            | (go_at_call 49; refine (l06EvenW_any w6 _ n N K P lo hi (HV.out.below B6 hhi) (by omega) HN.out HB.out _ (suD K P d) go (go + 1) HO6.out (by omega) HOB.out).mono ?_; rintro e w7 ⟨rfl, b7⟩; rw [HEO.out]; have z7 := b7.size; have B7 := B6.trans (b7.mono (by omega)); have A7 := A6.below b7 (by omega); have j0 := A7.b0; have j1 := A7.b1; have HO7 := Lib.hid (HO6.out.below b7 (by omega)); clear i0 i1)
            | (go_at_call 47; refine (l06List_any w7 p0 p1 n K c0 c1 _ n (suD K P d) go (go + 1) HO7.out (by omega) hn9 hn9).mono ?_; rintro e w8 ⟨rfl, b8⟩; rw [show liB n n (suD K P d) = flB (suD K P d) n from by unfold liB; simp, HLO.out]; have z8 := b8.size; have B8 := B7.trans (b8.mono (by omega)); have A8 := A7.below b8 (by omega); have l0 := A8.b0; have l1 := A8.b1; have HO8 := Lib.hid (HO7.out.below b8 (by omega)); clear j0 j1))
          have HS8 := Lib.hid (((((H2.out.below hb4 (by omega)).below b5 (by omega)).below b6 (by omega)).below b7 (by omega)).below b8 (by omega))
          have HD8 := Lib.hid (((((H1.out.below hb4 (by omega)).below b5 (by omega)).below b6 (by omega)).below b7 (by omega)).below b8 (by omega))
          have qh : hi ≤ w8.drew.heap.size := by show hi ≤ w8.heap.size; omega
          have qb : hb ≤ w8.drew.heap.size := by show hb ≤ w8.heap.size; omega
          have qo : go + 1 ≤ w8.drew.heap.size := by show go + 1 ≤ w8.heap.size; omega
          have HY0 := Lib.hid (HV.out.below B8.drew hhi)
          have HY1 := Lib.hid (sl_dr HS8.out)
          have HY2 := Lib.hid (sl_dr HO8.out)
          clear hb4 b5 b6 b7 b8 H1 H2 HO HO6 HO7 A1 A4 A5 A6 A7 B1 B4 B5 B6 B7
          go_region_held3 (fun w' : World => w'.cell? ⟨w.heap.size, 0, none⟩ = some (.slice p0 n c0) ∧ w'.cell? ⟨w.heap.size, 1, none⟩ = some (.slice p1 K c1))
            (first | exact ⟨l0, l1⟩ | exact SZ | exact SA | exact SO)
            (first
              | (go_at_call 50; with_reducible refine (l06Forest_any wA _ n N K P lo hi (HV.out.below BA hhi) (by omega) HN.out HB.out (.slice po n co) (suD K P d) go (go + 1) (HO8.out.below bA' (by omega)) (by omega) HLO.out HEO.out).mono ?_; rintro e wZ ⟨vO, gO, rfl, oO, lO, bZ⟩; have zZ := bZ.size; have lgS := oS.lt; have FS := Lib.hid (oS.below bZ (by omega)); have FO := Lib.hid oO; have WZ := Lib.hid (bA'.trans (bZ.mono zA)); have SZ : ((fun w' : World => w'.cell? ⟨w.heap.size, 0, none⟩ = some (.slice p0 n c0) ∧ w'.cell? ⟨w.heap.size, 1, none⟩ = some (.slice p1 K c1))) wZ := ⟨(bZ.cell (p := ⟨w.heap.size, 0, none⟩) (by show w.heap.size < _; omega)).trans SA.1, (bZ.cell (p := ⟨w.heap.size, 1, none⟩) (by show w.heap.size < _; omega)).trans SA.2⟩; clear oS oO)
              | (go_at_call 50; with_reducible refine (l06Forest_any wO _ n N K P lo hi (HV.out.below BO hhi) (by omega) HN.out HB.out (.slice pb n cb) s lb hb (HS8.out.below bO' (by omega)) (by omega) HF2.out HEV.out).mono ?_; rintro e wZ ⟨vS, gS, rfl, oS, lS, bZ⟩; have zZ := bZ.size; have lgO := oO.lt; have FO := Lib.hid (oO.below bZ (by omega)); have FS := Lib.hid oS; have WZ := Lib.hid (bO'.trans (bZ.mono zO)); have SZ : ((fun w' : World => w'.cell? ⟨w.heap.size, 0, none⟩ = some (.slice p0 n c0) ∧ w'.cell? ⟨w.heap.size, 1, none⟩ = some (.slice p1 K c1))) wZ := ⟨(bZ.cell (p := ⟨w.heap.size, 0, none⟩) (by show w.heap.size < _; omega)).trans SO.1, (bZ.cell (p := ⟨w.heap.size, 1, none⟩) (by show w.heap.size < _; omega)).trans SO.2⟩; clear oS oO)
              | (go_at_call 50; with_reducible refine (l06Forest_any w8.drew _ n N K P lo hi HY0.out qh HN.out HB.out (.slice pb n cb) s lb hb HY1.out qb HF2.out HEV.out).mono ?_; rintro e wA ⟨vS, gS, rfl, oS, lS, bA⟩; have bA' := below_dr0 bA; have zA := bA'.size; have BA := B8.trans (bA'.mono (by omega)); have SA : ((fun w' : World => w'.cell? ⟨w.heap.size, 0, none⟩ = some (.slice p0 n c0) ∧ w'.cell? ⟨w.heap.size, 1, none⟩ = some (.slice p1 K c1))) wA := ⟨(bA'.cell (p := ⟨w.heap.size, 0, none⟩) (by show w.heap.size < _; omega)).trans l0, (bA'.cell (p := ⟨w.heap.size, 1, none⟩) (by show w.heap.size < _; omega)).trans l1⟩)
              | (go_at_call 50; with_reducible refine (l06Forest_any w8.drew _ n N K P lo hi HY0.out qh HN.out HB.out (.slice po n co) (suD K P d) go (go + 1) HY2.out qo HLO.out HEO.out).mono ?_; rintro e wO ⟨vO, gO, rfl, oO, lO, bO⟩; have bO' := below_dr0 bO; have zO := bO'.size; have BO := B8.trans (bO'.mono (by omega)); have SO : ((fun w' : World => w'.cell? ⟨w.heap.size, 0, none⟩ = some (.slice p0 n c0) ∧ w'.cell? ⟨w.heap.size, 1, none⟩ = some (.slice p1 K c1))) wO := ⟨(bO'.cell (p := ⟨w.heap.size, 0, none⟩) (by show w.heap.size < _; omega)).trans l0, (bO'.cell (p := ⟨w.heap.size, 1, none⟩) (by show w.heap.size < _; omega)).trans l1⟩))
          · obtain ⟨r0, r1⟩ := SZ
            have BZ := B8.trans (WZ.out.mono (by omega))
            have zz := WZ.out.size
            have hzS := FS.out.lt
            have hzO := FO.out.lt
            have AZ := A8.below WZ.out (by omega)
            have HDZ := Lib.hid (HD8.out.below WZ.out (by omega))
            obtain ⟨xs, hxs⟩ : ∃ x : Nat → Int, fflN n P K s = x := ⟨_, rfl⟩
            obtain ⟨xo, hxo⟩ : ∃ x : Nat → Int, fflN n P K (suD K P d) = x := ⟨_, rfl⟩
            have hS9 : ∀ k, -720000 ≤ xs k ∧ xs k ≤ 720000 := fun k => by
              have := ffl_bd (P := P) (m := K) HB.out (fun i hi => flQ_iff.1 (flB_iff.1 HF2.out i hi)) k n (Nat.le_refl n)
              rw [← hxs]
              unfold fflN
              omega
            have hO9 : ∀ k, -720000 ≤ xo k ∧ xo k ≤ 720000 := fun k => by
              have := ffl_bd (P := P) (m := K) HB.out (fun i hi => flQ_iff.1 (flB_iff.1 HLO.out i hi)) k n (Nat.le_refl n)
              rw [← hxo]
              unfold fflN
              omega
            rw [hxs] at FS
            rw [hxo] at FO
            obtain ⟨x1, h1x⟩ : ∃ x : Nat → Int, (fun k => d k + 1 * xs k) = x := ⟨_, rfl⟩
            obtain ⟨xn, h2x⟩ : ∃ x : Nat → Int, (fun k => x1 k + -1 * xo k) = x := ⟨_, rfl⟩
            have HXN := Lib.hid (show ssX n K P d s = xn by rw [← h2x, ← h1x, ← hxs, ← hxo]; rfl)
            have HSB := Lib.hid (show ssB n K P d s = (flB xs K && flB xo K && flB xn K) by unfold ssB; rw [HXN.out, hxs, hxo])
            have HX1 := Lib.hid (show ∀ k, k < K → -1000000 ≤ x1 k ∧ x1 k ≤ 1000000 from fun k hk => by rw [← h1x]; have := hS9 k; have := HRG.out k hk; dsimp only; omega)
            have HP1 := Lib.hid (show ∀ k, k < K → -4611686018427387904 ≤ d k + 1 * xs k ∧ d k + 1 * xs k ≤ 4611686018427387904 from fun k hk => by have := hS9 k; have := HRG.out k hk; omega)
            have HP2 := Lib.hid (show ∀ k, k < K → -4611686018427387904 ≤ 1 * xs k ∧ 1 * xs k ≤ 4611686018427387904 from fun k hk => by have := hS9 k; omega)
            have HP3 := Lib.hid (show ∀ k, k < K → -4611686018427387904 ≤ x1 k + -1 * xo k ∧ x1 k + -1 * xo k ≤ 4611686018427387904 from fun k hk => by have := HX1.out k hk; have := hO9 k; omega)
            have HP4 := Lib.hid (show ∀ k, k < K → -4611686018427387904 ≤ -1 * xo k ∧ -1 * xo k ≤ 4611686018427387904 from fun k hk => by have := hO9 k; omega)
            have HAD1 := Lib.hid (l05Add_any wZ (.slice pa K ca) _ K d xs 1 la ha _ _ HDZ.out (by omega) FS.out.sl (by omega) (by omega) HP1.out HP2.out)
            clear hS9 hO9 hxs hxo HS8 HD8 HY0 HY1 HY2 HO8 HF2 HRG HOB HEO HEV HLL HFL HX1 HP1 HP2 A8 WZ HDZ qh qb qo B8
            cases q1 : flB xs K
            · have Q1 := Lib.hid q1
              clear q1
              have H4 := Lib.hid (show ssC n N K P K d n s = 2 by rw [HSD.out, HSB.out, Q1.out]; simp)
              have H3 := Lib.hid (show ssN n N K P K d n s = 0 by unfold ssN; rw [H4.out]; rfl)
              go_wp2_with (first
                | (go_at_call 52; have hpre := OY; with_reducible refine (l05List_any wY p0 p1 n K c0 c1 _ K xs _ _ FSY.out.sl (by omega) hm9 hm9).mono ?_; rintro e wP ⟨rfl, bP⟩; rw [show liB K K xs = flB xs K from by unfold liB; simp, Q1.out]; have zP := bP.size; have AP := AY.below bP (by omega); have u0 := AP.b0; have u1 := AP.b1; have BP := BY.trans (bP.mono (by omega)); have FOP := Lib.hid (FOY.out.below bP (by omega)); have OXP := Lib.hid (OY.out.below bP (by omega)); clear t0 t1)
                | (go_at_call 51; have hpre := oX; with_reducible refine (l05Add_any wX _ _ K x1 xo (-1) _ _ _ _ oX.sl (by omega) FOX.out.sl (by omega) (by omega) HP3.out HP4.out).mono ?_; rintro e wY ⟨vY, gY, rfl, oY, lY, bY⟩; obtain ⟨cY, rfl⟩ := oY.shape; rw [h2x] at oY; have zY := bY.size; have AY := AX.below bY (by omega); have t0 := AY.b0; have t1 := AY.b1; have FSY := Lib.hid (FSX.out.below bY (by omega)); have FOY := Lib.hid (FOX.out.below bY (by omega)); have BY := BX.trans (bY.mono (by omega)); have loY := oY.lt; have OY := Lib.hid oY; clear s0 s1 oY)
                | (go_at_call 51; with_reducible refine HAD1.out.mono ?_; rintro e wX ⟨vX, gX, rfl, oX, lX, bX⟩; obtain ⟨cX, rfl⟩ := oX.shape; rw [h1x] at oX; have zX := bX.size; have AX := AZ.below bX (by omega); have s0 := AX.b0; have s1 := AX.b1; have FSX := Lib.hid (FS.out.below bX (by omega)); have FOX := Lib.hid (FO.out.below bX (by omega)); have BX := BZ.trans (bX.mono (by omega)); have loX := oX.lt; clear r0 r1))
              go_ret2
              exact li_err H3.out H4.out.symm rfl BP
            · have Q1 := Lib.hid q1
              clear q1
              cases q2 : flB xo K
              · have Q2 := Lib.hid q2
                clear q2
                have H4 := Lib.hid (show ssC n N K P K d n s = 2 by rw [HSD.out, HSB.out, Q1.out, Q2.out]; simp)
                have H3 := Lib.hid (show ssN n N K P K d n s = 0 by unfold ssN; rw [H4.out]; rfl)
                go_wp2_with (first
                  | (go_at_call 52; have hpre := FOP; with_reducible refine (l05List_any wP p0 p1 n K c0 c1 _ K xo _ _ FOP.out.sl (by omega) hm9 hm9).mono ?_; rintro e wQ ⟨rfl, bQ⟩; rw [show liB K K xo = flB xo K from by unfold liB; simp, Q2.out]; have zQ := bQ.size; have AQ := AP.below bQ (by omega); have x0 := AQ.b0; have x1' := AQ.b1; have BQ := BP.trans (bQ.mono (by omega)); have OXQ := Lib.hid (OXP.out.below bQ (by omega)); clear u0 u1)
                  | (go_at_call 52; have hpre := OY; with_reducible refine (l05List_any wY p0 p1 n K c0 c1 _ K xs _ _ FSY.out.sl (by omega) hm9 hm9).mono ?_; rintro e wP ⟨rfl, bP⟩; rw [show liB K K xs = flB xs K from by unfold liB; simp, Q1.out]; have zP := bP.size; have AP := AY.below bP (by omega); have u0 := AP.b0; have u1 := AP.b1; have BP := BY.trans (bP.mono (by omega)); have FOP := Lib.hid (FOY.out.below bP (by omega)); have OXP := Lib.hid (OY.out.below bP (by omega)); clear t0 t1)
                  | (go_at_call 51; have hpre := oX; with_reducible refine (l05Add_any wX _ _ K x1 xo (-1) _ _ _ _ oX.sl (by omega) FOX.out.sl (by omega) (by omega) HP3.out HP4.out).mono ?_; rintro e wY ⟨vY, gY, rfl, oY, lY, bY⟩; obtain ⟨cY, rfl⟩ := oY.shape; rw [h2x] at oY; have zY := bY.size; have AY := AX.below bY (by omega); have t0 := AY.b0; have t1 := AY.b1; have FSY := Lib.hid (FSX.out.below bY (by omega)); have FOY := Lib.hid (FOX.out.below bY (by omega)); have BY := BX.trans (bY.mono (by omega)); have loY := oY.lt; have OY := Lib.hid oY; clear s0 s1 oY)
                  | (go_at_call 51; with_reducible refine HAD1.out.mono ?_; rintro e wX ⟨vX, gX, rfl, oX, lX, bX⟩; obtain ⟨cX, rfl⟩ := oX.shape; rw [h1x] at oX; have zX := bX.size; have AX := AZ.below bX (by omega); have s0 := AX.b0; have s1 := AX.b1; have FSX := Lib.hid (FS.out.below bX (by omega)); have FOX := Lib.hid (FO.out.below bX (by omega)); have BX := BZ.trans (bX.mono (by omega)); have loX := oX.lt; clear r0 r1))
                go_ret2
                exact li_err H3.out H4.out.symm rfl BQ
              · have Q2 := Lib.hid q2
                clear q2
                cases q3 : flB xn K
                · have Q3 := Lib.hid q3
                  clear q3
                  have H4 := Lib.hid (show ssC n N K P K d n s = 2 by rw [HSD.out, HSB.out, Q1.out, Q2.out, Q3.out]; simp)
                  have H3 := Lib.hid (show ssN n N K P K d n s = 0 by unfold ssN; rw [H4.out]; rfl)
                  go_wp2_with (first
                    | (go_at_call 52; have hpre := OXQ; with_reducible refine (l05List_any wQ p0 p1 n K c0 c1 _ K xn _ _ OXQ.out.sl (by omega) hm9 hm9).mono ?_; rintro e wR ⟨rfl, bR⟩; rw [show liB K K xn = flB xn K from by unfold liB; simp, Q3.out]; have zR := bR.size; have AR := AQ.below bR (by omega); have y0 := AR.b0; have y1 := AR.b1; have BR := BQ.trans (bR.mono (by omega)); have OXR := Lib.hid (OXQ.out.below bR (by omega)); clear x0 x1')
                    | (go_at_call 52; have hpre := FOP; with_reducible refine (l05List_any wP p0 p1 n K c0 c1 _ K xo _ _ FOP.out.sl (by omega) hm9 hm9).mono ?_; rintro e wQ ⟨rfl, bQ⟩; rw [show liB K K xo = flB xo K from by unfold liB; simp, Q2.out]; have zQ := bQ.size; have AQ := AP.below bQ (by omega); have x0 := AQ.b0; have x1' := AQ.b1; have BQ := BP.trans (bQ.mono (by omega)); have OXQ := Lib.hid (OXP.out.below bQ (by omega)); clear u0 u1)
                    | (go_at_call 52; have hpre := OY; with_reducible refine (l05List_any wY p0 p1 n K c0 c1 _ K xs _ _ FSY.out.sl (by omega) hm9 hm9).mono ?_; rintro e wP ⟨rfl, bP⟩; rw [show liB K K xs = flB xs K from by unfold liB; simp, Q1.out]; have zP := bP.size; have AP := AY.below bP (by omega); have u0 := AP.b0; have u1 := AP.b1; have BP := BY.trans (bP.mono (by omega)); have FOP := Lib.hid (FOY.out.below bP (by omega)); have OXP := Lib.hid (OY.out.below bP (by omega)); clear t0 t1)
                    | (go_at_call 51; have hpre := oX; with_reducible refine (l05Add_any wX _ _ K x1 xo (-1) _ _ _ _ oX.sl (by omega) FOX.out.sl (by omega) (by omega) HP3.out HP4.out).mono ?_; rintro e wY ⟨vY, gY, rfl, oY, lY, bY⟩; obtain ⟨cY, rfl⟩ := oY.shape; rw [h2x] at oY; have zY := bY.size; have AY := AX.below bY (by omega); have t0 := AY.b0; have t1 := AY.b1; have FSY := Lib.hid (FSX.out.below bY (by omega)); have FOY := Lib.hid (FOX.out.below bY (by omega)); have BY := BX.trans (bY.mono (by omega)); have loY := oY.lt; have OY := Lib.hid oY; clear s0 s1 oY)
                    | (go_at_call 51; with_reducible refine HAD1.out.mono ?_; rintro e wX ⟨vX, gX, rfl, oX, lX, bX⟩; obtain ⟨cX, rfl⟩ := oX.shape; rw [h1x] at oX; have zX := bX.size; have AX := AZ.below bX (by omega); have s0 := AX.b0; have s1 := AX.b1; have FSX := Lib.hid (FS.out.below bX (by omega)); have FOX := Lib.hid (FO.out.below bX (by omega)); have BX := BZ.trans (bX.mono (by omega)); have loX := oX.lt; clear r0 r1))
                  go_ret2
                  exact li_err H3.out H4.out.symm rfl BR
                · have Q3 := Lib.hid q3
                  clear q3
                  have H4 := Lib.hid (show ssC n N K P K d n s = 0 by rw [HSD.out, HSB.out, Q1.out, Q2.out, Q3.out]; rfl)
                  have H3 := Lib.hid (show ssN n N K P K d n s = K by unfold ssN; rw [H4.out]; rfl)
                  go_wp2_with (first
                    | (go_at_call 52; have hpre := OXQ; with_reducible refine (l05List_any wQ p0 p1 n K c0 c1 _ K xn _ _ OXQ.out.sl (by omega) hm9 hm9).mono ?_; rintro e wR ⟨rfl, bR⟩; rw [show liB K K xn = flB xn K from by unfold liB; simp, Q3.out]; have zR := bR.size; have AR := AQ.below bR (by omega); have y0 := AR.b0; have y1 := AR.b1; have BR := BQ.trans (bR.mono (by omega)); have OXR := Lib.hid (OXQ.out.below bR (by omega)); clear x0 x1')
                    | (go_at_call 52; have hpre := FOP; with_reducible refine (l05List_any wP p0 p1 n K c0 c1 _ K xo _ _ FOP.out.sl (by omega) hm9 hm9).mono ?_; rintro e wQ ⟨rfl, bQ⟩; rw [show liB K K xo = flB xo K from by unfold liB; simp, Q2.out]; have zQ := bQ.size; have AQ := AP.below bQ (by omega); have x0 := AQ.b0; have x1' := AQ.b1; have BQ := BP.trans (bQ.mono (by omega)); have OXQ := Lib.hid (OXP.out.below bQ (by omega)); clear u0 u1)
                    | (go_at_call 52; have hpre := OY; with_reducible refine (l05List_any wY p0 p1 n K c0 c1 _ K xs _ _ FSY.out.sl (by omega) hm9 hm9).mono ?_; rintro e wP ⟨rfl, bP⟩; rw [show liB K K xs = flB xs K from by unfold liB; simp, Q1.out]; have zP := bP.size; have AP := AY.below bP (by omega); have u0 := AP.b0; have u1 := AP.b1; have BP := BY.trans (bP.mono (by omega)); have FOP := Lib.hid (FOY.out.below bP (by omega)); have OXP := Lib.hid (OY.out.below bP (by omega)); clear t0 t1)
                    | (go_at_call 51; have hpre := oX; with_reducible refine (l05Add_any wX _ _ K x1 xo (-1) _ _ _ _ oX.sl (by omega) FOX.out.sl (by omega) (by omega) HP3.out HP4.out).mono ?_; rintro e wY ⟨vY, gY, rfl, oY, lY, bY⟩; obtain ⟨cY, rfl⟩ := oY.shape; rw [h2x] at oY; have zY := bY.size; have AY := AX.below bY (by omega); have t0 := AY.b0; have t1 := AY.b1; have FSY := Lib.hid (FSX.out.below bY (by omega)); have FOY := Lib.hid (FOX.out.below bY (by omega)); have BY := BX.trans (bY.mono (by omega)); have loY := oY.lt; have OY := Lib.hid oY; clear s0 s1 oY)
                    | (go_at_call 51; with_reducible refine HAD1.out.mono ?_; rintro e wX ⟨vX, gX, rfl, oX, lX, bX⟩; obtain ⟨cX, rfl⟩ := oX.shape; rw [h1x] at oX; have zX := bX.size; have AX := AZ.below bX (by omega); have s0 := AX.b0; have s1 := AX.b1; have FSX := Lib.hid (FS.out.below bX (by omega)); have FOX := Lib.hid (FO.out.below bX (by omega)); have BX := BZ.trans (bX.mono (by omega)); have loX := oX.lt; clear r0 r1))
                  have hpc := l11Relax_any wR _ n N K P lo hi (HV.out.below BR hhi) (by omega) HN.out HB.out _ xn _ _ OXR.out.sl (by omega) (fun k hk => flQ_iff.1 (flB_iff.1 Q3.out k hk)) 1 (by omega)
                  rw [show rlx K P (fun i => cyc P (fE n P K) (fD n P K) (chS n P K i)) (chN n P K) xn 1 = rfR n K P xn 1 from rfl] at hpc
                  generalize hr : rfR n K P xn 1 = r at *
                  have HRE := Lib.hid hr
                  clear hr
                  refine hpc.mono ?_
                  rintro e wT ⟨vT, gT, rfl, oT, lT, bT⟩
                  clear hpc
                  go_wp2_with fail
                  go_ret2
                  rw [H3.out, H4.out, HXN.out, HRE.out]
                  exact ⟨vT, gT, rfl, oT.ownS, by omega, BR.trans (bT.mono BR.size)⟩

end Go.Proofs.YtdbgcbkmcbgdiaaGreat.mem

namespace Go.Proofs.YtdbgcbkmcbgdiaaGreat.mem
open Go.RowKit
set_option linter.unusedVariables false

theorem ssN_le (n : Nat) (N : Nat → Nod) (m : Nat) (P : Nat → Pip) (K : Nat) (d : Nat → Int) (L : Nat) (s : Nat → Int) : ssN n N m P K d L s ≤ m := by
  unfold ssN
  split <;> omega
end Go.Proofs.YtdbgcbkmcbgdiaaGreat.mem

namespace Go.Proofs.YtdbgcbkmcbgdiaaGreat.draw
open Go.RowKit
set_option linter.unusedVariables false

def NFLOnly (w : World) (e : Ending) (w' : World) : Prop :=
  ∃ (v : Value) (n m : Nat) (N : Nat → mem.Nod) (P : Nat → mem.Pip) (b1 b2 : Nat) (vf : Value) (F : Nat) (f : Nat → Int) (vk : Value) (K : Nat) (D : Nat → Int), e = .returned (.tuple #[v, vf, vk]) ∧ n ≤ 1000 ∧ m ≤ 1000 ∧ F ≤ 2000 ∧ K ≤ 2000 ∧ (∀ i, i < n → (N i).s.size ≤ 9223372036854775807) ∧ mem.NetOwn w' v n N m P b1 b2 ∧ w.heap.size ≤ b1 ∧ w.heap.size ≤ b2 ∧ mem.Sl w' vf F f w.heap.size w'.heap.size ∧ mem.Sl w' vk K D w.heap.size w'.heap.size ∧ Below w.heap.size w w'
theorem owns_lo {w : World} {v : Value} {n b lo : Nat} {d : Nat → Int} (h : mem.OwnS w v n 1 (fun i _ => .int .i64 (d i)) b) (hb : lo ≤ b) : mem.Sl w v n d lo w.heap.size := by
  obtain ⟨p', cap, hv, h1, h2, h3⟩ := h.ex
  refine ⟨p', cap, hv, ?_⟩
  rcases h3 with h3 | ⟨h3, h4⟩
  · exact .inl h3
  · refine .inr ⟨b, 0, h3, hb, h4.lt, fun k hk => ?_⟩
    have := h4.cell k 0 hk (by omega)
    simpa using this
set_option maxRecDepth 100000 in
set_option maxHeartbeats 8000000 in
theorem drawSolveStep (w : World) (cv : Value) (len : Nat) (hc : CodeAt w cv len w.heap.size) : Calls Tryz.prog 10 #[cv] w (NFLOnly w) := by
  have HC := Lib.hid hc
  have R1 := mem.boxed w (.slice none 0 0) (.slice none 0 0) 27
  have C1 := mem.below_new w (.cells #[.slice none 0 0, .slice none 0 0] 27)
  have hsz : (w.alloc (.cells #[.slice none 0 0, .slice none 0 0] 27)).heap.size = w.heap.size + 1 := by simp
  go_enter Tryz.func10, Tryz.ntmps10
  go_wp2_with fail
  generalize hW : w.alloc (.cells #[.slice none 0 0, .slice none 0 0] 27) = Wa at *
  clear hW hc
  replace hsz := Nat.le_antisymm_iff.1 hsz
  refine (from_any Wa cv len (by have := codeAt_below HC.out C1; rcases this with h | ⟨cb, co, cap, h1, h2, h3⟩; exact .inl h; exact .inr ⟨cb, co, cap, h1, by omega, h3⟩)).mono ?_
  rintro e w1 ⟨s1, rfl, hS1, B1, z1⟩
  obtain ⟨b, hbe⟩ : ∃ b, b = Wa.heap.size := ⟨_, rfl⟩
  rw [← hbe] at hS1 z1 ⊢
  replace hbe := Nat.le_antisymm_iff.1 hbe
  replace z1 := Nat.le_antisymm_iff.1 z1
  have C2 := mem.belowNext C1 B1
  have R2 := R1.next B1
  clear B1 C1 R1
  go_wp2_with fail
  refine (six_anyW w1 b w.heap.size cv len 0 s1 hS1 (codeAt_below HC.out C2) (by omega)).mono ?_
  rintro e w2 ⟨v, n, m, N, P, b1, b2, vl, K, D, i2, s2, rfl, hn, hm, hK, hnm, hO, l1, l2, hL, hS2, U2, lF, uF, hFr, lF1, lF2, dF1, dF2⟩
  obtain ⟨p0, c0, p1, c1, rfl⟩ := hO.shape
  obtain ⟨pk, ck, rfl⟩ := sl_sh hL
  have xN := mem.below_new w2 (.cells #[.slice p0 n c0, .slice p1 m c1] 27)
  have C3 := Lib.hid ((C2.trans (U2.below (by omega) (by rintro x _ rfl; omega))).trans (xN.mono (by have := U2.size; omega)))
  have R3 := (R2.keep (U2.block w.heap.size (by omega) (by omega))).next xN
  have T3 := mem.boxed w2 (.slice p0 n c0) (.slice p1 m c1) 27
  have O3 := Lib.hid (hO.next xN)
  have L3 := Lib.hid (hL.below xN (Nat.le_refl _))
  have S3 := src_alloc hS2 (src_lt hS2) (.cells #[.slice p0 n c0, .slice p1 m c1] 27)
  have hz3 := Nat.le_antisymm_iff.1 (show (w2.alloc (.cells #[.slice p0 n c0, .slice p1 m c1] 27)).heap.size = w2.heap.size + 1 by simp)
  have hb2 := src_lt hS2
  have hbT : b ≠ w2.heap.size := by omega
  have hbR : b ≠ w.heap.size := by omega
  have hTR : w2.heap.size ≠ w.heap.size := by omega
  have hl1 : b < b1 := by omega
  have hl2 : b < b2 := by omega
  have hU := U2.size
  have FR3 := Lib.hid (hFr.keep (fun x _ hx => xN.block x (by omega)))
  clear C2 R2 hO hS2 hS1 U2 xN hL hFr
  have e0 := T3.b0
  have e1 := T3.b1
  go_wp2_with fail
  generalize hW : w2.alloc (.cells #[.slice p0 n c0, .slice p1 m c1] 27) = W3 at *
  clear hW
  refine (mem.solveLoopsS_any W3 _ n N m P 0 W3.heap.size O3.out.net (Nat.le_refl _) hnm _ K D w1.heap.size w2.heap.size L3.out (by omega) (by omega)).mono ?_
  rintro e w4 ⟨vr, gr, rfl, or, hgr, b4⟩
  have z4 := b4.size
  have C4 := Lib.hid (C3.out.trans (b4.mono (by omega)))
  have R4 := R3.next b4
  have T4 := T3.next b4
  have O4 := Lib.hid (O3.out.next b4)
  have L4 := Lib.hid (L3.out.below b4 (by omega))
  have FR4 := Lib.hid (FR3.out.keep (fun x _ hx => b4.block x (by omega)))
  have S4 := src_upd S3 (b4.block b (src_lt S3))
  have LF4 := Lib.hid (owns_lo or hgr)
  have hF9 : mem.slN n N m P K D ≤ 2000 := by unfold mem.slN; split <;> omega
  obtain ⟨pf, cf, rfl⟩ := mem.ownS_shE or
  generalize hF : mem.slN n N m P K D = F9 at *
  generalize hff : (mem.rfR n m P (mem.fflN n P m D) 32768).1 = ff at *
  clear hF hff b4 or C3 R3 T3 O3 S3 FR3 e0 e1
  have hW2 : w2.heap.size ≤ w4.heap.size := by omega
  have hb4 : b < w4.heap.size := by omega
  by_cases hcc : mem.ffC n N m P K D = 0
  rotate_left 1
  · have hcb : (mem.ffC n N m P K D != 0) = true := by simpa using hcc
    have t0 := T4.b0
    have t1 := T4.b1
    have f0 := R4.b0
    have f1 := R4.b1
    have k0 := R4.free 0
    have k1 := R4.free 1
    have HCd := Lib.hid (code_of (b := b) (B := w.heap.size) (codeAt_below HC.out C4.out) ⟨rfl, rfl, rfl, Nat.le_refl _, fun _ _ _ => rfl⟩ (by omega) (src_lt S4) : CodeAt w4.drew cv len w.heap.size)
    have hTT := T4.lt
    have hRR := R4.lt
    go_wp2_with fail
    go_region_held3 (fun w' => w'.cell? ⟨w2.heap.size, 0, none⟩ = some (.slice p0 n c0) ∧ w'.cell? ⟨w2.heap.size, 1, none⟩ = some (.slice p1 m c1)) (first | exact ⟨t0, t1⟩ | exact ⟨TX.b0, TX.b1⟩ | exact ⟨((((mem.Only.refl w.heap.size _).setCell _ _).setCell _ _).cell (a := ⟨w2.heap.size, 0, none⟩) hTR).trans TX.b0, ((((mem.Only.refl w.heap.size _).setCell _ _).setCell _ _).cell (a := ⟨w2.heap.size, 1, none⟩) hTR).trans TX.b1⟩ | go_keep)
      (first | (go_at_call 42; refine (flows_any _ b w.heap.size cv len i2 s2 (src_upd S4 rfl : Src w4.drew b cv len i2 s2) HCd.out (by omega) p0 n c0 p1 m c1 hm).mono ?_; rintro e wx ⟨vf, F, f, ix, sx, rfl, hF, hLf, hSx, Ux⟩; obtain ⟨pf, cf, rfl⟩ := sl_sh hLf; have TX := (T4.keep (Ux.block w2.heap.size hTT (by omega)) : mem.Ob wx w2.heap.size 2 _); have RX := (R4.keep (Ux.block w.heap.size hRR (by omega)) : mem.Ob wx w.heap.size 2 _); have fx0 := RX.b0; have fx1 := RX.b1; have kx0 := RX.free 0; have kx1 := RX.free 1))
    all_goals
      have hzd : w4.drew.heap.size = w4.heap.size := rfl
      have zx := Ux.size
      have hO := ((mem.Only.refl w.heap.size wx).setCell 0 (.slice p0 n c0)).setCell 1 (.slice p1 m c1)
      have HO := Lib.hid ((O4.out.drew.upd Ux (.inr (by omega)) (.inr (by omega))).upd (mem.Upd.of_only hO) (.inr (by omega)) (.inr (by omega)))
      have HB := Lib.hid (mem.below_only ((mem.below_dw C4.out).trans ((Ux).below (by omega) (by rintro x _ rfl; omega))) hO (by omega))
      have HLX := Lib.hid (((sl_upd (sl_drew L4.out) Ux (by show b < w1.heap.size; omega) (by show w2.heap.size ≤ w4.heap.size; omega)).only hO (.inl (by show w.heap.size < w1.heap.size; omega))).mono (show w.heap.size ≤ w1.heap.size by omega) (Nat.le_trans (by omega) (Nat.le_of_eq hO.size)))
      have HLF := Lib.hid ((hLf.only hO (.inl (by show w.heap.size < w4.heap.size; omega))).mono (show w.heap.size ≤ w4.drew.heap.size by omega) (Nat.le_of_eq hO.size))
      clear hO TX RX O4 hLf
      go_wp2_with fail
      refine bodyPost_ret (v := .tuple #[.agg #[.slice p0 n c0, .slice p1 m c1], .slice pf F cf, .slice pk K ck]) (by simp [results, Tryz.results10, go_sem, fx0, fx1]) rfl ?_
      exact ⟨_, n, m, N, P, b1, b2, _, F, f, _, K, D, rfl, hn, hm, hF, hK, hnm, HO.out, by omega, by omega, HLF.out, HLX.out, HB.out⟩
  have hcb : (mem.ffC n N m P K D != 0) = false := by simp [hcc]
  have hcc9 := Lib.hid hcc
  go_wp2_with fail
  refine (next_any w4 b w.heap.size cv len i2 s2 4 S4 (codeAt_below HC.out C4.out) (by omega) (by omega)).mono ?_
  rintro e w5 ⟨x, i5, s5, rfl, x0, x1, S5, o5⟩
  have z5 := Nat.le_antisymm_iff.1 o5.size
  have C5 := Lib.hid (C4.out.trans (only_below o5 (by omega)))
  have R5 := R4.keep (o5.block w.heap.size (by omega))
  have T5 := T4.keep (o5.block w2.heap.size (by omega))
  have O5 := Lib.hid (O4.out.upd (upd_of o5) (.inr (by omega)) (.inr (by omega)))
  have L5 := Lib.hid (sl_upd L4.out (upd_of o5) (by omega) (by omega))
  have LF5 := Lib.hid (sl_upd LF4.out (upd_of o5) (by omega) (Nat.le_refl _))
  have FR5 := Lib.hid (FR4.out.keep (fun x hx1 _ => o5.block x (by omega)))
  clear C4 R4 T4 O4 S4 o5 FR4 hcc
  have hW5 : w2.heap.size ≤ w5.heap.size := by omega
  by_cases hx : x = 0
  · have hxb : (x == 0) = true := by simpa using hx
    have t0 := T5.b0
    have t1 := T5.b1
    have f0 := R5.b0
    have f1 := R5.b1
    have k0 := R5.free 0
    have k1 := R5.free 1
    have HCd := Lib.hid (code_of (b := b) (B := w.heap.size) (codeAt_below HC.out C5.out) ⟨rfl, rfl, rfl, Nat.le_refl _, fun _ _ _ => rfl⟩ (by omega) (src_lt S5) : CodeAt w5.drew cv len w.heap.size)
    have hTT := T5.lt
    have hRR := R5.lt
    go_wp2_with fail
    go_region_held3 (fun w' => w'.cell? ⟨w2.heap.size, 0, none⟩ = some (.slice p0 n c0) ∧ w'.cell? ⟨w2.heap.size, 1, none⟩ = some (.slice p1 m c1)) (first | exact ⟨t0, t1⟩ | exact ⟨TX.b0, TX.b1⟩ | exact ⟨((((mem.Only.refl w.heap.size _).setCell _ _).setCell _ _).cell (a := ⟨w2.heap.size, 0, none⟩) hTR).trans TX.b0, ((((mem.Only.refl w.heap.size _).setCell _ _).setCell _ _).cell (a := ⟨w2.heap.size, 1, none⟩) hTR).trans TX.b1⟩ | go_keep)
      (first | (go_at_call 42; refine (flows_any _ b w.heap.size cv len i5 s5 (src_upd S5 rfl : Src w5.drew b cv len i5 s5) HCd.out (by omega) p0 n c0 p1 m c1 hm).mono ?_; rintro e wx ⟨vf, F, f, ix, sx, rfl, hF, hLf, hSx, Ux⟩; obtain ⟨pf, cf, rfl⟩ := sl_sh hLf; have TX := (T5.keep (Ux.block w2.heap.size hTT (by omega)) : mem.Ob wx w2.heap.size 2 _); have RX := (R5.keep (Ux.block w.heap.size hRR (by omega)) : mem.Ob wx w.heap.size 2 _); have fx0 := RX.b0; have fx1 := RX.b1; have kx0 := RX.free 0; have kx1 := RX.free 1))
    all_goals
      have hzd : w5.drew.heap.size = w5.heap.size := rfl
      have zx := Ux.size
      have hO := ((mem.Only.refl w.heap.size wx).setCell 0 (.slice p0 n c0)).setCell 1 (.slice p1 m c1)
      have HO := Lib.hid ((O5.out.drew.upd Ux (.inr (by omega)) (.inr (by omega))).upd (mem.Upd.of_only hO) (.inr (by omega)) (.inr (by omega)))
      have HB := Lib.hid (mem.below_only ((mem.below_dw C5.out).trans ((Ux).below (by omega) (by rintro x _ rfl; omega))) hO (by omega))
      have HLX := Lib.hid (((sl_upd (sl_drew L5.out) Ux (by show b < w1.heap.size; omega) (by show w2.heap.size ≤ w5.heap.size; omega)).only hO (.inl (by show w.heap.size < w1.heap.size; omega))).mono (show w.heap.size ≤ w1.heap.size by omega) (Nat.le_trans (by omega) (Nat.le_of_eq hO.size)))
      have HLF := Lib.hid ((hLf.only hO (.inl (by show w.heap.size < w5.heap.size; omega))).mono (show w.heap.size ≤ w5.drew.heap.size by omega) (Nat.le_of_eq hO.size))
      clear hO TX RX O5 hLf
      go_wp2_with fail
      refine bodyPost_ret (v := .tuple #[.agg #[.slice p0 n c0, .slice p1 m c1], .slice pf F cf, .slice pk K ck]) (by simp [results, Tryz.results10, go_sem, fx0, fx1]) rfl ?_
      exact ⟨_, n, m, N, P, b1, b2, _, F, f, _, K, D, rfl, hn, hm, hF, hK, hnm, HO.out, by omega, by omega, HLF.out, HLX.out, HB.out⟩
  have hxb : (x == 0) = false := by simpa using hx
  have e0 := T5.b0
  have e1 := T5.b1
  by_cases hK1 : 1 < K
  rotate_left 1
  · have hk1 : ¬ (1 : Int) < (K : Int) := by omega
    have t0 := T5.b0
    have t1 := T5.b1
    have f0 := R5.b0
    have f1 := R5.b1
    have k0 := R5.free 0
    have k1 := R5.free 1
    have hO := ((mem.Only.refl w.heap.size w5).setCell 0 (.slice p0 n c0)).setCell 1 (.slice p1 m c1)
    have HO := Lib.hid (O5.out.upd (mem.Upd.of_only hO) (.inr (by omega)) (.inr (by omega)))
    have HB := Lib.hid (mem.below_only C5.out hO (by omega))
    have HLX := Lib.hid ((L5.out.only hO (.inl (by omega))).mono (show w.heap.size ≤ w1.heap.size by omega) (Nat.le_trans (by omega) (Nat.le_of_eq hO.size)))
    have HLF := Lib.hid ((LF5.out.only hO (.inl (by omega))).mono (show w.heap.size ≤ W3.heap.size by omega) (Nat.le_trans (by omega) (Nat.le_of_eq hO.size)))
    clear hO
    go_wp2_with fail
    refine bodyPost_ret (v := .tuple #[.agg #[.slice p0 n c0, .slice p1 m c1], .slice pf F9 cf, .slice pk K ck]) (by simp [results, Tryz.results10, go_sem, f0, f1]) rfl ?_
    exact ⟨_, n, m, N, P, b1, b2, _, F9, _, _, K, D, rfl, hn, hm, hF9, hK, hnm, HO.out, by omega, by omega, HLF.out, HLX.out, HB.out⟩
  have hk1 : (1 : Int) < (K : Int) := by omega
  go_wp2_with fail
  refine (mem.isConnectedS_any w5 _ n N m P 0 w5.heap.size O5.out.net (Nat.le_refl _) hnm).mono ?_
  rintro e w6 ⟨rfl, b6⟩
  have z6 := b6.size
  have C6 := Lib.hid (C5.out.trans (b6.mono (by omega)))
  have R6 := R5.next b6
  have T6 := T5.next b6
  have O6 := Lib.hid (O5.out.next b6)
  have L6 := Lib.hid (L5.out.below b6 (by omega))
  have LF6 := Lib.hid (LF5.out.below b6 (by omega))
  have FR6 := Lib.hid (FR5.out.keep (fun x _ hx => b6.block x (by omega)))
  have S6 := src_upd S5 (b6.block b (src_lt S5))
  clear C5 R5 T5 O5 S5 b6 FR5 e0 e1
  have hW6 : w2.heap.size ≤ w6.heap.size := by omega
  cases hcon : mem.conB n N m P
  · have t0 := T6.b0
    have t1 := T6.b1
    have f0 := R6.b0
    have f1 := R6.b1
    have k0 := R6.free 0
    have k1 := R6.free 1
    have hO := ((mem.Only.refl w.heap.size w6).setCell 0 (.slice p0 n c0)).setCell 1 (.slice p1 m c1)
    have HO := Lib.hid (O6.out.upd (mem.Upd.of_only hO) (.inr (by omega)) (.inr (by omega)))
    have HB := Lib.hid (mem.below_only C6.out hO (by omega))
    have HLX := Lib.hid ((L6.out.only hO (.inl (by omega))).mono (show w.heap.size ≤ w1.heap.size by omega) (Nat.le_trans (by omega) (Nat.le_of_eq hO.size)))
    have HLF := Lib.hid ((LF6.out.only hO (.inl (by omega))).mono (show w.heap.size ≤ W3.heap.size by omega) (Nat.le_trans (by omega) (Nat.le_of_eq hO.size)))
    clear hO
    go_wp2_with fail
    refine bodyPost_ret (v := .tuple #[.agg #[.slice p0 n c0, .slice p1 m c1], .slice pf F9 cf, .slice pk K ck]) (by simp [results, Tryz.results10, go_sem, f0, f1]) rfl ?_
    exact ⟨_, n, m, N, P, b1, b2, _, F9, _, _, K, D, rfl, hn, hm, hF9, hK, hnm, HO.out, by omega, by omega, HLF.out, HLX.out, HB.out⟩
  go_wp2_with fail
  refine (next_any w6 b w.heap.size cv len i5 s5 9 S6 (codeAt_below HC.out C6.out) (by omega) (by omega)).mono ?_
  rintro e w7 ⟨y, i7, s7, rfl, y0, y1, S7, o7⟩
  have z7 := Nat.le_antisymm_iff.1 o7.size
  have C7 := Lib.hid (C6.out.trans (only_below o7 (by omega)))
  have R7 := R6.keep (o7.block w.heap.size (by omega))
  have T7 := T6.keep (o7.block w2.heap.size (by omega))
  have O7 := Lib.hid (O6.out.upd (upd_of o7) (.inr (by omega)) (.inr (by omega)))
  have L7 := Lib.hid (sl_upd L6.out (upd_of o7) (by omega) (by omega))
  have LF7 := Lib.hid (sl_upd LF6.out (upd_of o7) (by omega) (by omega))
  have FR7 := FR6.out.keep (fun x hx1 _ => o7.block x (by omega))
  clear C6 R6 T6 O6 S6 o7 FR6
  obtain ⟨gs, cs, es, q1, q2, row⟩ := FR7
  injection es with es1 _ es3
  subst es1 es3
  have hDf := (mem.ffC_ok hcc9.out).2.2.1
  have d0 := mem.flQ_iff.1 (mem.flB_iff.1 hDf 0 (by omega))
  have d1 := mem.flQ_iff.1 (mem.flB_iff.1 hDf 1 (by omega))
  have y2 : y ≤ 8 := by omega
  have m0 : IntKind.i64.wrap (y - 4) = y - 4 := IntWalk.i64_in _ (by omega)
  have m1 : IntKind.i64.wrap (D 0 + (y - 4)) = D 0 + (y - 4) := IntWalk.i64_in _ (by omega)
  have m2 : IntKind.i64.wrap (D 1 - (y - 4)) = D 1 - (y - 4) := IntWalk.i64_in _ (by omega)
  have row8 := row.set 0 (D 0 + (y - 4)) (by omega)
  have row9 := row8.set 1 (D 1 - (y - 4)) (by omega)
  have c0' := row.cell 0 (by omega)
  have c1' := row.cell 1 (by omega)
  have r0' := row.free 0 (by omega)
  have c18 := row8.cell 1 (by omega)
  have r18 := row8.free 1 (by omega)
  simp only [mem.upd, if_neg (show ¬ (1 : Nat) = 0 by omega)] at c18
  have oS : mem.Only gs w7 ((w7.setCell ⟨gs, 0, none⟩ (.int .i64 (D 0 + (y - 4)))).setCell ⟨gs, 1, none⟩ (.int .i64 (D 1 - (y - 4)))) := ((mem.Only.refl gs w7).setCell _ _).setCell _ _
  go_upto_region 10 with (fail)
  obtain ⟨w8, hw8⟩ : ∃ w8, (w7.setCell ⟨gs, 0, none⟩ (.int .i64 (D 0 + (y - 4)))).setCell ⟨gs, 1, none⟩ (.int .i64 (D 1 - (y - 4))) = w8 := ⟨_, rfl⟩
  rw [hw8] at row9 oS ⊢
  clear hw8 row8 c0' c1' r0' c18 r18
  have z8 := Nat.le_antisymm_iff.1 oS.size
  have C8 := Lib.hid (mem.below_only C7.out oS (by omega))
  have R8 := R7.keep (oS.block w.heap.size (by omega))
  have T8 := T7.keep (oS.block w2.heap.size (by omega))
  have O8 := Lib.hid (O7.out.upd (mem.Upd.of_only oS) (by rcases dF1 with h | h; exact .inl h; exact .inr (fun e => by have e' : b1 = gs := e; omega)) (by rcases dF2 with h | h; exact .inl h; exact .inr (fun e => by have e' : b2 = gs := e; omega)))
  have L8 := Lib.hid (row9.sl (cap := ck) (lo := w1.heap.size) (hi := w8.heap.size) (by omega) (by omega))
  have LF8 := Lib.hid (LF7.out.only oS (.inl (by omega)))
  clear C7 R7 T7 O7 row9 oS row
  have t0 := T8.b0
  have t1 := T8.b1
  have f0 := R8.b0
  have f1 := R8.b1
  have k0 := R8.free 0
  have k1 := R8.free 1
  have hO := ((mem.Only.refl w.heap.size w8).setCell 0 (.slice p0 n c0)).setCell 1 (.slice p1 m c1)
  have HO := Lib.hid (O8.out.upd (mem.Upd.of_only hO) (.inr (by omega)) (.inr (by omega)))
  have HB := Lib.hid (mem.below_only C8.out hO (by omega))
  have HLX := Lib.hid ((L8.out.only hO (.inl (by omega))).mono (show w.heap.size ≤ w1.heap.size by omega) (Nat.le_trans (by omega) (Nat.le_of_eq hO.size)))
  have HLF := Lib.hid ((LF8.out.only hO (.inl (by omega))).mono (show w.heap.size ≤ W3.heap.size by omega) (Nat.le_trans (by omega) (Nat.le_of_eq hO.size)))
  clear hO
  go_wp2_with fail
  refine bodyPost_ret (v := .tuple #[.agg #[.slice p0 n c0, .slice p1 m c1], .slice pf F9 cf, .slice (some ⟨gs, 0, none⟩) K ck]) (by simp [results, Tryz.results10, go_sem, f0, f1]) rfl ?_
  exact ⟨_, n, m, N, P, b1, b2, _, F9, _, _, K, _, rfl, hn, hm, hF9, hK, hnm, HO.out, by omega, by omega, HLF.out, HLX.out, HB.out⟩
end Go.Proofs.YtdbgcbkmcbgdiaaGreat.draw

namespace Go.Proofs.YtdbgcbkmcbgdiaaGreat.fnSolvedSteps
open Go.ChangeShapes Go.WideShapes Go.ChangeAt Go.RowKit Go.Proofs.YtdbgcbkmcbgdiaaGreat.draw Go.Proofs.YtdbgcbkmcbgdiaaGreat.mem
set_option linter.unusedVariables false

theorem own : ownKnob Tryz.prog.godebug = none := by kernel_rfl
theorem laidOut : laidOutB Tryz.prog = true := by kernel_rfl

theorem owns_sl {w : World} {v : Value} {n b : Nat} {d : Nat → Int} (h : OwnS w v n 1 (fun i _ => .int .i64 (d i)) b) : Sl w v n d 0 w.heap.size := by
  obtain ⟨p', cap, hv, h1, h2, h3⟩ := h.ex
  refine ⟨p', cap, hv, ?_⟩
  rcases h3 with h3 | ⟨h3, h4⟩
  · exact .inl h3
  · refine .inr ⟨b, 0, h3, Nat.zero_le _, h4.lt, fun k hk => ?_⟩
    have := h4.cell k 0 hk (by omega)
    simpa using this
theorem ssFacts (n : Nat) (N : Nat → Nod) (m : Nat) (P : Nat → Pip) (K : Nat) (d : Nat → Int) (L : Nat) (s : Nat → Int) (hN : ∀ i, i < n → (N i).s.size ≤ 9223372036854775807) (hn : n ≤ 1000) (hm : m ≤ 1000) (hK : K ≤ 2000000) (hL : L ≤ 2000000) :
    ∃ (rn : Nat) (rd : Nat → Int) (rc : Int), rn ≤ 1000 ∧ (∀ w v va vb, NetAt w v n N m P 0 w.heap.size → Sl w va K d 0 w.heap.size → Sl w vb L s 0 w.heap.size → Calls Tryz.prog 11 #[v, va, vb] w (LIPost w rn rd rc)) ∧ (∀ w v va vb, NetAt w v n N m P 0 w.heap.size → Sl w va K d 0 w.heap.size → Sl w vb L s 0 w.heap.size → Calls Tryz.prog 12 #[v, va, vb] w (LIPost w rn rd rc)) ∧
      (rc = 0 → ∀ w v va vb, NetAt w v n N m P 0 w.heap.size → Sl w va rn rd 0 w.heap.size → Sl w vb L s 0 w.heap.size → Calls Tryz.prog 14 #[v, va, vb] w (BPost w true)) := by
  refine ⟨ssN n N m P K d L s, (rfR n m P (ssX n m P d s) 1).1, ssC n N m P K d L s, Nat.le_trans (ssN_le n N m P K d L s) hm, fun w v va vb h hv hu => solveStepI_any w v n N m P 0 _ h (Nat.le_refl _) hN va K d 0 _ hv (Nat.le_refl _) (by omega) vb L s 0 _ hu (Nat.le_refl _) (by omega), fun w v va vb h hv hu => solveStepS_any w v n N m P 0 _ h (Nat.le_refl _) hN va K d 0 _ hv (Nat.le_refl _) (by omega) vb L s 0 _ hu (Nat.le_refl _) (by omega), fun hc w v va vb h hv hu => ?_⟩
  have hmm : ssN n N m P K d L s = m := by unfold ssN; rw [if_pos hc]
  rw [hmm] at hv
  obtain ⟨h0, hl, he, ho, hss⟩ : flC n N m P K d = 0 ∧ liB n L s = true ∧ evB n P m s = true ∧ flB (suD m P d) n = true ∧ ssB n m P d s = true := by
    unfold ssC at hc
    split at hc
    · next h0 =>
      split at hc
      · next h1 =>
        split at hc
        · next h2 =>
          split at hc
          · next h3 =>
            split at hc
            · next h4 => exact ⟨h0, h1, h2, h3, h4⟩
            · omega
          · omega
        · omega
      · omega
    · next h0 => exact absurd hc h0
  obtain ⟨hB, rfl, hfd⟩ := flC_ok h0
  obtain ⟨rfl, hfs⟩ := liB_iff.1 hl
  have hx : flB (ssX L K P d s) K = true := by
    unfold ssB at hss
    rw [Bool.and_eq_true] at hss
    exact hss.2
  have hfr : ∀ k, k < K → -30000 ≤ ssX L K P d s k ∧ ssX L K P d s k ≤ 30000 := fun k hk => flQ_iff.1 (flB_iff.1 hx k hk)
  have heo : evB L P K (suD K P d) = true := even_of hB (fun z _ => rfl)
  have hdx : ∀ z, z < L → dv P (ssX L K P d s) K ((z : Nat) : Int) = s z := fun z hz => by
    have e : ssX L K P d s = fun k => (fun k => d k + (fun b => 1 * fflN L P K s b) k) k + (fun b => -1 * fflN L P K (suD K P d) b) k := rfl
    rw [e, dv_add, dv_add, dv_mul, dv_mul, fflN_bal hB he z hz, fflN_bal hB heo z hz]
    unfold suD
    omega
  have hrng := rlS_rng (m := K) (P := P) (Y := fun i => cyc P (fE L P K) (fD L P K) (chS L P K i)) (C := chN L P K) (5000 + (1 : Int).toNat) (x := ssX L K P d s) (tot := 0) (st := 1) hfr
  have hdv := rlS_ind (m := K) (P := P) (Y := fun i => cyc P (fE L P K) (fD L P K) (chS L P K i)) (C := chN L P K) (fun z => ∀ u : Int, dv P z K u = dv P (ssX L K P d s) K u) (fun z j t hj hz u => by
    obtain ⟨hjm, hjp⟩ := chS_at (n := L) (P := P) (m := K) hj
    have e : (fun k => z k + t * cyc P (fE L P K) (fD L P K) (chS L P K j) k) = fun k => z k + (fun b => t * cyc P (fE L P K) (fD L P K) (chS L P K j) b) k := rfl
    show dv P (fun k => z k + t * cyc P (fE L P K) (fD L P K) (chS L P K j) k) K u = _
    rw [e, dv_add, dv_mul, (fo_net hB).cyc_dv (fo_r0 hB) (fo_r2 hB) hjm (fo_r1 hB _ hjm) u, Int.mul_zero, Int.add_zero, hz u]) (5000 + (1 : Int).toNat) (x := ssX L K P d s) (tot := 0) (st := 1) (fun u => rfl)
  have hR : rlS K P (fun i => cyc P (fE L P K) (fD L P K) (chS L P K i)) (chN L P K) (5000 + (1 : Int).toNat) (ssX L K P d s) 0 1 = rfR L K P (ssX L K P d s) 1 := rfl
  rw [hR] at hrng hdv
  have hlf : flB (rfR L K P (ssX L K P d s) 1).1 K = true := flB_iff.2 fun k hk => flQ_iff.2 (hrng k hk)
  have := isBalancedI_any w v L N K P 0 _ h (Nat.le_refl _) hN va K _ 0 _ hv (Nat.le_refl _) (by omega) vb L s 0 _ hu (Nat.le_refl _) (by omega)
  rwa [ib_is hB hlf hfs (fun z hz => (hdv _).trans (hdx z hz))] at this
set_option maxRecDepth 100000 in
set_option maxHeartbeats 20000000 in
theorem walk (v : Value) (w : World) (hc : CodeArg w v) :
    Calls Tryz.prog 3 #[v] w fun e w' => e = .returned (.bool true) ∧ Below w.heap.size w w' := by
  obtain ⟨p, len, cap, rfl, hlen, hcode⟩ := hc
  by_cases h4 : (4096 : Int) < len
  · clear hcode
    go_enter Tryz.func3, Tryz.ntmps3
    go_wp2_with (go_at_call 9; refine (draw.big_any _ _ _ _).mono ?_; rintro e w' ⟨rfl, rfl⟩)
    go_ret
    exact ⟨rfl, Below.refl _ _⟩
  have hc := hcode (by omega)
  clear hcode
  go_enter Tryz.func3, Tryz.ntmps3
  go_wp2_with (go_at_call 9; refine (draw.big_any _ _ _ _).mono ?_; rintro e w' ⟨rfl, rfl⟩)
  refine (draw.drawSolveStep w _ len hc).mono ?_
  rintro e w1 ⟨v, n, m, N, P, b1, b2, vf, F, f, vl, K, D, rfl, hn, hm, hF, hK, hnm, o1, l1, l2, hF1, hK1, C1⟩
  obtain ⟨rn, rd, rc, hrn, ti, ts, hz⟩ := ssFacts n N m P F f K D hnm hn hm (by omega) (by omega)
  have TI := Lib.hid ti
  have TS := Lib.hid ts
  have HZ := Lib.hid hz
  clear ti ts hz
  clear hc
  obtain ⟨pf, cf, rfl⟩ := draw.sl_sh hF1
  obtain ⟨pk, ck, rfl⟩ := draw.sl_sh hK1
  have hb2 : (rc != rc) = false := by simp
  have lxx := o1.lts
  obtain ⟨sx1, sx2, sx3, sx4, rfl⟩ := o1.shape
  go_wp2_with fail
  have bb := mem.below_new w1 (.cells #[.slice sx1 n sx2, .slice sx3 m sx4] 27)
  have B_x := boxed w1 (.slice sx1 n sx2) (.slice sx3 m sx4) 27
  have hs2 := bb.size
  have C2 := belowNext C1 bb
  have LF2 := hF1.next bb
  have LK2 := hK1.next bb
  have x2 := o1.next bb
  clear bb C1 hF1 hK1 o1
  generalize hW2 : w1.alloc (Obj.cells #[.slice sx1 n sx2, .slice sx3 m sx4] 27) = w2 at *
  clear hW2
  have Bx2 := B_x
  clear B_x
  have lBx := Bx2.lt
  refine (TI.out _ _ _ _ x2.net LF2.zero LK2.zero).mono ?_
  rintro e w3 ⟨xA, gA, rfl, oA, lA, bb⟩
  have hs3 := bb.size
  have C3 := belowNext C2 bb
  have LF3 := LF2.next bb
  have LK3 := LK2.next bb
  have x3 := x2.next bb
  have Bx3 := Bx2.next bb
  clear bb C2 LF2 LK2 x2 Bx2
  have lxA := oA.lt
  obtain ⟨sA1, sA2, rfl⟩ := oA.shape
  have qBx0 := Bx3.b0
  have qBx1 := Bx3.b1
  have qBx2 := Bx3.lt
  go_wp2_with fail
  refine (TS.out _ _ _ _ x3.net LF3.zero LK3.zero).mono ?_
  rintro e w4 ⟨xB, gB, rfl, oB, lB, bb⟩
  have hs4 := bb.size
  have C4 := belowNext C3 bb
  have LF4 := LF3.next bb
  have LK4 := LK3.next bb
  have x4 := x3.next bb
  have Bx4 := Bx3.next bb
  have A4 := oA.next bb
  clear qBx0 qBx1 qBx2
  clear bb C3 LF3 LK3 x3 Bx3 oA
  have lxB := oB.lt
  obtain ⟨sB1, sB2, rfl⟩ := oB.shape
  have qBx0 := Bx4.b0
  have qBx1 := Bx4.b1
  have qBx2 := Bx4.lt
  go_wp2_with fail
  refine (likeInts_any _ _ _ rn rd 0 w4.heap.size 0 w4.heap.size (A4.cs (.inr rfl) (Nat.le_refl _)) (oB.cs (.inr rfl) (Nat.le_refl _))).mono ?_
  rintro e w5 ⟨rfl, bb⟩
  have hs5 := bb.size
  have C5 := belowNext C4 bb
  have LF5 := LF4.next bb
  have LK5 := LK4.next bb
  have x5 := x4.next bb
  have Bx5 := Bx4.next bb
  have A5 := A4.next bb
  have B5 := oB.next bb
  clear qBx0 qBx1 qBx2
  clear bb C4 LF4 LK4 x4 Bx4 A4 oB
  clear B5
  by_cases hrc : rc = 0
  · subst hrc
    have q1 := HZ.out (by trivial)
    have Q1 := Lib.hid q1
    clear q1
    clear HZ
    have qBx0 := Bx5.b0
    have qBx1 := Bx5.b1
    have qBx2 := Bx5.lt
    go_wp2_with fail
    refine (Q1.out _ _ _ _ x5.net (owns_sl A5) LK5.zero).mono ?_
    rintro e w6 ⟨rfl, bb⟩
    have hs6 := bb.size
    have C6 := belowNext C5 bb
    have LF6 := LF5.next bb
    have LK6 := LK5.next bb
    have x6 := x5.next bb
    have Bx6 := Bx5.next bb
    have A6 := A5.next bb
    clear qBx0 qBx1 qBx2
    clear bb C5 LF5 LK5 x5 Bx5 A5
    have qBx0 := Bx6.b0
    have qBx1 := Bx6.b1
    have qBx2 := Bx6.lt
    go_wp2_with fail
    go_ret
    exact ⟨rfl, C6⟩
  · have hxc' : (rc != 0) = true := by simpa using hrc
    have qBx0 := Bx5.b0
    have qBx1 := Bx5.b1
    have qBx2 := Bx5.lt
    go_wp2_with fail
    go_ret
    exact ⟨rfl, C5⟩

set_option maxRecDepth 100000 in
theorem lifted (os : Os) (started : os.Started) (H : Type) (enc : TypeId × Value → H) :
    ReturnsInHanded {} Tryz.checked os 3 .any (Rows.fnSolvedStepsSpec.pre6 enc Tryz.prog Tryz.f3 Rows.fnSolvedStepsRow.domain false) (Rows.fnSolvedStepsSpec.post enc Tryz.prog Tryz.f3 false true false false) := by
  refine returnsInHanded_of_change (C := Tryz.checked) own started (by kernel_rfl) Tryz.func3
    (ChangeSpec.witness6 (enc := enc) (C := Tryz.checked) false ⟨#[], #[.slice none 0 0], []⟩ 8 (by kernel_rfl) (by kernel_rfl) (by kernel_rfl) (by kernel_rfl)) ?_
  intro W base args ds gs before hval0 hW hcnd _
  have hval : ∀ (j : Nat) t v, Tryz.f3.params[j]? = some t → args[j]? = some v → Value.okWide Tryz.prog W .any base t v := hval0
  have hW' := hW
  obtain ⟨p, q, hA0, hV, rfl, hfz, hnd⟩ := hW
  have hA : DataW.TrodAll enc Tryz.prog W 0 (fun _ => true) true Tryz.f3.params.toList args.toList ds p := hA0
  rw [Tryz.params3] at hA hval
  obtain ⟨v0, vs0, d0, ds0, p0, q0, hargs, rfl, rfl, h0, r0⟩ := trodAll_cons hA
  obtain ⟨rfl, rfl, rfl⟩ := trodAll_nil r0
  obtain rfl : args = #[v0] := by cases args; simp_all
  obtain ⟨rfl, rfl⟩ := trodVars_none hV
  have hc := open_code (hval 0 22 v0 rfl rfl) h0
  refine (walk v0 W hc).mono fun e W' ⟨he, hg⟩ => ?_
  subst he
  exact ⟨_, rfl, law.law_post hW' hg laidOut (by kernel_rfl) rfl rfl (by kernel_rfl) Tryz.underlying4⟩

theorem over : Rows.fnSolvedStepsRow.holds Tryz.pinned (OpenSpec.ofChange Rows.fnSolvedStepsSpec) :=
  OpenClaim.holds_of_wide 3 Tryz.f3 rfl rfl rfl rfl rfl rfl rfl ⟨rfl, rfl, rfl, rfl, rfl⟩ rfl rfl rfl rfl rfl (by kernel_rfl) Tryz.func3 (by kernel_rfl)
    (of_decide_eq_true (by kernel_rfl)) (by unfold Func.isWrapper; first | (rw [if_pos (by decide +kernel)]; kernel_rfl) | (rw [if_neg (by decide +kernel)]; exact ⟨rfl, rfl⟩))
    (fun os started H enc _ => lifted os started H enc)

theorem proved : Rows.FnSolvedStepsSaid :=
  over
#print axioms proved
end Go.Proofs.YtdbgcbkmcbgdiaaGreat.fnSolvedSteps

