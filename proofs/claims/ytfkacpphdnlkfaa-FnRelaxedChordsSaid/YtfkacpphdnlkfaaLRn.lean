/-
  Several texts in one: ElM, EsM, DyM, DeM, LikeI, Lrq, Lrr, Lrs, Lbe, Lbs, Lrc, Df1, Roll, LRch.
-/
import Derived.Test.YtfkacpphdnlkfaaRows
import Derived.Test.YtfkacpphdnlkfaaLop
import Derived.Deep.RegionHeld3
import Derived.Deep.CutRange
import Derived.Test.YtfkacpphdnlkfaaEnM
import Derived.Test.YtfkacpphdnlkfaaTsM
import Derived.BigQuiet
import Derived.IntWalk
import Derived.Test.YtfkacpphdnlkfaaLfm
import Derived.Test.YtfkacpphdnlkfaaDrG
import Derived.WalkKit
import Derived.ProofKit
import Derived.Lib.Hide
import Derived.OwnWalk
import Derived.Outline
import Derived.Test.YtfkacpphdnlkfaaCsM
import Derived.Deep.Cut
import Derived.Deep.RegionWith
import Derived.StillTailTactics
import Derived.Test.YtfkacpphdnlkfaaBaM
import Derived.Test.YtfkacpphdnlkfaaI64
import Derived.Test.YtfkacpphdnlkfaaCs
import Derived.Deep.QuietTactic
import Derived.Laws.ResultCell
import Derived.Lib.MinMax
import Derived.Laws.EntriesVeiled
import Derived.Laws.Cover1
import Derived.Test.YtfkacpphdnlkfaaDrawB
import Derived.Laws.BitsLemmas
import Derived.Test.YtfkacpphdnlkfaaLaw
import Derived.Test.YtfkacpphdnlkfaaCode
import Derived.OpenShut
import Derived.Deep.RegionHeldLaw
namespace Go.Proofs.Ytfkacpphdnlkfaa.mem
open Go.RowKit
set_option linter.unusedVariables false

end Go.Proofs.Ytfkacpphdnlkfaa.mem

namespace Go.Proofs.Ytfkacpphdnlkfaa.mem
open Go.RowKit
set_option linter.unusedVariables false

end Go.Proofs.Ytfkacpphdnlkfaa.mem

namespace Go.Proofs.Ytfkacpphdnlkfaa.mem
open Go.RowKit
set_option linter.unusedVariables false

set_option maxRecDepth 100000 in
set_option maxHeartbeats 8000000 in
theorem l10Energy_any (w : World) (v : Value) (n : Nat) (N : Nat → Nod) (m : Nat) (P : Nat → Pip) (lo hi : Nat) (h : NetAt w v n N m P lo hi) (hhi : hi ≤ w.heap.size) (hB : netB n N m P = true) (va : Value) (x : Nat → Int) (la ha : Nat) (hv : Sl w va m x la ha) (hha : ha ≤ w.heap.size) (hx : ∀ k, k < m → -30000 ≤ x k ∧ x k ≤ 30000) :
    Calls Try.prog 100 #[v, va] w fun e w' => e = .returned (.int .i64 (egS P x m)) ∧ Below w.heap.size w w' := by
  obtain ⟨p0, c0, p1, c1, rfl, hn9, hm9⟩ := h.parts
  obtain ⟨hn1, hn24, hm40⟩ := net_sz hB
  obtain ⟨pa, ca, rfl⟩ := hv.sh
  have HV := Lib.hid h
  have HSV := Lib.hid hv
  have HBN := Lib.hid hB
  have HE := Lib.hid (show ∀ k, k < m → EgB (P k).k ((x k).natAbs : Int) from fun k hk => egB_of (net_pip hB hk) (hx k hk).1 (hx k hk).2)
  have HX := Lib.hid hx
  have A0 := boxed w (.slice p0 n c0) (.slice p1 m c1) 33
  have B0 := below_new w (.cells #[.slice p0 n c0, .slice p1 m c1] 33)
  have hs0 : (w.alloc (.cells #[.slice p0 n c0, .slice p1 m c1] 33)).heap.size = w.heap.size + 1 := by simp
  clear h hB hv hx
  go_enter Try.func100, Try.ntmps100
  go_wp2_with fail
  obtain ⟨w1, hw1⟩ : ∃ w1, w.alloc (.cells #[.slice p0 n c0, .slice p1 m c1] 33) = w1 := ⟨_, rfl⟩
  rw [hw1] at A0 B0 hs0 ⊢
  clear hw1
  have HA := Lib.hid A0
  have HBB := Lib.hid B0
  clear A0 B0
  go_loopw [5, 6] (fun sv iv wr => ∃ k : Nat, sv = .int .i64 (egS P x k) ∧ iv = .int .i64 k ∧ k ≤ m ∧ w1.heap.size ≤ wr.heap.size ∧ Below w1.heap.size w1 wr) (fun _ iv _ => m - (intOf iv).toNat)
  case atStart => exact ⟨0, rfl, rfl, Nat.zero_le _, Nat.le_refl _, Below.refl _ _⟩
  case round =>
    obtain ⟨k, rfl, rfl, hk, hsz, hb⟩ := hrel
    have HL := Lib.hid hb
    clear hb
    have k0 : (0 : Int) ≤ (k : Int) := Int.natCast_nonneg _
    have BW := Lib.hid (HBB.out.trans (HL.out.mono (by omega)))
    by_cases hlt : k < m
    · have k1 : (k : Int) < (m : Int) := by omega
      obtain ⟨p', c', ee, hxx⟩ := (HSV.out.below BW.out hha).ex
      injection ee with e1 _ e3
      subst e1 e3
      obtain ⟨ba, oa, rfl, ga1, ga2, hxx⟩ : ∃ b o, pa = some ⟨b, o, none⟩ ∧ la ≤ b ∧ b < ha ∧ ∀ k, k < m → wr.cell? ⟨b, o + k, none⟩ = some (.int .i64 (x k)) := by
        rcases hxx with e | e
        · omega
        · exact e
      have yx := hxx k hlt
      clear hxx
      obtain ⟨bp, op, rfl, q1, q2, r0, r1, r2, r3, r4⟩ := (HV.out.below BW.out hhi).pipe hlt
      have f0 : wr.cell? ⟨w.heap.size, 0, none⟩ = some (.slice p0 n c0) := (HA.out.below HL.out (by omega)).b0
      have f1 : wr.cell? ⟨w.heap.size, 1, none⟩ = some (.slice (some ⟨bp, op, none⟩) m c1) := (HA.out.below HL.out (by omega)).b1
      obtain ⟨z0, z1⟩ := HX.out k hlt
      have he := HE.out k hlt
      have h1 := he.one
      have h2 := he.two
      have h3 := he.thr
      have hs := egS_bnd (P := P) (x := x) (k := k) (fun j hj => HE.out j (by omega))
      have HS := Lib.hid (show egS P x (k + 1) = egS P x k + (P k).k * ((x k).natAbs : Int) * ((x k).natAbs : Int) * ((x k).natAbs : Int) from rfl)
      have hs1 : egS P x k ≤ 1080000000000000000 := by omega
      have hs2 := hs.1
      clear hs
      go_wp2_with (go_at_call 63; refine (absS_any _ _ (by omega) (by omega)).mono ?_; rintro e w' ⟨rfl, rfl⟩)
      go_roundw
      case rel => exact ⟨k + 1, by rw [HS.out], by go_num, hlt, hsz, HL.out⟩
      case measure => simp [intOf]; omega
    · have hkn : k = m := by omega
      subst hkn
      have k1 : ¬ ((k : Int) < (k : Int)) := by omega
      go_wp2_with fail
      go_ret
      exact ⟨rfl, BW.out⟩

end Go.Proofs.Ytfkacpphdnlkfaa.mem

namespace Go.Proofs.Ytfkacpphdnlkfaa.mem
open Go.RowKit
set_option linter.unusedVariables false

set_option maxRecDepth 100000 in
set_option maxHeartbeats 8000000 in
theorem l10Code_any (w : World) (v : Value) (n : Nat) (N : Nat → Nod) (m : Nat) (P : Nat → Pip) (lo hi : Nat) (h : NetAt w v n N m P lo hi) (hhi : hi ≤ w.heap.size) (hN : ∀ i, i < n → (N i).s.size ≤ 9223372036854775807) (va : Value) (K : Nat) (d : Nat → Int) (la ha : Nat) (hv : Sl w va K d la ha) (hha : ha ≤ w.heap.size) (hK9 : K ≤ 9223372036854775807) (x : Int) :
    Calls Try.prog 54 #[v, va, .int .i64 x] w (fun e w' => e = .returned (.int .i64 (ckC n N m P K d x)) ∧ Below w.heap.size w w') := by
  obtain ⟨p0, c0, p1, c1, rfl, hn9, hm9⟩ := h.parts
  have HV := Lib.hid h
  have HN := Lib.hid hN
  obtain ⟨pa, ca, rfl⟩ := hv.sh
  have HSV := Lib.hid hv
  have A0 := boxed w (.slice p0 n c0) (.slice p1 m c1) 33
  have B0 := below_new w (.cells #[.slice p0 n c0, .slice p1 m c1] 33)
  have hs0 : (w.alloc (.cells #[.slice p0 n c0, .slice p1 m c1] 33)).heap.size = w.heap.size + 1 := by simp
  clear h hN hv
  go_enter Try.func54, Try.ntmps54
  have e0' := A0.b0
  have e1' := A0.b1
  go_wp2_with fail
  refine (l05Code_any _ _ n N m P lo hi (HV.out.below B0 hhi) (by omega) HN.out _ K d la ha (HSV.out.below B0 hha) (by omega) hK9).mono ?_
  rintro e w1 ⟨rfl, b1⟩
  have A1 := A0.below b1 (by omega)
  have B1 := B0.trans (b1.mono (by omega))
  have hs1 := b1.size
  have e0 := A1.b0
  have e1 := A1.b1
  have e2 : w.heap.size < w1.heap.size := by omega
  clear A0 B0 b1 e0' e1'
  by_cases hc : flC n N m P K d = 0
  · obtain ⟨hB, rfl, hf⟩ := flC_ok hc
    have hm40 := (net_sz hB).2.2
    have HB := Lib.hid hB
    have HC := Lib.hid hc
    have HF := Lib.hid (show ∀ k, k < K → -30000 ≤ d k ∧ d k ≤ 30000 from fun k hk => flQ_iff.1 (flB_iff.1 hf k hk))
    have H1 := Lib.hid (HSV.out.below B1 hha)
    rw [hc]
    clear hc hB hf
    cases hch : chB n P K x
    · have H4 := Lib.hid (show ckC n N K P K d x = 4 by unfold ckC; rw [if_pos HC.out, hch]; rfl)
      have HCB := Lib.hid hch
      clear hch
      go_wp2_with (first
        | (go_at_call 68; refine (l05Chords_any w1 _ n N K P lo hi (HV.out.below B1 hhi) (by omega) HN.out HB.out).mono ?_; rintro e w2 ⟨vc, gc, rfl, oc, hgc, b2⟩; have HC2 := Lib.hid oc)
        | (go_at_call 95; refine (l02Has_any _ _ _ (fd (chP n P K) K) 0 _ (HC2.out.ownS.cs (.inr rfl) (Nat.le_refl _)) _).mono ?_; rintro e w' ⟨rfl, rfl⟩; rw [show hasB (chN n P K) (fd (chP n P K) K) x = _ from HCB.out]))
      go_ret
      exact ⟨ret_i H4.out.symm, B1.trans (b2.mono (by omega))⟩
    · have H4 := Lib.hid (show ckC n N K P K d x = 0 by unfold ckC; rw [if_pos HC.out, hch]; rfl)
      have HCB := Lib.hid hch
      clear hch
      go_wp2_with (first
        | (go_at_call 68; refine (l05Chords_any w1 _ n N K P lo hi (HV.out.below B1 hhi) (by omega) HN.out HB.out).mono ?_; rintro e w2 ⟨vc, gc, rfl, oc, hgc, b2⟩; have HC2 := Lib.hid oc)
        | (go_at_call 95; refine (l02Has_any _ _ _ (fd (chP n P K) K) 0 _ (HC2.out.ownS.cs (.inr rfl) (Nat.le_refl _)) _).mono ?_; rintro e w' ⟨rfl, rfl⟩; rw [show hasB (chN n P K) (fd (chP n P K) K) x = _ from HCB.out]))
      go_ret
      exact ⟨ret_i H4.out.symm, B1.trans (b2.mono (by omega))⟩
  · have hb1 : (flC n N m P K d == 0) = false := by simpa using hc
    have H4 := Lib.hid (show ckC n N m P K d x = flC n N m P K d by unfold ckC; rw [if_neg hc])
    clear hc
    go_wp2_with fail
    go_ret
    exact ⟨ret_i H4.out.symm, B1⟩

end Go.Proofs.Ytfkacpphdnlkfaa.mem

namespace Go.Proofs.Ytfkacpphdnlkfaa.mem
open Go.RowKit
set_option linter.unusedVariables false

end Go.Proofs.Ytfkacpphdnlkfaa.mem

namespace Go.Proofs.Ytfkacpphdnlkfaa.mem
open Go.RowKit
set_option linter.unusedVariables false

end Go.Proofs.Ytfkacpphdnlkfaa.mem

namespace Go.Proofs.Ytfkacpphdnlkfaa.mem
open Go.RowKit
set_option linter.unusedVariables false

end Go.Proofs.Ytfkacpphdnlkfaa.mem

namespace Go.Proofs.Ytfkacpphdnlkfaa.mem
open Go.RowKit
set_option linter.unusedVariables false

end Go.Proofs.Ytfkacpphdnlkfaa.mem

namespace Go.Proofs.Ytfkacpphdnlkfaa.mem
open Go.RowKit
set_option linter.unusedVariables false

end Go.Proofs.Ytfkacpphdnlkfaa.mem

namespace Go.Proofs.Ytfkacpphdnlkfaa.mem
open Go.RowKit
set_option linter.unusedVariables false

end Go.Proofs.Ytfkacpphdnlkfaa.mem

namespace Go.Proofs.Ytfkacpphdnlkfaa.mem
open Go.RowKit
set_option linter.unusedVariables false

end Go.Proofs.Ytfkacpphdnlkfaa.mem

namespace Go.Proofs.Ytfkacpphdnlkfaa.draw
open Go.RowKit
set_option linter.unusedVariables false

theorem upd_hi {X : Nat → Prop} {g : Nat} {w w1 w2 : World} (h : mem.Upd X w w1) (k : mem.Upd (fun x => x = g) w1 w2) (hg : w.heap.size ≤ g) : mem.Upd X w w2 :=
  ⟨k.os.trans h.os, k.tape.trans h.tape, k.output.trans h.output, Nat.le_trans h.size k.size, fun x hx hn => (k.block x (Nat.lt_of_lt_of_le hx h.size) (by omega)).trans (h.block x hx hn)⟩
theorem flatP {P : Nat → mem.Pip} {n : Nat} : ∀ u ∈ mem.flatL (mem.pipC P) n 5, u.oneCell' = true := by
  intro u hu
  unfold mem.flatL at hu
  obtain ⟨x, _, rfl⟩ := List.mem_map.1 hu
  unfold mem.pipC
  split <;> rfl
theorem appPips (W : World) (B B0 : Nat) (p : Option Addr) (m cap : Nat) (P : Nat → mem.Pip) (lo hi : Nat) (h0 : RP B W (.slice (some ⟨B0, 0, none⟩) 0 0) 0 (mem.pipC P)) (hB : B ≤ W.heap.size) (h : mem.Cs W (.slice p m cap) m 5 (mem.pipC P) lo hi) (hm : m ≤ 1000000) :
    ∃ v' w', Sem.run Try.prog (Builtin.append_ #[31, 31] 31 #[.slice (some ⟨B0, 0, none⟩) 0 0, .slice p m cap]) W = .ok v' w' ∧ RP B w' v' m (mem.pipC P) ∧ mem.Upd (fun x => x = B0) W w' := by
  obtain ⟨i0, hi0, hz0, hz1, hz2⟩ := info_parts mem.info_make_pipe
  obtain ⟨q, cq, hv, h1, h2, h3⟩ := h.ex
  injection hv with e1 _ e2
  subst e1 e2
  rcases Nat.eq_zero_or_pos m with rfl | hpos
  · refine ⟨.slice (some ⟨B0, 0, none⟩) 0 0, W, ?_, h0, ⟨rfl, rfl, rfl, Nat.le_refl _, fun _ _ _ => rfl⟩⟩
    rcases p with _ | a
    · simp [Builtin.append_, run_underlying Try.underlying31, sizeOf, typeInfo, hi0, Builtin.lenOf, Builtin.firstCells, storeCells]
    · have hf := run_firstCells_some (P := Try.prog) W i0.size 0 a 0 cap [] (by simp) (by intro j u hu; cases hu)
      simp [Builtin.append_, run_underlying Try.underlying31, sizeOf, typeInfo, hi0, Builtin.lenOf, hf, storeCells]
  · rcases h3 with h3 | ⟨b, o, rfl, g1, g2, g3⟩
    · omega
    obtain ⟨v', w', hr, ho, hgr, _⟩ := run_append_own (P := Try.prog) W B 31 31 112 i0 _ 5 40 Try.underlying31 hi0 hz0 hz1 hz2 (by kernel_rfl) (by omega) _ 0 _ h0.own ⟨b, o, none⟩ m cap (mem.flatL (mem.pipC P) m 5) (mem.flatL_len _ _ _) (mem.flatL_cell g3) flatP (by unfold maxLen; omega) (by omega) hB
    refine ⟨v', w', hr, ⟨?_⟩, ⟨hgr.os, hgr.tape, hgr.output, hgr.size, fun x hx hne => hgr.block x hx (by simp [Value.ownBlock]; exact hne)⟩⟩
    have e : mem.flatL (mem.pipC P) 0 5 = [] := by simp [mem.flatL]
    rw [e, List.nil_append, Nat.zero_add] at ho
    exact ho
/-- nodes and pipes while pipes are appended; a block below the pipes' row holds the drawn network -/
structure Dl (W1 : World) (b : Nat) (cv : Value) (len nb : Nat) (v0 v1 : Value) (wr : World) (vP : Value) (n m : Nat) : Prop where
  ex : ∃ (N : Nat → mem.Nod) (P : Nat → mem.Pip) (i s : Int), RN W1.heap.size wr v0 n (mem.nodC N) ∧ RP (nb + 1) wr vP m (mem.pipC P) ∧ (∀ i, i < n → (N i).s.size ≤ 9223372036854775807) ∧ Src wr b cv len i s ∧ mem.Upd (· = b) W1 wr ∧ mem.Ob wr nb 2 (mem.bx v0 v1)
theorem Dl.drawn {W1 wr w' : World} {b : Nat} {cv : Value} {len nb : Nat} {v0 v1 vP : Value} {n m : Nat} {i s : Int} (h : Dl W1 b cv len nb v0 v1 wr vP n m) (hb : b < W1.heap.size) (hnb : W1.heap.size ≤ nb) (u : mem.Upd (· = b) wr w') (hS : Src w' b cv len i s) : Dl W1 b cv len nb v0 v1 w' vP n m := by
  obtain ⟨N, P, _, _, h1, h2, h3, _, h5, h6⟩ := h.ex
  exact ⟨N, P, i, s, h1.low u hb, h2.low u (by omega), h3, hS, h5.trans u, h6.keep (u.block nb h6.lt (by omega))⟩
theorem Dl.addP {W1 wr w' : World} {b : Nat} {cv : Value} {len nb : Nat} {v0 v1 vP v' : Value} {n m : Nat} {N : Nat → mem.Nod} {P : Nat → mem.Pip} {q : mem.Pip} {i s : Int} (hb : b < W1.heap.size) (hnb : W1.heap.size ≤ nb)
    (hN : RN W1.heap.size wr v0 n (mem.nodC N)) (hP : RP (nb + 1) wr vP m (mem.pipC P)) (hs : ∀ i, i < n → (N i).s.size ≤ 9223372036854775807) (hS : Src wr b cv len i s) (hU : mem.Upd (· = b) W1 wr) (hO : mem.Ob wr nb 2 (mem.bx v0 v1))
    (h' : RP (nb + 1) w' v' (m + 1) (mem.pipC (draw.addP P m q))) (u : mem.Upd (fun x => some x = vP.ownBlock) wr w') : Dl W1 b cv len nb v0 v1 w' v' n (m + 1) :=
  ⟨N, _, i, s, hN.keep u (mem.rows_apart hN hP (by decide)), h', hs, src_upd hS (u.block b (src_lt hS) (fun e => by have := (hP.own.lt b e.symm).1; omega)), upd_row hU hP (by omega) u, hO.keep (u.block nb hO.lt (fun e => by have := (hP.own.lt nb e.symm).1; omega))⟩
theorem Dl.net {W1 wr : World} {b : Nat} {cv : Value} {len nb : Nat} {v0 v1 vP : Value} {n m : Nat} (h : Dl W1 b cv len nb v0 v1 wr vP n m) (hnb : W1.heap.size ≤ nb) : ∃ (N : Nat → mem.Nod) (P : Nat → mem.Pip) (i s : Int) (g1 g2 : Nat), mem.OwnS wr v0 n 3 (mem.nodC N) g1 ∧ mem.OwnS wr vP m 5 (mem.pipC P) g2 ∧ (n = 0 ∨ m = 0 ∨ g1 ≠ g2) ∧ W1.heap.size ≤ g1 ∧ W1.heap.size ≤ g2 ∧ (∀ i, i < n → (N i).s.size ≤ 9223372036854775807) ∧ Src wr b cv len i s ∧ mem.Upd (· = b) W1 wr ∧ mem.Ob wr nb 2 (mem.bx v0 v1) := by
  obtain ⟨N, P, i, s, hN, hP, hs, hS, hU, hO⟩ := h.ex
  obtain ⟨g1, a1, a2, a3⟩ := ownS2 hN
  obtain ⟨g2, c1, c2, c3⟩ := ownS2 hP
  refine ⟨N, P, i, s, g1, g2, a1, c1, ?_, a2, by omega, hs, hS, hU, hO⟩
  rcases a3 with a3 | a3
  · rcases c3 with c3 | c3
    · refine .inr (.inr fun e => ?_)
      exact mem.rows_apart hN hP (by decide) g1 a3 (by rw [c3, e])
    · exact .inr (.inl c3)
  · exact .inl a3
set_option maxRecDepth 100000 in
set_option maxHeartbeats 4000000 in
theorem loops_any (w : World) (b B : Nat) (cv : Value) (len : Nat) (i s : Int) (h : Src w b cv len i s) (hc : CodeAt w cv len B) (hB : B ≤ b) :
    Calls Try.prog 132 #[.pointer (some ⟨b, 0, none⟩)] w (AnyPost w b cv len) := by
  have hlt := src_lt h
  have h' := src_alloc h hlt (.cells #[.slice none 0 0, .slice none 0 0] 33)
  have HC := Lib.hid (codeAt_below hc ((Below.refl B w).alloc (by omega) (.cells #[.slice none 0 0, .slice none 0 0] 33)))
  have R1 := mem.boxed w (.slice none 0 0) (.slice none 0 0) 33
  have U0 := Lib.hid (mem.Upd.of_below (mem.below_new w (.cells #[.slice none 0 0, .slice none 0 0] 33)) (X := (· = b)))
  have hsz : w.heap.size + 1 ≤ (w.alloc (.cells #[.slice none 0 0, .slice none 0 0] 33)).heap.size := by simp
  go_enter Try.func132, Try.ntmps132
  go_wp2_with fail
  generalize hW : w.alloc (.cells #[.slice none 0 0, .slice none 0 0] 33) = Wa at *
  clear hW h hc
  have hb : b < Wa.heap.size := by omega
  refine (net_any Wa b B cv len i s h' HC.out hB).mono ?_
  rintro e w1 ⟨v, n, m, N, P, b1, b2, i1, s1, rfl, hn, hm, hn0, hnm, hO, l1, l2, hS1, U1, v0, v1, rfl, rN, rP⟩
  obtain ⟨p0, c0, rfl⟩ := rN.shape
  obtain ⟨p1, c1, rfl⟩ := rP.shape
  obtain ⟨u0, u1, he, _, gP⟩ := hO.net.ex
  simp only [Value.agg.injEq, Array.mk.injEq, List.cons.injEq, and_true] at he
  obtain ⟨rfl, rfl⟩ := he
  have hs1 := U1.size
  obtain ⟨w2, hw2⟩ : ∃ w2, w1.alloc (.cells #[.slice p0 n c0, .slice p1 m c1] 33) = w2 := ⟨_, rfl⟩
  have hs2 : w2.heap.size = w1.heap.size + 1 := by rw [← hw2]; simp
  have x2 : Below w1.heap.size w1 w2 := by rw [← hw2]; exact mem.below_new _ _
  have T2 := mem.boxed w1 (.slice p0 n c0) (.slice p1 m c1) 33
  rw [hw2] at T2
  obtain ⟨w3, hw3⟩ : ∃ w3, w2.alloc (.cells #[] 112) = w3 := ⟨_, rfl⟩
  have r3 := mem.rowE_nil (B := w1.heap.size + 1) (e := 112) (z := 5) w2 (mem.pipC P) (by omega)
  have x3 : Below w2.heap.size w2 w3 := by rw [← hw3]; exact mem.below_new _ _
  have x23 := x2.trans (x3.mono (by omega))
  have hs3 : w1.heap.size + 1 + 1 = w3.heap.size := by rw [← hw3]; simp [hs2]
  rw [hw3, hs2] at r3
  obtain ⟨v4, w4, hr, rP4, u4⟩ := appPips w3 (w1.heap.size + 1) (w1.heap.size + 1) p1 m c1 P 0 w1.heap.size r3 (by omega) (gP.below x23 (Nat.le_refl _)) (by omega)
  have hl4 := u4.size
  have D0 : Dl Wa b cv len w1.heap.size (.slice p0 n c0) (.slice p1 m c1) w4 v4 n m := ⟨N, P, i1, s1, (rN.next x23).keep u4 (fun k hk hx => by
      have := (rN.own.lt k hk).2
      omega), rP4, hnm, src_upd (src_upd hS1 (x23.block b (src_lt hS1))) (u4.block b (by have := src_lt hS1; omega) (by have := src_lt hS1; omega)), upd_hi (U1.trans (mem.Upd.of_below x23)) u4 (by omega), (T2.next x3).keep (u4.block w1.heap.size (by omega) (by omega))⟩
  have hcnt : (0 : Int) < (n : Int) := by omega
  have t2a := T2.b0
  have t2b := T2.b1
  have hnb : Wa.heap.size ≤ w1.heap.size := hs1
  clear rN rP hO gP hS1 U1 T2 r3 x2 x3 x23 rP4 u4 hs2 hs3
  subst hw3 hw2
  go_wp2_with (at_builtin; refine mem.wpList_appT hr rfl _ _ rfl rfl rfl rfl ?_)
  clear hr t2a t2b
  obtain ⟨N5, P5, i5, s5, hN5, hP5, hs5, hS5, hU5, hT5⟩ := D0.ex
  refine (next_any w4 b B cv len i5 s5 3 hS5 (code_of HC.out hU5 hB hb) hB (by omega)).mono ?_
  rintro e w6 ⟨v6, i6, s6, rfl, t0, ht, hS6, o6⟩
  have D6 := D0.drawn hb hnb (upd_of o6) hS6
  clear D0 hN5 hP5 hs5 hS5 hU5 hT5 o6 hS6
  obtain ⟨j0, rfl⟩ := Int.eq_ofNat_of_zero_le t0
  have hj0 : j0 ≤ 2 := by omega
  clear t0 ht
  go_wp2_with fail
  go_loopw [6, 5] (fun i vP wr => ∃ (j k : Nat) (vP' : Value), i = .int .i64 j ∧ vP' = vP ∧ j ≤ 2 ∧ k + j ≤ 102 ∧ Dl Wa b cv len w1.heap.size (.slice p0 n c0) (.slice p1 m c1) wr vP n k) (fun i _ _ => (intOf i).toNat)
  case atStart => exact ⟨j0, m, _, rfl, rfl, hj0, by omega, D6⟩
  case round =>
    obtain ⟨j, m', vP', rfl, rfl, hj, hmj, D⟩ := hrel
    clear D6
    rcases Nat.eq_zero_or_pos j with hj1 | hj1
    · subst hj1
      obtain ⟨N7, P7, i7, s7, g1, g2, o1, o2, hd, q1, q2, hs7, hS7, hU7, hT7⟩ := D.net hnb
      have R7 := R1.keep (hU7.block w.heap.size (by omega) (by omega))
      have f0 := R7.b0
      have f1 := R7.b1
      have k0 := R7.free 0
      have k1 := R7.free 1
      have t0 := hT7.b0
      have t1 := hT7.b1
      obtain ⟨p2, c2, rfl⟩ := o2.shape
      have hO := (((mem.Only.refl w.heap.size wr).setCell 0 (.slice p0 n c0)).setCell 1 (.slice p2 m' c2))
      have HF := Lib.hid (And.intro (mem.OwnS.set2 (g := w.heap.size) (o0 := 0) (o1 := 1) (u0 := .slice p0 n c0) (u1 := .slice p2 m' c2) o1 (by omega)) (And.intro (mem.OwnS.set2 (g := w.heap.size) (o0 := 0) (o1 := 1) (u0 := .slice p0 n c0) (u1 := .slice p2 m' c2) o2 (by omega)) (And.intro hd (And.intro hs7 (And.intro (src_upd hS7 (hO.block b (by omega))) (upd_own (U0.out.trans hU7) hO (Nat.le_refl _)))))))
      clear D R7 hU7 hS7 hs7 o1 o2 hO hd hT7
      go_wp2_with fail
      refine bodyPost_ret (v := .agg #[.slice p0 n c0, .slice p2 m' c2]) (by simp [results, Try.results132, go_sem, f0, f1]) rfl ⟨_, n, m', N7, P7, g1, g2, i7, s7, rfl, by omega, by omega, HF.out.2.2.2.1, ⟨_, _, rfl, HF.out.1, HF.out.2.1, HF.out.2.2.1⟩, by omega, by omega, HF.out.2.2.2.2.1, HF.out.2.2.2.2.2⟩
    have hjI : (0 : Int) < (j : Int) := by omega
    by_cases hc1 : n = 1
    · subst hc1
      obtain ⟨N7, P7, i7, s7, g1, g2, o1, o2, hd, q1, q2, hs7, hS7, hU7, hT7⟩ := D.net hnb
      have R7 := R1.keep (hU7.block w.heap.size (by omega) (by omega))
      have f0 := R7.b0
      have f1 := R7.b1
      have k0 := R7.free 0
      have k1 := R7.free 1
      have t0 := hT7.b0
      have t1 := hT7.b1
      obtain ⟨p2, c2, rfl⟩ := o2.shape
      have hO := (((mem.Only.refl w.heap.size wr).setCell 0 (.slice p0 1 c0)).setCell 1 (.slice p2 m' c2))
      have HF := Lib.hid (And.intro (mem.OwnS.set2 (g := w.heap.size) (o0 := 0) (o1 := 1) (u0 := .slice p0 1 c0) (u1 := .slice p2 m' c2) o1 (by omega)) (And.intro (mem.OwnS.set2 (g := w.heap.size) (o0 := 0) (o1 := 1) (u0 := .slice p0 1 c0) (u1 := .slice p2 m' c2) o2 (by omega)) (And.intro hd (And.intro hs7 (And.intro (src_upd hS7 (hO.block b (by omega))) (upd_own (U0.out.trans hU7) hO (Nat.le_refl _)))))))
      clear D R7 hU7 hS7 hs7 o1 o2 hO hd hT7
      go_wp2_with fail
      refine bodyPost_ret (v := .agg #[.slice p0 1 c0, .slice p2 m' c2]) (by simp [results, Try.results132, go_sem, f0, f1]) rfl ⟨_, 1, m', N7, P7, g1, g2, i7, s7, rfl, by omega, by omega, HF.out.2.2.2.1, ⟨_, _, rfl, HF.out.1, HF.out.2.1, HF.out.2.2.1⟩, by omega, by omega, HF.out.2.2.2.2.1, HF.out.2.2.2.2.2⟩
    have hcI : (1 : Int) < (n : Int) := by omega
    go_wp2_with fail
    obtain ⟨N5, P5, i5, s5, hN5, hP5, hs5, hS5, hU5, hT5⟩ := D.ex
    refine (next_any wr b B cv len i5 s5 _ hS5 (code_of HC.out hU5 hB hb) hB (by omega)).mono ?_
    rintro e w7 ⟨v7, i7, s7, rfl, t7, ht7, hS7, o7⟩
    have D7 := D.drawn hb hnb (upd_of o7) hS7
    clear D hN5 hP5 hs5 hS5 hU5 hT5 o7 hS7
    have hv7 : v7 ≤ 100 := by omega
    go_wp2_with fail
    obtain ⟨N5, P5, i5, s5, hN5, hP5, hs5, hS5, hU5, hT5⟩ := D7.ex
    refine (next_any w7 b B cv len i5 s5 _ hS5 (code_of HC.out hU5 hB hb) hB (by omega)).mono ?_
    rintro e w8 ⟨v8, i8, s8, rfl, t8, ht8, hS8, o8⟩
    have D8 := D7.drawn hb hnb (upd_of o8) hS8
    clear D7 hN5 hP5 hs5 hS5 hU5 hT5 o8 hS8
    have hv8 : v8 ≤ 100 := by omega
    have hne : (n : Int) ≠ 0 := by omega
    go_wp2_with fail
    obtain ⟨N5, P5, i5, s5, hN5, hP5, hs5, hS5, hU5, hT5⟩ := D8.ex
    refine (pipe_any w8 b B cv len i5 s5 _ _ hS5 (code_of HC.out hU5 hB hb) hB).mono ?_
    rintro e w9 ⟨q9, i9, s9, rfl, hS9, U9⟩
    have D9 := D8.drawn hb hnb U9 hS9
    clear D8 hN5 hP5 hs5 hS5 hU5 hT5 U9 hS9
    obtain ⟨N8, P8, i8, s8, hN8, hP8, hs8, hS8, hU8, hT8⟩ := D9.ex
    obtain ⟨pP, cP, rfl⟩ := hP8.shape
    obtain ⟨va, wa, hra, ha, ua⟩ := appPip (w1.heap.size + 1) w9 _ m' P8 q9 hP8 (by have := hT8.lt; omega) (by omega)
    have Da := Dl.addP hb hnb hN8 hP8 hs8 hS8 hU8 hT8 ha ua
    clear D9 hN8 hP8 hs8 hS8 hU8 hT8 ha ua
    go_wp2_with (at_builtin; refine mem.wpList_appT hra rfl _ _ rfl rfl rfl rfl ?_)
    clear hra
    go_roundw
    case rel => exact ⟨j - 1, m' + 1, _, by go_num, rfl, by omega, by omega, Da⟩
    case measure => simp [intOf]; omega
end Go.Proofs.Ytfkacpphdnlkfaa.draw

namespace Go.Proofs.Ytfkacpphdnlkfaa.draw
open Go.RowKit
set_option linter.unusedVariables false

/-- a network and a number have been drawn -/
def NCPost (w : World) (b : Nat) (cv : Value) (len : Nat) (e : Ending) (w' : World) : Prop :=
  ∃ (v : Value) (n m : Nat) (N : Nat → mem.Nod) (P : Nat → mem.Pip) (b1 b2 : Nat) (x i s : Int), e = .returned (.tuple #[v, .int .i64 x]) ∧ n ≤ 1000 ∧ m ≤ 1000 ∧ (∀ i, i < n → (N i).s.size ≤ 9223372036854775807) ∧ mem.NetOwn w' v n N m P b1 b2 ∧ w.heap.size ≤ b1 ∧ w.heap.size ≤ b2 ∧ Src w' b cv len i s ∧ mem.Upd (· = b) w w'
theorem chord_post {w X : World} {b len n m b1 b2 : Nat} {cv v0 v1 : Value} {N : Nat → mem.Nod} {P : Nat → mem.Pip} {i s x : Int} (hO : mem.NetOwn X (.agg #[v0, v1]) n N m P b1 b2) (hb1 : w.heap.size < b1) (hb2 : w.heap.size < b2) (hn : n ≤ 1000) (hm : m ≤ 1000) (hnm : ∀ i, i < n → (N i).s.size ≤ 9223372036854775807)
    (hS : Src X b cv len i s) (hU : mem.Upd (· = b) w X) (hlt : b < w.heap.size) : NCPost w b cv len (.returned (.tuple #[.agg #[v0, v1], .int .i64 x])) ((X.setCell ⟨w.heap.size, 0, none⟩ v0).setCell ⟨w.heap.size, 1, none⟩ v1) := by
  have hO2 := ((mem.Only.refl w.heap.size X).setCell 0 v0).setCell 1 v1
  exact ⟨_, n, m, N, P, b1, b2, x, i, s, rfl, hn, hm, hnm, hO.upd (mem.Upd.of_only hO2) (.inr (by omega)) (.inr (by omega)), by omega, by omega, src_upd hS (hO2.block b (by omega)), upd_own hU hO2 (Nat.le_refl _)⟩
set_option maxRecDepth 100000 in
set_option maxHeartbeats 8000000 in
theorem chord_any (w : World) (b B : Nat) (cv : Value) (len : Nat) (i s : Int) (h : Src w b cv len i s) (hc : CodeAt w cv len B) (hB' : B ≤ b) :
    Calls Try.prog 111 #[.pointer (some ⟨b, 0, none⟩)] w (NCPost w b cv len) := by
  have hlt := src_lt h
  have h' := src_alloc h hlt (.cells #[.slice none 0 0, .slice none 0 0] 33)
  have HC := Lib.hid (codeAt_below hc ((Below.refl B w).alloc (by omega) (.cells #[.slice none 0 0, .slice none 0 0] 33)))
  have R1 := mem.boxed w (.slice none 0 0) (.slice none 0 0) 33
  have U0 := Lib.hid (mem.Upd.of_below (mem.below_new w (.cells #[.slice none 0 0, .slice none 0 0] 33)) (X := (· = b)))
  have hsz : w.heap.size + 1 ≤ (w.alloc (.cells #[.slice none 0 0, .slice none 0 0] 33)).heap.size := by simp
  go_enter Try.func111, Try.ntmps111
  go_wp2_with fail
  generalize hW : w.alloc (.cells #[.slice none 0 0, .slice none 0 0] 33) = Wa at *
  clear hW h hc
  have hb : b < Wa.heap.size := by omega
  refine (loops_any Wa b B cv len i s h' HC.out hB').mono ?_
  rintro e w1 ⟨v, n, m, N, P, b1, b2, i1, s1, rfl, hn, hm, hnm, hO, l1, l2, hS1, U1⟩
  obtain ⟨p0, c0, p1, c1, rfl⟩ := hO.shape
  have hTl := U1.size
  have hbt := src_lt hS1
  have x2 := mem.below_new w1 (.cells #[.slice p0 n c0, .slice p1 m c1] 33)
  have T1 := mem.boxed w1 (.slice p0 n c0) (.slice p1 m c1) 33
  have HO := Lib.hid (hO.next x2)
  have S2 := src_alloc hS1 (src_lt hS1) (.cells #[.slice p0 n c0, .slice p1 m c1] 33)
  have U2 := U1.trans (mem.Upd.of_below x2)
  clear hO hS1 U1 x2 h'
  go_wp2_with fail
  generalize hW : w1.alloc (.cells #[.slice p0 n c0, .slice p1 m c1] 33) = w2 at *
  obtain ⟨T, hTe⟩ : ∃ T, w1.heap.size = T := ⟨_, rfl⟩
  rw [hTe] at T1 hbt hTl ⊢
  clear hW hTe
  refine (next_any w2 b B cv len i1 s1 12 S2 (code_of HC.out U2 hB' hb) hB' (by omega)).mono ?_
  rintro e w3 ⟨v3, i3, s3, rfl, t3, ht3, S3, o3⟩
  have HO3 := Lib.hid (HO.out.upd (upd_of o3) (.inr (by omega)) (.inr (by omega)))
  have T3 := T1.keep (o3.block T (by omega))
  have U3 := U2.trans (upd_of o3)
  clear HO T1 U2 o3 S2
  have hltw : b < w.heap.size := by omega
  by_cases hv3 : v3 = 0
  · subst hv3
    clear HO3 l1 l2 hn hm hnm
    have hTl3 := T3.lt
    have j0 := T3.free 0
    have j1 := T3.free 1
    have q0 := T3.b0
    have q1 := T3.b1
    go_wp2_with fail
    refine (any_ok w3 b B cv len i3 s3 S3 (code_of HC.out U3 hB' hb) hB').mono ?_
    rintro e w4 ⟨v, n, m, N, P, b1, b2, i3, s3, rfl, hn, hm, hnm, hO, l1, l2, hS4, U4⟩
    obtain ⟨p0, c0, p1, c1, rfl⟩ := hO.shape
    have T4 := T3.keep (U4.block T hTl3 (by omega))
    have hU3 := U3.size
    have j0' := T4.free 0
    have j1' := T4.free 1
    have q0' := T4.b0
    have q1' := T4.b1
    have hU4 := U4.size
    have oT := ((mem.Only.refl T w4).setCell 0 (.slice p0 n c0)).setCell 1 (.slice p1 m c1)
    have HOx := Lib.hid (hO.upd (mem.Upd.of_only oT) (.inr (by omega)) (.inr (by omega)))
    have Tx := Lib.hid ((T4.set 0 (.slice p0 n c0) (by omega)).set 1 (.slice p1 m c1) (by omega))
    have Sx := src_upd hS4 (oT.block b (by omega))
    have Ux := upd_own (U3.trans U4) oT (by omega)
    have hzx := oT.size
    clear T3 j0 j1 q0 q1 T4 hO hS4 U4 oT U3 S3
    go_upto_region 4 with (fail)
    clear j0' j1' q0' q1'
    obtain ⟨w3, hw3⟩ : ∃ wx, (w4.setCell ⟨T, 0, none⟩ (.slice p0 n c0)).setCell ⟨T, 1, none⟩ (.slice p1 m c1) = wx := ⟨_, rfl⟩
    rw [hw3] at HOx Tx Sx Ux hzx ⊢
    clear hw3
    have HO3 := HOx
    have S3 := Sx
    have U3 := Ux
    clear HOx Sx Ux
    have T3 := Tx.out.congr (e := mem.bx (.slice p0 n c0) (.slice p1 m c1)) (by intro j hj; rcases (by omega : j = 0 ∨ j = 1) with rfl | rfl <;> rfl)
    have q0 := T3.b0
    have q1 := T3.b1
    clear Tx
    go_wp2_with fail
    clear q0 q1
    refine (mem.chordsOfS_any w3 _ n N m P 0 w3.heap.size HO3.out.net (Nat.le_refl _) hnm).mono ?_
    rintro e w5 ⟨vA, gA, rfl, oA, lA, x5⟩
    obtain ⟨cn, hcn⟩ : ∃ cn, mem.coN n N m P = cn := ⟨_, rfl⟩
    rw [hcn] at oA
    obtain ⟨pA, cA, rfl⟩ := oA.shape
    obtain ⟨dA, hdA⟩ : ∃ d, mem.fd (mem.chP n P m) m = d := ⟨_, rfl⟩
    rw [hdA] at oA
    have hcb : cn ≤ 9223372036854775807 ∧ (cn = 0 ∨ (pA = some ⟨gA, 0, none⟩ ∧ gA < w5.heap.size ∧ ∀ j, j < cn → w5.cell? ⟨gA, j, none⟩ = some (.int .i64 (dA j)))) := by
      obtain ⟨p', cap', hv, h1, h2, h3⟩ := oA.ex
      injection hv with e1 _ e3
      subst e1
      refine ⟨by omega, ?_⟩
      rcases h3 with h3 | ⟨h3, h4⟩
      · exact .inl h3
      · refine .inr ⟨h3, h4.lt, fun j hj => ?_⟩
        have := h4.cell j 0 hj (by omega)
        simpa using this
    obtain ⟨hcb, hcells⟩ := hcb
    have z5 := x5.size
    have hT3l := T3.lt
    have HO5 := Lib.hid (HO3.out.next x5)
    have T5 := T3.next x5
    have S5 := src_upd S3 (x5.block b (src_lt S3))
    have hb3 := src_lt S3
    have U5 := U3.trans (mem.Upd.of_below x5)
    have hTl5 := T5.lt
    have hTR : T ≠ w.heap.size := by omega
    have hzU := U5.size
    clear HO3 T3 S3 U3 x5 oA hcn hdA
    rcases hcells with hc0 | ⟨rfl, hgl, hcl⟩
    · subst hc0
      go_wp2_with fail
      have RR := R1.keep (U5.block w.heap.size (by omega) (by omega))
      have t0 := T5.b0
      have t1 := T5.b1
      have f0 := RR.b0
      have f1 := RR.b1
      have k0 := RR.free 0
      have k1 := RR.free 1
      have HCd := Lib.hid (code_of (b := b) HC.out (upd_dw' U5) hB' hb : CodeAt w5.drew cv len B)
      go_region_held3 (fun w' => w'.cell? ⟨T, 0, none⟩ = some (.slice p0 n c0) ∧ w'.cell? ⟨T, 1, none⟩ = some (.slice p1 m c1)) (first | exact ⟨t0, t1⟩ | exact ⟨TX.b0, TX.b1⟩ | exact ⟨((((mem.Only.refl w.heap.size _).setCell _ _).setCell _ _).cell (a := ⟨T, 0, none⟩) hTR).trans TX.b0, ((((mem.Only.refl w.heap.size _).setCell _ _).setCell _ _).cell (a := ⟨T, 1, none⟩) hTR).trans TX.b1⟩ | go_keep)
        (first | (go_at_call 135; refine (index_any _ b B cv len i3 s3 m (src_upd S5 rfl : Src w5.drew b cv len i3 s3) HCd.out hB' (by omega)).mono ?_; rintro e wx ⟨x, ix, sx, rfl, x0, x1, hSx, ox⟩; have TX := (T5.keep (ox.block T (by omega)) : mem.Ob wx T 2 _); have RX := (RR.keep (ox.block w.heap.size (by omega)) : mem.Ob wx w.heap.size 2 _); have fx0 := RX.b0; have fx1 := RX.b1; have kx0 := RX.free 0; have kx1 := RX.free 1))
      have HF := Lib.hid (chord_post (w := w) (x := x) (HO5.out.drew.upd (upd_of ox) (.inr (by omega)) (.inr (by omega))) (by omega) (by omega) hn hm hnm hSx (U0.out.trans ((upd_dw' U5).trans (upd_of ox))) hltw)
      clear HO5 S5 T5 U5 RR TX RX ox hSx
      go_wp2_with fail
      exact bodyPost_ret (v := .tuple #[.agg #[.slice p0 n c0, .slice p1 m c1], .int .i64 x]) (by simp [results, Try.results111, go_sem, fx0, fx1]) rfl HF.out
    · rcases Nat.eq_zero_or_pos cn with hc0 | hc0
      · subst hc0
        clear hcl
        go_wp2_with fail
        have RR := R1.keep (U5.block w.heap.size (by omega) (by omega))
        have t0 := T5.b0
        have t1 := T5.b1
        have f0 := RR.b0
        have f1 := RR.b1
        have k0 := RR.free 0
        have k1 := RR.free 1
        have HCd := Lib.hid (code_of (b := b) HC.out (upd_dw' U5) hB' hb : CodeAt w5.drew cv len B)
        go_region_held3 (fun w' => w'.cell? ⟨T, 0, none⟩ = some (.slice p0 n c0) ∧ w'.cell? ⟨T, 1, none⟩ = some (.slice p1 m c1)) (first | exact ⟨t0, t1⟩ | exact ⟨TX.b0, TX.b1⟩ | exact ⟨((((mem.Only.refl w.heap.size _).setCell _ _).setCell _ _).cell (a := ⟨T, 0, none⟩) hTR).trans TX.b0, ((((mem.Only.refl w.heap.size _).setCell _ _).setCell _ _).cell (a := ⟨T, 1, none⟩) hTR).trans TX.b1⟩ | go_keep)
          (first | (go_at_call 135; refine (index_any _ b B cv len i3 s3 m (src_upd S5 rfl : Src w5.drew b cv len i3 s3) HCd.out hB' (by omega)).mono ?_; rintro e wx ⟨x, ix, sx, rfl, x0, x1, hSx, ox⟩; have TX := (T5.keep (ox.block T (by omega)) : mem.Ob wx T 2 _); have RX := (RR.keep (ox.block w.heap.size (by omega)) : mem.Ob wx w.heap.size 2 _); have fx0 := RX.b0; have fx1 := RX.b1; have kx0 := RX.free 0; have kx1 := RX.free 1))
        have HF := Lib.hid (chord_post (w := w) (x := x) (HO5.out.drew.upd (upd_of ox) (.inr (by omega)) (.inr (by omega))) (by omega) (by omega) hn hm hnm hSx (U0.out.trans ((upd_dw' U5).trans (upd_of ox))) hltw)
        clear HO5 S5 T5 U5 RR TX RX ox hSx
        go_wp2_with fail
        exact bodyPost_ret (v := .tuple #[.agg #[.slice p0 n c0, .slice p1 m c1], .int .i64 x]) (by simp [results, Try.results111, go_sem, fx0, fx1]) rfl HF.out
      · have hcI : (cn == 0) = false := by simp; omega
        have hcI2 : ((cn : Int) == 0) = false := by simp; omega
        have HCL := Lib.hid hcl
        clear hcl
        go_wp2_with fail
        refine (next_any w5 b B cv len i3 s3 8 S5 (code_of HC.out U5 hB' hb) hB' (by omega)).mono ?_
        rintro e w6 ⟨v6, i6, s6, rfl, t6, ht6, S6, o6⟩
        have HY := Lib.hid (show ∀ j, j < cn → ∃ y : Int, w6.cell? ⟨gA, j, none⟩ = some (.int .i64 y) from fun j hj => ⟨dA j, (World.cell?_of_block (o6.block gA (by omega))).trans (HCL.out j hj)⟩)
        have HO6 := Lib.hid (HO5.out.upd (upd_of o6) (.inr (by omega)) (.inr (by omega)))
        have T6 := T5.keep (o6.block T (by omega))
        have U6 := U5.trans (upd_of o6)
        have hz6 := o6.size
        clear HO5 T5 S5 U5 o6 HCL hcI hcI2
        by_cases hv6 : v6 = 0
        · subst hv6
          go_wp2_with fail
          have RR := R1.keep (U6.block w.heap.size (by omega) (by omega))
          have t0 := T6.b0
          have t1 := T6.b1
          have f0 := RR.b0
          have f1 := RR.b1
          have k0 := RR.free 0
          have k1 := RR.free 1
          have HCd := Lib.hid (code_of (b := b) HC.out (upd_dw' U6) hB' hb : CodeAt w6.drew cv len B)
          go_region_held3 (fun w' => w'.cell? ⟨T, 0, none⟩ = some (.slice p0 n c0) ∧ w'.cell? ⟨T, 1, none⟩ = some (.slice p1 m c1)) (first | exact ⟨t0, t1⟩ | exact ⟨TX.b0, TX.b1⟩ | exact ⟨((((mem.Only.refl w.heap.size _).setCell _ _).setCell _ _).cell (a := ⟨T, 0, none⟩) hTR).trans TX.b0, ((((mem.Only.refl w.heap.size _).setCell _ _).setCell _ _).cell (a := ⟨T, 1, none⟩) hTR).trans TX.b1⟩ | go_keep)
            (first | (go_at_call 135; refine (index_any _ b B cv len i6 s6 m (src_upd S6 rfl : Src w6.drew b cv len i6 s6) HCd.out hB' (by omega)).mono ?_; rintro e wx ⟨x, ix, sx, rfl, x0, x1, hSx, ox⟩; have TX := (T6.keep (ox.block T (by omega)) : mem.Ob wx T 2 _); have RX := (RR.keep (ox.block w.heap.size (by omega)) : mem.Ob wx w.heap.size 2 _); have fx0 := RX.b0; have fx1 := RX.b1; have kx0 := RX.free 0; have kx1 := RX.free 1))
          have HF := Lib.hid (chord_post (w := w) (x := x) (HO6.out.drew.upd (upd_of ox) (.inr (by omega)) (.inr (by omega))) (by omega) (by omega) hn hm hnm hSx (U0.out.trans ((upd_dw' U6).trans (upd_of ox))) hltw)
          clear HO6 S6 T6 U6 RR TX RX ox hSx
          go_wp2_with fail
          exact bodyPost_ret (v := .tuple #[.agg #[.slice p0 n c0, .slice p1 m c1], .int .i64 x]) (by simp [results, Try.results111, go_sem, fx0, fx1]) rfl HF.out
        · have hv6' : (v6 == 0) = false := by simpa using hv6
          clear hv6
          go_wp2_with fail
          have RR := R1.keep (U6.block w.heap.size (by omega) (by omega))
          have t0 := T6.b0
          have t1 := T6.b1
          have f0 := RR.b0
          have f1 := RR.b1
          have k0 := RR.free 0
          have k1 := RR.free 1
          have HCd := Lib.hid (code_of (b := b) HC.out (upd_dw' U6) hB' hb : CodeAt w6.drew cv len B)
          go_region_with (first | (go_at_call 72; refine (next_any _ b B cv len i6 s6 cn (src_upd S6 rfl : Src w6.drew b cv len i6 s6) HCd.out hB' (by omega)).mono ?_; rintro e wx ⟨x, ix, sx, rfl, x0, x1, hSx, ox⟩; obtain ⟨j, rfl⟩ := Int.eq_ofNat_of_zero_le x0; have hjn : j < cn := (by omega); have hj1 : (j : Int) < cn := (by omega); have TX := (T6.keep (ox.block T (by omega)) : mem.Ob wx T 2 _); have RX := (RR.keep (ox.block w.heap.size (by omega)) : mem.Ob wx w.heap.size 2 _); have fx0 := RX.b0; have fx1 := RX.b1; have kx0 := RX.free 0; have kx1 := RX.free 1; obtain ⟨y, hy⟩ := HY.out j hjn; have hq : wx.cell? ⟨gA, j, none⟩ = some (.int .i64 y) := (World.cell?_of_block (ox.block gA (by omega))).trans hy; have hq2 := ((((mem.Only.refl w.heap.size wx).setCell 0 (.slice p0 n c0)).setCell 1 (.slice p1 m c1)).cell (a := ⟨gA, j, none⟩) (by show gA ≠ w.heap.size; omega)).trans hq; have tx0 := TX.b0; have tx1 := TX.b1))
          all_goals
            have HF := Lib.hid (chord_post (w := w) (x := y) (HO6.out.drew.upd (upd_of ox) (.inr (by omega)) (.inr (by omega))) (by omega) (by omega) hn hm hnm hSx (U0.out.trans ((upd_dw' U6).trans (upd_of ox))) hltw)
            clear HO6 S6 T6 U6 RR TX RX ox hSx
            go_wp2_with fail
            exact bodyPost_ret (v := .tuple #[.agg #[.slice p0 n c0, .slice p1 m c1], .int .i64 y]) (by simp [results, Try.results111, go_sem, fx0, fx1]) rfl HF.out
  · have hv3' : (v3 == 0) = false := by simpa using hv3
    have q0 := T3.b0
    have q1 := T3.b1
    clear hv3
    go_wp2_with fail
    clear q0 q1
    refine (mem.chordsOfS_any w3 _ n N m P 0 w3.heap.size HO3.out.net (Nat.le_refl _) hnm).mono ?_
    rintro e w5 ⟨vA, gA, rfl, oA, lA, x5⟩
    obtain ⟨cn, hcn⟩ : ∃ cn, mem.coN n N m P = cn := ⟨_, rfl⟩
    rw [hcn] at oA
    obtain ⟨pA, cA, rfl⟩ := oA.shape
    obtain ⟨dA, hdA⟩ : ∃ d, mem.fd (mem.chP n P m) m = d := ⟨_, rfl⟩
    rw [hdA] at oA
    have hcb : cn ≤ 9223372036854775807 ∧ (cn = 0 ∨ (pA = some ⟨gA, 0, none⟩ ∧ gA < w5.heap.size ∧ ∀ j, j < cn → w5.cell? ⟨gA, j, none⟩ = some (.int .i64 (dA j)))) := by
      obtain ⟨p', cap', hv, h1, h2, h3⟩ := oA.ex
      injection hv with e1 _ e3
      subst e1
      refine ⟨by omega, ?_⟩
      rcases h3 with h3 | ⟨h3, h4⟩
      · exact .inl h3
      · refine .inr ⟨h3, h4.lt, fun j hj => ?_⟩
        have := h4.cell j 0 hj (by omega)
        simpa using this
    obtain ⟨hcb, hcells⟩ := hcb
    have z5 := x5.size
    have hT3l := T3.lt
    have HO5 := Lib.hid (HO3.out.next x5)
    have T5 := T3.next x5
    have S5 := src_upd S3 (x5.block b (src_lt S3))
    have hb3 := src_lt S3
    have U5 := U3.trans (mem.Upd.of_below x5)
    have hTl5 := T5.lt
    have hTR : T ≠ w.heap.size := by omega
    have hzU := U5.size
    clear HO3 T3 S3 U3 x5 oA hcn hdA
    rcases hcells with hc0 | ⟨rfl, hgl, hcl⟩
    · subst hc0
      go_wp2_with fail
      have RR := R1.keep (U5.block w.heap.size (by omega) (by omega))
      have t0 := T5.b0
      have t1 := T5.b1
      have f0 := RR.b0
      have f1 := RR.b1
      have k0 := RR.free 0
      have k1 := RR.free 1
      have HCd := Lib.hid (code_of (b := b) HC.out (upd_dw' U5) hB' hb : CodeAt w5.drew cv len B)
      go_region_held3 (fun w' => w'.cell? ⟨T, 0, none⟩ = some (.slice p0 n c0) ∧ w'.cell? ⟨T, 1, none⟩ = some (.slice p1 m c1)) (first | exact ⟨t0, t1⟩ | exact ⟨TX.b0, TX.b1⟩ | exact ⟨((((mem.Only.refl w.heap.size _).setCell _ _).setCell _ _).cell (a := ⟨T, 0, none⟩) hTR).trans TX.b0, ((((mem.Only.refl w.heap.size _).setCell _ _).setCell _ _).cell (a := ⟨T, 1, none⟩) hTR).trans TX.b1⟩ | go_keep)
        (first | (go_at_call 135; refine (index_any _ b B cv len i3 s3 m (src_upd S5 rfl : Src w5.drew b cv len i3 s3) HCd.out hB' (by omega)).mono ?_; rintro e wx ⟨x, ix, sx, rfl, x0, x1, hSx, ox⟩; have TX := (T5.keep (ox.block T (by omega)) : mem.Ob wx T 2 _); have RX := (RR.keep (ox.block w.heap.size (by omega)) : mem.Ob wx w.heap.size 2 _); have fx0 := RX.b0; have fx1 := RX.b1; have kx0 := RX.free 0; have kx1 := RX.free 1))
      have HF := Lib.hid (chord_post (w := w) (x := x) (HO5.out.drew.upd (upd_of ox) (.inr (by omega)) (.inr (by omega))) (by omega) (by omega) hn hm hnm hSx (U0.out.trans ((upd_dw' U5).trans (upd_of ox))) hltw)
      clear HO5 S5 T5 U5 RR TX RX ox hSx
      go_wp2_with fail
      exact bodyPost_ret (v := .tuple #[.agg #[.slice p0 n c0, .slice p1 m c1], .int .i64 x]) (by simp [results, Try.results111, go_sem, fx0, fx1]) rfl HF.out
    · rcases Nat.eq_zero_or_pos cn with hc0 | hc0
      · subst hc0
        clear hcl
        go_wp2_with fail
        have RR := R1.keep (U5.block w.heap.size (by omega) (by omega))
        have t0 := T5.b0
        have t1 := T5.b1
        have f0 := RR.b0
        have f1 := RR.b1
        have k0 := RR.free 0
        have k1 := RR.free 1
        have HCd := Lib.hid (code_of (b := b) HC.out (upd_dw' U5) hB' hb : CodeAt w5.drew cv len B)
        go_region_held3 (fun w' => w'.cell? ⟨T, 0, none⟩ = some (.slice p0 n c0) ∧ w'.cell? ⟨T, 1, none⟩ = some (.slice p1 m c1)) (first | exact ⟨t0, t1⟩ | exact ⟨TX.b0, TX.b1⟩ | exact ⟨((((mem.Only.refl w.heap.size _).setCell _ _).setCell _ _).cell (a := ⟨T, 0, none⟩) hTR).trans TX.b0, ((((mem.Only.refl w.heap.size _).setCell _ _).setCell _ _).cell (a := ⟨T, 1, none⟩) hTR).trans TX.b1⟩ | go_keep)
          (first | (go_at_call 135; refine (index_any _ b B cv len i3 s3 m (src_upd S5 rfl : Src w5.drew b cv len i3 s3) HCd.out hB' (by omega)).mono ?_; rintro e wx ⟨x, ix, sx, rfl, x0, x1, hSx, ox⟩; have TX := (T5.keep (ox.block T (by omega)) : mem.Ob wx T 2 _); have RX := (RR.keep (ox.block w.heap.size (by omega)) : mem.Ob wx w.heap.size 2 _); have fx0 := RX.b0; have fx1 := RX.b1; have kx0 := RX.free 0; have kx1 := RX.free 1))
        have HF := Lib.hid (chord_post (w := w) (x := x) (HO5.out.drew.upd (upd_of ox) (.inr (by omega)) (.inr (by omega))) (by omega) (by omega) hn hm hnm hSx (U0.out.trans ((upd_dw' U5).trans (upd_of ox))) hltw)
        clear HO5 S5 T5 U5 RR TX RX ox hSx
        go_wp2_with fail
        exact bodyPost_ret (v := .tuple #[.agg #[.slice p0 n c0, .slice p1 m c1], .int .i64 x]) (by simp [results, Try.results111, go_sem, fx0, fx1]) rfl HF.out
      · have hcI : (cn == 0) = false := by simp; omega
        have hcI2 : ((cn : Int) == 0) = false := by simp; omega
        have HCL := Lib.hid hcl
        clear hcl
        go_wp2_with fail
        refine (next_any w5 b B cv len i3 s3 8 S5 (code_of HC.out U5 hB' hb) hB' (by omega)).mono ?_
        rintro e w6 ⟨v6, i6, s6, rfl, t6, ht6, S6, o6⟩
        have HY := Lib.hid (show ∀ j, j < cn → ∃ y : Int, w6.cell? ⟨gA, j, none⟩ = some (.int .i64 y) from fun j hj => ⟨dA j, (World.cell?_of_block (o6.block gA (by omega))).trans (HCL.out j hj)⟩)
        have HO6 := Lib.hid (HO5.out.upd (upd_of o6) (.inr (by omega)) (.inr (by omega)))
        have T6 := T5.keep (o6.block T (by omega))
        have U6 := U5.trans (upd_of o6)
        have hz6 := o6.size
        clear HO5 T5 S5 U5 o6 HCL hcI hcI2
        by_cases hv6 : v6 = 0
        · subst hv6
          go_wp2_with fail
          have RR := R1.keep (U6.block w.heap.size (by omega) (by omega))
          have t0 := T6.b0
          have t1 := T6.b1
          have f0 := RR.b0
          have f1 := RR.b1
          have k0 := RR.free 0
          have k1 := RR.free 1
          have HCd := Lib.hid (code_of (b := b) HC.out (upd_dw' U6) hB' hb : CodeAt w6.drew cv len B)
          go_region_held3 (fun w' => w'.cell? ⟨T, 0, none⟩ = some (.slice p0 n c0) ∧ w'.cell? ⟨T, 1, none⟩ = some (.slice p1 m c1)) (first | exact ⟨t0, t1⟩ | exact ⟨TX.b0, TX.b1⟩ | exact ⟨((((mem.Only.refl w.heap.size _).setCell _ _).setCell _ _).cell (a := ⟨T, 0, none⟩) hTR).trans TX.b0, ((((mem.Only.refl w.heap.size _).setCell _ _).setCell _ _).cell (a := ⟨T, 1, none⟩) hTR).trans TX.b1⟩ | go_keep)
            (first | (go_at_call 135; refine (index_any _ b B cv len i6 s6 m (src_upd S6 rfl : Src w6.drew b cv len i6 s6) HCd.out hB' (by omega)).mono ?_; rintro e wx ⟨x, ix, sx, rfl, x0, x1, hSx, ox⟩; have TX := (T6.keep (ox.block T (by omega)) : mem.Ob wx T 2 _); have RX := (RR.keep (ox.block w.heap.size (by omega)) : mem.Ob wx w.heap.size 2 _); have fx0 := RX.b0; have fx1 := RX.b1; have kx0 := RX.free 0; have kx1 := RX.free 1))
          have HF := Lib.hid (chord_post (w := w) (x := x) (HO6.out.drew.upd (upd_of ox) (.inr (by omega)) (.inr (by omega))) (by omega) (by omega) hn hm hnm hSx (U0.out.trans ((upd_dw' U6).trans (upd_of ox))) hltw)
          clear HO6 S6 T6 U6 RR TX RX ox hSx
          go_wp2_with fail
          exact bodyPost_ret (v := .tuple #[.agg #[.slice p0 n c0, .slice p1 m c1], .int .i64 x]) (by simp [results, Try.results111, go_sem, fx0, fx1]) rfl HF.out
        · have hv6' : (v6 == 0) = false := by simpa using hv6
          clear hv6
          go_wp2_with fail
          have RR := R1.keep (U6.block w.heap.size (by omega) (by omega))
          have t0 := T6.b0
          have t1 := T6.b1
          have f0 := RR.b0
          have f1 := RR.b1
          have k0 := RR.free 0
          have k1 := RR.free 1
          have HCd := Lib.hid (code_of (b := b) HC.out (upd_dw' U6) hB' hb : CodeAt w6.drew cv len B)
          go_region_with (first | (go_at_call 72; refine (next_any _ b B cv len i6 s6 cn (src_upd S6 rfl : Src w6.drew b cv len i6 s6) HCd.out hB' (by omega)).mono ?_; rintro e wx ⟨x, ix, sx, rfl, x0, x1, hSx, ox⟩; obtain ⟨j, rfl⟩ := Int.eq_ofNat_of_zero_le x0; have hjn : j < cn := (by omega); have hj1 : (j : Int) < cn := (by omega); have TX := (T6.keep (ox.block T (by omega)) : mem.Ob wx T 2 _); have RX := (RR.keep (ox.block w.heap.size (by omega)) : mem.Ob wx w.heap.size 2 _); have fx0 := RX.b0; have fx1 := RX.b1; have kx0 := RX.free 0; have kx1 := RX.free 1; obtain ⟨y, hy⟩ := HY.out j hjn; have hq : wx.cell? ⟨gA, j, none⟩ = some (.int .i64 y) := (World.cell?_of_block (ox.block gA (by omega))).trans hy; have hq2 := ((((mem.Only.refl w.heap.size wx).setCell 0 (.slice p0 n c0)).setCell 1 (.slice p1 m c1)).cell (a := ⟨gA, j, none⟩) (by show gA ≠ w.heap.size; omega)).trans hq; have tx0 := TX.b0; have tx1 := TX.b1))
          all_goals
            have HF := Lib.hid (chord_post (w := w) (x := y) (HO6.out.drew.upd (upd_of ox) (.inr (by omega)) (.inr (by omega))) (by omega) (by omega) hn hm hnm hSx (U0.out.trans ((upd_dw' U6).trans (upd_of ox))) hltw)
            clear HO6 S6 T6 U6 RR TX RX ox hSx
            go_wp2_with fail
            exact bodyPost_ret (v := .tuple #[.agg #[.slice p0 n c0, .slice p1 m c1], .int .i64 y]) (by simp [results, Try.results111, go_sem, fx0, fx1]) rfl HF.out
end Go.Proofs.Ytfkacpphdnlkfaa.draw

namespace Go.Proofs.Ytfkacpphdnlkfaa.mem
open Go.RowKit
set_option linter.unusedVariables false

end Go.Proofs.Ytfkacpphdnlkfaa.mem

namespace Go.Proofs.Ytfkacpphdnlkfaa.draw
open Go.RowKit
set_option linter.unusedVariables false

theorem upd_bel {X : Nat → Prop} {w w1 w2 : World} (h : mem.Upd X w w1) (k : Below w.heap.size w1 w2) : mem.Upd X w w2 :=
  ⟨k.os.trans h.os, k.tape.trans h.tape, k.output.trans h.output, Nat.le_trans h.size k.size, fun x hx hn => (k.block x hx).trans (h.block x hx hn)⟩
/-- flows while they are drawn -/
structure Fl (W1 : World) (b : Nat) (cv : Value) (len : Nat) (wr : World) (v : Value) (k : Nat) : Prop where
  ex : ∃ (D : Nat → Int) (g : Nat) (i s : Int), mem.Own wr v k D g ∧ (∀ j, j < k → -30000 ≤ D j ∧ D j ≤ 30000) ∧ W1.heap.size ≤ g ∧ Src wr b cv len i s ∧ mem.Upd (· = b) W1 wr
end Go.Proofs.Ytfkacpphdnlkfaa.draw

namespace Go.Proofs.Ytfkacpphdnlkfaa.draw
open Go.RowKit
set_option linter.unusedVariables false

theorem sl_sh {w : World} {v : Value} {n : Nat} {d : Nat → Int} {lo hi : Nat} (h : mem.Sl w v n d lo hi) : ∃ p cap, v = .slice p n cap := by
  obtain ⟨p, cap, e, _⟩ := h.ex
  exact ⟨p, cap, e⟩
end Go.Proofs.Ytfkacpphdnlkfaa.draw

namespace Go.Proofs.Ytfkacpphdnlkfaa.draw
open Go.RowKit
set_option linter.unusedVariables false

/-- flows have been drawn -/
def FlPost (w : World) (b : Nat) (cv : Value) (len : Nat) (e : Ending) (w' : World) : Prop :=
  ∃ (vl : Value) (K : Nat) (D : Nat → Int) (i s : Int), e = .returned vl ∧ K ≤ 2000 ∧ mem.Sl w' vl K D w.heap.size w'.heap.size ∧ Src w' b cv len i s ∧ mem.Upd (· = b) w w'
set_option maxRecDepth 100000 in
set_option maxHeartbeats 8000000 in
theorem flows_any (w : World) (b B : Nat) (cv : Value) (len : Nat) (i s : Int) (h : Src w b cv len i s) (hc : CodeAt w cv len B) (hB' : B ≤ b) (p0 : Option Addr) (n c0 : Nat) (p1 : Option Addr) (m c1 : Nat) (hm : m ≤ 1000) :
    Calls Try.prog 112 #[.pointer (some ⟨b, 0, none⟩), .agg #[.slice p0 n c0, .slice p1 m c1]] w (FlPost w b cv len) := by
  have hlt := src_lt h
  have xA := mem.below_new w (.cells #[.slice p0 n c0, .slice p1 m c1] 33)
  have HC := Lib.hid (code_of hc (mem.Upd.of_below (X := (· = b)) xA) hB' hlt)
  have U0 := Lib.hid (mem.Upd.of_below xA (X := (· = b)))
  have T1 := mem.boxed w (.slice p0 n c0) (.slice p1 m c1) 33
  have xB := mem.below_new (w.alloc (.cells #[.slice p0 n c0, .slice p1 m c1] 33)) (.cells #[] 2)
  have F0 := mem.Own.nilled (w.alloc (.cells #[.slice p0 n c0, .slice p1 m c1] 33)) (fun _ => 0)
  have SA := src_alloc h hlt (.cells #[.slice p0 n c0, .slice p1 m c1] 33)
  have D0 : Fl (w.alloc (.cells #[.slice p0 n c0, .slice p1 m c1] 33)) b cv len ((w.alloc (.cells #[.slice p0 n c0, .slice p1 m c1] 33)).alloc (.cells #[] 2)) (.slice (some ⟨(w.alloc (.cells #[.slice p0 n c0, .slice p1 m c1] 33)).heap.size, 0, none⟩) 0 0) 0 := ⟨fun _ => 0, _, _, _, F0, fun j hj => by omega, Nat.le_refl _, src_upd SA (xB.block b (src_lt SA)), mem.Upd.of_below xB⟩
  have hza : (w.alloc (.cells #[.slice p0 n c0, .slice p1 m c1] 33)).heap.size = w.heap.size + 1 := by simp
  rw [hza] at D0
  clear F0 xB xA h hc SA
  go_enter Try.func112, Try.ntmps112
  go_wp2_with fail
  generalize hW : (w.alloc (.cells #[.slice p0 n c0, .slice p1 m c1] 33)).alloc (.cells #[] 2) = wb at *
  generalize hW2 : w.alloc (.cells #[.slice p0 n c0, .slice p1 m c1] 33) = wa at *
  generalize hv : Value.slice (some ⟨w.heap.size + 1, 0, none⟩) 0 0 = vl0 at *
  clear hW hW2 hv
  have hTl := T1.lt
  go_loopw [5, 6] (fun ov iv wr => ∃ (k : Nat) (ov' : Value), ov' = ov ∧ iv = .int .i64 k ∧ k ≤ m ∧ Fl wa b cv len wr ov' k) (fun _ iv _ => m - (intOf iv).toNat)
  case atStart => exact ⟨0, _, rfl, rfl, Nat.zero_le _, D0⟩
  case round =>
    obtain ⟨k, ov, rfl, rfl, hk, DF⟩ := hrel
    clear D0
    obtain ⟨D, g, i6, s6, hD, hDb, hg, hS6, hU6⟩ := DF.ex
    clear DF
    have T6 := T1.keep (hU6.block w.heap.size hTl (by omega))
    have q1 := T6.b1
    have k0' : (0 : Int) ≤ (k : Int) := Int.natCast_nonneg _
    by_cases hlt2 : k < m
    · have k1' : (k : Int) < (m : Int) := by omega
      go_wp2_with fail
      refine (next_any wr b B cv len i6 s6 60 hS6 (code_of HC.out hU6 hB' (by omega)) hB' (by omega)).mono ?_
      rintro e w7 ⟨v7, i7, s7, rfl, t7, ht7, hS7, o7⟩
      obtain ⟨co, rfl⟩ := hD.shape
      have hgb : g ≠ b := by omega
      have hD7 := hD.keep (o7.block g hgb)
      have hU7 := hU6.trans (upd_of o7)
      have hb1 : -4611686018427387904 ≤ v7 - 30 ∧ v7 - 30 ≤ 4611686018427387904 := by omega
      have lg := hD7.lt
      obtain ⟨v8, w8, g8, hr, ap⟩ := mem.app_run (w7.alloc (.cells #[.int .i64 (v7 - 30)] 2)) _ k _ g (v7 - 30) w7.heap.size (hD7.alloc _) (mem.cell_new1 w7 _) (by omega)
      have bl := ap.below (B := wa.heap.size) (by omega) (by rw [mem.szal]; omega)
      have xb : Below wa.heap.size w7 w8 := ((mem.below_new w7 _).mono hU7.size).trans bl.1
      have DF8 : Fl wa b cv len w8 v8 (k + 1) := ⟨_, g8, i7, s7, ap.own, fun j hj => by
        unfold mem.upd
        split
        · omega
        · exact hDb j (by omega), bl.2, src_upd hS7 (xb.block b (by omega)), upd_bel hU7 xb⟩
      clear hD hDb hS6 hU6 hS7 o7 hD7 hU7 ap bl xb T6 q1
      go_wp2_with (at_builtin; refine mem.wpList_app hr rfl _ _ rfl rfl rfl rfl ?_)
      clear hr
      go_roundw
      case rel => exact ⟨k + 1, _, rfl, by go_num, hlt2, DF8⟩
      case measure => simp [intOf]; omega
    · obtain rfl : m = k := by omega
      have k1' : ¬ ((m : Int) < (m : Int)) := by omega
      have lg := hD.lt
      have hC6 := code_of HC.out hU6 hB' (by omega)
      have hzr := hU6.size
      obtain ⟨co, rfl⟩ := hD.shape
      clear hDb
      go_wp2_with fail
      refine (next_any wr b B cv len i6 s6 30 hS6 hC6 hB' (by omega)).mono ?_
      rintro e wa' ⟨va, ia, sa, rfl, ta, hta, Sa, oa⟩
      have hVa := hD.keep (oa.block g (by omega))
      have Ua := hU6.trans (upd_of oa)
      have hza2 := oa.size
      have lga := hVa.lt
      clear hC6 hD hS6 hU6 oa T6 q1
      rcases (by omega : va = 0 ∨ va = 1 ∨ (va ≠ 0 ∧ va ≠ 1)) with rfl | rfl | hva
      · obtain ⟨vb, wz, gb, hr, ap⟩ := mem.app_run (wa'.alloc (.cells #[.int .i64 0] 2)) _ m _ g 0 wa'.heap.size (hVa.alloc _) (mem.cell_new1 wa' _) (by omega)
        have bl := ap.below (B := wa.heap.size) (by omega) (by rw [mem.szal]; omega)
        have xb : Below wa.heap.size wa' wz := ((mem.below_new wa' _).mono (by omega)).trans bl.1
        have hlz := ap.own.lt
        have HF := Lib.hid (And.intro (ap.own.sl.mono (show w.heap.size ≤ gb by omega) (show gb + 1 ≤ wz.heap.size by omega)) (And.intro (src_upd Sa (xb.block b (by omega))) (U0.out.trans (upd_bel Ua xb))))
        clear hVa Sa Ua ap bl xb
        go_wp2_with (at_builtin; refine mem.wpList_app hr rfl _ _ rfl rfl rfl rfl ?_)
        clear hr
        go_ret
        exact ⟨_, m + 1, _, _, _, rfl, by omega, HF.out.1, HF.out.2.1, HF.out.2.2⟩
      · rcases Nat.eq_zero_or_pos m with hm0 | hm0
        · subst hm0
          have HF := Lib.hid (And.intro (hVa.sl.mono (show w.heap.size ≤ g by omega) (show g + 1 ≤ wa'.heap.size by omega)) (And.intro Sa (U0.out.trans Ua)))
          clear hVa Sa Ua
          go_wp2_with fail
          go_ret
          exact ⟨_, 0, _, _, _, rfl, by omega, HF.out.1, HF.out.2.1, HF.out.2.2⟩
        · have hmI : (0 : Int) < (m : Int) := by omega
          have bA := mem.below_new wa' (.cells #[.int .i64 30000, .int .i64 30001, .int .i64 (-30000)] 2)
          have tA := tabI wa' 2 #[.int .i64 30000, .int .i64 30001, .int .i64 (-30000)] (by
            intro j hj
            rcases (by simp at hj; omega : j = 0 ∨ j = 1 ∨ j = 2) with rfl | rfl | rfl
            all_goals exact ⟨_, rfl⟩)
          have SA := src_alloc Sa (src_lt Sa) (.cells #[.int .i64 30000, .int .i64 30001, .int .i64 (-30000)] 2)
          have UA := Ua.trans (mem.Upd.of_below bA)
          have CA := code_of HC.out UA hB' (by omega)
          have HVA := Lib.hid (hVa.alloc (.cells #[.int .i64 30000, .int .i64 30001, .int .i64 (-30000)] 2))
          have hzA : (wa'.alloc (.cells #[.int .i64 30000, .int .i64 30001, .int .i64 (-30000)] 2)).heap.size = wa'.heap.size + 1 := by simp
          have lba := src_lt Sa
          have yzA := hVa.free 0
          clear Sa Ua hVa bA
          go_wp2_with fail
          refine (next_any _ b B cv len ia sa 3 SA CA hB' (by omega)).mono ?_
          rintro e wc ⟨vc, ic, sc, rfl, tc, htc, Sc, oc⟩
          have hzc := oc.size
          have HVc := Lib.hid (HVA.out.keep (oc.block g (by omega)))
          have Uc := UA.trans (upd_of oc)
          obtain ⟨x, rfl⟩ := Int.eq_ofNat_of_zero_le tc
          have hx : x < 3 := by omega
          have hx2 : (x : Int) < 3 := by omega
          obtain ⟨y, hy⟩ := tA x hx
          have hyc : wc.cell? ⟨wa'.heap.size, x, none⟩ = some (.int .i64 y) := by
            have e := oc.block wa'.heap.size (by omega)
            simp only [World.cell?] at hy ⊢
            rw [e]
            exact hy
          have yf := HVc.out.row.cell 0 hm0
          have yz := HVc.out.free 0
          have oX := (mem.Only.refl g wc).setCell 0 (.int .i64 y)
          have hVx := HVc.out.put1 0 y hm0
          have hlx := hVx.lt
          have HF := Lib.hid (And.intro (hVx.sl.mono (show w.heap.size ≤ g by omega) (show g + 1 ≤ _ from hlx)) (And.intro (src_upd Sc (oX.block b (by omega))) (U0.out.trans (upd_own Uc oX (by omega)))))
          clear tA SA CA UA HVA hy oc htc yzA HVc Sc Uc oX hVx hlx
          go_wp2_with fail
          go_ret
          exact ⟨_, m, _, _, _, rfl, by omega, HF.out.1, HF.out.2.1, HF.out.2.2⟩
      · obtain ⟨hv0, hv1⟩ := hva
        have hv0' : (va == 0) = false := by simpa using hv0
        have hv1' : (va == 1) = false := by simpa using hv1
        have HF := Lib.hid (And.intro (hVa.sl.mono (show w.heap.size ≤ g by omega) (show g + 1 ≤ wa'.heap.size by omega)) (And.intro Sa (U0.out.trans Ua)))
        clear hv0 hv1 hVa Sa Ua
        go_wp2_with fail
        go_ret
        exact ⟨_, m, _, _, _, rfl, by omega, HF.out.1, HF.out.2.1, HF.out.2.2⟩
end Go.Proofs.Ytfkacpphdnlkfaa.draw

namespace Go.Proofs.Ytfkacpphdnlkfaa.draw
open Go.RowKit
set_option linter.unusedVariables false

end Go.Proofs.Ytfkacpphdnlkfaa.draw

namespace Go.Proofs.Ytfkacpphdnlkfaa.draw
open Go.RowKit
set_option linter.unusedVariables false

end Go.Proofs.Ytfkacpphdnlkfaa.draw

namespace Go.Proofs.Ytfkacpphdnlkfaa.draw
open Go.RowKit
open Go.Proofs.Ytfkacpphdnlkfaa.mem (range2 range_blockN there_blockN nthe0 nthe1 nthe2 nthe3 nthe4 nthe5 nthe6 nthe7 nthe8 nthe9 nthe10 nthe11 nthe12 nthe13 nthe14 nthe15)
set_option linter.unusedVariables false

/-- a network, flows and a number have been drawn -/
def LXPost (w : World) (b : Nat) (cv : Value) (len : Nat) (e : Ending) (w' : World) : Prop :=
  ∃ (v : Value) (n m : Nat) (N : Nat → mem.Nod) (P : Nat → mem.Pip) (b1 b2 : Nat) (vk : Value) (K : Nat) (D : Nat → Int) (x i s : Int), e = .returned (.tuple #[v, vk, .int .i64 x]) ∧ n ≤ 1000 ∧ m ≤ 1000 ∧ K ≤ 2000 ∧ (∀ i, i < n → (N i).s.size ≤ 9223372036854775807) ∧ mem.NetOwn w' v n N m P b1 b2 ∧ w.heap.size ≤ b1 ∧ w.heap.size ≤ b2 ∧ mem.Sl w' vk K D w.heap.size w'.heap.size ∧ Src w' b cv len i s ∧ mem.Upd (· = b) w w'
theorem put2 {w : World} {R : Nat} {d : Nat → Value} (h : mem.Ob w R 2 d) (v0 v1 : Value) : (w.setCells R 0 [v0, v1]).cell? ⟨R, 0, none⟩ = some v0 ∧ (w.setCells R 0 [v0, v1]).cell? ⟨R, 1, none⟩ = some v1 := by
  have h1 := h.setCs [v0, v1] 0 (by simp)
  exact ⟨h1.cell 0 (by omega), h1.cell 1 (by omega)⟩
theorem net2_info : (Try.prog.info? 33).map (·.size) = some 2 := by kernel_rfl
theorem net2_one {p0 p1 : Option Addr} {n m c0 c1 : Nat} : ∀ u ∈ ([.slice p0 n c0, .slice p1 m c1] : List Value), u.oneCell' = true := by
  intro u hu
  simp only [List.mem_cons, List.not_mem_nil, or_false] at hu
  rcases hu with rfl | rfl <;> rfl
set_option maxRecDepth 100000 in
set_option maxHeartbeats 8000000 in
theorem l10Draw_any (w : World) (b B : Nat) (cv : Value) (len : Nat) (i s : Int) (h : Src w b cv len i s) (hc : CodeAt w cv len B) (hB' : B ≤ b) :
    Calls Try.prog 71 #[.pointer (some ⟨b, 0, none⟩)] w (LXPost w b cv len) := by
  have hlt := src_lt h
  have h' := src_alloc h hlt (.cells #[.slice none 0 0, .slice none 0 0] 33)
  have HC := Lib.hid (codeAt_below hc ((Below.refl B w).alloc (by omega) (.cells #[.slice none 0 0, .slice none 0 0] 33)))
  have R1 := mem.boxed w (.slice none 0 0) (.slice none 0 0) 33
  have U0 := Lib.hid (mem.Upd.of_below (mem.below_new w (.cells #[.slice none 0 0, .slice none 0 0] 33)) (X := (· = b)))
  have hsz : w.heap.size + 1 ≤ (w.alloc (.cells #[.slice none 0 0, .slice none 0 0] 33)).heap.size := by simp
  have UN := Try.underlying33
  go_enter Try.func71, Try.ntmps71
  go_wp2_with fail
  generalize hW : w.alloc (.cells #[.slice none 0 0, .slice none 0 0] 33) = Wa at *
  clear hW h hc
  have hb : b < Wa.heap.size := by omega
  refine (chord_any Wa b B cv len i s h' HC.out hB').mono ?_
  rintro e w1 ⟨v, n, m, N, P, b1, b2, x, i1, s1, rfl, hn, hm, hnm, hO, l1, l2, hS1, U1⟩
  obtain ⟨p0, c0, p1, c1, rfl⟩ := hO.shape
  have hTl := U1.size
  have hbt := src_lt hS1
  have x2 := mem.below_new w1 (.cells #[.slice p0 n c0, .slice p1 m c1] 33)
  have T2 := mem.boxed w1 (.slice p0 n c0) (.slice p1 m c1) 33
  have R2 := (R1.keep (U1.block w.heap.size (by omega) (by omega))).next x2
  have HO := Lib.hid (hO.next x2)
  have S2 := src_alloc hS1 (src_lt hS1) (.cells #[.slice p0 n c0, .slice p1 m c1] 33)
  have U2 := U1.trans (mem.Upd.of_below x2)
  have hz2 : (w1.alloc (.cells #[.slice p0 n c0, .slice p1 m c1] 33)).heap.size = w1.heap.size + 1 := by simp
  clear hO hS1 U1 x2 h' R1
  go_upto_region 2 with (fail)
  generalize hW : w1.alloc (.cells #[.slice p0 n c0, .slice p1 m c1] 33) = w2 at *
  obtain ⟨T, hTe⟩ : ∃ T, w1.heap.size = T := ⟨_, rfl⟩
  rw [hTe] at T2 hbt hTl hz2 ⊢
  clear hW hTe
  try simp only [Act.put, List.setIfInBounds_toArray, List.set_cons_zero, List.set_cons_succ]
  have g0 := range2 T2.b0 T2.b1
  have r0 := R2.there
  have HCd := code_of (b := b) HC.out (upd_dw' U2) hB' hb
  have lT := T2.lt
  have lR := R2.lt
  have nTR : T ≠ w.heap.size := by omega
  have nTb : T ≠ b := by omega
  have nRb : w.heap.size ≠ b := by omega
  refine wp_region_noPanic ?_
  refine wp_region_held_drew (S := fun w' : World => w'.rangeAt T 0 [.slice p0 n c0, .slice p1 m c1]) (by kernel_rfl) (range_blockN g0 rfl) (fun sH => ?_)
  refine wpAnyH_take (i := 0) (v := .agg #[.slice p0 n c0, .slice p1 m c1]) nthe0 (by kernel_rfl) (by kernel_rfl) (by kernel_rfl) (fun _ _ _ h => h) (yieldsIf_load_mid (by rfl) _ _ rfl T 0 rfl [.slice p0 n c0, .slice p1 m c1] _ (fun _ h => h) UN rfl (by exact net2_info)) sH ?_
  try simp only [Act.put, List.setIfInBounds_toArray, List.set_cons_zero, List.set_cons_succ]
  refine wpAnyH_take (i := 1) (v := ?_) nthe1 (by kernel_rfl) (by kernel_rfl) (by kernel_rfl) (fun _ _ _ h => h) (Or.inl ⟨by rfl, ?_⟩) sH ?_
  rotate_left
  · intro wS hSw; (try dsimp only at hSw); go_simp; try with_reducible rfl
  try simp only [Act.put, List.setIfInBounds_toArray, List.set_cons_zero, List.set_cons_succ]
  refine wpAnyH_take (i := 2) (v := .agg #[.slice p0 n c0, .slice p1 m c1]) nthe2 (by kernel_rfl) (by kernel_rfl) (by kernel_rfl) (fun _ _ _ h => h) (yieldsIf_load_mid (by rfl) _ _ rfl T 0 rfl [.slice p0 n c0, .slice p1 m c1] _ (fun _ h => h) UN rfl (by exact net2_info)) sH ?_
  try simp only [Act.put, List.setIfInBounds_toArray, List.set_cons_zero, List.set_cons_succ]
  refine wpAnyH_take (i := 4) (v := ?_) nthe4 (by kernel_rfl) (by kernel_rfl) (by kernel_rfl) (fun _ _ _ h => h) (Or.inl ⟨by rfl, ?_⟩) sH ?_
  rotate_left
  · intro wS hSw; (try dsimp only at hSw); go_simp; try with_reducible rfl
  try simp only [Act.put, List.setIfInBounds_toArray, List.set_cons_zero, List.set_cons_succ]
  refine wpAnyH_ready (rs := [3]) (by kernel_rfl) (by simp) (AllReadyH.cons nthe3 (fun KON hKON => ?_) AllReadyH.nil)
  clear sH
  go_simp
  refine (flows_any _ b B cv len i1 s1 (src_upd S2 rfl : Src w2.drew b cv len i1 s1) HCd hB' p0 n c0 p1 m c1 hm).mono ?_
  rintro e wx ⟨vx, Kx, Dx, ix, sx, rfl, hKx, hLx, hSx, Ux⟩
  have g1 := range_blockN g0 (Ux.block T lT nTb)
  have r1 := there_blockN r0 (Ux.block w.heap.size lR nRb)
  have R3 := (R2.keep (Ux.block w.heap.size lR nRb) : mem.Ob wx w.heap.size 2 _)
  refine hKON.out _ _ g1 (fun sH => ?_)
  clear hKON KON
  try simp only [Act.put, List.set_cons_succ]
  refine wpAnyH_ready (rs := [5]) (by kernel_rfl) (by simp) (AllReadyH.cons nthe5 (fun KON hKON => ?_) AllReadyH.nil)
  rw [if_pos (by rfl)]
  refine wp_store_mid _ _ _ rfl w.heap.size _ ([.slice p0 n c0, .slice p1 m c1] : List Value).toArray rfl rfl (by show World.there _ _ 0 2; exact r1) (by exact net2_info) (all_oneCell_toArray net2_one) ?_
  simp only [Act.put]
  refine hKON.out _ _ (World.rangeAt_setCells_apart g1 _ _ _ (.inl nTR)) (fun sH => ?_)
  clear hKON KON
  refine wpAnyH_take (i := 6) (v := ?_) nthe6 (by kernel_rfl) (by kernel_rfl) (by kernel_rfl) (fun _ _ _ h => h) (Or.inl ⟨by rfl, ?_⟩) sH ?_
  rotate_left
  · intro wS hSw; (try dsimp only at hSw); go_simp; try with_reducible rfl
  try simp only [Act.put]
  refine wpAnyH_take (i := 7) (v := ?_) nthe7 (by kernel_rfl) (by kernel_rfl) (by kernel_rfl) (fun _ _ _ h => h) (Or.inl ⟨by rfl, ?_⟩) sH ?_
  rotate_left
  · intro wS hSw; (try dsimp only at hSw); go_simp; try with_reducible rfl
  try simp only [Act.put, List.setIfInBounds_toArray, List.set_cons_succ]
  refine wpAnyH_done (by kernel_rfl) ?_ _
  refine NoPanic.normal ?_
  obtain ⟨px, cx, rfl⟩ := sl_sh hLx
  have hzx := Ux.size
  have hzd : w2.drew.heap.size = w2.heap.size := rfl
  have hO2 := (mem.Only.refl w.heap.size wx).setCs [.slice p0 n c0, .slice p1 m c1] 0
  obtain ⟨fx0, fx1⟩ := put2 R3 (.slice p0 n c0) (.slice p1 m c1)
  have HF := Lib.hid ((HO.out.drew.upd Ux (.inr (by omega)) (.inr (by omega))).upd (mem.Upd.of_only hO2) (.inr (by omega)) (.inr (by omega)))
  have HL := Lib.hid ((hLx.only hO2 (.inl (by show w.heap.size < w2.heap.size; omega))).mono (show w.heap.size ≤ w2.heap.size by omega) (Nat.le_of_eq hO2.size))
  have HS := Lib.hid (src_upd hSx (hO2.block b (fun e => nRb e.symm)))
  have HU := Lib.hid (upd_own (U0.out.trans ((upd_dw' U2).trans Ux)) hO2 (Nat.le_refl _))
  clear Ux R2 R3 T2 S2 U2 hO2 hLx hSx g0 g1 r0 r1
  go_wp2_with fail
  refine bodyPost_ret (v := .tuple #[.agg #[.slice p0 n c0, .slice p1 m c1], .slice px Kx cx, .int .i64 x]) (by simp [results, Try.results71, go_sem, fx0, fx1]) rfl ⟨_, n, m, N, P, b1, b2, _, Kx, Dx, x, ix, sx, rfl, hn, hm, hKx, hnm, HF.out, by omega, by omega, HL.out, HS.out, HU.out⟩

end Go.Proofs.Ytfkacpphdnlkfaa.draw

namespace Go.Proofs.Ytfkacpphdnlkfaa.draw
open Go.RowKit
open Go.Proofs.Ytfkacpphdnlkfaa.mem (range2 range_blockN there_blockN nthe0 nthe1 nthe2 nthe3 nthe4 nthe5 nthe6 nthe7 nthe8 nthe9 nthe10 nthe11 nthe12 nthe13 nthe14 nthe15)
set_option linter.unusedVariables false

end Go.Proofs.Ytfkacpphdnlkfaa.draw

namespace Go.Proofs.Ytfkacpphdnlkfaa.mem
open Go.RowKit
set_option linter.unusedVariables false

theorem likeInts_any (w : World) (v u : Value) (n : Nat) (d : Nat → Int) (lo hi lo' hi' : Nat) (h : Cs w v n 1 (intC d) lo hi) (g : Cs w u n 1 (intC d) lo' hi') :
    Calls Try.prog 30 #[v, u] w fun e w' => e = .returned (.bool true) ∧ Below w.heap.size w w' := by
  obtain ⟨p, cap, rfl, _, _, hc⟩ := h
  obtain ⟨p', cap', rfl, _, _, hc'⟩ := g
  have HC := Lib.hid hc
  have HC' := Lib.hid hc'
  clear hc hc'
  have hbb : ((n : Int) != n) = false := by simp
  go_enter Try.func30, Try.ntmps30
  go_wp2_with fail
  go_loopw [5] (fun i wr => ∃ k m : Nat, i = .int .i64 k ∧ k ≤ n ∧ wr = w.drewN m) (fun i _ => n - (intOf i).toNat)
  case atStart => exact ⟨0, 0, rfl, Nat.zero_le _, rfl⟩
  case round =>
    obtain ⟨k, m, rfl, hk, hw⟩ := hrel
    have HWR := Lib.hid hw
    by_cases hlt : k < n
    · rcases HC.out with h0 | ⟨b, o, rfl, g1, g2, g3⟩
      · omega
      rcases HC'.out with h0 | ⟨b', o', rfl, g1', g2', g3'⟩
      · omega
      have c1 : wr.cell? ⟨b, o + k, none⟩ = some (.int .i64 (d k)) := by rw [hw]; exact g3.int k hlt
      have c2 : wr.cell? ⟨b', o' + k, none⟩ = some (.int .i64 (d k)) := by rw [hw]; exact g3'.int k hlt
      have hkn : (k : Int) < (n : Int) := by omega
      have hdd : (d k != d k) = false := by simp
      clear hw g3 g3'
      go_wp2_with fail
      go_quiet (fail)
      go_wp2_with fail
      go_roundw
      case rel => exact ⟨k + 1, m + nq, by go_num, hlt, by rw [HWR.out]; exact (World.drewN_drewN _ _ _)⟩
      case measure => simp [intOf]; omega
    · clear hw
      go_wp2_with fail
      go_ret
      exact ⟨rfl, by rw [HWR.out]; exact below_self _ _ _⟩

end Go.Proofs.Ytfkacpphdnlkfaa.mem

namespace Go.Proofs.Ytfkacpphdnlkfaa.mem
open Go.RowKit
set_option linter.unusedVariables false

/-- loads and stores of arrays and of flows with their network -/
theorem wpList_ldF {ops : Array Oper} {rest : List Oper} {o : Oper} {a : Act} {w : World} {Q : Exit → Act → World → Prop} (hg : o.guard = none) (x : Operand) (ho : o.op = .load 68 x) (b off : Nat) (L : List Value) (hx : a.eval x = .pointer (some ⟨b, off, none⟩)) (hL : L.length = 40) (hc : w.rangeAt b off L)
    (h : wpList Try.prog ops Q rest (a.put o.dst (.agg L.toArray)) w) : wpList Try.prog ops Q (o :: rest) a w :=
  wpList_load_mid hg 68 x ho b off hx L _ hc Try.underlying68 rfl (by rw [hL]; exact flow_info) h
theorem wpList_ldN {ops : Array Oper} {rest : List Oper} {o : Oper} {a : Act} {w : World} {Q : Exit → Act → World → Prop} (hg : o.guard = none) (x : Operand) (ho : o.op = .load 70 x) (b : Nat) (s0 s1 : Value) (z : Nat → Int) (hx : a.eval x = .pointer (some ⟨b, 0, none⟩)) (hc : w.rangeAt b 0 (nfL s0 s1 z))
    (h : wpList Try.prog ops Q rest (a.put o.dst (.agg (nfL s0 s1 z).toArray)) w) : wpList Try.prog ops Q (o :: rest) a w :=
  wpList_load_mid hg 70 x ho b 0 hx (nfL s0 s1 z) _ hc Try.underlying70 rfl (by rw [nfL_len]; exact nf_info) h
theorem run_allocF (w : World) : (Instr.alloc 68 true (.tuple #[])).run Try.prog w = .ok (.pointer (some ⟨w.heap.size, 0, none⟩)) (w.alloc (.cells (arr fun _ => 0) 68)) := by
  obtain ⟨i0, hi0, hz0, hz1, hz2⟩ := info_parts info_flow
  simp [Instr.alloc, zeroValue, typeInfo, hi0, hz0, newVar, newRow, Value.cells]
/-- an element of an array of numbers by value -/
theorem run_indexV (w : World) (t : TypeId) (len : Nat) (cs : Array Value) (k : IntKind) (i : Int) (v : Value) (hu : Try.prog.underlying t = some (.array len 2)) (h0 : 0 ≤ i) (h1 : i < len) (hv : cs[i.toNat]? = some v) : (Instr.index t (.agg cs) (.int k i)).run Try.prog w = .ok v w := by
  obtain ⟨i0, hi0, hz0, hz1, hz2⟩ := info_parts info_make_int64
  simp [Instr.index, run_underlying hu, run_underlying Try.underlying2, asIntOf, h0, h1, part, isAgg, sizeOf, typeInfo, hi0, hz1, hv]
theorem wpList_indexV {ops : Array Oper} {rest : List Oper} {o : Oper} {a : Act} {w : World} {Q : Exit → Act → World → Prop} (hg : o.guard = none) (t : TypeId) (len : Nat) (x y : Operand) (ho : o.op = .index t x y) (cs : Array Value) (k : IntKind) (i : Int) (v : Value) (hx : a.eval x = .agg cs) (hy : a.eval y = .int k i) (hu : Try.prog.underlying t = some (.array len 2)) (h0 : 0 ≤ i) (h1 : i < len) (hv : cs[i.toNat]? = some v)
    (h : wpList Try.prog ops Q rest (a.put o.dst v) w) : wpList Try.prog ops Q (o :: rest) a w := by
  refine wpList_plain hg fun K hK => ?_
  unfold Oper.wp execOp
  simp only [ho, Sem.run_bind, hx, hy, run_indexV w t len cs k i v hu h0 h1 hv, Result.andThen_ok]
  exact hK _ _ h
end Go.Proofs.Ytfkacpphdnlkfaa.mem

namespace Go.Proofs.Ytfkacpphdnlkfaa.mem
open Go.RowKit
set_option linter.unusedVariables false

end Go.Proofs.Ytfkacpphdnlkfaa.mem

namespace Go.Proofs.Ytfkacpphdnlkfaa.mem
open Go.RowKit
set_option linter.unusedVariables false

theorem info_nf : (Try.prog.info? 70).map (fun i => (i.zero, i.size, i.bytes)) = some (some (.agg (nfL (.slice none 0 0) (.slice none 0 0) fun _ => 0).toArray), 42, 368) := by kernel_rfl
theorem run_allocN (w : World) : (Instr.alloc 70 true (.tuple #[])).run Try.prog w = .ok (.pointer (some ⟨w.heap.size, 0, none⟩)) (w.alloc (.cells (nfL (.slice none 0 0) (.slice none 0 0) fun _ => 0).toArray 70)) := by
  obtain ⟨i0, hi0, hz0, hz1, hz2⟩ := info_parts info_nf
  simp [Instr.alloc, zeroValue, typeInfo, hi0, hz0, newVar, newRow, Value.cells]
end Go.Proofs.Ytfkacpphdnlkfaa.mem

namespace Go.Proofs.Ytfkacpphdnlkfaa.mem
open Go.RowKit
set_option linter.unusedVariables false

set_option maxRecDepth 100000 in
set_option maxHeartbeats 8000000 in
theorem allowedTimes_any (w : World) (s0 s1 : Value) (x : Nat → Int) (hx : ∀ k, k < 40 → -30000 ≤ x k ∧ x k ≤ 30000) (y : Nat → Int) (hy : ∀ k, k < 40 → -1 ≤ y k ∧ y k ≤ 1) :
    Calls Try.prog 104 #[.agg (nfL s0 s1 x).toArray, .agg (arr y)] w fun e w' => e = .returned (.tuple #[.int .i64 (alL x y 40), .int .i64 (alH x y 40)]) ∧ Below w.heap.size w w' := by
  have HX := Lib.hid hx
  have HYB := Lib.hid hy
  have A0 := (Ob.newN w s0 s1 x 70).keep (Below.heap_alloc _ (.cells (arr y) 68) _ (by rw [szal]; omega))
  have A1 := Ob.newA (w.alloc (.cells (nfL s0 s1 x).toArray 70)) y 68
  simp only [szal] at A1
  have B0 := (below_new w (.cells (nfL s0 s1 x).toArray 70)).trans ((below_new _ (.cells (arr y) 68)).mono (by rw [szal]; omega))
  have hs0 : ((w.alloc (.cells (nfL s0 s1 x).toArray 70)).alloc (.cells (arr y) 68)).heap.size = w.heap.size + 2 := by simp
  clear hx hy
  go_enter Try.func104, Try.ntmps104
  go_upto_region 1 with (fail)
  obtain ⟨w1, hw1⟩ : ∃ w1, (w.alloc (.cells (nfL s0 s1 x).toArray 70)).alloc (.cells (arr y) 68) = w1 := ⟨_, rfl⟩
  rw [hw1] at A0 A1 B0 hs0 ⊢
  clear hw1
  have HA := Lib.hid A0
  have HB := Lib.hid B0
  have g1 := A1.range
  obtain ⟨Ly, hLy, eLy⟩ : ∃ L : List Value, arr y = List.toArray L ∧ L = arrL y := ⟨_, rfl, rfl⟩
  rw [← eLy] at g1
  have nLy : Ly.length = 40 := by rw [eLy, arr_len]
  have HEy := Lib.hid eLy
  have hs1 := Nat.le_antisymm_iff.1 hs0
  clear hLy eLy A0 A1 B0 hs0
  go_upto_region 3 with (refine wpList_ldF rfl _ rfl (w.heap.size + 1) 0 Ly rfl nLy g1 ?_)
  clear g1
  go_loopw [6, 7, 11] (fun av bv iv wr => ∃ k : Nat, av = .int .i64 (alL x y k) ∧ bv = .int .i64 (alH x y k) ∧ iv = .int .i64 k ∧ k ≤ 40 ∧ w1.heap.size ≤ wr.heap.size ∧ Below w1.heap.size w1 wr) (fun _ _ iv _ => 40 - (intOf iv).toNat)
  case atStart => exact ⟨0, rfl, rfl, rfl, Nat.zero_le _, Nat.le_refl _, Below.refl _ _⟩
  case round =>
    obtain ⟨k, rfl, rfl, rfl, hk, hsz, hb⟩ := hrel
    have HBB := Lib.hid hb
    clear hb
    have k0 : (0 : Int) ≤ (k : Int) := Int.natCast_nonneg _
    have BW := Lib.hid (HB.out.trans (HBB.out.mono (by omega)))
    by_cases hlt : k < 40
    · have k1 : (k : Int) < 40 := by omega
      have yx := (HA.out.below HBB.out (by omega)).nx k hlt
      have hLk : Ly.toArray[(k : Int).toNat]? = some (.int .i64 (y k)) := by
        rw [List.getElem?_toArray, Int.toNat_natCast, HEy.out]
        exact arrL_get y k hlt
      obtain ⟨x0, x1⟩ := HX.out k hlt
      obtain ⟨y0, y1⟩ := HYB.out k hlt
      have hbd := al_bnd (k := k) (fun j hj => HX.out j (by omega)) (fun j hj => HYB.out j (by omega))
      obtain ⟨⟨b0, b1⟩, b2, b3⟩ := hbd
      have HL1 := Lib.hid (show alL x y (k + 1) = if y k = 0 then alL x y k else max (alL x y k) (-30000 - y k * x k) from rfl)
      have HH1 := Lib.hid (show alH x y (k + 1) = if y k = 0 then alH x y k else min (alH x y k) (30000 - y k * x k) from rfl)
      have hm : -30000 ≤ y k * x k ∧ y k * x k ≤ 30000 := by
        have := mulc (b := 30000) (x := x k) (c := y k) ⟨x0, x1⟩ ⟨y0, y1⟩
        rw [Int.mul_comm]
        exact this
      have hw1 : IntKind.i64.wrap (y k * x k) = y k * x k := IntWalk.i64_in _ (by omega)
      have hw2 : IntKind.i64.wrap (-30000 - y k * x k) = -30000 - y k * x k := IntWalk.i64_in _ (by omega)
      have hw3 : IntKind.i64.wrap (30000 - y k * x k) = 30000 - y k * x k := IntWalk.i64_in _ (by omega)
      generalize ha : alL x y k = a at *
      generalize hb' : alH x y k = b at *
      generalize hyk : y k = yk at *
      generalize hxk : x k = xk at *
      clear ha hb' hyk hxk
      by_cases h0 : yk = 0
      · have hd : (yk != 0) = false := by simpa using h0
        have HL2 := Lib.hid (by have := HL1.out; rwa [if_pos h0] at this)
        have HH2 := Lib.hid (by have := HH1.out; rwa [if_pos h0] at this)
        clear h0
        go_wp2_with (refine wpList_indexV rfl 68 40 _ _ rfl Ly.toArray _ _ (.int .i64 yk) rfl rfl Try.underlying68 k0 k1 hLk ?_)
        go_roundw
        case rel => exact ⟨k + 1, by rw [HL2.out], by rw [HH2.out], by go_num, hlt, by (first | omega | (simp; omega)), (by first | exact HBB.out | exact below_drN1 HBB.out _)⟩
        case measure => simp [intOf]; omega
      · have hd : (yk != 0) = true := by simpa using h0
        have HL2 := Lib.hid (by have := HL1.out; rwa [if_neg h0] at this)
        have HH2 := Lib.hid (by have := HH1.out; rwa [if_neg h0] at this)
        clear h0
        go_wp2_with (refine wpList_indexV rfl 68 40 _ _ rfl Ly.toArray _ _ (.int .i64 yk) rfl rfl Try.underlying68 k0 k1 hLk ?_)
        go_roundw
        case rel => exact ⟨k + 1, by rw [HL2.out], by rw [HH2.out], by go_num, hlt, by (first | omega | (simp; omega)), (by first | exact HBB.out | exact below_drN1 HBB.out _)⟩
        case measure => simp [intOf]; omega
    · have hkn : k = 40 := by omega
      have k1 : ¬ ((k : Int) < 40) := by omega
      have HL2 := Lib.hid (show alL x y k = alL x y 40 by rw [hkn])
      have HH2 := Lib.hid (show alH x y k = alH x y 40 by rw [hkn])
      clear hkn
      go_wp2_with fail
      go_ret2
      exact ⟨ret_2 HL2.out HH2.out, BW.out⟩
/-- the flows and the cycle that the closure reads -/
structure EnC (w : World) (b : Nat) (s0 s1 : Value) (x y : Nat → Int) : Prop where
  f : Ob w b 42 (nfc s0 s1 x)
  y : Ob w (b + 1) 40 (ia y)
theorem EnC.next {w w' : World} {b : Nat} {s0 s1 : Value} {x y : Nat → Int} (h : EnC w b s0 s1 x y) (g : Below w.heap.size w w') : EnC w' b s0 s1 x y := ⟨h.f.below g h.f.lt, h.y.below g h.y.lt⟩
/-- enough, as a test -/
noncomputable def beB (P : Nat → Pip) (x y : Nat → Int) (m : Nat) (t : Int) : Bool := decide (egC P x y m (t + 1) - egC P x y m t > 0) || (decide (egC P x y m (t + 1) - egC P x y m t = 0) && decide (t ≥ 0))
theorem beB_iff {P : Nat → Pip} {x y : Nat → Int} {m : Nat} {t : Int} : beB P x y m t = true ↔ bePr P x y m t := by
  unfold beB bePr
  rw [Bool.or_eq_true, Bool.and_eq_true, decide_eq_true_iff, decide_eq_true_iff, decide_eq_true_iff]
theorem egC_arr {P : Nat → Pip} {x y : Nat → Int} {m : Nat} (t : Int) : egS P (fun k => x k + y k * t) m = egC P x y m t := egS_congr fun k _ => by rw [Int.mul_comm]
theorem egC_bnd {n : Nat} {N : Nat → Nod} {m : Nat} {P : Nat → Pip} (hB : netB n N m P = true) {x y : Nat → Int} {t : Int} (h : ∀ k, k < m → -30000 ≤ x k + t * y k ∧ x k + t * y k ≤ 30000) : 0 ≤ egC P x y m t ∧ egC P x y m t ≤ 1080000000000000000 := by
  have h1 := egS_bnd (P := P) (x := fun k => x k + t * y k) (k := m) (fun j hj => egB_of (net_pip hB hj) (h j hj).1 (h j hj).2)
  have h2 := (net_sz hB).2.2
  unfold egC
  omega
set_option maxRecDepth 100000 in
set_option maxHeartbeats 8000000 in
theorem best1_any (w : World) (p0 p1 : Option Addr) (c0 c1 : Nat) (n : Nat) (N : Nat → Nod) (m : Nat) (P : Nat → Pip) (lo hi : Nat) (h : NetAt w (.agg #[.slice p0 n c0, .slice p1 m c1]) n N m P lo hi) (hhi : hi ≤ w.heap.size) (hB : netB n N m P = true) (b : Nat) (x : Nat → Int) (hx : ∀ k, k < 40 → -30000 ≤ x k ∧ x k ≤ 30000) (y : Nat → Int) (hy : ∀ k, k < 40 → -1 ≤ y k ∧ y k ≤ 1) (h2 : EnC w b (.slice p0 n c0) (.slice p1 m c1) x y) (t : Int) (ht : alL x y m ≤ t ∧ t < alH x y m) :
    Calls Try.prog 106 #[.int .i64 t, .pointer (some ⟨b, 0, none⟩), .pointer (some ⟨b + 1, 0, none⟩)] w fun e w' => e = .returned (.bool (beB P x y m t)) ∧ Below w.heap.size w w' := by
  have hm40 := (net_sz hB).2.2
  have HV := Lib.hid h
  have HB := Lib.hid hB
  have hal := al_bnd (x := x) (y := y) (k := m) (fun j hj => hx j (by omega)) (fun j hj => hy j (by omega))
  have hi1 := fun u (hu : alL x y m ≤ u) (hv : u ≤ alH x y m) => al_in (k := m) (fun j hj => hx j (by omega)) (fun j hj => hy j (by omega)) hu hv
  have HYR := Lib.hid (show ∀ u, -100000 ≤ u ∧ u ≤ 100000 → ∀ k, k < 40 → (-4611686018427387904 ≤ x k + y k * u ∧ x k + y k * u ≤ 4611686018427387904) ∧ (-4611686018427387904 ≤ y k * u ∧ y k * u ≤ 4611686018427387904) from fun u hu k hk => by
    have h1 := mulc hu (hy k hk)
    have h2 := hx k hk
    rw [Int.mul_comm] at h1
    omega)
  obtain ⟨z0, hz0⟩ : ∃ z0 : Nat → Int, (fun k => x k + y k * t) = z0 := ⟨_, rfl⟩
  obtain ⟨z1, hz1⟩ : ∃ z1 : Nat → Int, (fun k => x k + y k * (t + 1)) = z1 := ⟨_, rfl⟩
  have HR0 := Lib.hid (show ∀ k, k < m → -30000 ≤ z0 k ∧ z0 k ≤ 30000 from fun k hk => by rw [← hz0]; have := hi1 t (by omega) (by omega) k hk; rw [Int.mul_comm] at this; exact this)
  have HR1 := Lib.hid (show ∀ k, k < m → -30000 ≤ z1 k ∧ z1 k ≤ 30000 from fun k hk => by rw [← hz1]; have := hi1 (t + 1) (by omega) (by omega) k hk; rw [Int.mul_comm] at this; exact this)
  have HE0 := Lib.hid (show egS P z0 m = egC P x y m t by rw [← hz0]; exact egC_arr t)
  have HE1 := Lib.hid (show egS P z1 m = egC P x y m (t + 1) by rw [← hz1]; exact egC_arr (t + 1))
  obtain ⟨q0, q1⟩ := egC_bnd hB (hi1 t (by omega) (by omega))
  obtain ⟨q2, q3⟩ := egC_bnd hB (hi1 (t + 1) (by omega) (by omega))
  have HZ0 := Lib.hid hz0
  have HZ1 := Lib.hid hz1
  have HD := Lib.hid (show beB P x y m t = (decide (egC P x y m (t + 1) - egC P x y m t > 0) || (decide (egC P x y m (t + 1) - egC P x y m t = 0) && decide (t ≥ 0))) from rfl)
  have hw1 : IntKind.i64.wrap (t + 1) = t + 1 := IntWalk.i64_in _ (by omega)
  generalize hg0 : egC P x y m t = e0 at *
  generalize hg1 : egC P x y m (t + 1) = e1 at *
  have hw2 : IntKind.i64.wrap (e1 - e0) = e1 - e0 := IntWalk.i64_in _ (by omega)
  have g0 := h2.f.nall
  have g1 := h2.y.range
  have lb := h2.f.lt
  have lb1 := h2.y.lt
  obtain ⟨Ly, hLy, eLy⟩ : ∃ L : List Value, arr y = List.toArray L ∧ L = arrL y := ⟨_, rfl, rfl⟩
  rw [← eLy] at g1
  have nLy : Ly.length = 40 := by rw [eLy, arr_len]
  have HLy := Lib.hid hLy
  have KS : ∀ W : World, Below w.heap.size w W → (Below w.heap.size w W ∧ W.rangeAt b 0 (nfL (.slice p0 n c0) (.slice p1 m c1) x) ∧ W.rangeAt (b + 1) 0 Ly) := fun W hW => ⟨hW, range_blockN g0 (hW.block _ lb), range_blockN g1 (hW.block _ lb1)⟩
  clear h hB hx hy h2 hi1 hz0 hz1 hg0 hg1 hLy eLy
  go_enter Try.func106, Try.ntmps106
  go_wp2_with fail
  refine wp_region_noPanic ?_
  refine wp_region_held_drew (S := fun w' : World => Below w.heap.size w w' ∧ w'.rangeAt b 0 (nfL (.slice p0 n c0) (.slice p1 m c1) x) ∧ w'.rangeAt (b + 1) 0 Ly) (by kernel_rfl) (KS _ (below_drw (Below.refl _ _))) (fun sH => ?_)
  refine wpAnyH_take (i := 0) (v := .agg (nfL (.slice p0 n c0) (.slice p1 m c1) x).toArray) nthe0 (by kernel_rfl) (by kernel_rfl) (by kernel_rfl) (fun _ _ _ h => h) (yieldsIf_load_mid (by rfl) _ _ rfl b 0 rfl (nfL (.slice p0 n c0) (.slice p1 m c1) x) _ (fun _ h => h.2.1) Try.underlying70 rfl (by rw [nfL_len]; exact nf_info)) sH ?_
  try simp only [Act.put, List.setIfInBounds_toArray, List.set_cons_zero, List.set_cons_succ]
  refine wpAnyH_take (i := 1) (v := .agg (Ly).toArray) nthe1 (by kernel_rfl) (by kernel_rfl) (by kernel_rfl) (fun _ _ _ h => h) (yieldsIf_load_mid (by rfl) _ _ rfl (b + 1) 0 rfl (Ly) _ (fun _ h => h.2.2) Try.underlying68 rfl (by rw [nLy]; exact flow_info)) sH ?_
  try simp only [Act.put, List.setIfInBounds_toArray, List.set_cons_zero, List.set_cons_succ]
  refine wpAnyH_take (i := 2) (v := ?_) nthe2 (by kernel_rfl) (by kernel_rfl) (by kernel_rfl) (fun _ _ _ h => h) (Or.inl ⟨by rfl, ?_⟩) sH ?_
  rotate_left
  · intro wS hSw; (try dsimp only at hSw); go_simp; try with_reducible rfl
  try simp only [Act.put, List.setIfInBounds_toArray, List.set_cons_zero, List.set_cons_succ]
  refine wpAnyH_take (i := 3) (v := ?_) nthe3 (by kernel_rfl) (by kernel_rfl) (by kernel_rfl) (fun _ _ _ h => h) (Or.inl ⟨by rfl, ?_⟩) sH ?_
  rotate_left
  · intro wS hSw; (try dsimp only at hSw); go_simp; try with_reducible rfl
  try simp only [Act.put, List.setIfInBounds_toArray, List.set_cons_zero, List.set_cons_succ]
  refine wpAnyH_take (i := 6) (v := .agg (nfL (.slice p0 n c0) (.slice p1 m c1) x).toArray) nthe6 (by kernel_rfl) (by kernel_rfl) (by kernel_rfl) (fun _ _ _ h => h) (yieldsIf_load_mid (by rfl) _ _ rfl b 0 rfl (nfL (.slice p0 n c0) (.slice p1 m c1) x) _ (fun _ h => h.2.1) Try.underlying70 rfl (by rw [nfL_len]; exact nf_info)) sH ?_
  try simp only [Act.put, List.setIfInBounds_toArray, List.set_cons_zero, List.set_cons_succ]
  refine wpAnyH_take (i := 7) (v := .agg (Ly).toArray) nthe7 (by kernel_rfl) (by kernel_rfl) (by kernel_rfl) (fun _ _ _ h => h) (yieldsIf_load_mid (by rfl) _ _ rfl (b + 1) 0 rfl (Ly) _ (fun _ h => h.2.2) Try.underlying68 rfl (by rw [nLy]; exact flow_info)) sH ?_
  try simp only [Act.put, List.setIfInBounds_toArray, List.set_cons_zero, List.set_cons_succ]
  refine wpAnyH_take (i := 8) (v := ?_) nthe8 (by kernel_rfl) (by kernel_rfl) (by kernel_rfl) (fun _ _ _ h => h) (Or.inl ⟨by rfl, ?_⟩) sH ?_
  rotate_left
  · intro wS hSw; (try dsimp only at hSw); go_simp; try with_reducible rfl
  try simp only [Act.put, List.setIfInBounds_toArray, List.set_cons_zero, List.set_cons_succ]
  refine wpAnyH_ready (rs := [4]) (by kernel_rfl) (by simp) (AllReadyH.cons nthe4 (fun KON hKON => ?_) AllReadyH.nil)
  clear sH
  go_simp
  have hpc := plusCycle_any (w.drew) (.slice p0 n c0) (.slice p1 m c1) rfl rfl x y (t + 1) (fun k hk => (HYR.out (t + 1) (by omega) k hk).1) (fun k hk => (HYR.out (t + 1) (by omega) k hk).2)
  rw [HZ1.out, HLy.out] at hpc
  refine hpc.mono ?_
  clear hpc
  rintro e wA ⟨rfl, hbwA⟩
  have BwA : Below w.heap.size w wA := (below_drw (Below.refl w.heap.size w)).trans (hbwA.mono (below_drw (Below.refl w.heap.size w)).size)
  refine hKON.out _ _ (KS _ BwA) (fun sH => ?_)
  clear hKON KON
  try simp only [Act.put, List.setIfInBounds_toArray, List.set_cons_zero, List.set_cons_succ]
  refine wpAnyH_ready (rs := [5]) (by kernel_rfl) (by simp) (AllReadyH.cons nthe5 (fun KON hKON => ?_) AllReadyH.nil)
  clear sH
  go_simp
  have hen := energy_any (wA) p0 p1 c0 c1 n N m P lo hi (HV.out.below BwA hhi) (Nat.le_trans hhi BwA.size) HB.out (z1) HR1.out
  rw [HE1.out] at hen
  refine hen.mono ?_
  clear hen
  rintro e wB ⟨rfl, hbwB⟩
  have BwB : Below w.heap.size w wB := BwA.trans (hbwB.mono BwA.size)
  refine hKON.out _ _ (KS _ BwB) (fun sH => ?_)
  clear hKON KON
  try simp only [Act.put, List.setIfInBounds_toArray, List.set_cons_zero, List.set_cons_succ]
  refine wpAnyH_ready (rs := [9]) (by kernel_rfl) (by simp) (AllReadyH.cons nthe9 (fun KON hKON => ?_) AllReadyH.nil)
  clear sH
  go_simp
  have hpc := plusCycle_any (wB) (.slice p0 n c0) (.slice p1 m c1) rfl rfl x y (t) (fun k hk => (HYR.out (t) (by omega) k hk).1) (fun k hk => (HYR.out (t) (by omega) k hk).2)
  rw [HZ0.out, HLy.out] at hpc
  refine hpc.mono ?_
  clear hpc
  rintro e wC ⟨rfl, hbwC⟩
  have BwC : Below w.heap.size w wC := BwB.trans (hbwC.mono BwB.size)
  refine hKON.out _ _ (KS _ BwC) (fun sH => ?_)
  clear hKON KON
  try simp only [Act.put, List.setIfInBounds_toArray, List.set_cons_zero, List.set_cons_succ]
  refine wpAnyH_ready (rs := [10]) (by kernel_rfl) (by simp) (AllReadyH.cons nthe10 (fun KON hKON => ?_) AllReadyH.nil)
  clear sH
  go_simp
  have hen := energy_any (wC) p0 p1 c0 c1 n N m P lo hi (HV.out.below BwC hhi) (Nat.le_trans hhi BwC.size) HB.out (z0) HR0.out
  rw [HE0.out] at hen
  refine hen.mono ?_
  clear hen
  rintro e wD ⟨rfl, hbwD⟩
  have BwD : Below w.heap.size w wD := BwC.trans (hbwD.mono BwC.size)
  refine hKON.out _ _ (KS _ BwD) (fun sH => ?_)
  clear hKON KON
  try simp only [Act.put, List.setIfInBounds_toArray, List.set_cons_zero, List.set_cons_succ]
  refine wpAnyH_take (i := 11) (v := ?_) nthe11 (by kernel_rfl) (by kernel_rfl) (by kernel_rfl) (fun _ _ _ h => h) (Or.inl ⟨by rfl, ?_⟩) sH ?_
  rotate_left
  · intro wS hSw; (try dsimp only at hSw); go_simp; try with_reducible rfl
  try simp only [Act.put, List.setIfInBounds_toArray, List.set_cons_zero, List.set_cons_succ]
  refine wpAnyH_take (i := 12) (v := ?_) nthe12 (by kernel_rfl) (by kernel_rfl) (by kernel_rfl) (fun _ _ _ h => h) (Or.inl ⟨by rfl, ?_⟩) sH ?_
  rotate_left
  · intro wS hSw; (try dsimp only at hSw); go_simp; try with_reducible rfl
  try simp only [Act.put, List.setIfInBounds_toArray, List.set_cons_zero, List.set_cons_succ]
  refine wpAnyH_done (by kernel_rfl) ?_ _
  refine NoPanic.normal ?_
  have HD2 := HD.out
  by_cases c1 : e1 - e0 > 0
  · have d1 : decide (e0 < e1) = true := decide_eq_true (by omega)
    have HR := Lib.hid (show beB P x y m t = true by rw [HD2, decide_eq_true c1]; rfl)
    clear HD2 c1
    go_wp2_with fail
    go_ret
    exact ⟨ret_b HR.out.symm, BwD⟩
  · have d1 : decide (e0 < e1) = false := decide_eq_false (by omega)
    rw [decide_eq_false c1, Bool.false_or] at HD2
    by_cases c2 : e1 - e0 = 0
    · have d2 : (e1 - e0 == 0) = true := by simpa using c2
      have HR := Lib.hid (show beB P x y m t = decide (0 ≤ t) by rw [HD2, decide_eq_true c2, Bool.true_and])
      clear HD2 c1 c2
      by_cases c3 : 0 ≤ t
      · have d3 : decide (0 ≤ t) = true := decide_eq_true c3
        have HR2 := Lib.hid (HR.out.trans d3)
        clear c3
        go_wp2_with fail
        go_ret
        exact ⟨ret_b HR2.out.symm, BwD⟩
      · have d3 : decide (0 ≤ t) = false := decide_eq_false c3
        have HR2 := Lib.hid (HR.out.trans d3)
        clear c3
        go_wp2_with fail
        go_ret
        exact ⟨ret_b HR2.out.symm, BwD⟩
    · have d2 : (e1 - e0 == 0) = false := by simpa using c2
      have HR := Lib.hid (show beB P x y m t = false by rw [HD2, decide_eq_false c2, Bool.false_and])
      clear HD2 c1 c2
      go_wp2_with fail
      go_ret
      exact ⟨ret_b HR.out.symm, BwD⟩
set_option maxRecDepth 100000 in
set_option maxHeartbeats 8000000 in
theorem least_any (w : World) (p0 p1 : Option Addr) (c0 c1 : Nat) (n : Nat) (N : Nat → Nod) (m : Nat) (P : Nat → Pip) (lo hi : Nat) (h : NetAt w (.agg #[.slice p0 n c0, .slice p1 m c1]) n N m P lo hi) (hhi : hi ≤ w.heap.size) (hB : netB n N m P = true) (b : Nat) (x : Nat → Int) (hx : ∀ k, k < 40 → -30000 ≤ x k ∧ x k ≤ 30000) (y : Nat → Int) (hy : ∀ k, k < 40 → -1 ≤ y k ∧ y k ≤ 1) (hcy : CyO P y m) (h2 : EnC w b (.slice p0 n c0) (.slice p1 m c1) x y) :
    Calls Try.prog 105 #[.int .i64 (alL x y m), .int .i64 (alH x y m), .func (.func 106) #[] #[.pointer (some ⟨b, 0, none⟩), .pointer (some ⟨b + 1, 0, none⟩)]] w fun e w' => e = .returned (.int .i64 (bstT m P x y)) ∧ Below w.heap.size w w' := by
  have hm40 := (net_sz hB).2.2
  have HV := Lib.hid h
  have HBN := Lib.hid hB
  have HX := Lib.hid hx
  have HYB := Lib.hid hy
  have HE := Lib.hid h2
  have HCY := Lib.hid hcy
  have hal := al_bnd (x := x) (y := y) (k := m) (fun j hj => hx j (by omega)) (fun j hj => hy j (by omega))
  have HST := Lib.hid (Hlv.start (bePr P x y m) (show alL x y m ≤ alH x y m by omega))
  have HBS := Lib.hid (show ∀ r, Lst (bePr P x y m) (alL x y m) (alH x y m) r → r = bstT m P x y from fun r hr => bstT_eq hr)
  clear h hB hx hy h2 hcy
  go_enter Try.func105, Try.ntmps105
  go_wp2_with fail
  go_loopw [0, 1] (fun a c wr => ∃ l h : Int, a = .int .i64 l ∧ c = .int .i64 h ∧ Hlv (bePr P x y m) (alL x y m) (alH x y m) l h ∧ Below w.heap.size w wr) (fun a b _ => (intOf b - intOf a).toNat)
  case atStart => exact ⟨_, _, rfl, rfl, HST.out, Below.refl _ _⟩
  case round =>
    obtain ⟨l, h, rfl, rfl, g, hB⟩ := hrel
    have HG := Lib.hid g
    have HB := Lib.hid hB
    have l0 := g.a
    have h9 := g.c
    by_cases hlt : l < h
    · have hq : (h - l).tdiv 2 = (h - l) / 2 := Int.tdiv_eq_ediv_of_nonneg (by omega)
      obtain ⟨m2, m3⟩ : l ≤ l + (h - l) / 2 ∧ l + (h - l) / 2 < h := by omega
      clear g hB
      cases hc : beB P x y m (l + (h - l) / 2)
      · have HP := Lib.hid (HG.out.up (fun a b hab hp => HCY.out.be_mono hab hp) m2 m3 (fun hp => by rw [beB_iff.2 hp] at hc; exact absurd hc (by simp)))
        have HD := Lib.hid hc
        clear hc
        go_wp2_with (go_at_call 106; refine (best1_any _ p0 p1 c0 c1 n N m P lo hi (HV.out.below HB.out hhi) (Nat.le_trans hhi HB.out.size) HBN.out b x HX.out y HYB.out (HE.out.next HB.out) _ (by omega)).mono ?_; rintro e w2 ⟨rfl, b2⟩; rw [HD.out])
        go_roundw
        case rel => exact ⟨_, _, rfl, rfl, HP.out, HB.out.trans (b2.mono HB.out.size)⟩
        case measure => simp [intOf]; omega
      · have HP := Lib.hid (HG.out.down m2 m3 (beB_iff.1 hc))
        have HD := Lib.hid hc
        clear hc
        go_wp2_with (go_at_call 106; refine (best1_any _ p0 p1 c0 c1 n N m P lo hi (HV.out.below HB.out hhi) (Nat.le_trans hhi HB.out.size) HBN.out b x HX.out y HYB.out (HE.out.next HB.out) _ (by omega)).mono ?_; rintro e w2 ⟨rfl, b2⟩; rw [HD.out])
        go_roundw
        case rel => exact ⟨_, _, rfl, rfl, HP.out, HB.out.trans (b2.mono HB.out.size)⟩
        case measure => simp [intOf]; omega
    · have HD := Lib.hid (HBS.out _ (g.done hlt))
      clear g hB
      go_wp2_with fail
      go_ret
      exact ⟨ret_i HD.out, HB.out⟩
set_option maxRecDepth 100000 in
set_option maxHeartbeats 8000000 in
theorem bestTimes_any (w : World) (p0 p1 : Option Addr) (c0 c1 : Nat) (n : Nat) (N : Nat → Nod) (m : Nat) (P : Nat → Pip) (lo hi : Nat) (h : NetAt w (.agg #[.slice p0 n c0, .slice p1 m c1]) n N m P lo hi) (hhi : hi ≤ w.heap.size) (hB : netB n N m P = true) (x : Nat → Int) (hx : ∀ k, k < 40 → -30000 ≤ x k ∧ x k ≤ 30000) (y : Nat → Int) (hy : ∀ k, k < 40 → -1 ≤ y k ∧ y k ≤ 1) (hy0 : ∀ k, m ≤ k → y k = 0) (hcy : CyO P y m) :
    Calls Try.prog 61 #[.agg (nfL (.slice p0 n c0) (.slice p1 m c1) x).toArray, .agg (arr y)] w fun e w' => e = .returned (.int .i64 (bstT m P x y)) ∧ Below w.heap.size w w' := by
  have hm40 := (net_sz hB).2.2
  have HV := Lib.hid h
  have HBN := Lib.hid hB
  have HX := Lib.hid hx
  have HYB := Lib.hid hy
  have HCY := Lib.hid hcy
  have HAL := Lib.hid (show alL x y 40 = alL x y m ∧ alH x y 40 = alH x y m by have := al_ext (x := x) hy0 (40 - m); rwa [show m + (40 - m) = 40 by omega] at this)
  have A0 := (Ob.newN w (.slice p0 n c0) (.slice p1 m c1) x 70).keep (Below.heap_alloc _ (.cells (arr y) 68) _ (by rw [szal]; omega))
  have A1 := Ob.newA (w.alloc (.cells (nfL (.slice p0 n c0) (.slice p1 m c1) x).toArray 70)) y 68
  simp only [szal] at A1
  have B0 := (below_new w (.cells (nfL (.slice p0 n c0) (.slice p1 m c1) x).toArray 70)).trans ((below_new _ (.cells (arr y) 68)).mono (by rw [szal]; omega))
  have hs0 : ((w.alloc (.cells (nfL (.slice p0 n c0) (.slice p1 m c1) x).toArray 70)).alloc (.cells (arr y) 68)).heap.size = w.heap.size + 2 := by simp
  clear h hB hx hy hy0 hcy
  go_enter Try.func61, Try.ntmps61
  go_upto_region 1 with (fail)
  obtain ⟨w1, hw1⟩ : ∃ w1, (w.alloc (.cells (nfL (.slice p0 n c0) (.slice p1 m c1) x).toArray 70)).alloc (.cells (arr y) 68) = w1 := ⟨_, rfl⟩
  rw [hw1] at A0 A1 B0 hs0 ⊢
  clear hw1
  have HEC := Lib.hid (EnC.mk A0 A1)
  have HB := Lib.hid B0
  have g0 := A0.nall
  have g1 := A1.range
  obtain ⟨Ly, hLy, eLy⟩ : ∃ L : List Value, arr y = List.toArray L ∧ L = arrL y := ⟨_, rfl, rfl⟩
  rw [← eLy] at g1
  have nLy : Ly.length = 40 := by rw [eLy, arr_len]
  have HLy := Lib.hid hLy
  have hs1 := Nat.le_antisymm_iff.1 hs0
  clear hLy eLy A0 A1 B0 hs0
  go_wp2_with (first
    | (refine wpList_ldN rfl _ rfl w.heap.size (.slice p0 n c0) (.slice p1 m c1) x rfl g0 ?_)
    | (refine wpList_ldF rfl _ rfl (w.heap.size + 1) 0 Ly rfl nLy g1 ?_)
    | (go_at_call 104; have hat := allowedTimes_any w1 (.slice p0 n c0) (.slice p1 m c1) x HX.out y HYB.out; rw [HAL.out.1, HAL.out.2, HLy.out] at hat; refine hat.mono ?_; clear hat; rintro e w2 ⟨rfl, hb2⟩; have z2 := hb2.size)
    | (go_at_call 105; refine (least_any w2 p0 p1 c0 c1 n N m P lo hi (HV.out.below (HB.out.trans (hb2.mono (by omega))) hhi) (by omega) HBN.out w.heap.size x HX.out y HYB.out HCY.out (HEC.out.next hb2)).mono ?_; rintro e w3 ⟨rfl, hb3⟩))
  go_ret
  exact ⟨rfl, (HB.out.trans (hb2.mono (by omega))).trans (hb3.mono (by omega))⟩
end Go.Proofs.Ytfkacpphdnlkfaa.mem

namespace Go.Proofs.Ytfkacpphdnlkfaa.mem
open Go.RowKit
set_option linter.unusedVariables false

theorem floor2 (a : Int) : (a.tmod 2 < 0 → a.tdiv 2 - 1 = a / 2) ∧ (0 ≤ a.tmod 2 → a.tdiv 2 = a / 2) := by
  have h1 := Int.tmod_add_mul_tdiv a 2
  have h2 := Int.tmod_lt_of_pos a (show (0 : Int) < 2 by omega)
  have h3 := Int.lt_tmod_of_pos a (show (0 : Int) < 2 by omega)
  generalize a.tmod 2 = r at *
  generalize a.tdiv 2 = q at *
  omega
theorem l01Floor2_any (a : Int) (w : World) (h : -1000000 ≤ a ∧ a ≤ 1000000) : Calls Try.prog 99 #[.int .i64 a, .int .i64 2] w fun e w' => e = .returned (.int .i64 (a / 2)) ∧ w = w' := by
  obtain ⟨g1, g2⟩ := floor2 a
  have hw1 : IntKind.i64.wrap (a.tdiv 2 - 1) = a.tdiv 2 - 1 := IntWalk.i64_in _ (by have h1 := Int.tmod_add_mul_tdiv a 2; have h2 := Int.tmod_lt_of_pos a (show (0 : Int) < 2 by omega); have h3 := Int.lt_tmod_of_pos a (show (0 : Int) < 2 by omega); omega)
  by_cases hr : a.tmod 2 < 0
  · have hd : decide (a.tmod 2 < 0) = true := decide_eq_true hr
    have HR := Lib.hid (g1 hr)
    clear g1 g2 hr
    go_enter Try.func99, Try.ntmps99
    go_wp2_with fail
    go_ret
    exact ⟨ret_i HR.out, rfl⟩
  · have hd : decide (a.tmod 2 < 0) = false := decide_eq_false hr
    have HR := Lib.hid (g2 (by omega))
    clear g1 g2 hr
    go_enter Try.func99, Try.ntmps99
    go_wp2_with fail
    go_ret
    exact ⟨ret_i HR.out, rfl⟩
/-- the number behind the specification's third loop -/
noncomputable def thr3 (P : Nat → Pip) (x y : Nat → Int) (m : Nat) (hi f : Int) : Int := if f < hi ∧ egC P x y m (f + 1) = egC P x y m f ∧ f < 0 then f + 1 else f
set_option maxRecDepth 100000 in
set_option maxHeartbeats 8000000 in
theorem l11Best_any (w : World) (v : Value) (n : Nat) (N : Nat → Nod) (m : Nat) (P : Nat → Pip) (lo hi : Nat) (h : NetAt w v n N m P lo hi) (hhi : hi ≤ w.heap.size) (hB : netB n N m P = true) (va : Value) (d : Nat → Int) (la ha : Nat) (hv : Sl w va m d la ha) (hha : ha ≤ w.heap.size) (hd : ∀ k, k < m → -30000 ≤ d k ∧ d k ≤ 30000) (vb : Value) (y : Nat → Int) (lb hb : Nat) (hu : Sl w vb m y lb hb) (hhb : hb ≤ w.heap.size) (hcy : CyO P y m) :
    Calls Try.prog 57 #[v, va, vb] w fun e w' => e = .returned (.int .i64 (bstT m P d y)) ∧ Below w.heap.size w w' := by
  obtain ⟨p0, c0, p1, c1, rfl, hn9, hm9⟩ := h.parts
  obtain ⟨hn1, hn24, hm40⟩ := net_sz hB
  obtain ⟨pa, ca, rfl⟩ := hv.sh
  obtain ⟨pb, cb, rfl⟩ := hu.sh
  have HV := Lib.hid h
  have HBN := Lib.hid hB
  have HSV := Lib.hid hv
  have HSU := Lib.hid hu
  have HCY := Lib.hid hcy
  have HD := Lib.hid hd
  have hal := al_bnd (x := d) (y := y) (k := m) hd hcy.y1
  have HIN := Lib.hid (show ∀ t, alL d y m ≤ t → t ≤ alH d y m → ∀ k, k < m → -30000 ≤ d k + t * y k ∧ d k + t * y k ≤ 30000 from fun t h0 h1 => al_in hd hcy.y1 h0 h1)
  have HTY := Lib.hid (show ∀ t, -100000 ≤ t ∧ t ≤ 100000 → ∀ k, k < m → (-4611686018427387904 ≤ d k + t * y k ∧ d k + t * y k ≤ 4611686018427387904) ∧ (-4611686018427387904 ≤ t * y k ∧ t * y k ≤ 4611686018427387904) from fun t ht k hk => by
    have h1 := mulc ht (hcy.y1 k hk)
    have h2 := hd k hk
    omega)
  have HEB := Lib.hid (show ∀ t, alL d y m ≤ t → t ≤ alH d y m → 0 ≤ egC P d y m t ∧ egC P d y m t ≤ 1080000000000000000 from fun t h0 h1 => egC_bnd hB (al_in hd hcy.y1 h0 h1))
  have HEQ := Lib.hid (show ∀ t, egS P (fun k => d k + t * y k) m = egC P d y m t from fun t => rfl)
  have HLST := Lib.hid (show ∀ f, Lst (bfPr P d y m) (alL d y m) (alH d y m) f → thr3 P d y m (alH d y m) f = bstT m P d y from fun f hf => bstT_eq (hcy.best hf))
  have HST := Lib.hid (Hlv.start (bfPr P d y m) (show alL d y m ≤ alH d y m by omega))
  have HBD := Lib.hid (show ∀ k, k ≤ m → (-60000 ≤ alL d y k ∧ alL d y k ≤ 0) ∧ 0 ≤ alH d y k ∧ alH d y k ≤ 60000 from fun k hk => al_bnd (fun j hj => hd j (by omega)) (fun j hj => hcy.y1 j (by omega)))
  have A0 := boxed w (.slice p0 n c0) (.slice p1 m c1) 33
  have B0 := below_new w (.cells #[.slice p0 n c0, .slice p1 m c1] 33)
  have hs0 : (w.alloc (.cells #[.slice p0 n c0, .slice p1 m c1] 33)).heap.size = w.heap.size + 1 := by simp
  have nN : (Try.prog.info? 33).map (·.size) = some 2 := by kernel_rfl
  have UN := Try.underlying33
  clear h hB hv hu hcy hd
  go_enter Try.func57, Try.ntmps57
  go_upto_region 1 with (fail)
  obtain ⟨w1, hw1⟩ : ∃ w1, w.alloc (.cells #[.slice p0 n c0, .slice p1 m c1] 33) = w1 := ⟨_, rfl⟩
  rw [hw1] at A0 B0 hs0 ⊢
  clear hw1
  have HA := Lib.hid A0
  have HB := Lib.hid B0
  have hl1 : w.heap.size < w1.heap.size := by omega
  clear A0 B0 hs0
  go_wp2_with fail
  go_loopw [7, 8, 9] (fun av bv iv wr => ∃ k : Nat, av = .int .i64 (alL d y k) ∧ bv = .int .i64 (alH d y k) ∧ iv = .int .i64 k ∧ k ≤ m ∧ Below w1.heap.size w1 wr) (fun _ _ iv _ => m - (intOf iv).toNat)
  case atStart => exact ⟨0, rfl, rfl, rfl, Nat.zero_le _, Below.refl _ _⟩
  case round =>
    obtain ⟨k, rfl, rfl, rfl, hk, hbl⟩ := hrel
    have HL := Lib.hid hbl
    clear hbl
    have k0 : (0 : Int) ≤ (k : Int) := Int.natCast_nonneg _
    have BW := Lib.hid (HB.out.trans (HL.out.mono (Nat.le_of_lt hl1)))
    by_cases hlt : k < m
    · have k1 : (k : Int) < (m : Int) := by omega
      obtain ⟨ba, oa, rfl, e1a, e2a, yx⟩ : ∃ b o, pa = some ⟨b, o, none⟩ ∧ la ≤ b ∧ b < ha ∧ wr.cell? ⟨b, o + k, none⟩ = some (.int .i64 (d k)) := by
        obtain ⟨p, c, e, hc⟩ := HSV.out
        injection e with e1 _ _
        subst e1
        rcases hc with hc | ⟨b, o, e, g1, g2, g3⟩
        · omega
        · exact ⟨b, o, e, g1, g2, (BW.out.cell (p := ⟨b, o + k, none⟩) (by show b < _; omega)).trans (g3 k hlt)⟩
      obtain ⟨bb, ob, rfl, e1b, e2b, yy⟩ : ∃ b o, pb = some ⟨b, o, none⟩ ∧ lb ≤ b ∧ b < hb ∧ wr.cell? ⟨b, o + k, none⟩ = some (.int .i64 (y k)) := by
        obtain ⟨p, c, e, hc⟩ := HSU.out
        injection e with e1 _ _
        subst e1
        rcases hc with hc | ⟨b, o, e, g1, g2, g3⟩
        · omega
        · exact ⟨b, o, e, g1, g2, (BW.out.cell (p := ⟨b, o + k, none⟩) (by show b < _; omega)).trans (g3 k hlt)⟩
      obtain ⟨x0, x1⟩ := HD.out k hlt
      obtain ⟨y0, y1⟩ := HCY.out.y1 k hlt
      obtain ⟨⟨b0, b1⟩, b2, b3⟩ := HBD.out k hk
      have HL1 := Lib.hid (show alL d y (k + 1) = if y k = 0 then alL d y k else max (alL d y k) (-30000 - y k * d k) from rfl)
      have HH1 := Lib.hid (show alH d y (k + 1) = if y k = 0 then alH d y k else min (alH d y k) (30000 - y k * d k) from rfl)
      have hm : -30000 ≤ y k * d k ∧ y k * d k ≤ 30000 := by
        have := mulc (b := 30000) (x := d k) (c := y k) ⟨x0, x1⟩ ⟨y0, y1⟩
        rw [Int.mul_comm]
        exact this
      have hw1 : IntKind.i64.wrap (y k * d k) = y k * d k := IntWalk.i64_in _ (by omega)
      have hw2 : IntKind.i64.wrap (-30000 - y k * d k) = -30000 - y k * d k := IntWalk.i64_in _ (by omega)
      have hw3 : IntKind.i64.wrap (30000 - y k * d k) = 30000 - y k * d k := IntWalk.i64_in _ (by omega)
      generalize ha' : alL d y k = a at *
      generalize hb' : alH d y k = b at *
      generalize hyk : y k = yk at *
      generalize hxk : d k = xk at *
      clear ha' hb' hyk hxk
      by_cases h0 : yk = 0
      · have hd : (yk != 0) = false := by simpa using h0
        have HL2 := Lib.hid (by have := HL1.out; rwa [if_pos h0] at this)
        have HH2 := Lib.hid (by have := HH1.out; rwa [if_pos h0] at this)
        clear h0
        go_wp2_with fail
        go_roundw
        case rel => exact ⟨k + 1, by rw [HL2.out], by rw [HH2.out], by go_num, hlt, by first | exact HL.out | exact below_drN1 HL.out _⟩
        case measure => simp [intOf]; omega
      · have hd : (yk != 0) = true := by simpa using h0
        have HL2 := Lib.hid (by have := HL1.out; rwa [if_neg h0] at this)
        have HH2 := Lib.hid (by have := HH1.out; rwa [if_neg h0] at this)
        clear h0
        go_upto_region 6 with (fail)
        go_quiet (fail)
        go_upto_region 7 with (fail)
        go_quiet (fail)
        go_wp2_with fail
        go_roundw
        case rel => exact ⟨k + 1, by rw [HL2.out], by rw [HH2.out], by go_num, hlt, by first | exact HL.out | exact below_drN1 HL.out _ | exact below_drN1 (below_drN1 HL.out _) _⟩
        case measure => simp [intOf]; omega
    · have hkn : k = m := by omega
      have k1 : ¬ ((k : Int) < (m : Int)) := by omega
      have eL : alL d y k = alL d y m := by rw [hkn]
      have eH : alH d y k = alH d y m := by rw [hkn]
      rw [eL, eH]
      clear hkn eL eH
      obtain ⟨⟨a0, a1⟩, a2, a3⟩ := hal
      generalize hLo : alL d y m = L at *
      generalize hHi : alH d y m = H at *
      clear hLo hHi
      go_wp2_with fail
      go_loopw [10, 11] (fun av bv wr' => ∃ l h : Int, av = .int .i64 l ∧ bv = .int .i64 h ∧ Hlv (bfPr P d y m) L H l h ∧ Below w1.heap.size w1 wr') (fun a b _ => (intOf b - intOf a).toNat)
      case atStart => exact ⟨L, H, rfl, rfl, HST.out, HL.out⟩
      case round =>
        obtain ⟨l, h, rfl, rfl, g, hbl⟩ := hrel
        have HG := Lib.hid g
        have l0 := g.a
        have h9 := g.c
        have l9 := g.b
        clear HL BW
        have HL := Lib.hid hbl
        have BW := Lib.hid (HB.out.trans (HL.out.mono (Nat.le_of_lt hl1)))
        clear g hbl
        by_cases hlt : l < h
        · obtain ⟨m2, m3⟩ : l ≤ (l + h) / 2 ∧ (l + h) / 2 < h := by omega
          have hw1 : IntKind.i64.wrap (l + h) = l + h := IntWalk.i64_in _ (by omega)
          have hwr : w.heap.size ≤ wr.heap.size := BW.out.size
          have g0 := range2 (HA.out.below HL.out hl1).b0 (HA.out.below HL.out hl1).b1
          have lwr : w.heap.size < wr.heap.size := Nat.lt_of_lt_of_le hl1 HL.out.size
          have KS : ∀ W : World, Below wr.heap.size wr W → (Below wr.heap.size wr W ∧ W.rangeAt w.heap.size 0 [.slice p0 n c0, .slice p1 m c1]) := fun W hW => ⟨hW, range_blockN g0 (hW.block _ lwr)⟩

          have HP1 := Lib.hid (show bfPr P d y m ((l + h) / 2) → Hlv (bfPr P d y m) L H l ((l + h) / 2) from fun hp => HG.out.down m2 m3 hp)
          have HP2 := Lib.hid (show ¬ bfPr P d y m ((l + h) / 2) → Hlv (bfPr P d y m) L H ((l + h) / 2 + 1) h from fun hp => HG.out.up (fun a b hab hp => HCY.out.bf_mono hab hp) m2 m3 hp)
          go_upto_region 11 with (go_at_call 99; refine (l01Floor2_any _ _ (by omega)).mono ?_; rintro e w' ⟨rfl, rfl⟩)
          generalize hmid : (l + h) / 2 = mid at *
          clear hmid
          have hw2 : IntKind.i64.wrap (mid + 1) = mid + 1 := IntWalk.i64_in _ (by omega)
          have HE0 := Lib.hid (HEQ.out mid)
          have HE1 := Lib.hid (HEQ.out (mid + 1))
          obtain ⟨q0, q1⟩ := HEB.out mid (by omega) (by omega)
          obtain ⟨q2, q3⟩ := HEB.out (mid + 1) (by omega) (by omega)
          have HBF := Lib.hid (show bfPr P d y m mid ↔ egC P d y m mid ≤ egC P d y m (mid + 1) from Iff.rfl)
          generalize he0 : egC P d y m mid = e0 at *
          generalize he1 : egC P d y m (mid + 1) = e1 at *
          clear he0 he1
          refine wp_region_noPanic ?_
          refine wp_region_held_drew (S := fun w' : World => Below wr.heap.size wr w' ∧ w'.rangeAt w.heap.size 0 [.slice p0 n c0, .slice p1 m c1]) (by kernel_rfl) (KS _ (below_drw (Below.refl _ _))) (fun sH => ?_)
          refine wpAnyH_take (i := 0) (v := .agg #[.slice p0 n c0, .slice p1 m c1]) nthe0 (by kernel_rfl) (by kernel_rfl) (by kernel_rfl) (fun _ _ _ h => h) (yieldsIf_load_mid (by rfl) _ _ rfl w.heap.size 0 rfl [.slice p0 n c0, .slice p1 m c1] _ (fun _ h => h.2) UN rfl (by exact nN)) sH ?_
          try simp only [Act.put, List.setIfInBounds_toArray, List.set_cons_zero, List.set_cons_succ]
          refine wpAnyH_take (i := 1) (v := ?_) nthe1 (by kernel_rfl) (by kernel_rfl) (by kernel_rfl) (fun _ _ _ h => h) (Or.inl ⟨by rfl, ?_⟩) sH ?_
          rotate_left
          · intro wS hSw; (try dsimp only at hSw); go_simp; try with_reducible rfl
          try simp only [Act.put, List.setIfInBounds_toArray, List.set_cons_zero, List.set_cons_succ]
          refine wpAnyH_take (i := 2) (v := ?_) nthe2 (by kernel_rfl) (by kernel_rfl) (by kernel_rfl) (fun _ _ _ h => h) (Or.inl ⟨by rfl, ?_⟩) sH ?_
          rotate_left
          · intro wS hSw; (try dsimp only at hSw); go_simp; try with_reducible rfl
          try simp only [Act.put, List.setIfInBounds_toArray, List.set_cons_zero, List.set_cons_succ]
          refine wpAnyH_take (i := 3) (v := ?_) nthe3 (by kernel_rfl) (by kernel_rfl) (by kernel_rfl) (fun _ _ _ h => h) (Or.inl ⟨by rfl, ?_⟩) sH ?_
          rotate_left
          · intro wS hSw; (try dsimp only at hSw); go_simp; try with_reducible rfl
          try simp only [Act.put, List.setIfInBounds_toArray, List.set_cons_zero, List.set_cons_succ]
          refine wpAnyH_take (i := 6) (v := .agg #[.slice p0 n c0, .slice p1 m c1]) nthe6 (by kernel_rfl) (by kernel_rfl) (by kernel_rfl) (fun _ _ _ h => h) (yieldsIf_load_mid (by rfl) _ _ rfl w.heap.size 0 rfl [.slice p0 n c0, .slice p1 m c1] _ (fun _ h => h.2) UN rfl (by exact nN)) sH ?_
          try simp only [Act.put, List.setIfInBounds_toArray, List.set_cons_zero, List.set_cons_succ]
          refine wpAnyH_take (i := 7) (v := ?_) nthe7 (by kernel_rfl) (by kernel_rfl) (by kernel_rfl) (fun _ _ _ h => h) (Or.inl ⟨by rfl, ?_⟩) sH ?_
          rotate_left
          · intro wS hSw; (try dsimp only at hSw); go_simp; try with_reducible rfl
          try simp only [Act.put, List.setIfInBounds_toArray, List.set_cons_zero, List.set_cons_succ]
          refine wpAnyH_take (i := 8) (v := ?_) nthe8 (by kernel_rfl) (by kernel_rfl) (by kernel_rfl) (fun _ _ _ h => h) (Or.inl ⟨by rfl, ?_⟩) sH ?_
          rotate_left
          · intro wS hSw; (try dsimp only at hSw); go_simp; try with_reducible rfl
          try simp only [Act.put, List.setIfInBounds_toArray, List.set_cons_zero, List.set_cons_succ]
          refine wpAnyH_take (i := 9) (v := ?_) nthe9 (by kernel_rfl) (by kernel_rfl) (by kernel_rfl) (fun _ _ _ h => h) (Or.inl ⟨by rfl, ?_⟩) sH ?_
          rotate_left
          · intro wS hSw; (try dsimp only at hSw); go_simp; try with_reducible rfl
          try simp only [Act.put, List.setIfInBounds_toArray, List.set_cons_zero, List.set_cons_succ]
          refine wpAnyH_take (i := 10) (v := ?_) nthe10 (by kernel_rfl) (by kernel_rfl) (by kernel_rfl) (fun _ _ _ h => h) (Or.inl ⟨by rfl, ?_⟩) sH ?_
          rotate_left
          · intro wS hSw; (try dsimp only at hSw); go_simp; try with_reducible rfl
          try simp only [Act.put, List.setIfInBounds_toArray, List.set_cons_zero, List.set_cons_succ]
          refine wpAnyH_ready (rs := [4]) (by kernel_rfl) (by simp) (AllReadyH.cons nthe4 (fun KON hKON => ?_) AllReadyH.nil)
          clear sH
          go_simp
          refine (l05Add_any (wr.drew) _ _ m d y (mid) la ha lb hb (HSV.out.below (BW.out.trans ((below_drw (Below.refl wr.heap.size wr)).mono hwr)) hha) (Nat.le_trans hha (Nat.le_trans hwr (below_drw (Below.refl wr.heap.size wr)).size)) (HSU.out.below (BW.out.trans ((below_drw (Below.refl wr.heap.size wr)).mono hwr)) hhb) (Nat.le_trans hhb (Nat.le_trans hwr (below_drw (Below.refl wr.heap.size wr)).size)) (by omega) (fun k hk => (HTY.out (mid) (by omega) k hk).1) (fun k hk => (HTY.out (mid) (by omega) k hk).2)).mono ?_
          rintro e wA ⟨vwA, gA, rfl, owA, hgwA, hbwA⟩
          obtain ⟨cwA, rfl⟩ := owA.shape
          have BwA : Below wr.heap.size wr wA := (below_drw (Below.refl wr.heap.size wr)).trans (hbwA.mono (below_drw (Below.refl wr.heap.size wr)).size)
          refine hKON.out _ _ (KS _ BwA) (fun sH => ?_)
          clear hKON KON
          try simp only [Act.put, List.setIfInBounds_toArray, List.set_cons_zero, List.set_cons_succ]
          refine wpAnyH_ready (rs := [5]) (by kernel_rfl) (by simp) (AllReadyH.cons nthe5 (fun KON hKON => ?_) AllReadyH.nil)
          clear sH
          go_simp
          have hen := l10Energy_any (wA) _ n N m P lo hi (HV.out.below (BW.out.trans (BwA.mono hwr)) hhi) (Nat.le_trans hhi (Nat.le_trans hwr BwA.size)) HBN.out _ _ gA (gA + 1) owA.sl owA.lt (HIN.out (mid) (by omega) (by omega))
          rw [HE0.out] at hen
          refine hen.mono ?_
          clear hen
          rintro e wB ⟨rfl, hbwB⟩
          have BwB : Below wr.heap.size wr wB := BwA.trans (hbwB.mono BwA.size)
          refine hKON.out _ _ (KS _ BwB) (fun sH => ?_)
          clear hKON KON
          try simp only [Act.put, List.setIfInBounds_toArray, List.set_cons_zero, List.set_cons_succ]
          refine wpAnyH_ready (rs := [11]) (by kernel_rfl) (by simp) (AllReadyH.cons nthe11 (fun KON hKON => ?_) AllReadyH.nil)
          clear sH
          go_simp
          refine (l05Add_any (wB) _ _ m d y (mid + 1) la ha lb hb (HSV.out.below (BW.out.trans (BwB.mono hwr)) hha) (Nat.le_trans hha (Nat.le_trans hwr BwB.size)) (HSU.out.below (BW.out.trans (BwB.mono hwr)) hhb) (Nat.le_trans hhb (Nat.le_trans hwr BwB.size)) (by omega) (fun k hk => (HTY.out (mid + 1) (by omega) k hk).1) (fun k hk => (HTY.out (mid + 1) (by omega) k hk).2)).mono ?_
          rintro e wC ⟨vwC, gC, rfl, owC, hgwC, hbwC⟩
          obtain ⟨cwC, rfl⟩ := owC.shape
          have BwC : Below wr.heap.size wr wC := BwB.trans (hbwC.mono BwB.size)
          refine hKON.out _ _ (KS _ BwC) (fun sH => ?_)
          clear hKON KON
          try simp only [Act.put, List.setIfInBounds_toArray, List.set_cons_zero, List.set_cons_succ]
          refine wpAnyH_ready (rs := [12]) (by kernel_rfl) (by simp) (AllReadyH.cons nthe12 (fun KON hKON => ?_) AllReadyH.nil)
          clear sH
          go_simp
          have hen := l10Energy_any (wC) _ n N m P lo hi (HV.out.below (BW.out.trans (BwC.mono hwr)) hhi) (Nat.le_trans hhi (Nat.le_trans hwr BwC.size)) HBN.out _ _ gC (gC + 1) owC.sl owC.lt (HIN.out (mid + 1) (by omega) (by omega))
          rw [HE1.out] at hen
          refine hen.mono ?_
          clear hen
          rintro e wD ⟨rfl, hbwD⟩
          have BwD : Below wr.heap.size wr wD := BwC.trans (hbwD.mono BwC.size)
          refine hKON.out _ _ (KS _ BwD) (fun sH => ?_)
          clear hKON KON
          try simp only [Act.put, List.setIfInBounds_toArray, List.set_cons_zero, List.set_cons_succ]
          refine wpAnyH_take (i := 13) (v := ?_) nthe13 (by kernel_rfl) (by kernel_rfl) (by kernel_rfl) (fun _ _ _ h => h) (Or.inl ⟨by rfl, ?_⟩) sH ?_
          rotate_left
          · intro wS hSw; (try dsimp only at hSw); go_simp; try with_reducible rfl
          try simp only [Act.put, List.setIfInBounds_toArray, List.set_cons_zero, List.set_cons_succ]
          refine wpAnyH_done (by kernel_rfl) ?_ _
          refine NoPanic.normal ?_
          by_cases hle : e0 ≤ e1
          · have hd : decide (e0 ≤ e1) = true := decide_eq_true hle
            have HP := Lib.hid (HP1.out (HBF.out.2 hle))
            clear HP1 HP2 KS
            go_wp2_with fail
            go_roundw
            case rel => exact ⟨l, mid, rfl, rfl, HP.out, HL.out.trans (BwD.mono HL.out.size)⟩
            case measure => simp [intOf]; omega
          · have hd : decide (e0 ≤ e1) = false := decide_eq_false hle
            have HP := Lib.hid (HP2.out (fun hp => hle (HBF.out.1 hp)))
            clear HP1 HP2 KS
            go_wp2_with fail
            go_roundw
            case rel => exact ⟨mid + 1, h, rfl, rfl, HP.out, HL.out.trans (BwD.mono HL.out.size)⟩
            case measure => simp [intOf]; omega
        · have HLS := Lib.hid (HLST.out l (HG.out.done hlt))
          have HFY := Lib.hid ((HG.out.done hlt).yes)
          clear HG
          generalize hf : l = f at *
          clear hf
          have hf1 : L ≤ f ∧ f ≤ H := by omega
          have hwr : w.heap.size ≤ wr.heap.size := BW.out.size
          have g0 := range2 (HA.out.below HL.out hl1).b0 (HA.out.below HL.out hl1).b1
          have lwr : w.heap.size < wr.heap.size := Nat.lt_of_lt_of_le hl1 HL.out.size
          have KS : ∀ W : World, Below wr.heap.size wr W → (Below wr.heap.size wr W ∧ W.rangeAt w.heap.size 0 [.slice p0 n c0, .slice p1 m c1]) := fun W hW => ⟨hW, range_blockN g0 (hW.block _ lwr)⟩

          have HE0 := Lib.hid (HEQ.out f)
          obtain ⟨q0, q1⟩ := HEB.out f (by omega) (by omega)
          have HSTP := Lib.hid (HCY.out.step (x := d) f)
          have HTH := Lib.hid (show thr3 P d y m H f = if f < H ∧ egC P d y m (f + 1) = egC P d y m f ∧ f < 0 then f + 1 else f from rfl)
          generalize he0 : egC P d y m f = e0 at *
          clear he0
          have hw1 : IntKind.i64.wrap (f + 1) = f + 1 := IntWalk.i64_in _ (by omega)
          go_upto_region 15 with (fail)
          refine wp_region_noPanic ?_
          refine wp_region_held_drew (S := fun w' : World => Below wr.heap.size wr w' ∧ w'.rangeAt w.heap.size 0 [.slice p0 n c0, .slice p1 m c1]) (by kernel_rfl) (KS _ (below_drw (Below.refl _ _))) (fun sH => ?_)
          refine wpAnyH_take (i := 0) (v := .agg #[.slice p0 n c0, .slice p1 m c1]) nthe0 (by kernel_rfl) (by kernel_rfl) (by kernel_rfl) (fun _ _ _ h => h) (yieldsIf_load_mid (by rfl) _ _ rfl w.heap.size 0 rfl [.slice p0 n c0, .slice p1 m c1] _ (fun _ h => h.2) UN rfl (by exact nN)) sH ?_
          try simp only [Act.put, List.setIfInBounds_toArray, List.set_cons_zero, List.set_cons_succ]
          refine wpAnyH_take (i := 1) (v := ?_) nthe1 (by kernel_rfl) (by kernel_rfl) (by kernel_rfl) (fun _ _ _ h => h) (Or.inl ⟨by rfl, ?_⟩) sH ?_
          rotate_left
          · intro wS hSw; (try dsimp only at hSw); go_simp; try with_reducible rfl
          try simp only [Act.put, List.setIfInBounds_toArray, List.set_cons_zero, List.set_cons_succ]
          refine wpAnyH_take (i := 2) (v := ?_) nthe2 (by kernel_rfl) (by kernel_rfl) (by kernel_rfl) (fun _ _ _ h => h) (Or.inl ⟨by rfl, ?_⟩) sH ?_
          rotate_left
          · intro wS hSw; (try dsimp only at hSw); go_simp; try with_reducible rfl
          try simp only [Act.put, List.setIfInBounds_toArray, List.set_cons_zero, List.set_cons_succ]
          refine wpAnyH_take (i := 3) (v := ?_) nthe3 (by kernel_rfl) (by kernel_rfl) (by kernel_rfl) (fun _ _ _ h => h) (Or.inl ⟨by rfl, ?_⟩) sH ?_
          rotate_left
          · intro wS hSw; (try dsimp only at hSw); go_simp; try with_reducible rfl
          try simp only [Act.put, List.setIfInBounds_toArray, List.set_cons_zero, List.set_cons_succ]
          refine wpAnyH_ready (rs := [4]) (by kernel_rfl) (by simp) (AllReadyH.cons nthe4 (fun KON hKON => ?_) AllReadyH.nil)
          clear sH
          go_simp
          refine (l05Add_any (wr.drew) _ _ m d y (f) la ha lb hb (HSV.out.below (BW.out.trans ((below_drw (Below.refl wr.heap.size wr)).mono hwr)) hha) (Nat.le_trans hha (Nat.le_trans hwr (below_drw (Below.refl wr.heap.size wr)).size)) (HSU.out.below (BW.out.trans ((below_drw (Below.refl wr.heap.size wr)).mono hwr)) hhb) (Nat.le_trans hhb (Nat.le_trans hwr (below_drw (Below.refl wr.heap.size wr)).size)) (by omega) (fun k hk => (HTY.out (f) (by omega) k hk).1) (fun k hk => (HTY.out (f) (by omega) k hk).2)).mono ?_
          rintro e wA ⟨vwA, gA, rfl, owA, hgwA, hbwA⟩
          obtain ⟨cwA, rfl⟩ := owA.shape
          have BwA : Below wr.heap.size wr wA := (below_drw (Below.refl wr.heap.size wr)).trans (hbwA.mono (below_drw (Below.refl wr.heap.size wr)).size)
          refine hKON.out _ _ (KS _ BwA) (fun sH => ?_)
          clear hKON KON
          try simp only [Act.put, List.setIfInBounds_toArray, List.set_cons_zero, List.set_cons_succ]
          refine wpAnyH_ready (rs := [5]) (by kernel_rfl) (by simp) (AllReadyH.cons nthe5 (fun KON hKON => ?_) AllReadyH.nil)
          clear sH
          go_simp
          have hen := l10Energy_any (wA) _ n N m P lo hi (HV.out.below (BW.out.trans (BwA.mono hwr)) hhi) (Nat.le_trans hhi (Nat.le_trans hwr BwA.size)) HBN.out _ _ gA (gA + 1) owA.sl owA.lt (HIN.out (f) (by omega) (by omega))
          rw [HE0.out] at hen
          refine hen.mono ?_
          clear hen
          rintro e wB ⟨rfl, hbwB⟩
          have BwB : Below wr.heap.size wr wB := BwA.trans (hbwB.mono BwA.size)
          refine hKON.out _ _ (KS _ BwB) (fun sH => ?_)
          clear hKON KON
          try simp only [Act.put, List.setIfInBounds_toArray, List.set_cons_zero, List.set_cons_succ]
          refine wpAnyH_take (i := 6) (v := ?_) nthe6 (by kernel_rfl) (by kernel_rfl) (by kernel_rfl) (fun _ _ _ h => h) (Or.inl ⟨by rfl, ?_⟩) sH ?_
          rotate_left
          · intro wS hSw; (try dsimp only at hSw); go_simp; try with_reducible rfl
          try simp only [Act.put, List.setIfInBounds_toArray, List.set_cons_zero, List.set_cons_succ]
          refine wpAnyH_done (by kernel_rfl) ?_ _
          refine NoPanic.normal ?_
          clear KS
          go_wp2_with fail
          go_loopw [13, 15] (fun bv kv wr' => (bv = .int .i64 f ∧ kv = .int .i64 (f + 1) ∨ bv = .int .i64 (thr3 P d y m H f) ∧ kv = .int .i64 (f + 2) ∧ f < H ∧ egC P d y m (f + 1) = e0) ∧ Below w1.heap.size w1 wr') (fun _ kv _ => (f + 3 - intOf kv).toNat)
          case atStart => exact ⟨.inl ⟨rfl, rfl⟩, HL.out.trans (BwB.mono HL.out.size)⟩
          case round =>
            obtain ⟨hst, hbl⟩ := hrel
            clear HL BW hwr g0 lwr
            have HL := Lib.hid hbl
            have BW := Lib.hid (HB.out.trans (HL.out.mono (Nat.le_of_lt hl1)))
            clear hbl
            have hwr : w.heap.size ≤ wr.heap.size := BW.out.size
            have g0 := range2 (HA.out.below HL.out hl1).b0 (HA.out.below HL.out hl1).b1
            have lwr : w.heap.size < wr.heap.size := Nat.lt_of_lt_of_le hl1 HL.out.size
            have KS : ∀ W : World, Below wr.heap.size wr W → (Below wr.heap.size wr W ∧ W.rangeAt w.heap.size 0 [.slice p0 n c0, .slice p1 m c1]) := fun W hW => ⟨hW, range_blockN g0 (hW.block _ lwr)⟩

            rcases hst with ⟨rfl, rfl⟩ | ⟨rfl, rfl, hfH, heq⟩
            · by_cases hk : f + 1 ≤ H
              · have hd : decide (f + 1 ≤ H) = true := decide_eq_true hk
                have HE1 := Lib.hid (HEQ.out (f + 1))
                have HQ1 := Lib.hid (show egC P d y m (f + 1) = egC P d y m (f + 1) from rfl)
                obtain ⟨q2, q3⟩ := HEB.out (f + 1) (by omega) (by omega)
                have HTT := Lib.hid (show egC P d y m (f + 1) = e0 → f < 0 → thr3 P d y m H f = f + 1 from fun g1 g2 => by rw [HTH.out, if_pos ⟨by omega, g1, g2⟩])
                have HTF := Lib.hid (show egC P d y m (f + 1) = e0 → ¬ f < 0 → thr3 P d y m H f = f from fun g1 g2 => by rw [HTH.out, if_neg (fun h => g2 h.2.2)])
                have HTN := Lib.hid (show egC P d y m (f + 1) ≠ e0 → thr3 P d y m H f = f from fun g1 => by rw [HTH.out, if_neg (fun h => g1 h.2.1)])
                generalize he1 : egC P d y m (f + 1) = e1 at *
                clear he1
                go_upto_region 17 with (fail)
                refine wp_region_noPanic ?_
                refine wp_region_held_drew (S := fun w' : World => Below wr.heap.size wr w' ∧ w'.rangeAt w.heap.size 0 [.slice p0 n c0, .slice p1 m c1]) (by kernel_rfl) (KS _ (below_drw (Below.refl _ _))) (fun sH => ?_)
                refine wpAnyH_take (i := 0) (v := ?_) nthe0 (by kernel_rfl) (by kernel_rfl) (by kernel_rfl) (fun _ _ _ h => h) (Or.inl ⟨by rfl, ?_⟩) sH ?_
                rotate_left
                · intro wS hSw; (try dsimp only at hSw); go_simp; try with_reducible rfl
                try simp only [Act.put, List.setIfInBounds_toArray, List.set_cons_zero, List.set_cons_succ]
                refine wpAnyH_take (i := 1) (v := ?_) nthe1 (by kernel_rfl) (by kernel_rfl) (by kernel_rfl) (fun _ _ _ h => h) (Or.inl ⟨by rfl, ?_⟩) sH ?_
                rotate_left
                · intro wS hSw; (try dsimp only at hSw); go_simp; try with_reducible rfl
                try simp only [Act.put, List.setIfInBounds_toArray, List.set_cons_zero, List.set_cons_succ]
                refine wpAnyH_take (i := 2) (v := ?_) nthe2 (by kernel_rfl) (by kernel_rfl) (by kernel_rfl) (fun _ _ _ h => h) (Or.inl ⟨by rfl, ?_⟩) sH ?_
                rotate_left
                · intro wS hSw; (try dsimp only at hSw); go_simp; try with_reducible rfl
                try simp only [Act.put, List.setIfInBounds_toArray, List.set_cons_zero, List.set_cons_succ]
                refine wpAnyH_take (i := 3) (v := ?_) nthe3 (by kernel_rfl) (by kernel_rfl) (by kernel_rfl) (fun _ _ _ h => h) (Or.inl ⟨by rfl, ?_⟩) sH ?_
                rotate_left
                · intro wS hSw; (try dsimp only at hSw); go_simp; try with_reducible rfl
                try simp only [Act.put, List.setIfInBounds_toArray, List.set_cons_zero, List.set_cons_succ]
                refine wpAnyH_take (i := 4) (v := .agg #[.slice p0 n c0, .slice p1 m c1]) nthe4 (by kernel_rfl) (by kernel_rfl) (by kernel_rfl) (fun _ _ _ h => h) (yieldsIf_load_mid (by rfl) _ _ rfl w.heap.size 0 rfl [.slice p0 n c0, .slice p1 m c1] _ (fun _ h => h.2) UN rfl (by exact nN)) sH ?_
                try simp only [Act.put, List.setIfInBounds_toArray, List.set_cons_zero, List.set_cons_succ]
                refine wpAnyH_take (i := 5) (v := ?_) nthe5 (by kernel_rfl) (by kernel_rfl) (by kernel_rfl) (fun _ _ _ h => h) (Or.inl ⟨by rfl, ?_⟩) sH ?_
                rotate_left
                · intro wS hSw; (try dsimp only at hSw); go_simp; try with_reducible rfl
                try simp only [Act.put, List.setIfInBounds_toArray, List.set_cons_zero, List.set_cons_succ]
                refine wpAnyH_take (i := 6) (v := ?_) nthe6 (by kernel_rfl) (by kernel_rfl) (by kernel_rfl) (fun _ _ _ h => h) (Or.inl ⟨by rfl, ?_⟩) sH ?_
                rotate_left
                · intro wS hSw; (try dsimp only at hSw); go_simp; try with_reducible rfl
                try simp only [Act.put, List.setIfInBounds_toArray, List.set_cons_zero, List.set_cons_succ]
                refine wpAnyH_take (i := 7) (v := ?_) nthe7 (by kernel_rfl) (by kernel_rfl) (by kernel_rfl) (fun _ _ _ h => h) (Or.inl ⟨by rfl, ?_⟩) sH ?_
                rotate_left
                · intro wS hSw; (try dsimp only at hSw); go_simp; try with_reducible rfl
                try simp only [Act.put, List.setIfInBounds_toArray, List.set_cons_zero, List.set_cons_succ]
                refine wpAnyH_take (i := 10) (v := ?_) nthe10 (by kernel_rfl) (by kernel_rfl) (by kernel_rfl) (fun _ _ _ h => h) (Or.inl ⟨by rfl, ?_⟩) sH ?_
                rotate_left
                · intro wS hSw; (try dsimp only at hSw); go_simp; try with_reducible rfl
                try simp only [Act.put, List.setIfInBounds_toArray, List.set_cons_zero, List.set_cons_succ]
                refine wpAnyH_ready (rs := [8]) (by kernel_rfl) (by simp) (AllReadyH.cons nthe8 (fun KON hKON => ?_) AllReadyH.nil)
                clear sH
                go_simp
                refine (l05Add_any (wr.drew) _ _ m d y (f + 1) la ha lb hb (HSV.out.below (BW.out.trans ((below_drw (Below.refl wr.heap.size wr)).mono hwr)) hha) (Nat.le_trans hha (Nat.le_trans hwr (below_drw (Below.refl wr.heap.size wr)).size)) (HSU.out.below (BW.out.trans ((below_drw (Below.refl wr.heap.size wr)).mono hwr)) hhb) (Nat.le_trans hhb (Nat.le_trans hwr (below_drw (Below.refl wr.heap.size wr)).size)) (by omega) (fun k hk => (HTY.out (f + 1) (by omega) k hk).1) (fun k hk => (HTY.out (f + 1) (by omega) k hk).2)).mono ?_
                rintro e wA ⟨vwA, gA, rfl, owA, hgwA, hbwA⟩
                obtain ⟨cwA, rfl⟩ := owA.shape
                have BwA : Below wr.heap.size wr wA := (below_drw (Below.refl wr.heap.size wr)).trans (hbwA.mono (below_drw (Below.refl wr.heap.size wr)).size)
                refine hKON.out _ _ (KS _ BwA) (fun sH => ?_)
                clear hKON KON
                try simp only [Act.put, List.setIfInBounds_toArray, List.set_cons_zero, List.set_cons_succ]
                refine wpAnyH_ready (rs := [9]) (by kernel_rfl) (by simp) (AllReadyH.cons nthe9 (fun KON hKON => ?_) AllReadyH.nil)
                clear sH
                go_simp
                have hen := l10Energy_any (wA) _ n N m P lo hi (HV.out.below (BW.out.trans (BwA.mono hwr)) hhi) (Nat.le_trans hhi (Nat.le_trans hwr BwA.size)) HBN.out _ _ gA (gA + 1) owA.sl owA.lt (HIN.out (f + 1) (by omega) (by omega))
                rw [HE1.out] at hen
                refine hen.mono ?_
                clear hen
                rintro e wB ⟨rfl, hbwB⟩
                have BwB : Below wr.heap.size wr wB := BwA.trans (hbwB.mono BwA.size)
                refine hKON.out _ _ (KS _ BwB) (fun sH => ?_)
                clear hKON KON
                try simp only [Act.put, List.setIfInBounds_toArray, List.set_cons_zero, List.set_cons_succ]
                refine wpAnyH_take (i := 11) (v := ?_) nthe11 (by kernel_rfl) (by kernel_rfl) (by kernel_rfl) (fun _ _ _ h => h) (Or.inl ⟨by rfl, ?_⟩) sH ?_
                rotate_left
                · intro wS hSw; (try dsimp only at hSw); go_simp; try with_reducible rfl
                try simp only [Act.put, List.setIfInBounds_toArray, List.set_cons_zero, List.set_cons_succ]
                refine wpAnyH_take (i := 12) (v := ?_) nthe12 (by kernel_rfl) (by kernel_rfl) (by kernel_rfl) (fun _ _ _ h => h) (Or.inl ⟨by rfl, ?_⟩) sH ?_
                rotate_left
                · intro wS hSw; (try dsimp only at hSw); go_simp; try with_reducible rfl
                try simp only [Act.put, List.setIfInBounds_toArray, List.set_cons_zero, List.set_cons_succ]
                refine wpAnyH_done (by kernel_rfl) ?_ _
                refine NoPanic.normal ?_
                by_cases he : e1 = e0
                · have hq : (e1 == e0) = true := by simpa using he
                  have hw2 : IntKind.i64.wrap (f + 1 + 1) = f + 1 + 1 := IntWalk.i64_in _ (by omega)
                  have hfH : f < H := by omega
                  by_cases hneg : f < 0
                  · have HT := Lib.hid (HTT.out he hneg)
                    have hn2 : (f + 1).natAbs ≤ f.natAbs := by omega
                    have hd2 : decide ((f + 1).natAbs ≤ f.natAbs) = true := decide_eq_true hn2
                    have HEE := Lib.hid he
                    clear he hneg HTT HTF HTN
                    go_wp2_with (go_at_call 63; refine (absS_any _ _ (by omega) (by omega)).mono ?_; rintro e w' ⟨rfl, rfl⟩)
                    go_roundw
                    case rel => exact ⟨.inr ⟨by rw [HT.out], by rw [show f + 1 + 1 = f + 2 by omega], hfH, HEE.out⟩, HL.out.trans (BwB.mono HL.out.size)⟩
                    case measure => simp [intOf]; omega
                  · have HT := Lib.hid (HTF.out he hneg)
                    have hn2 : ¬ (f + 1).natAbs ≤ f.natAbs := by omega
                    have hd2 : decide ((f + 1).natAbs ≤ f.natAbs) = false := decide_eq_false hn2
                    have HEE := Lib.hid he
                    clear he hneg HTT HTF HTN
                    go_wp2_with (go_at_call 63; refine (absS_any _ _ (by omega) (by omega)).mono ?_; rintro e w' ⟨rfl, rfl⟩)
                    go_roundw
                    case rel => exact ⟨.inr ⟨by rw [HT.out], by rw [show f + 1 + 1 = f + 2 by omega], hfH, HEE.out⟩, HL.out.trans (BwB.mono HL.out.size)⟩
                    case measure => simp [intOf]; omega
                · have hq : (e1 == e0) = false := by simpa using he
                  have HT := Lib.hid ((HTN.out he).symm.trans HLS.out)
                  clear he HTT HTF HTN
                  go_wp2_with fail
                  go_ret
                  exact ⟨ret_i HT.out, BW.out.trans (BwB.mono BW.out.size)⟩
              · have hd : decide (f + 1 ≤ H) = false := decide_eq_false hk
                have HT := Lib.hid (show f = bstT m P d y by rw [← HLS.out, HTH.out, if_neg (fun h => by omega)])
                clear hk
                go_upto_region 17 with (fail)
                refine wp_region_noPanic ?_
                refine wp_region_held_drew (S := fun w' : World => Below wr.heap.size wr w' ∧ w'.rangeAt w.heap.size 0 [.slice p0 n c0, .slice p1 m c1]) (by kernel_rfl) (KS _ (below_drw (Below.refl _ _))) (fun sH => ?_)
                refine wpAnyH_take (i := 0) (v := ?_) nthe0 (by kernel_rfl) (by kernel_rfl) (by kernel_rfl) (fun _ _ _ h => h) (Or.inl ⟨by rfl, ?_⟩) sH ?_
                rotate_left
                · intro wS hSw; (try dsimp only at hSw); go_simp; try with_reducible rfl
                try simp only [Act.put, List.setIfInBounds_toArray, List.set_cons_zero, List.set_cons_succ]
                refine wpAnyH_take (i := 1) (v := ?_) nthe1 (by kernel_rfl) (by kernel_rfl) (by kernel_rfl) (fun _ _ _ h => h) (Or.inl ⟨by rfl, ?_⟩) sH ?_
                rotate_left
                · intro wS hSw; (try dsimp only at hSw); go_simp; try with_reducible rfl
                try simp only [Act.put, List.setIfInBounds_toArray, List.set_cons_zero, List.set_cons_succ]
                refine wpAnyH_take (i := 2) (v := ?_) nthe2 (by kernel_rfl) (by kernel_rfl) (by kernel_rfl) (fun _ _ _ h => h) (Or.inl ⟨by rfl, ?_⟩) sH ?_
                rotate_left
                · intro wS hSw; (try dsimp only at hSw); go_simp; try with_reducible rfl
                try simp only [Act.put, List.setIfInBounds_toArray, List.set_cons_zero, List.set_cons_succ]
                refine wpAnyH_take (i := 3) (v := ?_) nthe3 (by kernel_rfl) (by kernel_rfl) (by kernel_rfl) (fun _ _ _ h => h) (Or.inl ⟨by rfl, ?_⟩) sH ?_
                rotate_left
                · intro wS hSw; (try dsimp only at hSw); go_simp; try with_reducible rfl
                try simp only [Act.put, List.setIfInBounds_toArray, List.set_cons_zero, List.set_cons_succ]
                refine wpAnyH_take (i := 4) (v := undef) nthe4 (by kernel_rfl) (by kernel_rfl) (by kernel_rfl) (fun _ _ _ h => h) (Or.inr ⟨by rfl, rfl⟩) sH ?_
                try simp only [Act.put, List.setIfInBounds_toArray, List.set_cons_zero, List.set_cons_succ]
                refine wpAnyH_take (i := 5) (v := undef) nthe5 (by kernel_rfl) (by kernel_rfl) (by kernel_rfl) (fun _ _ _ h => h) (Or.inr ⟨by rfl, rfl⟩) sH ?_
                try simp only [Act.put, List.setIfInBounds_toArray, List.set_cons_zero, List.set_cons_succ]
                refine wpAnyH_take (i := 6) (v := undef) nthe6 (by kernel_rfl) (by kernel_rfl) (by kernel_rfl) (fun _ _ _ h => h) (Or.inr ⟨by rfl, rfl⟩) sH ?_
                try simp only [Act.put, List.setIfInBounds_toArray, List.set_cons_zero, List.set_cons_succ]
                refine wpAnyH_take (i := 7) (v := undef) nthe7 (by kernel_rfl) (by kernel_rfl) (by kernel_rfl) (fun _ _ _ h => h) (Or.inr ⟨by rfl, rfl⟩) sH ?_
                try simp only [Act.put, List.setIfInBounds_toArray, List.set_cons_zero, List.set_cons_succ]
                refine wpAnyH_take (i := 8) (v := undef) nthe8 (by kernel_rfl) (by kernel_rfl) (by kernel_rfl) (fun _ _ _ h => h) (Or.inr ⟨by rfl, rfl⟩) sH ?_
                try simp only [Act.put, List.setIfInBounds_toArray, List.set_cons_zero, List.set_cons_succ]
                refine wpAnyH_take (i := 9) (v := undef) nthe9 (by kernel_rfl) (by kernel_rfl) (by kernel_rfl) (fun _ _ _ h => h) (Or.inr ⟨by rfl, rfl⟩) sH ?_
                try simp only [Act.put, List.setIfInBounds_toArray, List.set_cons_zero, List.set_cons_succ]
                refine wpAnyH_take (i := 10) (v := undef) nthe10 (by kernel_rfl) (by kernel_rfl) (by kernel_rfl) (fun _ _ _ h => h) (Or.inr ⟨by rfl, rfl⟩) sH ?_
                try simp only [Act.put, List.setIfInBounds_toArray, List.set_cons_zero, List.set_cons_succ]
                refine wpAnyH_take (i := 11) (v := undef) nthe11 (by kernel_rfl) (by kernel_rfl) (by kernel_rfl) (fun _ _ _ h => h) (Or.inr ⟨by rfl, rfl⟩) sH ?_
                try simp only [Act.put, List.setIfInBounds_toArray, List.set_cons_zero, List.set_cons_succ]
                refine wpAnyH_take (i := 12) (v := ?_) nthe12 (by kernel_rfl) (by kernel_rfl) (by kernel_rfl) (fun _ _ _ h => h) (Or.inl ⟨by rfl, ?_⟩) sH ?_
                rotate_left
                · intro wS hSw; (try dsimp only at hSw); go_simp; try with_reducible rfl
                try simp only [Act.put, List.setIfInBounds_toArray, List.set_cons_zero, List.set_cons_succ]
                refine wpAnyH_done (by kernel_rfl) ?_ _
                refine NoPanic.normal ?_
                go_wp2_with fail
                go_ret
                exact ⟨ret_i HT.out, BW.out.trans (below_drw (Below.refl _ _))⟩
            · by_cases hk : f + 2 ≤ H
              · have hd : decide (f + 2 ≤ H) = true := decide_eq_true hk
                have HE1 := Lib.hid (HEQ.out (f + 2))
                obtain ⟨q2, q3⟩ := HEB.out (f + 2) (by omega) (by omega)
                have hst2 := HSTP.out
                rw [show f + 1 + 1 = f + 2 by omega, heq] at hst2
                generalize he1 : egC P d y m (f + 2) = e1 at *
                have hq : (e1 == e0) = false := by
                  have : ¬ e1 = e0 := by omega
                  simpa using this
                clear he1 hst2
                go_upto_region 17 with (fail)
                refine wp_region_noPanic ?_
                refine wp_region_held_drew (S := fun w' : World => Below wr.heap.size wr w' ∧ w'.rangeAt w.heap.size 0 [.slice p0 n c0, .slice p1 m c1]) (by kernel_rfl) (KS _ (below_drw (Below.refl _ _))) (fun sH => ?_)
                refine wpAnyH_take (i := 0) (v := ?_) nthe0 (by kernel_rfl) (by kernel_rfl) (by kernel_rfl) (fun _ _ _ h => h) (Or.inl ⟨by rfl, ?_⟩) sH ?_
                rotate_left
                · intro wS hSw; (try dsimp only at hSw); go_simp; try with_reducible rfl
                try simp only [Act.put, List.setIfInBounds_toArray, List.set_cons_zero, List.set_cons_succ]
                refine wpAnyH_take (i := 1) (v := ?_) nthe1 (by kernel_rfl) (by kernel_rfl) (by kernel_rfl) (fun _ _ _ h => h) (Or.inl ⟨by rfl, ?_⟩) sH ?_
                rotate_left
                · intro wS hSw; (try dsimp only at hSw); go_simp; try with_reducible rfl
                try simp only [Act.put, List.setIfInBounds_toArray, List.set_cons_zero, List.set_cons_succ]
                refine wpAnyH_take (i := 2) (v := ?_) nthe2 (by kernel_rfl) (by kernel_rfl) (by kernel_rfl) (fun _ _ _ h => h) (Or.inl ⟨by rfl, ?_⟩) sH ?_
                rotate_left
                · intro wS hSw; (try dsimp only at hSw); go_simp; try with_reducible rfl
                try simp only [Act.put, List.setIfInBounds_toArray, List.set_cons_zero, List.set_cons_succ]
                refine wpAnyH_take (i := 3) (v := ?_) nthe3 (by kernel_rfl) (by kernel_rfl) (by kernel_rfl) (fun _ _ _ h => h) (Or.inl ⟨by rfl, ?_⟩) sH ?_
                rotate_left
                · intro wS hSw; (try dsimp only at hSw); go_simp; try with_reducible rfl
                try simp only [Act.put, List.setIfInBounds_toArray, List.set_cons_zero, List.set_cons_succ]
                refine wpAnyH_take (i := 4) (v := .agg #[.slice p0 n c0, .slice p1 m c1]) nthe4 (by kernel_rfl) (by kernel_rfl) (by kernel_rfl) (fun _ _ _ h => h) (yieldsIf_load_mid (by rfl) _ _ rfl w.heap.size 0 rfl [.slice p0 n c0, .slice p1 m c1] _ (fun _ h => h.2) UN rfl (by exact nN)) sH ?_
                try simp only [Act.put, List.setIfInBounds_toArray, List.set_cons_zero, List.set_cons_succ]
                refine wpAnyH_take (i := 5) (v := ?_) nthe5 (by kernel_rfl) (by kernel_rfl) (by kernel_rfl) (fun _ _ _ h => h) (Or.inl ⟨by rfl, ?_⟩) sH ?_
                rotate_left
                · intro wS hSw; (try dsimp only at hSw); go_simp; try with_reducible rfl
                try simp only [Act.put, List.setIfInBounds_toArray, List.set_cons_zero, List.set_cons_succ]
                refine wpAnyH_take (i := 6) (v := ?_) nthe6 (by kernel_rfl) (by kernel_rfl) (by kernel_rfl) (fun _ _ _ h => h) (Or.inl ⟨by rfl, ?_⟩) sH ?_
                rotate_left
                · intro wS hSw; (try dsimp only at hSw); go_simp; try with_reducible rfl
                try simp only [Act.put, List.setIfInBounds_toArray, List.set_cons_zero, List.set_cons_succ]
                refine wpAnyH_take (i := 7) (v := ?_) nthe7 (by kernel_rfl) (by kernel_rfl) (by kernel_rfl) (fun _ _ _ h => h) (Or.inl ⟨by rfl, ?_⟩) sH ?_
                rotate_left
                · intro wS hSw; (try dsimp only at hSw); go_simp; try with_reducible rfl
                try simp only [Act.put, List.setIfInBounds_toArray, List.set_cons_zero, List.set_cons_succ]
                refine wpAnyH_take (i := 10) (v := ?_) nthe10 (by kernel_rfl) (by kernel_rfl) (by kernel_rfl) (fun _ _ _ h => h) (Or.inl ⟨by rfl, ?_⟩) sH ?_
                rotate_left
                · intro wS hSw; (try dsimp only at hSw); go_simp; try with_reducible rfl
                try simp only [Act.put, List.setIfInBounds_toArray, List.set_cons_zero, List.set_cons_succ]
                refine wpAnyH_ready (rs := [8]) (by kernel_rfl) (by simp) (AllReadyH.cons nthe8 (fun KON hKON => ?_) AllReadyH.nil)
                clear sH
                go_simp
                refine (l05Add_any (wr.drew) _ _ m d y (f + 2) la ha lb hb (HSV.out.below (BW.out.trans ((below_drw (Below.refl wr.heap.size wr)).mono hwr)) hha) (Nat.le_trans hha (Nat.le_trans hwr (below_drw (Below.refl wr.heap.size wr)).size)) (HSU.out.below (BW.out.trans ((below_drw (Below.refl wr.heap.size wr)).mono hwr)) hhb) (Nat.le_trans hhb (Nat.le_trans hwr (below_drw (Below.refl wr.heap.size wr)).size)) (by omega) (fun k hk => (HTY.out (f + 2) (by omega) k hk).1) (fun k hk => (HTY.out (f + 2) (by omega) k hk).2)).mono ?_
                rintro e wA ⟨vwA, gA, rfl, owA, hgwA, hbwA⟩
                obtain ⟨cwA, rfl⟩ := owA.shape
                have BwA : Below wr.heap.size wr wA := (below_drw (Below.refl wr.heap.size wr)).trans (hbwA.mono (below_drw (Below.refl wr.heap.size wr)).size)
                refine hKON.out _ _ (KS _ BwA) (fun sH => ?_)
                clear hKON KON
                try simp only [Act.put, List.setIfInBounds_toArray, List.set_cons_zero, List.set_cons_succ]
                refine wpAnyH_ready (rs := [9]) (by kernel_rfl) (by simp) (AllReadyH.cons nthe9 (fun KON hKON => ?_) AllReadyH.nil)
                clear sH
                go_simp
                have hen := l10Energy_any (wA) _ n N m P lo hi (HV.out.below (BW.out.trans (BwA.mono hwr)) hhi) (Nat.le_trans hhi (Nat.le_trans hwr BwA.size)) HBN.out _ _ gA (gA + 1) owA.sl owA.lt (HIN.out (f + 2) (by omega) (by omega))
                rw [HE1.out] at hen
                refine hen.mono ?_
                clear hen
                rintro e wB ⟨rfl, hbwB⟩
                have BwB : Below wr.heap.size wr wB := BwA.trans (hbwB.mono BwA.size)
                refine hKON.out _ _ (KS _ BwB) (fun sH => ?_)
                clear hKON KON
                try simp only [Act.put, List.setIfInBounds_toArray, List.set_cons_zero, List.set_cons_succ]
                refine wpAnyH_take (i := 11) (v := ?_) nthe11 (by kernel_rfl) (by kernel_rfl) (by kernel_rfl) (fun _ _ _ h => h) (Or.inl ⟨by rfl, ?_⟩) sH ?_
                rotate_left
                · intro wS hSw; (try dsimp only at hSw); go_simp; try with_reducible rfl
                try simp only [Act.put, List.setIfInBounds_toArray, List.set_cons_zero, List.set_cons_succ]
                refine wpAnyH_take (i := 12) (v := ?_) nthe12 (by kernel_rfl) (by kernel_rfl) (by kernel_rfl) (fun _ _ _ h => h) (Or.inl ⟨by rfl, ?_⟩) sH ?_
                rotate_left
                · intro wS hSw; (try dsimp only at hSw); go_simp; try with_reducible rfl
                try simp only [Act.put, List.setIfInBounds_toArray, List.set_cons_zero, List.set_cons_succ]
                refine wpAnyH_done (by kernel_rfl) ?_ _
                refine NoPanic.normal ?_
                go_wp2_with fail
                go_ret
                exact ⟨ret_i HLS.out, BW.out.trans (BwB.mono BW.out.size)⟩
              · have hd : decide (f + 2 ≤ H) = false := decide_eq_false hk
                clear hk
                go_upto_region 17 with (fail)
                refine wp_region_noPanic ?_
                refine wp_region_held_drew (S := fun w' : World => Below wr.heap.size wr w' ∧ w'.rangeAt w.heap.size 0 [.slice p0 n c0, .slice p1 m c1]) (by kernel_rfl) (KS _ (below_drw (Below.refl _ _))) (fun sH => ?_)
                refine wpAnyH_take (i := 0) (v := ?_) nthe0 (by kernel_rfl) (by kernel_rfl) (by kernel_rfl) (fun _ _ _ h => h) (Or.inl ⟨by rfl, ?_⟩) sH ?_
                rotate_left
                · intro wS hSw; (try dsimp only at hSw); go_simp; try with_reducible rfl
                try simp only [Act.put, List.setIfInBounds_toArray, List.set_cons_zero, List.set_cons_succ]
                refine wpAnyH_take (i := 1) (v := ?_) nthe1 (by kernel_rfl) (by kernel_rfl) (by kernel_rfl) (fun _ _ _ h => h) (Or.inl ⟨by rfl, ?_⟩) sH ?_
                rotate_left
                · intro wS hSw; (try dsimp only at hSw); go_simp; try with_reducible rfl
                try simp only [Act.put, List.setIfInBounds_toArray, List.set_cons_zero, List.set_cons_succ]
                refine wpAnyH_take (i := 2) (v := ?_) nthe2 (by kernel_rfl) (by kernel_rfl) (by kernel_rfl) (fun _ _ _ h => h) (Or.inl ⟨by rfl, ?_⟩) sH ?_
                rotate_left
                · intro wS hSw; (try dsimp only at hSw); go_simp; try with_reducible rfl
                try simp only [Act.put, List.setIfInBounds_toArray, List.set_cons_zero, List.set_cons_succ]
                refine wpAnyH_take (i := 3) (v := ?_) nthe3 (by kernel_rfl) (by kernel_rfl) (by kernel_rfl) (fun _ _ _ h => h) (Or.inl ⟨by rfl, ?_⟩) sH ?_
                rotate_left
                · intro wS hSw; (try dsimp only at hSw); go_simp; try with_reducible rfl
                try simp only [Act.put, List.setIfInBounds_toArray, List.set_cons_zero, List.set_cons_succ]
                refine wpAnyH_take (i := 4) (v := undef) nthe4 (by kernel_rfl) (by kernel_rfl) (by kernel_rfl) (fun _ _ _ h => h) (Or.inr ⟨by rfl, rfl⟩) sH ?_
                try simp only [Act.put, List.setIfInBounds_toArray, List.set_cons_zero, List.set_cons_succ]
                refine wpAnyH_take (i := 5) (v := undef) nthe5 (by kernel_rfl) (by kernel_rfl) (by kernel_rfl) (fun _ _ _ h => h) (Or.inr ⟨by rfl, rfl⟩) sH ?_
                try simp only [Act.put, List.setIfInBounds_toArray, List.set_cons_zero, List.set_cons_succ]
                refine wpAnyH_take (i := 6) (v := undef) nthe6 (by kernel_rfl) (by kernel_rfl) (by kernel_rfl) (fun _ _ _ h => h) (Or.inr ⟨by rfl, rfl⟩) sH ?_
                try simp only [Act.put, List.setIfInBounds_toArray, List.set_cons_zero, List.set_cons_succ]
                refine wpAnyH_take (i := 7) (v := undef) nthe7 (by kernel_rfl) (by kernel_rfl) (by kernel_rfl) (fun _ _ _ h => h) (Or.inr ⟨by rfl, rfl⟩) sH ?_
                try simp only [Act.put, List.setIfInBounds_toArray, List.set_cons_zero, List.set_cons_succ]
                refine wpAnyH_take (i := 8) (v := undef) nthe8 (by kernel_rfl) (by kernel_rfl) (by kernel_rfl) (fun _ _ _ h => h) (Or.inr ⟨by rfl, rfl⟩) sH ?_
                try simp only [Act.put, List.setIfInBounds_toArray, List.set_cons_zero, List.set_cons_succ]
                refine wpAnyH_take (i := 9) (v := undef) nthe9 (by kernel_rfl) (by kernel_rfl) (by kernel_rfl) (fun _ _ _ h => h) (Or.inr ⟨by rfl, rfl⟩) sH ?_
                try simp only [Act.put, List.setIfInBounds_toArray, List.set_cons_zero, List.set_cons_succ]
                refine wpAnyH_take (i := 10) (v := undef) nthe10 (by kernel_rfl) (by kernel_rfl) (by kernel_rfl) (fun _ _ _ h => h) (Or.inr ⟨by rfl, rfl⟩) sH ?_
                try simp only [Act.put, List.setIfInBounds_toArray, List.set_cons_zero, List.set_cons_succ]
                refine wpAnyH_take (i := 11) (v := undef) nthe11 (by kernel_rfl) (by kernel_rfl) (by kernel_rfl) (fun _ _ _ h => h) (Or.inr ⟨by rfl, rfl⟩) sH ?_
                try simp only [Act.put, List.setIfInBounds_toArray, List.set_cons_zero, List.set_cons_succ]
                refine wpAnyH_take (i := 12) (v := ?_) nthe12 (by kernel_rfl) (by kernel_rfl) (by kernel_rfl) (fun _ _ _ h => h) (Or.inl ⟨by rfl, ?_⟩) sH ?_
                rotate_left
                · intro wS hSw; (try dsimp only at hSw); go_simp; try with_reducible rfl
                try simp only [Act.put, List.setIfInBounds_toArray, List.set_cons_zero, List.set_cons_succ]
                refine wpAnyH_done (by kernel_rfl) ?_ _
                refine NoPanic.normal ?_
                go_wp2_with fail
                go_ret
                exact ⟨ret_i HLS.out, BW.out.trans (below_drw (Below.refl _ _))⟩
end Go.Proofs.Ytfkacpphdnlkfaa.mem

namespace Go.Proofs.Ytfkacpphdnlkfaa.mem
open Go.RowKit
set_option linter.unusedVariables false

noncomputable def rcD (n : Nat) (m : Nat) (P : Nat → Pip) (d : Nat → Int) (x : Int) : Nat → Int := fun k => d k + bstT m P d (cyD n P m x) * cyD n P m x k
noncomputable def rcN (n : Nat) (N : Nat → Nod) (m : Nat) (P : Nat → Pip) (K : Nat) (d : Nat → Int) (x : Int) : Nat := if ckC n N m P K d x = 0 then m else 0
theorem bstT_congr {m : Nat} {P : Nat → Pip} {x u y : Nat → Int} (h : ∀ k, k < m → x k = u k) : bstT m P x y = bstT m P u y := by
  obtain ⟨e1, e2⟩ := al_congr (y := y) h
  have e3 : bePr P x y m = bePr P u y m := by
    funext t
    unfold bePr egC
    rw [egS_congr (x := fun k => x k + (t + 1) * y k) (y := fun k => u k + (t + 1) * y k) (fun k hk => by rw [h k hk]), egS_congr (x := fun k => x k + t * y k) (y := fun k => u k + t * y k) (fun k hk => by rw [h k hk])]
  unfold bstT
  rw [e1, e2, e3]
theorem cyO_net {n : Nat} {N : Nat → Nod} {P : Nat → Pip} {m : Nat} (hN : netB n N m P = true) {c : Nat} (hc : c < m) (hch : chP n P m c = true) : CyO P (cyc P (fE n P m) (fD n P m) c) m :=
  ⟨fun j hj => (pip_k (net_pip hN hj)).1, fun j _ => cyc_one hN hc hch j, c, hc, by
    rw [(fo_net hN).cyc_chord hc (chP_no hN hch)]
    unfold one1
    rw [if_pos rfl]
    omega⟩
theorem bst_rng {n : Nat} {N : Nat → Nod} {P : Nat → Pip} {m : Nat} (hN : netB n N m P = true) {c : Nat} (hc : c < m) (hch : chP n P m c = true) {d : Nat → Int} (hd : ∀ k, k < m → -30000 ≤ d k ∧ d k ≤ 30000) : -60000 ≤ bstT m P d (cyc P (fE n P m) (fD n P m) c) ∧ bstT m P d (cyc P (fE n P m) (fD n P m) c) ≤ 60000 := by
  have h1 := al_bnd (x := d) (y := cyc P (fE n P m) (fD n P m) c) (k := m) hd (fun j _ => cyc_one hN hc hch j)
  have h2 := bstT_is (P := P) (x := d) (y := cyc P (fE n P m) (fD n P m) c) (m := m) (by omega)
  have := h2.ge
  have := h2.le
  omega
set_option maxRecDepth 100000 in
set_option maxHeartbeats 8000000 in
theorem relaxChordS_any (w : World) (v : Value) (n : Nat) (N : Nat → Nod) (m : Nat) (P : Nat → Pip) (lo hi : Nat) (h : NetAt w v n N m P lo hi) (hhi : hi ≤ w.heap.size) (hN : ∀ i, i < n → (N i).s.size ≤ 9223372036854775807) (va : Value) (K : Nat) (d : Nat → Int) (la ha : Nat) (hv : Sl w va K d la ha) (hha : ha ≤ w.heap.size) (hK9 : K ≤ 9223372036854775807) (x : Int) :
    Calls Try.prog 19 #[v, va, .int .i64 x] w (LIPost w (rcN n N m P K d x) (rcD n m P d x) (ckC n N m P K d x)) := by
  obtain ⟨p0, c0, p1, c1, rfl, hn9, hm9⟩ := h.parts
  have HV := Lib.hid h
  have HN := Lib.hid hN
  obtain ⟨pa, ca, rfl⟩ := hv.sh
  have HSV := Lib.hid hv
  have A0 := boxed w (.slice p0 n c0) (.slice p1 m c1) 33
  have B0 := below_new w (.cells #[.slice p0 n c0, .slice p1 m c1] 33)
  have hs0 : (w.alloc (.cells #[.slice p0 n c0, .slice p1 m c1] 33)).heap.size = w.heap.size + 1 := by simp
  clear h hN hv
  go_enter Try.func19, Try.ntmps19
  have e0' := A0.b0
  have e1' := A0.b1
  go_wp2_with fail
  refine (l10Code_any _ _ n N m P lo hi (HV.out.below B0 hhi) (by omega) HN.out _ K d la ha (HSV.out.below B0 hha) (by omega) hK9 x).mono ?_
  rintro e w1 ⟨rfl, b1⟩
  have A1 := A0.below b1 (by omega)
  have B1 := B0.trans (b1.mono (by omega))
  have hs1 := b1.size
  have e0 := A1.b0
  have e1 := A1.b1
  have e2 : w.heap.size < w1.heap.size := by omega
  clear A0 B0 b1 e0' e1'
  by_cases hc : ckC n N m P K d x = 0
  · obtain ⟨hfc, hch⟩ := ckC_ok hc
    obtain ⟨hB, rfl, hf⟩ := flC_ok hfc
    have hm40 := (net_sz hB).2.2
    have HB := Lib.hid hB
    have HC := Lib.hid hc
    have HF := Lib.hid (show ∀ k, k < K → -30000 ≤ d k ∧ d k ≤ 30000 from fun k hk => flQ_iff.1 (flB_iff.1 hf k hk))
    have H1 := Lib.hid (HSV.out.below B1 hha)
    obtain ⟨c, rfl, hcm, hcp⟩ := chB_yes hch
    have HCP := Lib.hid hcp
    rw [hc]
    clear hc hB hf hfc hch hcp
    have HR := Lib.hid (show rcN n N K P K d (c : Int) = K by unfold rcN; rw [if_pos HC.out])
    have HYD := Lib.hid (show cyD n P K (c : Int) = cyc P (fE n P K) (fD n P K) c by unfold cyD; rw [Int.toNat_natCast])
    have HCO := Lib.hid (cyO_net HB.out hcm HCP.out)
    have hbr := bst_rng HB.out hcm HCP.out HF.out
    have hi1 : hi ≤ w1.heap.size := by omega
    have ha1 : ha ≤ w1.heap.size := by omega
    have HDD := Lib.hid (show ∀ k, rcD n K P d (c : Int) k = d k + bstT K P d (cyc P (fE n P K) (fD n P K) c) * cyc P (fE n P K) (fD n P K) c k from fun k => by unfold rcD; rw [HYD.out])
    have HCY := Lib.hid (fun (W : World) (hW : Below w1.heap.size w1 W) => l05Cycle_any W _ n N K P lo hi (HV.out.below (B1.trans (hW.mono (by omega))) hhi) (Nat.le_trans hi1 hW.size) HN.out HB.out c hcm HCP.out)
    generalize hcy : cyc P (fE n P K) (fD n P K) c = y at *
    generalize hbt : bstT K P d y = t at *
    have HBT := Lib.hid hbt
    have HTY := Lib.hid (show ∀ k, k < K → (-4611686018427387904 ≤ d k + t * y k ∧ d k + t * y k ≤ 4611686018427387904) ∧ (-4611686018427387904 ≤ t * y k ∧ t * y k ≤ 4611686018427387904) from fun k hk => by
      have h1 := mulc hbr (HCO.out.y1 k hk)
      have h2 := HF.out k hk
      omega)
    clear hcy hbt
    go_wp2_with (first
      | (go_at_call 55; refine (HCY.out w1 (Below.refl _ _)).mono ?_; rintro e wX ⟨vy, gy, rfl, oy, hgy, hbX⟩; obtain ⟨cy, rfl⟩ := oy.shape; have zX := hbX.size; have q0 := (A1.below hbX e2).b0; have q1 := (A1.below hbX e2).b1)
      | (go_at_call 57; have hbe := l11Best_any wX _ n N K P lo hi (HV.out.below (B1.trans (hbX.mono (by omega))) hhi) (by omega) HB.out _ d la ha (H1.out.below hbX ha1) (by omega) HF.out _ y gy (gy + 1) oy.sl oy.lt HCO.out; rw [HBT.out] at hbe; refine hbe.mono ?_; clear hbe; rintro e wY ⟨rfl, hbY⟩; have zY := hbY.size)
      | (go_at_call 56; refine (l05Add_any wY _ _ K d y t la ha gy (gy + 1) ((H1.out.below hbX ha1).below hbY (by omega)) (by omega) (oy.sl.below hbY oy.lt) (by have := oy.lt; omega) (by omega) (fun k hk => (HTY.out k hk).1) (fun k hk => (HTY.out k hk).2)).mono ?_; rintro e wZ ⟨vz, gz, rfl, oz, hgz, hbZ⟩; obtain ⟨cz, rfl⟩ := oz.shape))
    go_ret2
    exact li_ok HR.out.symm (by first | rfl | (rw [HC.out]; rfl)) (oz.congr (fun k _ => (HDD.out k).symm)) (by omega) (B1.trans ((hbX.trans ((hbY.trans (hbZ.mono zY)).mono zX)).mono (by omega)))
  · have hb1 : (ckC n N m P K d x != 0) = true := by simpa using hc
    have H3 := Lib.hid (show rcN n N m P K d x = 0 by unfold rcN; rw [if_neg hc])
    clear hc
    go_wp2_with fail
    go_ret2
    exact li_err H3.out rfl rfl B1
theorem wp_allocF {o : Oper} {a : Act} {w : World} {K : Act → World → Prop} {Q : Exit → Act → World → Prop} (ho : o.op = .alloc 68)
    (h : K (a.put o.dst (.pointer (some ⟨w.heap.size, 0, none⟩))) (w.alloc (.cells (arr fun _ => 0) 68))) : o.wp Try.prog a w K Q := by
  unfold Oper.wp execOp
  simp only [ho, Sem.run_bind, run_allocF, Result.andThen_ok]
  exact h
theorem wp_allocN {o : Oper} {a : Act} {w : World} {K : Act → World → Prop} {Q : Exit → Act → World → Prop} (ho : o.op = .alloc 70)
    (h : K (a.put o.dst (.pointer (some ⟨w.heap.size, 0, none⟩))) (w.alloc (.cells (nfL (.slice none 0 0) (.slice none 0 0) fun _ => 0).toArray 70))) : o.wp Try.prog a w K Q := by
  unfold Oper.wp execOp
  simp only [ho, Sem.run_bind, run_allocN, Result.andThen_ok]
  exact h
theorem wp_stF {o : Oper} {a : Act} {w : World} {K : Act → World → Prop} {Q : Exit → Act → World → Prop} (x y : Operand) (ho : o.op = .store 68 x y) (b : Nat) (L : List Value) (hx : a.eval x = .pointer (some ⟨b, 0, none⟩)) (hy : a.eval y = .agg L.toArray) (hL : L.length = 40) (h1 : ∀ v ∈ L, v.oneCell' = true) (ht : w.there b 0 40)
    (h : K (a.put o.dst undef) (w.setCells b 0 L)) : o.wp Try.prog a w K Q :=
  wp_store_mid 68 x y ho b 0 L.toArray hx hy (by rw [List.size_toArray, hL]; exact ht) (by rw [List.size_toArray, hL]; exact flow_info) (all_oneCell_toArray h1) h
theorem wp_stN {o : Oper} {a : Act} {w : World} {K : Act → World → Prop} {Q : Exit → Act → World → Prop} (x y : Operand) (ho : o.op = .store 70 x y) (b : Nat) (s0 s1 : Value) (z : Nat → Int) (hx : a.eval x = .pointer (some ⟨b, 0, none⟩)) (hy : a.eval y = .agg (nfL s0 s1 z).toArray) (h0 : s0.oneCell' = true) (h1 : s1.oneCell' = true) (ht : w.there b 0 42)
    (h : K (a.put o.dst undef) (w.setCells b 0 (nfL s0 s1 z))) : o.wp Try.prog a w K Q :=
  wp_store_mid 70 x y ho b 0 (nfL s0 s1 z).toArray hx hy (by rw [List.size_toArray, nfL_len]; exact ht) (by rw [List.size_toArray, nfL_len]; exact nf_info) (all_oneCell_toArray (nfL_one h0 h1 z)) h
theorem run_fieldN (w : World) (s0 s1 : Value) (z : Nat → Int) : (Instr.field 70 (.agg (nfL s0 s1 z).toArray) 1).run Try.prog w = .ok (.agg (arr z)) w := by
  obtain ⟨i0, hi0, hz0, hz1, hz2⟩ := info_parts info_flow
  have e : (List.take 40 (List.drop 2 (nfL s0 s1 z))).toArray = arr z := by
    show (List.take 40 (arrL z)).toArray = arr z
    rw [List.take_of_length_le (by rw [arr_len]; omega)]
    rfl
  simp [Instr.field, run_underlying Try.underlying70, run_underlying Try.underlying68, asAgg, part, isAgg, sizeOf, typeInfo, hi0, hz1, e]
theorem yieldsIf_fieldN {ops : Array Oper} {S : World → Prop} {op : Oper} {a : Act} (hw : Region.wanted op (yielded ops a.tmps) = true) (x : Operand) (ho : op.op = .field 70 x 1) (s0 s1 : Value) (z : Nat → Int) (hx : a.eval x = .agg (nfL s0 s1 z).toArray) : YieldsIf Try.prog ops S op (.agg (arr z)) a :=
  .inl ⟨hw, fun w _ => by
    unfold execOp
    simp only [ho, Sem.run_bind, hx, run_fieldN, Result.andThen_ok]
    rfl⟩
set_option maxRecDepth 100000 in
set_option maxHeartbeats 8000000 in
theorem relaxChordI_any (w : World) (v : Value) (n : Nat) (N : Nat → Nod) (m : Nat) (P : Nat → Pip) (lo hi : Nat) (h : NetAt w v n N m P lo hi) (hhi : hi ≤ w.heap.size) (hN : ∀ i, i < n → (N i).s.size ≤ 9223372036854775807) (va : Value) (K : Nat) (d : Nat → Int) (la ha : Nat) (hv : Sl w va K d la ha) (hha : ha ≤ w.heap.size) (hK9 : K ≤ 9223372036854775807) (x : Int) :
    Calls Try.prog 20 #[v, va, .int .i64 x] w (LIPost w (rcN n N m P K d x) (rcD n m P d x) (ckC n N m P K d x)) := by
  obtain ⟨p0, c0, p1, c1, rfl, hn9, hm9⟩ := h.parts
  have HV := Lib.hid h
  have HN := Lib.hid hN
  have HSV := Lib.hid hv
  obtain ⟨pa, ca, rfl⟩ := hv.sh
  have A0 := boxed w (.slice p0 n c0) (.slice p1 m c1) 33
  have B0 := below_new w (.cells #[.slice p0 n c0, .slice p1 m c1] 33)
  have hs0 : (w.alloc (.cells #[.slice p0 n c0, .slice p1 m c1] 33)).heap.size = w.heap.size + 1 := by simp
  clear h hN hv
  go_enter Try.func20, Try.ntmps20
  have e0' := A0.b0
  have e1' := A0.b1
  go_wp2_with fail
  refine (checkChord_any _ _ n N m P lo hi (HV.out.below B0 hhi) (by omega) HN.out _ K d la ha (HSV.out.below B0 hha) (by omega) hK9 x).mono ?_
  rintro e w1 ⟨rfl, b1⟩
  have A1 := A0.below b1 (by omega)
  have B1 := B0.trans (b1.mono (by omega))
  have hs1 := b1.size
  have e0 := A1.b0
  have e1 := A1.b1
  have e2 : w.heap.size < w1.heap.size := by omega
  clear A0 B0 b1 e0' e1'
  by_cases hc : ckC n N m P K d x = 0
  · obtain ⟨hfc, hch⟩ := ckC_ok hc
    obtain ⟨hB, rfl, hf⟩ := flC_ok hfc
    have hm40 := (net_sz hB).2.2
    have HB := Lib.hid hB
    have HC := Lib.hid hc
    have HF := Lib.hid (show ∀ k, k < K → -30000 ≤ d k ∧ d k ≤ 30000 from fun k hk => flQ_iff.1 (flB_iff.1 hf k hk))
    obtain ⟨c, rfl, hcm, hcp⟩ := chB_yes hch
    have HCP := Lib.hid hcp
    rw [hc]
    clear hc hB hf hfc hch hcp
    have HR := Lib.hid (show rcN n N K P K d (c : Int) = K by unfold rcN; rw [if_pos HC.out])
    have HYD := Lib.hid (show cyD n P K (c : Int) = cyc P (fE n P K) (fD n P K) c by unfold cyD; rw [Int.toNat_natCast])
    have HCO := Lib.hid (cyO_net HB.out hcm HCP.out)
    have hbr := bst_rng HB.out hcm HCP.out HF.out
    have HDD := Lib.hid (show ∀ k, rcD n K P d (c : Int) k = d k + bstT K P d (cyc P (fE n P K) (fD n P K) c) * cyc P (fE n P K) (fD n P K) c k from fun k => by unfold rcD; rw [HYD.out])
    have HBC := Lib.hid (show ∀ y, bstT K P (pad K d) y = bstT K P d y from fun y => bstT_congr (fun k hk => pad_at hk))
    have HXP := Lib.hid (show ∀ k, -30000 ≤ pad K d k ∧ pad K d k ≤ 30000 from fun k => pad_rng HF.out k)
    have HPD := Lib.hid (show ∀ k, k < K → pad K d k = d k from fun k hk => pad_at hk)
    have HY40 := Lib.hid (show ∀ k, k < 40 → -1 ≤ cyc P (fE n P K) (fD n P K) c k ∧ cyc P (fE n P K) (fD n P K) c k ≤ 1 from fun k _ => cyc_one HB.out hcm HCP.out k)
    have HY0 := Lib.hid (show ∀ k, K ≤ k → cyc P (fE n P K) (fD n P K) c k = 0 from fun k hk => cyc_off HB.out hcm hk)
    have hi1 : hi ≤ w1.heap.size := by omega
    have ha1 : ha ≤ w1.heap.size := by omega
    have HCYC := Lib.hid (fun (W : World) (hW : Below w1.heap.size w1 W) => cycleOf_any W _ n N K P lo hi (HV.out.below (B1.trans (hW.mono (by omega))) hhi) (Nat.le_trans hi1 hW.size) HB.out c hcm)
    have HWF := Lib.hid (fun (W : World) (hW : Below w1.heap.size w1 W) => withFlows_any W p0 p1 c0 c1 n K _ K d la ha (HSV.out.below (B1.trans (hW.mono (by omega))) hha) (Nat.le_trans ha1 hW.size) hm40)
    generalize hcy : cyc P (fE n P K) (fD n P K) c = y at *
    generalize hbt : bstT K P d y = t at *
    have HBT := Lib.hid hbt
    generalize hpx : pad K d = x0 at *
    clear hcy hbt hpx
    obtain ⟨Ly, hLy, eLy⟩ : ∃ L : List Value, arr y = List.toArray L ∧ L = arrL y := ⟨_, rfl, rfl⟩
    have nLy : Ly.length = 40 := by rw [eLy, arr_len]
    have oLy : ∀ v ∈ Ly, v.oneCell' = true := by rw [eLy]; exact arr_oneL _
    have HLy := Lib.hid hLy
    rw [hLy] at HCYC
    have eLy2 := eLy
    clear hLy eLy
    have HEy := Lib.hid eLy2
    clear eLy2
    have gA := range2 e0 e1
    have KS : ∀ W : World, Below w1.heap.size w1 W → (Below w1.heap.size w1 W ∧ W.rangeAt w.heap.size 0 [.slice p0 n c0, .slice p1 K c1]) := fun W hW => ⟨hW, range_blockN gA (hW.block _ e2)⟩
    have nN : (Try.prog.info? 33).map (·.size) = some 2 := by kernel_rfl
    have UN := Try.underlying33
    go_wp2_with fail
    go_cut [9, 10] from 18 to 23 (fun s9 s10 wx => ∃ b9 b10 : Nat, s9 = .pointer (some ⟨b9, 0, none⟩) ∧ s10 = .pointer (some ⟨b10, 0, none⟩) ∧ wx.rangeAt b9 0 (nfL (.slice p0 n c0) (.slice p1 K c1) x0) ∧ wx.rangeAt b10 0 Ly ∧ w1.heap.size ≤ b9 ∧ w1.heap.size ≤ b10 ∧ Below w1.heap.size w1 wx)
    case first =>
      clear HCO HDD HBC HXP HPD HY40 HY0 HBT HR HYD
      refine wp_region_noPanic ?_
      refine wp_region_held_drew (S := fun w' : World => Below w1.heap.size w1 w' ∧ w'.rangeAt w.heap.size 0 [.slice p0 n c0, .slice p1 K c1]) (by kernel_rfl) (KS _ (below_drw (Below.refl _ _))) (fun sH => ?_)
      refine wpAnyH_take (i := 0) (v := .agg #[.slice p0 n c0, .slice p1 K c1]) nthe0 (by kernel_rfl) (by kernel_rfl) (by kernel_rfl) (fun _ _ _ h => h) (yieldsIf_load_mid (by rfl) _ _ rfl w.heap.size 0 rfl [.slice p0 n c0, .slice p1 K c1] _ (fun _ h => h.2) UN rfl (by exact nN)) sH ?_
      try simp only [Act.put, List.setIfInBounds_toArray, List.set_cons_zero, List.set_cons_succ]
      refine wpAnyH_take (i := 1) (v := ?_) nthe1 (by kernel_rfl) (by kernel_rfl) (by kernel_rfl) (fun _ _ _ h => h) (Or.inl ⟨by rfl, ?_⟩) sH ?_
      rotate_left
      · intro wS hSw; (try dsimp only at hSw); go_simp; try with_reducible rfl
      try simp only [Act.put, List.setIfInBounds_toArray, List.set_cons_zero, List.set_cons_succ]
      refine wpAnyH_take (i := 3) (v := .agg #[.slice p0 n c0, .slice p1 K c1]) nthe3 (by kernel_rfl) (by kernel_rfl) (by kernel_rfl) (fun _ _ _ h => h) (yieldsIf_load_mid (by rfl) _ _ rfl w.heap.size 0 rfl [.slice p0 n c0, .slice p1 K c1] _ (fun _ h => h.2) UN rfl (by exact nN)) sH ?_
      try simp only [Act.put, List.setIfInBounds_toArray, List.set_cons_zero, List.set_cons_succ]
      refine wpAnyH_take (i := 4) (v := ?_) nthe4 (by kernel_rfl) (by kernel_rfl) (by kernel_rfl) (fun _ _ _ h => h) (Or.inl ⟨by rfl, ?_⟩) sH ?_
      rotate_left
      · intro wS hSw; (try dsimp only at hSw); go_simp; try with_reducible rfl
      try simp only [Act.put, List.setIfInBounds_toArray, List.set_cons_zero, List.set_cons_succ]
      refine wpAnyH_ready (rs := [2, 6, 7]) (by kernel_rfl) (by simp) (AllReadyH.cons nthe2 (fun K9 hK => ?_) (AllReadyH.cons nthe6 (fun K9 hK => ?_) (AllReadyH.cons nthe7 (fun K9 hK => ?_) AllReadyH.nil)))
      clear sH
      · go_simp
        refine (HWF.out (w1.drew) (below_drw (Below.refl w1.heap.size w1))).mono ?_
        rintro e wv1 ⟨rfl, hb1⟩
        have B1 : Below w1.heap.size w1 wv1 := Below.trans (below_drw (Below.refl w1.heap.size w1)) (hb1.mono (Below.size (below_drw (Below.refl w1.heap.size w1))))
        refine hK.out _ _ (KS _ B1) (fun sH => ?_)
        clear hK
        try simp only [Act.put, List.setIfInBounds_toArray, List.set_cons_zero, List.set_cons_succ]
        refine wpAnyH_ready (rs := [5, 6, 7]) (by kernel_rfl) (by simp) (AllReadyH.cons nthe5 (fun K9 hK => ?_) (AllReadyH.cons nthe6 (fun K9 hK => ?_) (AllReadyH.cons nthe7 (fun K9 hK => ?_) AllReadyH.nil)))
        clear sH
        · go_simp
          refine (HCYC.out (wv1) B1).mono ?_
          rintro e wv2 ⟨rfl, hb2⟩
          have B2 : Below w1.heap.size w1 wv2 := Below.trans B1 (hb2.mono (Below.size B1))
          refine hK.out _ _ (KS _ B2) (fun sH => ?_)
          clear hK
          try simp only [Act.put, List.setIfInBounds_toArray, List.set_cons_zero, List.set_cons_succ]
          refine wpAnyH_ready (rs := [6, 7]) (by kernel_rfl) (by simp) (AllReadyH.cons nthe6 (fun K9 hK => ?_) (AllReadyH.cons nthe7 (fun K9 hK => ?_) AllReadyH.nil))
          clear sH
          · rw [if_pos (by rfl)]
            refine wp_allocN rfl ?_
            have B3 : Below w1.heap.size w1 ((wv2).alloc (.cells (nfL (.slice none 0 0) (.slice none 0 0) fun _ => 0).toArray 70)) := Below.trans B2 ((below_new (wv2) (.cells (nfL (.slice none 0 0) (.slice none 0 0) fun _ => 0).toArray 70)).mono (Below.size B2))
            have x3 := Ob.newN (wv2) (.slice none 0 0) (.slice none 0 0) (fun _ => 0) 70
            have l3 : w1.heap.size ≤ (wv2).heap.size := Below.size B2
            obtain ⟨wv3, hw3⟩ : ∃ wv, (wv2).alloc (.cells (nfL (.slice none 0 0) (.slice none 0 0) fun _ => 0).toArray 70) = wv := ⟨_, rfl⟩
            obtain ⟨bv3, hv3⟩ : ∃ bv, (wv2).heap.size = bv := ⟨_, rfl⟩
            rw [hw3] at B3 x3 ⊢
            rw [hv3] at x3 l3 ⊢
            clear hw3 hv3
            refine hK.out _ _ (KS _ B3) (fun sH => ?_)
            clear hK
            try simp only [Act.put, List.setIfInBounds_toArray, List.set_cons_zero, List.set_cons_succ]
            refine wpAnyH_ready (rs := [7]) (by kernel_rfl) (by simp) (AllReadyH.cons nthe7 (fun K9 hK => ?_) AllReadyH.nil)
            clear sH
            rw [if_pos (by rfl)]
            refine wp_allocF rfl ?_
            have B4 : Below w1.heap.size w1 ((wv3).alloc (.cells (arr fun _ => 0) 68)) := Below.trans B3 ((below_new (wv3) (.cells (arr fun _ => 0) 68)).mono (Below.size B3))
            have x4 := Ob.newA (wv3) (fun _ => 0) 68
            have l4 : w1.heap.size ≤ (wv3).heap.size := Below.size B3
            have m4 := (x3).below (below_new (wv3) (.cells (arr fun _ => 0) 68)) (x3).lt
            have z4 : bv3 < (wv3).heap.size := (x3).lt
            obtain ⟨wv4, hw4⟩ : ∃ wv, (wv3).alloc (.cells (arr fun _ => 0) 68) = wv := ⟨_, rfl⟩
            obtain ⟨bv4, hv4⟩ : ∃ bv, (wv3).heap.size = bv := ⟨_, rfl⟩
            rw [hw4] at B4 x4 m4 ⊢
            rw [hv4] at x4 l4 ⊢
            rw [hv4] at z4
            clear hw4 hv4
            refine hK.out _ _ (KS _ B4) (fun sH => ?_)
            clear hK
            try simp only [Act.put, List.setIfInBounds_toArray, List.set_cons_zero, List.set_cons_succ]
            refine wpAnyH_ready (rs := [8]) (by kernel_rfl) (by simp) (AllReadyH.cons nthe8 (fun K9 hK => ?_) AllReadyH.nil)
            clear sH
            rw [if_pos (by rfl)]
            have ne1 : bv3 ≠ bv4 := by omega
            have v0 := (m4).there
            have oy := (Only.refl bv3 wv4).setCs (nfL (.slice p0 n c0) (.slice p1 K c1) x0) 0
            have v1 := (m4).nput (.slice p0 n c0) (.slice p1 K c1) x0
            have v2 := (x4).only oy ne1.symm
            have v3 := Below.trans B4 (oy.below (B := w1.heap.size) (by omega))
            refine wp_stN _ _ rfl bv3 (.slice p0 n c0) (.slice p1 K c1) x0 rfl rfl rfl rfl v0 ?_
            obtain ⟨wp, hwp⟩ : ∃ wp, World.setCells wv4 bv3 0 (nfL (.slice p0 n c0) (.slice p1 K c1) x0) = wp := ⟨_, rfl⟩
            rw [hwp] at v1 v2 v3 ⊢
            clear hwp oy v0
            refine hK.out _ _ (KS _ v3) (fun sH => ?_)
            clear hK
            try simp only [Act.put]
            refine wpAnyH_ready (rs := [9]) (by kernel_rfl) (by simp) (AllReadyH.cons nthe9 (fun K9 hK => ?_) AllReadyH.nil)
            clear sH
            rw [if_pos (by rfl)]
            have v0 := v2.there
            have oy := (Only.refl bv4 wp).setCs Ly 0
            have v4 := v1.only oy ne1
            have v5 : World.rangeAt (wp.setCells bv4 0 Ly) bv4 0 Ly := World.rangeAt_setCells_same _ _ _ _ (by rw [nLy]; exact v0)
            have v6 := v3.trans (oy.below (B := w1.heap.size) (by omega))
            refine wp_stF _ _ rfl bv4 Ly rfl rfl nLy oLy v0 ?_
            obtain ⟨wq, hwq⟩ : ∃ wq, World.setCells wp bv4 0 Ly = wq := ⟨_, rfl⟩
            rw [hwq] at v4 v5 v6 ⊢
            clear hwq oy v0
            refine hK.out _ _ (KS _ v6) (fun sH => ?_)
            clear hK
            try simp only [Act.put]
            refine wpAnyH_done (by kernel_rfl) ?_ _
            refine NoPanic.normal ?_
            go_wp2_with fail
            go_meet
            exact ⟨_, _, rfl, rfl, v4.nall, v5, by omega, by omega, v6⟩
          · rw [if_pos (by rfl)]
            refine wp_allocF rfl ?_
            have B5 : Below w1.heap.size w1 ((wv2).alloc (.cells (arr fun _ => 0) 68)) := Below.trans B2 ((below_new (wv2) (.cells (arr fun _ => 0) 68)).mono (Below.size B2))
            have x5 := Ob.newA (wv2) (fun _ => 0) 68
            have l5 : w1.heap.size ≤ (wv2).heap.size := Below.size B2
            obtain ⟨wv5, hw5⟩ : ∃ wv, (wv2).alloc (.cells (arr fun _ => 0) 68) = wv := ⟨_, rfl⟩
            obtain ⟨bv5, hv5⟩ : ∃ bv, (wv2).heap.size = bv := ⟨_, rfl⟩
            rw [hw5] at B5 x5 ⊢
            rw [hv5] at x5 l5 ⊢
            clear hw5 hv5
            refine hK.out _ _ (KS _ B5) (fun sH => ?_)
            clear hK
            try simp only [Act.put, List.setIfInBounds_toArray, List.set_cons_succ]
            refine wpAnyH_ready (rs := [6]) (by kernel_rfl) (by simp) (AllReadyH.cons nthe6 (fun K9 hK => ?_) AllReadyH.nil)
            clear sH
            rw [if_pos (by rfl)]
            refine wp_allocN rfl ?_
            have B6 : Below w1.heap.size w1 ((wv5).alloc (.cells (nfL (.slice none 0 0) (.slice none 0 0) fun _ => 0).toArray 70)) := Below.trans B5 ((below_new (wv5) (.cells (nfL (.slice none 0 0) (.slice none 0 0) fun _ => 0).toArray 70)).mono (Below.size B5))
            have x6 := Ob.newN (wv5) (.slice none 0 0) (.slice none 0 0) (fun _ => 0) 70
            have l6 : w1.heap.size ≤ (wv5).heap.size := Below.size B5
            have k6 := (x5).below (below_new (wv5) (.cells (nfL (.slice none 0 0) (.slice none 0 0) fun _ => 0).toArray 70)) (x5).lt
            have z6 : bv5 < (wv5).heap.size := (x5).lt
            obtain ⟨wv6, hw6⟩ : ∃ wv, (wv5).alloc (.cells (nfL (.slice none 0 0) (.slice none 0 0) fun _ => 0).toArray 70) = wv := ⟨_, rfl⟩
            obtain ⟨bv6, hv6⟩ : ∃ bv, (wv5).heap.size = bv := ⟨_, rfl⟩
            rw [hw6] at B6 x6 k6 ⊢
            rw [hv6] at x6 l6 ⊢
            rw [hv6] at z6
            clear hw6 hv6
            refine hK.out _ _ (KS _ B6) (fun sH => ?_)
            clear hK
            try simp only [Act.put, List.set_cons_zero]
            refine wpAnyH_ready (rs := [8]) (by kernel_rfl) (by simp) (AllReadyH.cons nthe8 (fun K9 hK => ?_) AllReadyH.nil)
            clear sH
            rw [if_pos (by rfl)]
            have ne1 : bv6 ≠ bv5 := by omega
            have v0 := (x6).there
            have oy := (Only.refl bv6 wv6).setCs (nfL (.slice p0 n c0) (.slice p1 K c1) x0) 0
            have v1 := (x6).nput (.slice p0 n c0) (.slice p1 K c1) x0
            have v2 := (k6).only oy ne1.symm
            have v3 := Below.trans B6 (oy.below (B := w1.heap.size) (by omega))
            refine wp_stN _ _ rfl bv6 (.slice p0 n c0) (.slice p1 K c1) x0 rfl rfl rfl rfl v0 ?_
            obtain ⟨wp, hwp⟩ : ∃ wp, World.setCells wv6 bv6 0 (nfL (.slice p0 n c0) (.slice p1 K c1) x0) = wp := ⟨_, rfl⟩
            rw [hwp] at v1 v2 v3 ⊢
            clear hwp oy v0
            refine hK.out _ _ (KS _ v3) (fun sH => ?_)
            clear hK
            try simp only [Act.put]
            refine wpAnyH_ready (rs := [9]) (by kernel_rfl) (by simp) (AllReadyH.cons nthe9 (fun K9 hK => ?_) AllReadyH.nil)
            clear sH
            rw [if_pos (by rfl)]
            have v0 := v2.there
            have oy := (Only.refl bv5 wp).setCs Ly 0
            have v4 := v1.only oy ne1
            have v5 : World.rangeAt (wp.setCells bv5 0 Ly) bv5 0 Ly := World.rangeAt_setCells_same _ _ _ _ (by rw [nLy]; exact v0)
            have v6 := v3.trans (oy.below (B := w1.heap.size) (by omega))
            refine wp_stF _ _ rfl bv5 Ly rfl rfl nLy oLy v0 ?_
            obtain ⟨wq, hwq⟩ : ∃ wq, World.setCells wp bv5 0 Ly = wq := ⟨_, rfl⟩
            rw [hwq] at v4 v5 v6 ⊢
            clear hwq oy v0
            refine hK.out _ _ (KS _ v6) (fun sH => ?_)
            clear hK
            try simp only [Act.put, List.setIfInBounds_toArray]
            refine wpAnyH_done (by kernel_rfl) ?_ _
            refine NoPanic.normal ?_
            go_wp2_with fail
            go_meet
            exact ⟨_, _, rfl, rfl, v4.nall, v5, by omega, by omega, v6⟩
        · rw [if_pos (by rfl)]
          refine wp_allocN rfl ?_
          have B7 : Below w1.heap.size w1 ((wv1).alloc (.cells (nfL (.slice none 0 0) (.slice none 0 0) fun _ => 0).toArray 70)) := Below.trans B1 ((below_new (wv1) (.cells (nfL (.slice none 0 0) (.slice none 0 0) fun _ => 0).toArray 70)).mono (Below.size B1))
          have x7 := Ob.newN (wv1) (.slice none 0 0) (.slice none 0 0) (fun _ => 0) 70
          have l7 : w1.heap.size ≤ (wv1).heap.size := Below.size B1
          obtain ⟨wv7, hw7⟩ : ∃ wv, (wv1).alloc (.cells (nfL (.slice none 0 0) (.slice none 0 0) fun _ => 0).toArray 70) = wv := ⟨_, rfl⟩
          obtain ⟨bv7, hv7⟩ : ∃ bv, (wv1).heap.size = bv := ⟨_, rfl⟩
          rw [hw7] at B7 x7 ⊢
          rw [hv7] at x7 l7 ⊢
          clear hw7 hv7
          refine hK.out _ _ (KS _ B7) (fun sH => ?_)
          clear hK
          try simp only [Act.put, List.setIfInBounds_toArray, List.set_cons_succ]
          refine wpAnyH_ready (rs := [5, 7]) (by kernel_rfl) (by simp) (AllReadyH.cons nthe5 (fun K9 hK => ?_) (AllReadyH.cons nthe7 (fun K9 hK => ?_) AllReadyH.nil))
          clear sH
          · go_simp
            refine (HCYC.out (wv7) B7).mono ?_
            rintro e wv8 ⟨rfl, hb8⟩
            have B8 : Below w1.heap.size w1 wv8 := Below.trans B7 (hb8.mono (Below.size B7))
            have m8 := (x7).below hb8 (x7).lt
            refine hK.out _ _ (KS _ B8) (fun sH => ?_)
            clear hK
            try simp only [Act.put, List.setIfInBounds_toArray, List.set_cons_succ]
            refine wpAnyH_ready (rs := [7]) (by kernel_rfl) (by simp) (AllReadyH.cons nthe7 (fun K9 hK => ?_) AllReadyH.nil)
            clear sH
            rw [if_pos (by rfl)]
            refine wp_allocF rfl ?_
            have B9 : Below w1.heap.size w1 ((wv8).alloc (.cells (arr fun _ => 0) 68)) := Below.trans B8 ((below_new (wv8) (.cells (arr fun _ => 0) 68)).mono (Below.size B8))
            have x9 := Ob.newA (wv8) (fun _ => 0) 68
            have l9 : w1.heap.size ≤ (wv8).heap.size := Below.size B8
            have m9 := (m8).below (below_new (wv8) (.cells (arr fun _ => 0) 68)) (m8).lt
            have z9 : bv7 < (wv8).heap.size := (m8).lt
            obtain ⟨wv9, hw9⟩ : ∃ wv, (wv8).alloc (.cells (arr fun _ => 0) 68) = wv := ⟨_, rfl⟩
            obtain ⟨bv9, hv9⟩ : ∃ bv, (wv8).heap.size = bv := ⟨_, rfl⟩
            rw [hw9] at B9 x9 m9 ⊢
            rw [hv9] at x9 l9 ⊢
            rw [hv9] at z9
            clear hw9 hv9
            refine hK.out _ _ (KS _ B9) (fun sH => ?_)
            clear hK
            try simp only [Act.put]
            refine wpAnyH_ready (rs := [8]) (by kernel_rfl) (by simp) (AllReadyH.cons nthe8 (fun K9 hK => ?_) AllReadyH.nil)
            clear sH
            rw [if_pos (by rfl)]
            have ne1 : bv7 ≠ bv9 := by omega
            have v0 := (m9).there
            have oy := (Only.refl bv7 wv9).setCs (nfL (.slice p0 n c0) (.slice p1 K c1) x0) 0
            have v1 := (m9).nput (.slice p0 n c0) (.slice p1 K c1) x0
            have v2 := (x9).only oy ne1.symm
            have v3 := Below.trans B9 (oy.below (B := w1.heap.size) (by omega))
            refine wp_stN _ _ rfl bv7 (.slice p0 n c0) (.slice p1 K c1) x0 rfl rfl rfl rfl v0 ?_
            obtain ⟨wp, hwp⟩ : ∃ wp, World.setCells wv9 bv7 0 (nfL (.slice p0 n c0) (.slice p1 K c1) x0) = wp := ⟨_, rfl⟩
            rw [hwp] at v1 v2 v3 ⊢
            clear hwp oy v0
            refine hK.out _ _ (KS _ v3) (fun sH => ?_)
            clear hK
            try simp only [Act.put, List.setIfInBounds_toArray]
            refine wpAnyH_ready (rs := [9]) (by kernel_rfl) (by simp) (AllReadyH.cons nthe9 (fun K9 hK => ?_) AllReadyH.nil)
            clear sH
            rw [if_pos (by rfl)]
            have v0 := v2.there
            have oy := (Only.refl bv9 wp).setCs Ly 0
            have v4 := v1.only oy ne1
            have v5 : World.rangeAt (wp.setCells bv9 0 Ly) bv9 0 Ly := World.rangeAt_setCells_same _ _ _ _ (by rw [nLy]; exact v0)
            have v6 := v3.trans (oy.below (B := w1.heap.size) (by omega))
            refine wp_stF _ _ rfl bv9 Ly rfl rfl nLy oLy v0 ?_
            obtain ⟨wq, hwq⟩ : ∃ wq, World.setCells wp bv9 0 Ly = wq := ⟨_, rfl⟩
            rw [hwq] at v4 v5 v6 ⊢
            clear hwq oy v0
            refine hK.out _ _ (KS _ v6) (fun sH => ?_)
            clear hK
            try simp only [Act.put]
            refine wpAnyH_done (by kernel_rfl) ?_ _
            refine NoPanic.normal ?_
            go_wp2_with fail
            go_meet
            exact ⟨_, _, rfl, rfl, v4.nall, v5, by omega, by omega, v6⟩
          · rw [if_pos (by rfl)]
            refine wp_allocF rfl ?_
            have B10 : Below w1.heap.size w1 ((wv7).alloc (.cells (arr fun _ => 0) 68)) := Below.trans B7 ((below_new (wv7) (.cells (arr fun _ => 0) 68)).mono (Below.size B7))
            have x10 := Ob.newA (wv7) (fun _ => 0) 68
            have l10 : w1.heap.size ≤ (wv7).heap.size := Below.size B7
            have m10 := (x7).below (below_new (wv7) (.cells (arr fun _ => 0) 68)) (x7).lt
            have z10 : bv7 < (wv7).heap.size := (x7).lt
            obtain ⟨wv10, hw10⟩ : ∃ wv, (wv7).alloc (.cells (arr fun _ => 0) 68) = wv := ⟨_, rfl⟩
            obtain ⟨bv10, hv10⟩ : ∃ bv, (wv7).heap.size = bv := ⟨_, rfl⟩
            rw [hw10] at B10 x10 m10 ⊢
            rw [hv10] at x10 l10 ⊢
            rw [hv10] at z10
            clear hw10 hv10
            refine hK.out _ _ (KS _ B10) (fun sH => ?_)
            clear hK
            try simp only [Act.put, List.setIfInBounds_toArray, List.set_cons_succ]
            refine wpAnyH_ready (rs := [5]) (by kernel_rfl) (by simp) (AllReadyH.cons nthe5 (fun K9 hK => ?_) AllReadyH.nil)
            clear sH
            go_simp
            refine (HCYC.out (wv10) B10).mono ?_
            rintro e wv11 ⟨rfl, hb11⟩
            have B11 : Below w1.heap.size w1 wv11 := Below.trans B10 (hb11.mono (Below.size B10))
            have m11 := (m10).below hb11 (m10).lt
            have k11 := (x10).below hb11 (x10).lt
            refine hK.out _ _ (KS _ B11) (fun sH => ?_)
            clear hK
            try simp only [Act.put, List.set_cons_succ]
            refine wpAnyH_ready (rs := [8]) (by kernel_rfl) (by simp) (AllReadyH.cons nthe8 (fun K9 hK => ?_) AllReadyH.nil)
            clear sH
            rw [if_pos (by rfl)]
            have ne1 : bv7 ≠ bv10 := by omega
            have v0 := (m11).there
            have oy := (Only.refl bv7 wv11).setCs (nfL (.slice p0 n c0) (.slice p1 K c1) x0) 0
            have v1 := (m11).nput (.slice p0 n c0) (.slice p1 K c1) x0
            have v2 := (k11).only oy ne1.symm
            have v3 := Below.trans B11 (oy.below (B := w1.heap.size) (by omega))
            refine wp_stN _ _ rfl bv7 (.slice p0 n c0) (.slice p1 K c1) x0 rfl rfl rfl rfl v0 ?_
            obtain ⟨wp, hwp⟩ : ∃ wp, World.setCells wv11 bv7 0 (nfL (.slice p0 n c0) (.slice p1 K c1) x0) = wp := ⟨_, rfl⟩
            rw [hwp] at v1 v2 v3 ⊢
            clear hwp oy v0
            refine hK.out _ _ (KS _ v3) (fun sH => ?_)
            clear hK
            try simp only [Act.put]
            refine wpAnyH_ready (rs := [9]) (by kernel_rfl) (by simp) (AllReadyH.cons nthe9 (fun K9 hK => ?_) AllReadyH.nil)
            clear sH
            rw [if_pos (by rfl)]
            have v0 := v2.there
            have oy := (Only.refl bv10 wp).setCs Ly 0
            have v4 := v1.only oy ne1
            have v5 : World.rangeAt (wp.setCells bv10 0 Ly) bv10 0 Ly := World.rangeAt_setCells_same _ _ _ _ (by rw [nLy]; exact v0)
            have v6 := v3.trans (oy.below (B := w1.heap.size) (by omega))
            refine wp_stF _ _ rfl bv10 Ly rfl rfl nLy oLy v0 ?_
            obtain ⟨wq, hwq⟩ : ∃ wq, World.setCells wp bv10 0 Ly = wq := ⟨_, rfl⟩
            rw [hwq] at v4 v5 v6 ⊢
            clear hwq oy v0
            refine hK.out _ _ (KS _ v6) (fun sH => ?_)
            clear hK
            try simp only [Act.put]
            refine wpAnyH_done (by kernel_rfl) ?_ _
            refine NoPanic.normal ?_
            go_wp2_with fail
            go_meet
            exact ⟨_, _, rfl, rfl, v4.nall, v5, by omega, by omega, v6⟩
        · rw [if_pos (by rfl)]
          refine wp_allocF rfl ?_
          have B12 : Below w1.heap.size w1 ((wv1).alloc (.cells (arr fun _ => 0) 68)) := Below.trans B1 ((below_new (wv1) (.cells (arr fun _ => 0) 68)).mono (Below.size B1))
          have x12 := Ob.newA (wv1) (fun _ => 0) 68
          have l12 : w1.heap.size ≤ (wv1).heap.size := Below.size B1
          obtain ⟨wv12, hw12⟩ : ∃ wv, (wv1).alloc (.cells (arr fun _ => 0) 68) = wv := ⟨_, rfl⟩
          obtain ⟨bv12, hv12⟩ : ∃ bv, (wv1).heap.size = bv := ⟨_, rfl⟩
          rw [hw12] at B12 x12 ⊢
          rw [hv12] at x12 l12 ⊢
          clear hw12 hv12
          refine hK.out _ _ (KS _ B12) (fun sH => ?_)
          clear hK
          try simp only [Act.put, List.setIfInBounds_toArray, List.set_cons_succ]
          refine wpAnyH_ready (rs := [5, 6]) (by kernel_rfl) (by simp) (AllReadyH.cons nthe5 (fun K9 hK => ?_) (AllReadyH.cons nthe6 (fun K9 hK => ?_) AllReadyH.nil))
          clear sH
          · go_simp
            refine (HCYC.out (wv12) B12).mono ?_
            rintro e wv13 ⟨rfl, hb13⟩
            have B13 : Below w1.heap.size w1 wv13 := Below.trans B12 (hb13.mono (Below.size B12))
            have k13 := (x12).below hb13 (x12).lt
            refine hK.out _ _ (KS _ B13) (fun sH => ?_)
            clear hK
            try simp only [Act.put, List.set_cons_succ]
            refine wpAnyH_ready (rs := [6]) (by kernel_rfl) (by simp) (AllReadyH.cons nthe6 (fun K9 hK => ?_) AllReadyH.nil)
            clear sH
            rw [if_pos (by rfl)]
            refine wp_allocN rfl ?_
            have B14 : Below w1.heap.size w1 ((wv13).alloc (.cells (nfL (.slice none 0 0) (.slice none 0 0) fun _ => 0).toArray 70)) := Below.trans B13 ((below_new (wv13) (.cells (nfL (.slice none 0 0) (.slice none 0 0) fun _ => 0).toArray 70)).mono (Below.size B13))
            have x14 := Ob.newN (wv13) (.slice none 0 0) (.slice none 0 0) (fun _ => 0) 70
            have l14 : w1.heap.size ≤ (wv13).heap.size := Below.size B13
            have k14 := (k13).below (below_new (wv13) (.cells (nfL (.slice none 0 0) (.slice none 0 0) fun _ => 0).toArray 70)) (k13).lt
            have z14 : bv12 < (wv13).heap.size := (k13).lt
            obtain ⟨wv14, hw14⟩ : ∃ wv, (wv13).alloc (.cells (nfL (.slice none 0 0) (.slice none 0 0) fun _ => 0).toArray 70) = wv := ⟨_, rfl⟩
            obtain ⟨bv14, hv14⟩ : ∃ bv, (wv13).heap.size = bv := ⟨_, rfl⟩
            rw [hw14] at B14 x14 k14 ⊢
            rw [hv14] at x14 l14 ⊢
            rw [hv14] at z14
            clear hw14 hv14
            refine hK.out _ _ (KS _ B14) (fun sH => ?_)
            clear hK
            try simp only [Act.put]
            refine wpAnyH_ready (rs := [8]) (by kernel_rfl) (by simp) (AllReadyH.cons nthe8 (fun K9 hK => ?_) AllReadyH.nil)
            clear sH
            rw [if_pos (by rfl)]
            have ne1 : bv14 ≠ bv12 := by omega
            have v0 := (x14).there
            have oy := (Only.refl bv14 wv14).setCs (nfL (.slice p0 n c0) (.slice p1 K c1) x0) 0
            have v1 := (x14).nput (.slice p0 n c0) (.slice p1 K c1) x0
            have v2 := (k14).only oy ne1.symm
            have v3 := Below.trans B14 (oy.below (B := w1.heap.size) (by omega))
            refine wp_stN _ _ rfl bv14 (.slice p0 n c0) (.slice p1 K c1) x0 rfl rfl rfl rfl v0 ?_
            obtain ⟨wp, hwp⟩ : ∃ wp, World.setCells wv14 bv14 0 (nfL (.slice p0 n c0) (.slice p1 K c1) x0) = wp := ⟨_, rfl⟩
            rw [hwp] at v1 v2 v3 ⊢
            clear hwp oy v0
            refine hK.out _ _ (KS _ v3) (fun sH => ?_)
            clear hK
            try simp only [Act.put, List.setIfInBounds_toArray]
            refine wpAnyH_ready (rs := [9]) (by kernel_rfl) (by simp) (AllReadyH.cons nthe9 (fun K9 hK => ?_) AllReadyH.nil)
            clear sH
            rw [if_pos (by rfl)]
            have v0 := v2.there
            have oy := (Only.refl bv12 wp).setCs Ly 0
            have v4 := v1.only oy ne1
            have v5 : World.rangeAt (wp.setCells bv12 0 Ly) bv12 0 Ly := World.rangeAt_setCells_same _ _ _ _ (by rw [nLy]; exact v0)
            have v6 := v3.trans (oy.below (B := w1.heap.size) (by omega))
            refine wp_stF _ _ rfl bv12 Ly rfl rfl nLy oLy v0 ?_
            obtain ⟨wq, hwq⟩ : ∃ wq, World.setCells wp bv12 0 Ly = wq := ⟨_, rfl⟩
            rw [hwq] at v4 v5 v6 ⊢
            clear hwq oy v0
            refine hK.out _ _ (KS _ v6) (fun sH => ?_)
            clear hK
            try simp only [Act.put]
            refine wpAnyH_done (by kernel_rfl) ?_ _
            refine NoPanic.normal ?_
            go_wp2_with fail
            go_meet
            exact ⟨_, _, rfl, rfl, v4.nall, v5, by omega, by omega, v6⟩
          · rw [if_pos (by rfl)]
            refine wp_allocN rfl ?_
            have B15 : Below w1.heap.size w1 ((wv12).alloc (.cells (nfL (.slice none 0 0) (.slice none 0 0) fun _ => 0).toArray 70)) := Below.trans B12 ((below_new (wv12) (.cells (nfL (.slice none 0 0) (.slice none 0 0) fun _ => 0).toArray 70)).mono (Below.size B12))
            have x15 := Ob.newN (wv12) (.slice none 0 0) (.slice none 0 0) (fun _ => 0) 70
            have l15 : w1.heap.size ≤ (wv12).heap.size := Below.size B12
            have k15 := (x12).below (below_new (wv12) (.cells (nfL (.slice none 0 0) (.slice none 0 0) fun _ => 0).toArray 70)) (x12).lt
            have z15 : bv12 < (wv12).heap.size := (x12).lt
            obtain ⟨wv15, hw15⟩ : ∃ wv, (wv12).alloc (.cells (nfL (.slice none 0 0) (.slice none 0 0) fun _ => 0).toArray 70) = wv := ⟨_, rfl⟩
            obtain ⟨bv15, hv15⟩ : ∃ bv, (wv12).heap.size = bv := ⟨_, rfl⟩
            rw [hw15] at B15 x15 k15 ⊢
            rw [hv15] at x15 l15 ⊢
            rw [hv15] at z15
            clear hw15 hv15
            refine hK.out _ _ (KS _ B15) (fun sH => ?_)
            clear hK
            try simp only [Act.put, List.setIfInBounds_toArray, List.set_cons_succ]
            refine wpAnyH_ready (rs := [5]) (by kernel_rfl) (by simp) (AllReadyH.cons nthe5 (fun K9 hK => ?_) AllReadyH.nil)
            clear sH
            go_simp
            refine (HCYC.out (wv15) B15).mono ?_
            rintro e wv16 ⟨rfl, hb16⟩
            have B16 : Below w1.heap.size w1 wv16 := Below.trans B15 (hb16.mono (Below.size B15))
            have m16 := (x15).below hb16 (x15).lt
            have k16 := (k15).below hb16 (k15).lt
            refine hK.out _ _ (KS _ B16) (fun sH => ?_)
            clear hK
            try simp only [Act.put, List.set_cons_succ]
            refine wpAnyH_ready (rs := [8]) (by kernel_rfl) (by simp) (AllReadyH.cons nthe8 (fun K9 hK => ?_) AllReadyH.nil)
            clear sH
            rw [if_pos (by rfl)]
            have ne1 : bv15 ≠ bv12 := by omega
            have v0 := (m16).there
            have oy := (Only.refl bv15 wv16).setCs (nfL (.slice p0 n c0) (.slice p1 K c1) x0) 0
            have v1 := (m16).nput (.slice p0 n c0) (.slice p1 K c1) x0
            have v2 := (k16).only oy ne1.symm
            have v3 := Below.trans B16 (oy.below (B := w1.heap.size) (by omega))
            refine wp_stN _ _ rfl bv15 (.slice p0 n c0) (.slice p1 K c1) x0 rfl rfl rfl rfl v0 ?_
            obtain ⟨wp, hwp⟩ : ∃ wp, World.setCells wv16 bv15 0 (nfL (.slice p0 n c0) (.slice p1 K c1) x0) = wp := ⟨_, rfl⟩
            rw [hwp] at v1 v2 v3 ⊢
            clear hwp oy v0
            refine hK.out _ _ (KS _ v3) (fun sH => ?_)
            clear hK
            try simp only [Act.put]
            refine wpAnyH_ready (rs := [9]) (by kernel_rfl) (by simp) (AllReadyH.cons nthe9 (fun K9 hK => ?_) AllReadyH.nil)
            clear sH
            rw [if_pos (by rfl)]
            have v0 := v2.there
            have oy := (Only.refl bv12 wp).setCs Ly 0
            have v4 := v1.only oy ne1
            have v5 : World.rangeAt (wp.setCells bv12 0 Ly) bv12 0 Ly := World.rangeAt_setCells_same _ _ _ _ (by rw [nLy]; exact v0)
            have v6 := v3.trans (oy.below (B := w1.heap.size) (by omega))
            refine wp_stF _ _ rfl bv12 Ly rfl rfl nLy oLy v0 ?_
            obtain ⟨wq, hwq⟩ : ∃ wq, World.setCells wp bv12 0 Ly = wq := ⟨_, rfl⟩
            rw [hwq] at v4 v5 v6 ⊢
            clear hwq oy v0
            refine hK.out _ _ (KS _ v6) (fun sH => ?_)
            clear hK
            try simp only [Act.put]
            refine wpAnyH_done (by kernel_rfl) ?_ _
            refine NoPanic.normal ?_
            go_wp2_with fail
            go_meet
            exact ⟨_, _, rfl, rfl, v4.nall, v5, by omega, by omega, v6⟩
      · rw [if_pos (by rfl)]
        refine wp_allocN rfl ?_
        have B17 : Below w1.heap.size w1 ((w1.drew).alloc (.cells (nfL (.slice none 0 0) (.slice none 0 0) fun _ => 0).toArray 70)) := Below.trans (below_drw (Below.refl w1.heap.size w1)) ((below_new (w1.drew) (.cells (nfL (.slice none 0 0) (.slice none 0 0) fun _ => 0).toArray 70)).mono (Below.size (below_drw (Below.refl w1.heap.size w1))))
        have x17 := Ob.newN (w1.drew) (.slice none 0 0) (.slice none 0 0) (fun _ => 0) 70
        have l17 : w1.heap.size ≤ (w1.drew).heap.size := Below.size (below_drw (Below.refl w1.heap.size w1))
        obtain ⟨wv17, hw17⟩ : ∃ wv, (w1.drew).alloc (.cells (nfL (.slice none 0 0) (.slice none 0 0) fun _ => 0).toArray 70) = wv := ⟨_, rfl⟩
        obtain ⟨bv17, hv17⟩ : ∃ bv, (w1.drew).heap.size = bv := ⟨_, rfl⟩
        rw [hw17] at B17 x17 ⊢
        rw [hv17] at x17 l17 ⊢
        clear hw17 hv17
        refine hK.out _ _ (KS _ B17) (fun sH => ?_)
        clear hK
        try simp only [Act.put]
        refine wpAnyH_ready (rs := [2, 7]) (by kernel_rfl) (by simp) (AllReadyH.cons nthe2 (fun K9 hK => ?_) (AllReadyH.cons nthe7 (fun K9 hK => ?_) AllReadyH.nil))
        clear sH
        · go_simp
          refine (HWF.out (wv17) B17).mono ?_
          rintro e wv18 ⟨rfl, hb18⟩
          have B18 : Below w1.heap.size w1 wv18 := Below.trans B17 (hb18.mono (Below.size B17))
          have m18 := (x17).below hb18 (x17).lt
          refine hK.out _ _ (KS _ B18) (fun sH => ?_)
          clear hK
          try simp only [Act.put, List.set_cons_succ]
          refine wpAnyH_ready (rs := [5, 7]) (by kernel_rfl) (by simp) (AllReadyH.cons nthe5 (fun K9 hK => ?_) (AllReadyH.cons nthe7 (fun K9 hK => ?_) AllReadyH.nil))
          clear sH
          · go_simp
            refine (HCYC.out (wv18) B18).mono ?_
            rintro e wv19 ⟨rfl, hb19⟩
            have B19 : Below w1.heap.size w1 wv19 := Below.trans B18 (hb19.mono (Below.size B18))
            have m19 := (m18).below hb19 (m18).lt
            refine hK.out _ _ (KS _ B19) (fun sH => ?_)
            clear hK
            try simp only [Act.put, List.set_cons_succ]
            refine wpAnyH_ready (rs := [7]) (by kernel_rfl) (by simp) (AllReadyH.cons nthe7 (fun K9 hK => ?_) AllReadyH.nil)
            clear sH
            rw [if_pos (by rfl)]
            refine wp_allocF rfl ?_
            have B20 : Below w1.heap.size w1 ((wv19).alloc (.cells (arr fun _ => 0) 68)) := Below.trans B19 ((below_new (wv19) (.cells (arr fun _ => 0) 68)).mono (Below.size B19))
            have x20 := Ob.newA (wv19) (fun _ => 0) 68
            have l20 : w1.heap.size ≤ (wv19).heap.size := Below.size B19
            have m20 := (m19).below (below_new (wv19) (.cells (arr fun _ => 0) 68)) (m19).lt
            have z20 : bv17 < (wv19).heap.size := (m19).lt
            obtain ⟨wv20, hw20⟩ : ∃ wv, (wv19).alloc (.cells (arr fun _ => 0) 68) = wv := ⟨_, rfl⟩
            obtain ⟨bv20, hv20⟩ : ∃ bv, (wv19).heap.size = bv := ⟨_, rfl⟩
            rw [hw20] at B20 x20 m20 ⊢
            rw [hv20] at x20 l20 ⊢
            rw [hv20] at z20
            clear hw20 hv20
            refine hK.out _ _ (KS _ B20) (fun sH => ?_)
            clear hK
            try simp only [Act.put]
            refine wpAnyH_ready (rs := [8]) (by kernel_rfl) (by simp) (AllReadyH.cons nthe8 (fun K9 hK => ?_) AllReadyH.nil)
            clear sH
            rw [if_pos (by rfl)]
            have ne1 : bv17 ≠ bv20 := by omega
            have v0 := (m20).there
            have oy := (Only.refl bv17 wv20).setCs (nfL (.slice p0 n c0) (.slice p1 K c1) x0) 0
            have v1 := (m20).nput (.slice p0 n c0) (.slice p1 K c1) x0
            have v2 := (x20).only oy ne1.symm
            have v3 := Below.trans B20 (oy.below (B := w1.heap.size) (by omega))
            refine wp_stN _ _ rfl bv17 (.slice p0 n c0) (.slice p1 K c1) x0 rfl rfl rfl rfl v0 ?_
            obtain ⟨wp, hwp⟩ : ∃ wp, World.setCells wv20 bv17 0 (nfL (.slice p0 n c0) (.slice p1 K c1) x0) = wp := ⟨_, rfl⟩
            rw [hwp] at v1 v2 v3 ⊢
            clear hwp oy v0
            refine hK.out _ _ (KS _ v3) (fun sH => ?_)
            clear hK
            try simp only [Act.put, List.setIfInBounds_toArray]
            refine wpAnyH_ready (rs := [9]) (by kernel_rfl) (by simp) (AllReadyH.cons nthe9 (fun K9 hK => ?_) AllReadyH.nil)
            clear sH
            rw [if_pos (by rfl)]
            have v0 := v2.there
            have oy := (Only.refl bv20 wp).setCs Ly 0
            have v4 := v1.only oy ne1
            have v5 : World.rangeAt (wp.setCells bv20 0 Ly) bv20 0 Ly := World.rangeAt_setCells_same _ _ _ _ (by rw [nLy]; exact v0)
            have v6 := v3.trans (oy.below (B := w1.heap.size) (by omega))
            refine wp_stF _ _ rfl bv20 Ly rfl rfl nLy oLy v0 ?_
            obtain ⟨wq, hwq⟩ : ∃ wq, World.setCells wp bv20 0 Ly = wq := ⟨_, rfl⟩
            rw [hwq] at v4 v5 v6 ⊢
            clear hwq oy v0
            refine hK.out _ _ (KS _ v6) (fun sH => ?_)
            clear hK
            try simp only [Act.put]
            refine wpAnyH_done (by kernel_rfl) ?_ _
            refine NoPanic.normal ?_
            go_wp2_with fail
            go_meet
            exact ⟨_, _, rfl, rfl, v4.nall, v5, by omega, by omega, v6⟩
          · rw [if_pos (by rfl)]
            refine wp_allocF rfl ?_
            have B21 : Below w1.heap.size w1 ((wv18).alloc (.cells (arr fun _ => 0) 68)) := Below.trans B18 ((below_new (wv18) (.cells (arr fun _ => 0) 68)).mono (Below.size B18))
            have x21 := Ob.newA (wv18) (fun _ => 0) 68
            have l21 : w1.heap.size ≤ (wv18).heap.size := Below.size B18
            have m21 := (m18).below (below_new (wv18) (.cells (arr fun _ => 0) 68)) (m18).lt
            have z21 : bv17 < (wv18).heap.size := (m18).lt
            obtain ⟨wv21, hw21⟩ : ∃ wv, (wv18).alloc (.cells (arr fun _ => 0) 68) = wv := ⟨_, rfl⟩
            obtain ⟨bv21, hv21⟩ : ∃ bv, (wv18).heap.size = bv := ⟨_, rfl⟩
            rw [hw21] at B21 x21 m21 ⊢
            rw [hv21] at x21 l21 ⊢
            rw [hv21] at z21
            clear hw21 hv21
            refine hK.out _ _ (KS _ B21) (fun sH => ?_)
            clear hK
            try simp only [Act.put]
            refine wpAnyH_ready (rs := [5]) (by kernel_rfl) (by simp) (AllReadyH.cons nthe5 (fun K9 hK => ?_) AllReadyH.nil)
            clear sH
            go_simp
            refine (HCYC.out (wv21) B21).mono ?_
            rintro e wv22 ⟨rfl, hb22⟩
            have B22 : Below w1.heap.size w1 wv22 := Below.trans B21 (hb22.mono (Below.size B21))
            have m22 := (m21).below hb22 (m21).lt
            have k22 := (x21).below hb22 (x21).lt
            refine hK.out _ _ (KS _ B22) (fun sH => ?_)
            clear hK
            try simp only [Act.put, List.set_cons_succ]
            refine wpAnyH_ready (rs := [8]) (by kernel_rfl) (by simp) (AllReadyH.cons nthe8 (fun K9 hK => ?_) AllReadyH.nil)
            clear sH
            rw [if_pos (by rfl)]
            have ne1 : bv17 ≠ bv21 := by omega
            have v0 := (m22).there
            have oy := (Only.refl bv17 wv22).setCs (nfL (.slice p0 n c0) (.slice p1 K c1) x0) 0
            have v1 := (m22).nput (.slice p0 n c0) (.slice p1 K c1) x0
            have v2 := (k22).only oy ne1.symm
            have v3 := Below.trans B22 (oy.below (B := w1.heap.size) (by omega))
            refine wp_stN _ _ rfl bv17 (.slice p0 n c0) (.slice p1 K c1) x0 rfl rfl rfl rfl v0 ?_
            obtain ⟨wp, hwp⟩ : ∃ wp, World.setCells wv22 bv17 0 (nfL (.slice p0 n c0) (.slice p1 K c1) x0) = wp := ⟨_, rfl⟩
            rw [hwp] at v1 v2 v3 ⊢
            clear hwp oy v0
            refine hK.out _ _ (KS _ v3) (fun sH => ?_)
            clear hK
            try simp only [Act.put]
            refine wpAnyH_ready (rs := [9]) (by kernel_rfl) (by simp) (AllReadyH.cons nthe9 (fun K9 hK => ?_) AllReadyH.nil)
            clear sH
            rw [if_pos (by rfl)]
            have v0 := v2.there
            have oy := (Only.refl bv21 wp).setCs Ly 0
            have v4 := v1.only oy ne1
            have v5 : World.rangeAt (wp.setCells bv21 0 Ly) bv21 0 Ly := World.rangeAt_setCells_same _ _ _ _ (by rw [nLy]; exact v0)
            have v6 := v3.trans (oy.below (B := w1.heap.size) (by omega))
            refine wp_stF _ _ rfl bv21 Ly rfl rfl nLy oLy v0 ?_
            obtain ⟨wq, hwq⟩ : ∃ wq, World.setCells wp bv21 0 Ly = wq := ⟨_, rfl⟩
            rw [hwq] at v4 v5 v6 ⊢
            clear hwq oy v0
            refine hK.out _ _ (KS _ v6) (fun sH => ?_)
            clear hK
            try simp only [Act.put]
            refine wpAnyH_done (by kernel_rfl) ?_ _
            refine NoPanic.normal ?_
            go_wp2_with fail
            go_meet
            exact ⟨_, _, rfl, rfl, v4.nall, v5, by omega, by omega, v6⟩
        · rw [if_pos (by rfl)]
          refine wp_allocF rfl ?_
          have B23 : Below w1.heap.size w1 ((wv17).alloc (.cells (arr fun _ => 0) 68)) := Below.trans B17 ((below_new (wv17) (.cells (arr fun _ => 0) 68)).mono (Below.size B17))
          have x23 := Ob.newA (wv17) (fun _ => 0) 68
          have l23 : w1.heap.size ≤ (wv17).heap.size := Below.size B17
          have m23 := (x17).below (below_new (wv17) (.cells (arr fun _ => 0) 68)) (x17).lt
          have z23 : bv17 < (wv17).heap.size := (x17).lt
          obtain ⟨wv23, hw23⟩ : ∃ wv, (wv17).alloc (.cells (arr fun _ => 0) 68) = wv := ⟨_, rfl⟩
          obtain ⟨bv23, hv23⟩ : ∃ bv, (wv17).heap.size = bv := ⟨_, rfl⟩
          rw [hw23] at B23 x23 m23 ⊢
          rw [hv23] at x23 l23 ⊢
          rw [hv23] at z23
          clear hw23 hv23
          refine hK.out _ _ (KS _ B23) (fun sH => ?_)
          clear hK
          try simp only [Act.put]
          refine wpAnyH_ready (rs := [2]) (by kernel_rfl) (by simp) (AllReadyH.cons nthe2 (fun K9 hK => ?_) AllReadyH.nil)
          clear sH
          go_simp
          refine (HWF.out (wv23) B23).mono ?_
          rintro e wv24 ⟨rfl, hb24⟩
          have B24 : Below w1.heap.size w1 wv24 := Below.trans B23 (hb24.mono (Below.size B23))
          have m24 := (m23).below hb24 (m23).lt
          have k24 := (x23).below hb24 (x23).lt
          refine hK.out _ _ (KS _ B24) (fun sH => ?_)
          clear hK
          try simp only [Act.put, List.set_cons_succ]
          refine wpAnyH_ready (rs := [5]) (by kernel_rfl) (by simp) (AllReadyH.cons nthe5 (fun K9 hK => ?_) AllReadyH.nil)
          clear sH
          go_simp
          refine (HCYC.out (wv24) B24).mono ?_
          rintro e wv25 ⟨rfl, hb25⟩
          have B25 : Below w1.heap.size w1 wv25 := Below.trans B24 (hb25.mono (Below.size B24))
          have m25 := (m24).below hb25 (m24).lt
          have k25 := (k24).below hb25 (k24).lt
          refine hK.out _ _ (KS _ B25) (fun sH => ?_)
          clear hK
          try simp only [Act.put, List.set_cons_succ]
          refine wpAnyH_ready (rs := [8]) (by kernel_rfl) (by simp) (AllReadyH.cons nthe8 (fun K9 hK => ?_) AllReadyH.nil)
          clear sH
          rw [if_pos (by rfl)]
          have ne1 : bv17 ≠ bv23 := by omega
          have v0 := (m25).there
          have oy := (Only.refl bv17 wv25).setCs (nfL (.slice p0 n c0) (.slice p1 K c1) x0) 0
          have v1 := (m25).nput (.slice p0 n c0) (.slice p1 K c1) x0
          have v2 := (k25).only oy ne1.symm
          have v3 := Below.trans B25 (oy.below (B := w1.heap.size) (by omega))
          refine wp_stN _ _ rfl bv17 (.slice p0 n c0) (.slice p1 K c1) x0 rfl rfl rfl rfl v0 ?_
          obtain ⟨wp, hwp⟩ : ∃ wp, World.setCells wv25 bv17 0 (nfL (.slice p0 n c0) (.slice p1 K c1) x0) = wp := ⟨_, rfl⟩
          rw [hwp] at v1 v2 v3 ⊢
          clear hwp oy v0
          refine hK.out _ _ (KS _ v3) (fun sH => ?_)
          clear hK
          try simp only [Act.put]
          refine wpAnyH_ready (rs := [9]) (by kernel_rfl) (by simp) (AllReadyH.cons nthe9 (fun K9 hK => ?_) AllReadyH.nil)
          clear sH
          rw [if_pos (by rfl)]
          have v0 := v2.there
          have oy := (Only.refl bv23 wp).setCs Ly 0
          have v4 := v1.only oy ne1
          have v5 : World.rangeAt (wp.setCells bv23 0 Ly) bv23 0 Ly := World.rangeAt_setCells_same _ _ _ _ (by rw [nLy]; exact v0)
          have v6 := v3.trans (oy.below (B := w1.heap.size) (by omega))
          refine wp_stF _ _ rfl bv23 Ly rfl rfl nLy oLy v0 ?_
          obtain ⟨wq, hwq⟩ : ∃ wq, World.setCells wp bv23 0 Ly = wq := ⟨_, rfl⟩
          rw [hwq] at v4 v5 v6 ⊢
          clear hwq oy v0
          refine hK.out _ _ (KS _ v6) (fun sH => ?_)
          clear hK
          try simp only [Act.put]
          refine wpAnyH_done (by kernel_rfl) ?_ _
          refine NoPanic.normal ?_
          go_wp2_with fail
          go_meet
          exact ⟨_, _, rfl, rfl, v4.nall, v5, by omega, by omega, v6⟩
      · rw [if_pos (by rfl)]
        refine wp_allocF rfl ?_
        have B26 : Below w1.heap.size w1 ((w1.drew).alloc (.cells (arr fun _ => 0) 68)) := Below.trans (below_drw (Below.refl w1.heap.size w1)) ((below_new (w1.drew) (.cells (arr fun _ => 0) 68)).mono (Below.size (below_drw (Below.refl w1.heap.size w1))))
        have x26 := Ob.newA (w1.drew) (fun _ => 0) 68
        have l26 : w1.heap.size ≤ (w1.drew).heap.size := Below.size (below_drw (Below.refl w1.heap.size w1))
        obtain ⟨wv26, hw26⟩ : ∃ wv, (w1.drew).alloc (.cells (arr fun _ => 0) 68) = wv := ⟨_, rfl⟩
        obtain ⟨bv26, hv26⟩ : ∃ bv, (w1.drew).heap.size = bv := ⟨_, rfl⟩
        rw [hw26] at B26 x26 ⊢
        rw [hv26] at x26 l26 ⊢
        clear hw26 hv26
        refine hK.out _ _ (KS _ B26) (fun sH => ?_)
        clear hK
        try simp only [Act.put]
        refine wpAnyH_ready (rs := [2, 6]) (by kernel_rfl) (by simp) (AllReadyH.cons nthe2 (fun K9 hK => ?_) (AllReadyH.cons nthe6 (fun K9 hK => ?_) AllReadyH.nil))
        clear sH
        · go_simp
          refine (HWF.out (wv26) B26).mono ?_
          rintro e wv27 ⟨rfl, hb27⟩
          have B27 : Below w1.heap.size w1 wv27 := Below.trans B26 (hb27.mono (Below.size B26))
          have k27 := (x26).below hb27 (x26).lt
          refine hK.out _ _ (KS _ B27) (fun sH => ?_)
          clear hK
          try simp only [Act.put, List.set_cons_succ]
          refine wpAnyH_ready (rs := [5, 6]) (by kernel_rfl) (by simp) (AllReadyH.cons nthe5 (fun K9 hK => ?_) (AllReadyH.cons nthe6 (fun K9 hK => ?_) AllReadyH.nil))
          clear sH
          · go_simp
            refine (HCYC.out (wv27) B27).mono ?_
            rintro e wv28 ⟨rfl, hb28⟩
            have B28 : Below w1.heap.size w1 wv28 := Below.trans B27 (hb28.mono (Below.size B27))
            have k28 := (k27).below hb28 (k27).lt
            refine hK.out _ _ (KS _ B28) (fun sH => ?_)
            clear hK
            try simp only [Act.put, List.set_cons_zero, List.set_cons_succ]
            refine wpAnyH_ready (rs := [6]) (by kernel_rfl) (by simp) (AllReadyH.cons nthe6 (fun K9 hK => ?_) AllReadyH.nil)
            clear sH
            rw [if_pos (by rfl)]
            refine wp_allocN rfl ?_
            have B29 : Below w1.heap.size w1 ((wv28).alloc (.cells (nfL (.slice none 0 0) (.slice none 0 0) fun _ => 0).toArray 70)) := Below.trans B28 ((below_new (wv28) (.cells (nfL (.slice none 0 0) (.slice none 0 0) fun _ => 0).toArray 70)).mono (Below.size B28))
            have x29 := Ob.newN (wv28) (.slice none 0 0) (.slice none 0 0) (fun _ => 0) 70
            have l29 : w1.heap.size ≤ (wv28).heap.size := Below.size B28
            have k29 := (k28).below (below_new (wv28) (.cells (nfL (.slice none 0 0) (.slice none 0 0) fun _ => 0).toArray 70)) (k28).lt
            have z29 : bv26 < (wv28).heap.size := (k28).lt
            obtain ⟨wv29, hw29⟩ : ∃ wv, (wv28).alloc (.cells (nfL (.slice none 0 0) (.slice none 0 0) fun _ => 0).toArray 70) = wv := ⟨_, rfl⟩
            obtain ⟨bv29, hv29⟩ : ∃ bv, (wv28).heap.size = bv := ⟨_, rfl⟩
            rw [hw29] at B29 x29 k29 ⊢
            rw [hv29] at x29 l29 ⊢
            rw [hv29] at z29
            clear hw29 hv29
            refine hK.out _ _ (KS _ B29) (fun sH => ?_)
            clear hK
            try simp only [Act.put]
            refine wpAnyH_ready (rs := [8]) (by kernel_rfl) (by simp) (AllReadyH.cons nthe8 (fun K9 hK => ?_) AllReadyH.nil)
            clear sH
            rw [if_pos (by rfl)]
            have ne1 : bv29 ≠ bv26 := by omega
            have v0 := (x29).there
            have oy := (Only.refl bv29 wv29).setCs (nfL (.slice p0 n c0) (.slice p1 K c1) x0) 0
            have v1 := (x29).nput (.slice p0 n c0) (.slice p1 K c1) x0
            have v2 := (k29).only oy ne1.symm
            have v3 := Below.trans B29 (oy.below (B := w1.heap.size) (by omega))
            refine wp_stN _ _ rfl bv29 (.slice p0 n c0) (.slice p1 K c1) x0 rfl rfl rfl rfl v0 ?_
            obtain ⟨wp, hwp⟩ : ∃ wp, World.setCells wv29 bv29 0 (nfL (.slice p0 n c0) (.slice p1 K c1) x0) = wp := ⟨_, rfl⟩
            rw [hwp] at v1 v2 v3 ⊢
            clear hwp oy v0
            refine hK.out _ _ (KS _ v3) (fun sH => ?_)
            clear hK
            try simp only [Act.put]
            refine wpAnyH_ready (rs := [9]) (by kernel_rfl) (by simp) (AllReadyH.cons nthe9 (fun K9 hK => ?_) AllReadyH.nil)
            clear sH
            rw [if_pos (by rfl)]
            have v0 := v2.there
            have oy := (Only.refl bv26 wp).setCs Ly 0
            have v4 := v1.only oy ne1
            have v5 : World.rangeAt (wp.setCells bv26 0 Ly) bv26 0 Ly := World.rangeAt_setCells_same _ _ _ _ (by rw [nLy]; exact v0)
            have v6 := v3.trans (oy.below (B := w1.heap.size) (by omega))
            refine wp_stF _ _ rfl bv26 Ly rfl rfl nLy oLy v0 ?_
            obtain ⟨wq, hwq⟩ : ∃ wq, World.setCells wp bv26 0 Ly = wq := ⟨_, rfl⟩
            rw [hwq] at v4 v5 v6 ⊢
            clear hwq oy v0
            refine hK.out _ _ (KS _ v6) (fun sH => ?_)
            clear hK
            try simp only [Act.put, List.setIfInBounds_toArray]
            refine wpAnyH_done (by kernel_rfl) ?_ _
            refine NoPanic.normal ?_
            go_wp2_with fail
            go_meet
            exact ⟨_, _, rfl, rfl, v4.nall, v5, by omega, by omega, v6⟩
          · rw [if_pos (by rfl)]
            refine wp_allocN rfl ?_
            have B30 : Below w1.heap.size w1 ((wv27).alloc (.cells (nfL (.slice none 0 0) (.slice none 0 0) fun _ => 0).toArray 70)) := Below.trans B27 ((below_new (wv27) (.cells (nfL (.slice none 0 0) (.slice none 0 0) fun _ => 0).toArray 70)).mono (Below.size B27))
            have x30 := Ob.newN (wv27) (.slice none 0 0) (.slice none 0 0) (fun _ => 0) 70
            have l30 : w1.heap.size ≤ (wv27).heap.size := Below.size B27
            have k30 := (k27).below (below_new (wv27) (.cells (nfL (.slice none 0 0) (.slice none 0 0) fun _ => 0).toArray 70)) (k27).lt
            have z30 : bv26 < (wv27).heap.size := (k27).lt
            obtain ⟨wv30, hw30⟩ : ∃ wv, (wv27).alloc (.cells (nfL (.slice none 0 0) (.slice none 0 0) fun _ => 0).toArray 70) = wv := ⟨_, rfl⟩
            obtain ⟨bv30, hv30⟩ : ∃ bv, (wv27).heap.size = bv := ⟨_, rfl⟩
            rw [hw30] at B30 x30 k30 ⊢
            rw [hv30] at x30 l30 ⊢
            rw [hv30] at z30
            clear hw30 hv30
            refine hK.out _ _ (KS _ B30) (fun sH => ?_)
            clear hK
            try simp only [Act.put]
            refine wpAnyH_ready (rs := [5]) (by kernel_rfl) (by simp) (AllReadyH.cons nthe5 (fun K9 hK => ?_) AllReadyH.nil)
            clear sH
            go_simp
            refine (HCYC.out (wv30) B30).mono ?_
            rintro e wv31 ⟨rfl, hb31⟩
            have B31 : Below w1.heap.size w1 wv31 := Below.trans B30 (hb31.mono (Below.size B30))
            have m31 := (x30).below hb31 (x30).lt
            have k31 := (k30).below hb31 (k30).lt
            refine hK.out _ _ (KS _ B31) (fun sH => ?_)
            clear hK
            try simp only [Act.put, List.set_cons_zero, List.set_cons_succ]
            refine wpAnyH_ready (rs := [8]) (by kernel_rfl) (by simp) (AllReadyH.cons nthe8 (fun K9 hK => ?_) AllReadyH.nil)
            clear sH
            rw [if_pos (by rfl)]
            have ne1 : bv30 ≠ bv26 := by omega
            have v0 := (m31).there
            have oy := (Only.refl bv30 wv31).setCs (nfL (.slice p0 n c0) (.slice p1 K c1) x0) 0
            have v1 := (m31).nput (.slice p0 n c0) (.slice p1 K c1) x0
            have v2 := (k31).only oy ne1.symm
            have v3 := Below.trans B31 (oy.below (B := w1.heap.size) (by omega))
            refine wp_stN _ _ rfl bv30 (.slice p0 n c0) (.slice p1 K c1) x0 rfl rfl rfl rfl v0 ?_
            obtain ⟨wp, hwp⟩ : ∃ wp, World.setCells wv31 bv30 0 (nfL (.slice p0 n c0) (.slice p1 K c1) x0) = wp := ⟨_, rfl⟩
            rw [hwp] at v1 v2 v3 ⊢
            clear hwp oy v0
            refine hK.out _ _ (KS _ v3) (fun sH => ?_)
            clear hK
            try simp only [Act.put]
            refine wpAnyH_ready (rs := [9]) (by kernel_rfl) (by simp) (AllReadyH.cons nthe9 (fun K9 hK => ?_) AllReadyH.nil)
            clear sH
            rw [if_pos (by rfl)]
            have v0 := v2.there
            have oy := (Only.refl bv26 wp).setCs Ly 0
            have v4 := v1.only oy ne1
            have v5 : World.rangeAt (wp.setCells bv26 0 Ly) bv26 0 Ly := World.rangeAt_setCells_same _ _ _ _ (by rw [nLy]; exact v0)
            have v6 := v3.trans (oy.below (B := w1.heap.size) (by omega))
            refine wp_stF _ _ rfl bv26 Ly rfl rfl nLy oLy v0 ?_
            obtain ⟨wq, hwq⟩ : ∃ wq, World.setCells wp bv26 0 Ly = wq := ⟨_, rfl⟩
            rw [hwq] at v4 v5 v6 ⊢
            clear hwq oy v0
            refine hK.out _ _ (KS _ v6) (fun sH => ?_)
            clear hK
            try simp only [Act.put]
            refine wpAnyH_done (by kernel_rfl) ?_ _
            refine NoPanic.normal ?_
            go_wp2_with fail
            go_meet
            exact ⟨_, _, rfl, rfl, v4.nall, v5, by omega, by omega, v6⟩
        · rw [if_pos (by rfl)]
          refine wp_allocN rfl ?_
          have B32 : Below w1.heap.size w1 ((wv26).alloc (.cells (nfL (.slice none 0 0) (.slice none 0 0) fun _ => 0).toArray 70)) := Below.trans B26 ((below_new (wv26) (.cells (nfL (.slice none 0 0) (.slice none 0 0) fun _ => 0).toArray 70)).mono (Below.size B26))
          have x32 := Ob.newN (wv26) (.slice none 0 0) (.slice none 0 0) (fun _ => 0) 70
          have l32 : w1.heap.size ≤ (wv26).heap.size := Below.size B26
          have k32 := (x26).below (below_new (wv26) (.cells (nfL (.slice none 0 0) (.slice none 0 0) fun _ => 0).toArray 70)) (x26).lt
          have z32 : bv26 < (wv26).heap.size := (x26).lt
          obtain ⟨wv32, hw32⟩ : ∃ wv, (wv26).alloc (.cells (nfL (.slice none 0 0) (.slice none 0 0) fun _ => 0).toArray 70) = wv := ⟨_, rfl⟩
          obtain ⟨bv32, hv32⟩ : ∃ bv, (wv26).heap.size = bv := ⟨_, rfl⟩
          rw [hw32] at B32 x32 k32 ⊢
          rw [hv32] at x32 l32 ⊢
          rw [hv32] at z32
          clear hw32 hv32
          refine hK.out _ _ (KS _ B32) (fun sH => ?_)
          clear hK
          try simp only [Act.put]
          refine wpAnyH_ready (rs := [2]) (by kernel_rfl) (by simp) (AllReadyH.cons nthe2 (fun K9 hK => ?_) AllReadyH.nil)
          clear sH
          go_simp
          refine (HWF.out (wv32) B32).mono ?_
          rintro e wv33 ⟨rfl, hb33⟩
          have B33 : Below w1.heap.size w1 wv33 := Below.trans B32 (hb33.mono (Below.size B32))
          have m33 := (x32).below hb33 (x32).lt
          have k33 := (k32).below hb33 (k32).lt
          refine hK.out _ _ (KS _ B33) (fun sH => ?_)
          clear hK
          try simp only [Act.put, List.set_cons_succ]
          refine wpAnyH_ready (rs := [5]) (by kernel_rfl) (by simp) (AllReadyH.cons nthe5 (fun K9 hK => ?_) AllReadyH.nil)
          clear sH
          go_simp
          refine (HCYC.out (wv33) B33).mono ?_
          rintro e wv34 ⟨rfl, hb34⟩
          have B34 : Below w1.heap.size w1 wv34 := Below.trans B33 (hb34.mono (Below.size B33))
          have m34 := (m33).below hb34 (m33).lt
          have k34 := (k33).below hb34 (k33).lt
          refine hK.out _ _ (KS _ B34) (fun sH => ?_)
          clear hK
          try simp only [Act.put, List.set_cons_succ]
          refine wpAnyH_ready (rs := [8]) (by kernel_rfl) (by simp) (AllReadyH.cons nthe8 (fun K9 hK => ?_) AllReadyH.nil)
          clear sH
          rw [if_pos (by rfl)]
          have ne1 : bv32 ≠ bv26 := by omega
          have v0 := (m34).there
          have oy := (Only.refl bv32 wv34).setCs (nfL (.slice p0 n c0) (.slice p1 K c1) x0) 0
          have v1 := (m34).nput (.slice p0 n c0) (.slice p1 K c1) x0
          have v2 := (k34).only oy ne1.symm
          have v3 := Below.trans B34 (oy.below (B := w1.heap.size) (by omega))
          refine wp_stN _ _ rfl bv32 (.slice p0 n c0) (.slice p1 K c1) x0 rfl rfl rfl rfl v0 ?_
          obtain ⟨wp, hwp⟩ : ∃ wp, World.setCells wv34 bv32 0 (nfL (.slice p0 n c0) (.slice p1 K c1) x0) = wp := ⟨_, rfl⟩
          rw [hwp] at v1 v2 v3 ⊢
          clear hwp oy v0
          refine hK.out _ _ (KS _ v3) (fun sH => ?_)
          clear hK
          try simp only [Act.put]
          refine wpAnyH_ready (rs := [9]) (by kernel_rfl) (by simp) (AllReadyH.cons nthe9 (fun K9 hK => ?_) AllReadyH.nil)
          clear sH
          rw [if_pos (by rfl)]
          have v0 := v2.there
          have oy := (Only.refl bv26 wp).setCs Ly 0
          have v4 := v1.only oy ne1
          have v5 : World.rangeAt (wp.setCells bv26 0 Ly) bv26 0 Ly := World.rangeAt_setCells_same _ _ _ _ (by rw [nLy]; exact v0)
          have v6 := v3.trans (oy.below (B := w1.heap.size) (by omega))
          refine wp_stF _ _ rfl bv26 Ly rfl rfl nLy oLy v0 ?_
          obtain ⟨wq, hwq⟩ : ∃ wq, World.setCells wp bv26 0 Ly = wq := ⟨_, rfl⟩
          rw [hwq] at v4 v5 v6 ⊢
          clear hwq oy v0
          refine hK.out _ _ (KS _ v6) (fun sH => ?_)
          clear hK
          try simp only [Act.put]
          refine wpAnyH_done (by kernel_rfl) ?_ _
          refine NoPanic.normal ?_
          go_wp2_with fail
          go_meet
          exact ⟨_, _, rfl, rfl, v4.nall, v5, by omega, by omega, v6⟩
    case rest =>
      obtain ⟨b9, b10, rfl, rfl, g9, g10, l9, l10, hbx⟩ := hcut
      clear KS
      have z2 := hbx.size
      have i9 : b9 < wc.heap.size := rangeAt_lt g9 (by rw [nfL_len]; omega)
      have i10 : b10 < wc.heap.size := rangeAt_lt g10 (by rw [nLy]; omega)
      have g0 := range2 ((hbx.cell (p := ⟨w.heap.size, 0, none⟩) e2).trans e0) ((hbx.cell (p := ⟨w.heap.size, 1, none⟩) e2).trans e1)
      have B2 := B1.trans (hbx.mono (by omega))
      have hw2 : w.heap.size ≤ wc.heap.size := by omega
      have hi2 : hi ≤ wc.heap.size := by omega
      have KS : ∀ W : World, Below wc.heap.size wc W → (Below wc.heap.size wc W ∧ W.rangeAt w.heap.size 0 [.slice p0 n c0, .slice p1 K c1] ∧ W.rangeAt b9 0 (nfL (.slice p0 n c0) (.slice p1 K c1) x0) ∧ W.rangeAt b10 0 Ly) := fun W hW => ⟨hW, range_blockN g0 (hW.block _ (by omega)), range_blockN g9 (hW.block _ i9), range_blockN g10 (hW.block _ i10)⟩
      obtain ⟨z, hz⟩ : ∃ z : Nat → Int, (fun k => x0 k + y k * t) = z := ⟨_, rfl⟩
      have HZ := Lib.hid hz
      have HZD := Lib.hid (show ∀ k, k < K → z k = rcD n K P d (c : Int) k from fun k hk => by rw [← hz, HDD.out k, ← HPD.out k hk, Int.mul_comm])
      have HPY := Lib.hid (show ∀ k, k < 40 → (-4611686018427387904 ≤ x0 k + y k * t ∧ x0 k + y k * t ≤ 4611686018427387904) ∧ (-4611686018427387904 ≤ y k * t ∧ y k * t ≤ 4611686018427387904) from fun k hk => by
        have h1 := mulc hbr (HY40.out k hk)
        have h2 := HXP.out k
        rw [Int.mul_comm] at h1
        omega)
      clear hz hbx
      go_wp2_with fail
      refine wp_region_noPanic ?_
      refine wp_region_held_drew (S := fun w' : World => Below wc.heap.size wc w' ∧ w'.rangeAt w.heap.size 0 [.slice p0 n c0, .slice p1 K c1] ∧ w'.rangeAt b9 0 (nfL (.slice p0 n c0) (.slice p1 K c1) x0) ∧ w'.rangeAt b10 0 Ly) (by kernel_rfl) (KS _ (below_drw (Below.refl _ _))) (fun sH => ?_)
      refine wpAnyH_take (i := 0) (v := .agg #[.slice p0 n c0, .slice p1 K c1]) nthe0 (by kernel_rfl) (by kernel_rfl) (by kernel_rfl) (fun _ _ _ h => h) (yieldsIf_load_mid (by rfl) _ _ rfl w.heap.size 0 rfl [.slice p0 n c0, .slice p1 K c1] _ (fun _ h => h.2.1) UN rfl (by exact nN)) sH ?_
      try simp only [Act.put]
      refine wpAnyH_take (i := 1) (v := .agg (nfL (.slice p0 n c0) (.slice p1 K c1) x0).toArray) nthe1 (by kernel_rfl) (by kernel_rfl) (by kernel_rfl) (fun _ _ _ h => h) (yieldsIf_load_mid (by rfl) _ _ rfl b9 0 rfl (nfL (.slice p0 n c0) (.slice p1 K c1) x0) _ (fun _ h => h.2.2.1) Try.underlying70 rfl (by rw [nfL_len]; exact nf_info)) sH ?_
      try simp only [Act.put]
      refine wpAnyH_take (i := 2) (v := .agg (Ly).toArray) nthe2 (by kernel_rfl) (by kernel_rfl) (by kernel_rfl) (fun _ _ _ h => h) (yieldsIf_load_mid (by rfl) _ _ rfl b10 0 rfl (Ly) _ (fun _ h => h.2.2.2) Try.underlying68 rfl (by rw [nLy]; exact flow_info)) sH ?_
      try simp only [Act.put]
      refine wpAnyH_take (i := 3) (v := .agg (nfL (.slice p0 n c0) (.slice p1 K c1) x0).toArray) nthe3 (by kernel_rfl) (by kernel_rfl) (by kernel_rfl) (fun _ _ _ h => h) (yieldsIf_load_mid (by rfl) _ _ rfl b9 0 rfl (nfL (.slice p0 n c0) (.slice p1 K c1) x0) _ (fun _ h => h.2.2.1) Try.underlying70 rfl (by rw [nfL_len]; exact nf_info)) sH ?_
      try simp only [Act.put]
      refine wpAnyH_take (i := 4) (v := .agg (Ly).toArray) nthe4 (by kernel_rfl) (by kernel_rfl) (by kernel_rfl) (fun _ _ _ h => h) (yieldsIf_load_mid (by rfl) _ _ rfl b10 0 rfl (Ly) _ (fun _ h => h.2.2.2) Try.underlying68 rfl (by rw [nLy]; exact flow_info)) sH ?_
      try simp only [Act.put]
      refine wpAnyH_ready (rs := [5]) (by kernel_rfl) (by simp) (AllReadyH.cons nthe5 (fun KON hKON => ?_) AllReadyH.nil)
      clear sH
      go_simp
      have hbe := bestTimes_any wc.drew p0 p1 c0 c1 n N K P lo hi (HV.out.below (B2.trans ((below_drw (Below.refl wc.heap.size wc)).mono hw2)) hhi) (Nat.le_trans hi2 (below_drw (Below.refl wc.heap.size wc)).size) HB.out x0 (fun k _ => HXP.out k) y HY40.out HY0.out HCO.out
      rw [HBC.out y, HBT.out, HLy.out] at hbe
      refine hbe.mono ?_
      clear hbe
      rintro e wA ⟨rfl, hbA⟩
      have BA : Below wc.heap.size wc wA := (below_drw (Below.refl wc.heap.size wc)).trans (hbA.mono (below_drw (Below.refl wc.heap.size wc)).size)
      refine hKON.out _ _ (KS _ BA) (fun sH => ?_)
      clear hKON KON
      try simp only [Act.put, List.setIfInBounds_toArray, List.set_cons_succ]
      refine wpAnyH_ready (rs := [6]) (by kernel_rfl) (by simp) (AllReadyH.cons nthe6 (fun KON hKON => ?_) AllReadyH.nil)
      clear sH
      go_simp
      have hpc := plusCycle_any wA (.slice p0 n c0) (.slice p1 K c1) rfl rfl x0 y t (fun k hk => (HPY.out k hk).1) (fun k hk => (HPY.out k hk).2)
      rw [HZ.out, HLy.out] at hpc
      refine hpc.mono ?_
      clear hpc
      rintro e wB ⟨rfl, hbB⟩
      have BB : Below wc.heap.size wc wB := BA.trans (hbB.mono BA.size)
      refine hKON.out _ _ (KS _ BB) (fun sH => ?_)
      clear hKON KON
      try simp only [Act.put, List.set_cons_zero]
      refine wpAnyH_take (i := 7) (v := .agg (arr z)) nthe7 (by kernel_rfl) (by kernel_rfl) (by kernel_rfl) (fun _ _ _ h => h) (yieldsIf_fieldN (by rfl) _ rfl (.slice p0 n c0) (.slice p1 K c1) z rfl) sH ?_
      try simp only [Act.put]
      refine wpAnyH_ready (rs := [8]) (by kernel_rfl) (by simp) (AllReadyH.cons nthe8 (fun KON hKON => ?_) AllReadyH.nil)
      clear sH
      go_simp
      refine (listOf_any wB p0 p1 n K c0 c1 z hm40).mono ?_
      rintro e wD ⟨v5, g5, rfl, o5, hg5, hbC⟩
      obtain ⟨c5, rfl⟩ := o5.shape
      have BC : Below wc.heap.size wc wD := BB.trans (hbC.mono BB.size)
      refine hKON.out _ _ (KS _ BC) (fun sH => ?_)
      clear hKON KON
      try simp only [Act.put, List.setIfInBounds_toArray, List.set_cons_succ]
      refine wpAnyH_take (i := 9) (v := ?_) nthe9 (by kernel_rfl) (by kernel_rfl) (by kernel_rfl) (fun _ _ _ h => h) (Or.inl ⟨by rfl, ?_⟩) sH ?_
      rotate_left
      · intro wS hSw; (try dsimp only at hSw); go_simp; try with_reducible rfl
      try simp only [Act.put]
      refine wpAnyH_take (i := 10) (v := ?_) nthe10 (by kernel_rfl) (by kernel_rfl) (by kernel_rfl) (fun _ _ _ h => h) (Or.inl ⟨by rfl, ?_⟩) sH ?_
      rotate_left
      · intro wS hSw; (try dsimp only at hSw); go_simp; try with_reducible rfl
      try simp only [Act.put, List.setIfInBounds_toArray, List.set_cons_succ]
      refine wpAnyH_done (by kernel_rfl) ?_ _
      refine NoPanic.normal ?_
      go_wp2_with fail
      go_ret2
      exact li_ok HR.out.symm (by first | rfl | (rw [HC.out]; rfl)) (o5.congr (fun k hk => HZD.out k hk)) (by have := BB.size; omega) (B2.trans (BC.mono hw2))
  · have hb1 : (ckC n N m P K d x != 0) = true := by simpa using hc
    have H3 := Lib.hid (show rcN n N m P K d x = 0 by unfold rcN; rw [if_neg hc])
    clear hc
    go_wp2_with fail
    go_ret2
    exact li_err H3.out rfl rfl B1
end Go.Proofs.Ytfkacpphdnlkfaa.mem

namespace Go.Proofs.Ytfkacpphdnlkfaa.draw
open Go.RowKit
open Go.Proofs.Ytfkacpphdnlkfaa.mem (range2 range_blockN there_blockN nthe0 nthe1 nthe2 nthe3 nthe4 nthe5 nthe6 nthe7 nthe8 nthe9 nthe10 nthe11 nthe12 nthe13 nthe14 nthe15)
set_option linter.unusedVariables false

/-- a network, flows and a number have been drawn (chapter 11) -/
def NLCOnly (w : World) (e : Ending) (w' : World) : Prop :=
  ∃ (v : Value) (n m : Nat) (N : Nat → mem.Nod) (P : Nat → mem.Pip) (b1 b2 : Nat) (vk : Value) (K : Nat) (D : Nat → Int) (x : Int), e = .returned (.tuple #[v, vk, .int .i64 x]) ∧ n ≤ 1000 ∧ m ≤ 1000 ∧ K ≤ 2000 ∧ (∀ i, i < n → (N i).s.size ≤ 9223372036854775807) ∧ mem.NetOwn w' v n N m P b1 b2 ∧ w.heap.size ≤ b1 ∧ w.heap.size ≤ b2 ∧ mem.Sl w' vk K D w.heap.size w'.heap.size ∧ Below w.heap.size w w'

set_option maxRecDepth 100000 in
set_option maxHeartbeats 8000000 in
theorem drawRelaxChord (w : World) (cv : Value) (len : Nat) (hc : CodeAt w cv len w.heap.size) : Calls Try.prog 34 #[cv] w (NLCOnly w) := by
  have HC := Lib.hid hc
  have R1 := mem.boxed w (.slice none 0 0) (.slice none 0 0) 33
  have C1 := mem.below_new w (.cells #[.slice none 0 0, .slice none 0 0] 33)
  have hsz : (w.alloc (.cells #[.slice none 0 0, .slice none 0 0] 33)).heap.size = w.heap.size + 1 := by simp
  have UN := Try.underlying33
  go_enter Try.func34, Try.ntmps34
  go_wp2_with fail
  generalize hW : w.alloc (.cells #[.slice none 0 0, .slice none 0 0] 33) = Wa at *
  clear hW hc
  replace hsz := Nat.le_antisymm_iff.1 hsz
  refine (from_any Wa cv len (by have := codeAt_below HC.out C1; rcases this with h | ⟨cb, co, cap, h1, h2, h3⟩; exact .inl h; exact .inr ⟨cb, co, cap, h1, by omega, h3⟩)).mono ?_
  rintro e w1 ⟨s1, rfl, hS1, B1, z1⟩
  obtain ⟨b, hbe⟩ : ∃ b, b = Wa.heap.size := ⟨_, rfl⟩
  rw [← hbe] at hS1 z1 ⊢
  replace hbe := Nat.le_antisymm_iff.1 hbe
  replace z1 := Nat.le_antisymm_iff.1 z1
  have C2 := mem.belowNext C1 B1
  have R2 := R1.next B1
  clear B1 C1 R1
  go_wp2_with fail
  refine (l10Draw_any w1 b w.heap.size cv len 0 s1 hS1 (codeAt_below HC.out C2) (by omega)).mono ?_
  rintro e w2 ⟨v, n, m, N, P, b1, b2, vk, K, D, x, i2, s2, rfl, hn, hm, hK, hnm, hO, l1, l2, hL2, hS2, U2⟩
  obtain ⟨p0, c0, p1, c1, rfl⟩ := hO.shape
  obtain ⟨pk, ck, rfl⟩ := sl_sh hL2
  have hU := U2.size
  have hb1 : b < w1.heap.size := src_lt hS1
  have C3 := C2.trans (U2.below (by omega) (by rintro x _ rfl; omega))
  have R3 := R2.keep (U2.block w.heap.size (by omega) (by omega))
  have f0 := R3.b0
  have f1 := R3.b1
  have k0 := R3.free 0
  have k1 := R3.free 1
  have lR := R3.lt
  have hl1 : b < b1 := by omega
  have hl2 : b < b2 := by omega
  have hO2 := ((mem.Only.refl w.heap.size w2).setCell 0 (.slice p0 n c0)).setCell 1 (.slice p1 m c1)
  have HO := Lib.hid (hO.upd (mem.Upd.of_only hO2) (.inr (by omega)) (.inr (by omega)))
  have HL := Lib.hid ((hL2.only hO2 (.inl (by omega))).mono (show w.heap.size ≤ w1.heap.size by omega) (Nat.le_of_eq hO2.size))
  have HB := Lib.hid (mem.below_only C3 hO2 (Nat.le_refl _))
  clear hO2 C2 R2 hO hS2 hL2 U2 C3 R3
  go_wp2_with fail
  exact bodyPost_ret (v := .tuple #[.agg #[.slice p0 n c0, .slice p1 m c1], .slice pk K ck, .int .i64 x]) (by simp [results, Try.results34, go_sem, f0, f1]) rfl ⟨_, n, m, N, P, b1, b2, _, K, D, x, rfl, hn, hm, (by omega), hnm, HO.out, by omega, by omega, HL.out, HB.out⟩
end Go.Proofs.Ytfkacpphdnlkfaa.draw

namespace Go.Proofs.Ytfkacpphdnlkfaa.draw
open Go.RowKit
set_option linter.unusedVariables false

/-- the laws' dice lie in block b -/
structure Dc (w : World) (b : Nat) (cv : Value) (len : Nat) (i h : Int) : Prop where
  c0 : w.cell? ⟨b, 0, none⟩ = some cv
  c1 : w.cell? ⟨b, 1, none⟩ = some (.int .i64 i)
  c2 : w.cell? ⟨b, 2, none⟩ = some (.int .u64 h)
  f1 : w.frozen? ⟨b, 1, none⟩ = false
  f2 : w.frozen? ⟨b, 2, none⟩ = false
  i0 : 0 ≤ i
  i1 : i ≤ len
theorem dc_new (w : World) (cv : Value) (len : Nat) (h : Int) : Dc (w.alloc (.cells #[cv, .int .i64 0, .int .u64 h] 100)) w.heap.size cv len 0 h := by
  have hn := heap_alloc_new w (.cells #[cv, .int .i64 0, .int .u64 h] 100)
  refine ⟨?_, ?_, ?_, ?_, ?_, Int.le_refl _, by omega⟩
  · unfold World.cell?; rw [hn]; rfl
  · unfold World.cell?; rw [hn]; rfl
  · unfold World.cell?; rw [hn]; rfl
  · unfold World.frozen?; rw [hn]; rfl
  · unfold World.frozen?; rw [hn]; rfl
theorem dc_set2 {w : World} {b : Nat} {cv : Value} {len : Nat} {i h : Int} (k : Dc w b cv len i h) (h' : Int) : Dc (w.setCell ⟨b, 2, none⟩ (.int .u64 h')) b cv len i h' := by
  obtain ⟨c0, c1, c2, f1, f2, i0, i1⟩ := k
  refine ⟨?_, ?_, ?_, ?_, ?_, i0, i1⟩
  · exact (World.cell?_setCell_other _ _ _ _ (by simp)).trans c0
  · exact (World.cell?_setCell_other _ _ _ _ (by simp)).trans c1
  · exact World.cell?_setCell_same _ _ _ c2
  · simpa using f1
  · simpa using f2
theorem dc_set1 {w : World} {b : Nat} {cv : Value} {len : Nat} {i h : Int} (k : Dc w b cv len i h) (i' : Int) (k0 : 0 ≤ i') (k1 : i' ≤ len) : Dc (w.setCell ⟨b, 1, none⟩ (.int .i64 i')) b cv len i' h := by
  obtain ⟨c0, c1, c2, f1, f2, i0, i1⟩ := k
  refine ⟨?_, ?_, ?_, ?_, ?_, k0, k1⟩
  · exact (World.cell?_setCell_other _ _ _ _ (by simp)).trans c0
  · exact World.cell?_setCell_same _ _ _ c1
  · exact (World.cell?_setCell_other _ _ _ _ (by simp)).trans c2
  · simpa using f1
  · simpa using f2
theorem dc_drawn {w : World} {b : Nat} {cv : Value} {len : Nat} {i h : Int} (k : Dc w b cv len i h) (n : Nat) : Dc (w.drewN n) b cv len i h := ⟨k.c0, k.c1, k.c2, k.f1, k.f2, k.i0, k.i1⟩
def RollRel (w : World) (cv : Value) (len : Nat) (i : Value) (wr : World) : Prop := ∃ (k : Nat) (h : Int), i = .int .i64 k ∧ k ≤ len ∧ Dc wr w.heap.size cv len 0 h ∧ Below w.heap.size w wr
set_option maxHeartbeats 1000000 in
theorem roll_any (w : World) (cv : Value) (len : Nat) (hc : CodeAt w cv len w.heap.size) (s : Int) :
    Calls Try.prog 35 #[cv, .int .u64 s] w fun e w' => ∃ h, e = .returned (.pointer (some ⟨w.heap.size, 0, none⟩)) ∧ Dc w' w.heap.size cv len 0 h ∧ Below w.heap.size w w' := by
  rcases hc with ⟨p0, cap0, rfl, rfl⟩ | ⟨cb, co, cap, rfl, hcb, hlen, hcells⟩
  · go_enter Try.func35, Try.ntmps35
    go_wp2
    go_loopw [6] (fun i wr => RollRel w (.slice p0 0 cap0) 0 i wr) (fun i _ => 0 - (intOf i).toNat)
    case atStart => exact ⟨0, _, rfl, Nat.le_refl _, dc_new w _ 0 _, below_new _ _⟩
    case round =>
      obtain ⟨k, h, rfl, hk, hd, hb⟩ := hrel
      obtain rfl : k = 0 := by omega
      go_wp2
      go_ret
      exact ⟨h, rfl, hd, hb⟩
  · have hC2 := Lib.hid hcells
    clear hcells
    go_enter Try.func35, Try.ntmps35
    go_wp2
    go_loopw [6] (fun i wr => RollRel w (.slice (some ⟨cb, co, none⟩) len cap) len i wr) (fun i _ => len - (intOf i).toNat)
    case atStart => exact ⟨0, _, rfl, Nat.zero_le _, dc_new w _ len _, below_new _ _⟩
    case round =>
      obtain ⟨k, h, rfl, hk, hd, hb⟩ := hrel
      have HD := Lib.hid hd
      obtain ⟨c0, c1, c2, f1, f2, i0, i1⟩ := hd
      have HB := Lib.hid hb
      by_cases hlt : k < len
      · obtain ⟨x, hx, hcell0⟩ := hC2.out k hlt
        have hcell := (hb.cell (p := ⟨cb, co + k, none⟩) hcb).trans hcell0
        clear hcell0 hb
        go_wp2
        go_region
        go_wp2
        go_roundw
        case rel => exact ⟨k + 1, _, by go_num, by omega, dc_drawn (dc_set2 HD.out _) 1, (HB.out.setCell (Nat.le_refl _) _).drew⟩
        case measure => simp [intOf]; omega
      · clear hb
        go_wp2
        go_ret
        exact ⟨h, rfl, HD.out, HB.out⟩
theorem dice_bits (a : Int) : 0 ≤ bits .and .u64 (IntKind.u64.wrap a / 8589934592) 16777215 ∧ bits .and .u64 (IntKind.u64.wrap a / 8589934592) 16777215 ≤ 16777215 := by
  have h0 : 0 ≤ IntKind.u64.wrap a ∧ IntKind.u64.wrap a < 18446744073709551616 := by
    have e : IntKind.u64.wrap a = a % 18446744073709551616 := by simp [IntKind.wrap, IntKind.bits, IntKind.signed]
    rw [e]
    exact ⟨Int.emod_nonneg _ (by omega), Int.emod_lt_of_pos _ (by omega)⟩
  have h := bits_mask .u64 63 (by decide) (fun n h0 h1 => by rw [IntKind.wrap_u64]; omega) 24 (by decide) (IntKind.u64.wrap a / 8589934592) (by omega) (by omega)
  rw [show ((2 : Int) ^ 24 - 1) = 16777215 by decide] at h
  rw [h]
  omega
theorem rem_ok {x n : Int} (h : 0 ≤ x) (hn : 1 ≤ n) : 0 ≤ x % n ∧ x % n < n := ⟨Int.emod_nonneg _ (by omega), Int.emod_lt_of_pos _ (by omega)⟩
def BelowPost (w : World) (b : Nat) (cv : Value) (len : Nat) (n : Int) (e : Ending) (w' : World) : Prop := ∃ r i h, e = .returned (.int .i64 r) ∧ 0 ≤ r ∧ r < n ∧ Dc w' b cv len i h ∧ Only b w w'
set_option maxHeartbeats 1000000 in
theorem dice_any (w : World) (b B : Nat) (cv : Value) (len : Nat) (i h n : Int) (hd : Dc w b cv len i h) (hc : CodeAt w cv len B) (hB : B ≤ b) (hn : 1 ≤ n) (hn2 : n ≤ 9223372036854775807) :
    Calls Try.prog 37 #[.pointer (some ⟨b, 0, none⟩), .int .i64 n] w (BelowPost w b cv len n) := by
  have HD := Lib.hid hd
  obtain ⟨c0, c1, c2, f1, f2, i0, i1⟩ := hd
  obtain ⟨q0, q1⟩ := dice_bits (IntKind.u64.wrap (h * 6364136223846793005) + 1442695040888963407)
  obtain ⟨q, hq⟩ : ∃ q, bits .and .u64 (IntKind.u64.wrap (IntKind.u64.wrap (h * 6364136223846793005) + 1442695040888963407) / 8589934592) 16777215 = q := ⟨_, rfl⟩
  rw [hq] at q0 q1
  rcases hc with ⟨p0, cap0, rfl, rfl⟩ | ⟨cb, co, cap, rfl, hcb, hlen, hcells⟩
  · go_enter Try.func37, Try.ntmps37
    go_wp2
    go_quiet (fail)
    go_wp2
    go_ret
    exact ⟨_, i, _, rfl, (rem_ok (by omega) hn).1, (rem_ok (by omega) hn).2, dc_drawn (dc_set2 HD.out _) _, ((Only.refl _ _).setCell _ _).drewN _⟩
  · by_cases hlt : i < len
    · obtain ⟨k, rfl⟩ := Int.eq_ofNat_of_zero_le i0
      obtain ⟨x, hx, hcell⟩ := hcells k (by omega)
      clear hcells
      have hne : cb ≠ b := by omega
      have hne' : b ≠ cb := by omega
      go_enter Try.func37, Try.ntmps37
      go_wp2
      go_quiet (fail)
      go_wp2
      go_quiet (fail)
      go_wp2
      go_ret
      exact ⟨_, _, _, rfl, (rem_ok (by omega) hn).1, (rem_ok (by omega) hn).2, dc_set1 (dc_drawn (dc_set2 HD.out _) _) _ (by omega) (by omega), (((Only.refl _ _).setCell _ _).drewN _).setCell _ _⟩
    · clear hcells
      go_enter Try.func37, Try.ntmps37
      go_wp2
      go_quiet (fail)
      go_wp2
      go_ret
      exact ⟨_, i, _, rfl, (rem_ok (by omega) hn).1, (rem_ok (by omega) hn).2, dc_drawn (dc_set2 HD.out _) _, ((Only.refl _ _).setCell _ _).drewN _⟩
end Go.Proofs.Ytfkacpphdnlkfaa.draw

namespace Go.Proofs.Ytfkacpphdnlkfaa.fnRelaxedChords
open Go.ChangeShapes Go.WideShapes Go.ChangeAt Go.RowKit Go.Proofs.Ytfkacpphdnlkfaa.draw Go.Proofs.Ytfkacpphdnlkfaa.mem
set_option linter.unusedVariables false

theorem own : ownKnob Try.prog.godebug = none := by kernel_rfl
theorem laidOut : laidOutB Try.prog = true := by kernel_rfl

theorem owns_sl {w : World} {v : Value} {n b : Nat} {d : Nat → Int} (h : OwnS w v n 1 (fun i _ => .int .i64 (d i)) b) : Sl w v n d 0 w.heap.size := by
  obtain ⟨p', cap, hv, h1, h2, h3⟩ := h.ex
  refine ⟨p', cap, hv, ?_⟩
  rcases h3 with h3 | ⟨h3, h4⟩
  · exact .inl h3
  · refine .inr ⟨b, 0, h3, Nat.zero_le _, h4.lt, fun k hk => ?_⟩
    have := h4.cell k 0 hk (by omega)
    simpa using this
theorem codeUp {w : World} {cv : Value} {len B C : Nat} (h : CodeAt w cv len B) (hB : B ≤ C) : CodeAt w cv len C := by
  rcases h with h | ⟨cb, co, cap, h1, h2, h3⟩
  · exact .inl h
  · exact .inr ⟨cb, co, cap, h1, by omega, h3⟩
theorem dc_lt {w : World} {b : Nat} {cv : Value} {len : Nat} {i h : Int} (k : draw.Dc w b cv len i h) : b < w.heap.size := World.block_lt_of_cell? w _ k.c0
theorem dc_next {w w' : World} {b : Nat} {cv : Value} {len : Nat} {i h : Int} (k : draw.Dc w b cv len i h) (g : Below w.heap.size w w') : draw.Dc w' b cv len i h := by
  have hb := dc_lt k
  exact ⟨(g.cell (p := ⟨b, 0, none⟩) hb).trans k.c0, (g.cell (p := ⟨b, 1, none⟩) hb).trans k.c1, (g.cell (p := ⟨b, 2, none⟩) hb).trans k.c2, (World.frozen?_of_block (g.block b hb)).trans k.f1, (World.frozen?_of_block (g.block b hb)).trans k.f2, k.i0, k.i1⟩
theorem rhFacts (n : Nat) (N : Nat → Nod) (m : Nat) (P : Nat → Pip) (K : Nat) (d : Nat → Int) (x : Int) (hN : ∀ i, i < n → (N i).s.size ≤ 9223372036854775807) (hm : m ≤ 1000) (hK : K ≤ 2000000) :
    ∃ (rn : Nat) (rd : Nat → Int) (rc : Int), rn ≤ 1000 ∧ (∀ w v va, NetAt w v n N m P 0 w.heap.size → Sl w va K d 0 w.heap.size → Calls Try.prog 20 #[v, va, .int .i64 x] w (LIPost w rn rd rc)) ∧ (∀ w v va, NetAt w v n N m P 0 w.heap.size → Sl w va K d 0 w.heap.size → Calls Try.prog 19 #[v, va, .int .i64 x] w (LIPost w rn rd rc)) ∧
      (rc = 0 → ∃ (ea eb : Int), (∀ w v va, NetAt w v n N m P 0 w.heap.size → Sl w va K d 0 w.heap.size → Calls Try.prog 31 #[v, va] w (IIPost w ea 0)) ∧ (∀ w v va, NetAt w v n N m P 0 w.heap.size → Sl w va rn rd 0 w.heap.size → Calls Try.prog 31 #[v, va] w (IIPost w eb 0)) ∧ eb ≤ ea ∧
        ∀ y : Int, -9 ≤ y → y ≤ 9 → ∃ (ev ec : Int), (∀ w v va, NetAt w v n N m P 0 w.heap.size → Sl w va rn rd 0 w.heap.size → Calls Try.prog 36 #[v, va, .int .i64 x, .int .i64 y] w (IIPost w ev ec)) ∧ (ec = 0 ∧ 0 ≤ ev ∨ ec = 5)) := by
  refine ⟨rcN n N m P K d x, rcD n m P d x, ckC n N m P K d x, by unfold rcN; split <;> omega, fun w v va h hv => relaxChordI_any w v n N m P 0 _ h (Nat.le_refl _) hN va K d 0 _ hv (Nat.le_refl _) (by omega) x, fun w v va h hv => relaxChordS_any w v n N m P 0 _ h (Nat.le_refl _) hN va K d 0 _ hv (Nat.le_refl _) (by omega) x, fun hc => ?_⟩
  have hrn : rcN n N m P K d x = m := by unfold rcN; rw [if_pos hc]
  obtain ⟨h0, hch⟩ := ckC_ok hc
  obtain ⟨hB, rfl, hf⟩ := flC_ok h0
  obtain ⟨c, rfl, hcm, hcp⟩ := chB_yes hch
  have hcy := cyO_net hB hcm hcp
  have hyd : cyD n P K ((c : Nat) : Int) = cyc P (fE n P K) (fD n P K) c := by unfold cyD; rw [Int.toNat_natCast]
  have hrd : rcD n K P d ((c : Nat) : Int) = fun k => d k + bstT K P d (cyc P (fE n P K) (fD n P K) c) * cyc P (fE n P K) (fD n P K) c k := by unfold rcD; rw [hyd]
  have hfr : ∀ k, k < K → -30000 ≤ d k ∧ d k ≤ 30000 := fun k hk => flQ_iff.1 (flB_iff.1 hf k hk)
  have hal := al_bnd hfr hcy.y1
  have hbs := bstT_is (P := P) (x := d) (y := cyc P (fE n P K) (fD n P K) c) (m := K) (by omega)
  have hls := hcy.least (x := d) hbs
  have b1 := hbs.ge
  have b2 := hbs.le
  have hin := al_in hfr hcy.y1 b1 b2
  rw [hrn, hrd]
  have hadd : ∀ y : Int, adD n P K (fun k => d k + bstT K P d (cyc P (fE n P K) (fD n P K) c) * cyc P (fE n P K) (fD n P K) c k) ((c : Nat) : Int) y = fun k => d k + (bstT K P d (cyc P (fE n P K) (fD n P K) c) + y) * cyc P (fE n P K) (fD n P K) c k := fun y => by
    funext k
    unfold adD
    dsimp only
    rw [hyd, Int.add_mul, Int.add_assoc]
  generalize bstT K P d (cyc P (fE n P K) (fD n P K) c) = t at *
  have hfl : flB (fun k => d k + t * cyc P (fE n P K) (fD n P K) c k) K = true := flB_iff.2 fun k hk => flQ_iff.2 (hin k hk)
  have f1 := flC_is hB hfl
  have v0 : eoV n N K P K d = egS P d K := by unfold eoV; rw [if_pos h0]
  have v1 : eoV n N K P K (fun k => d k + t * cyc P (fE n P K) (fD n P K) c k) = egC P d (cyc P (fE n P K) (fD n P K) c) K t := by unfold eoV; rw [if_pos f1]; rfl
  have c1 := fun w v va (h : NetAt w v n N K P 0 w.heap.size) hv => energyOfI_any w v n N K P 0 _ h (Nat.le_refl _) hN va K d 0 _ hv (Nat.le_refl _) (by omega)
  have c2 := fun w v va (h : NetAt w v n N K P 0 w.heap.size) hv => energyOfI_any w v n N K P 0 _ h (Nat.le_refl _) hN va K (fun k => d k + t * cyc P (fE n P K) (fD n P K) c k) 0 _ hv (Nat.le_refl _) (by omega)
  rw [v0, h0] at c1
  rw [v1, f1] at c2
  have e0 : egC P d (cyc P (fE n P K) (fD n P K) c) K 0 = egS P d K := by
    unfold egC
    have : (fun k => d k + 0 * cyc P (fE n P K) (fD n P K) c k) = d := by funext k; rw [Int.zero_mul, Int.add_zero]
    rw [this]
  have hk0 := hls 0 (by omega) (by omega)
  rw [e0] at hk0
  refine ⟨_, _, c1, c2, hk0, fun y y0 y1 => ⟨_, _, fun w v va h hv => energyChangeI_any w v n N K P 0 _ h (Nat.le_refl _) hN va K _ 0 _ hv (Nat.le_refl _) (by omega) ((c : Nat) : Int) y, ?_⟩⟩
  have hck : ckC n N K P K (fun k => d k + t * cyc P (fE n P K) (fD n P K) c k) ((c : Nat) : Int) = 0 := by unfold ckC; rw [if_pos f1, if_pos hch]
  have hq : flQ y = true := flQ_iff.2 (by omega)
  by_cases hz : flB (fun k => d k + (t + y) * cyc P (fE n P K) (fD n P K) c k) K = true
  · have he : ecC n N K P K (fun k => d k + t * cyc P (fE n P K) (fD n P K) c k) ((c : Nat) : Int) y = 0 := by
      unfold ecC
      rw [if_pos hck, if_pos hq, hadd y, if_pos hz]
    refine .inl ⟨he, ?_⟩
    unfold ecV
    rw [if_pos he, hadd y]
    have hzr : ∀ k, k < K → -30000 ≤ d k + (t + y) * cyc P (fE n P K) (fD n P K) c k ∧ d k + (t + y) * cyc P (fE n P K) (fD n P K) c k ≤ 30000 := fun k hk => flQ_iff.1 (flB_iff.1 hz k hk)
    obtain ⟨j, hj, hn⟩ := hcy.nz
    have a1 := hcy.y1 j hj
    have a2 := hzr j hj
    have a3 := hfr j hj
    have h60 : -60000 ≤ t + y ∧ t + y ≤ 60000 := by
      rcases (by omega : cyc P (fE n P K) (fD n P K) c j = 1 ∨ cyc P (fE n P K) (fD n P K) c j = -1) with e | e
      all_goals
        rw [e] at a2
        omega
    obtain ⟨o1, o2⟩ := al_of h60 hcy.y1 hzr
    have := hls (t + y) o1 o2
    unfold egC at this
    omega
  · refine .inr ?_
    unfold ecC
    rw [if_pos hck, if_pos hq, hadd y, if_neg hz]
set_option maxRecDepth 100000 in
set_option maxHeartbeats 20000000 in
theorem walk (v : Value) (w : World) (hc : CodeArg w v) :
    Calls Try.prog 8 #[v] w fun e w' => e = .returned (.bool true) ∧ Below w.heap.size w w' := by
  obtain ⟨p, len, cap, rfl, hlen, hcode⟩ := hc
  by_cases h4 : (4096 : Int) < len
  · clear hcode
    go_enter Try.func8, Try.ntmps8
    go_wp2_with (go_at_call 23; refine (draw.big_any _ _ _ _).mono ?_; rintro e w' ⟨rfl, rfl⟩)
    go_ret
    exact ⟨rfl, Below.refl _ _⟩
  have hc := hcode (by omega)
  clear hcode
  go_enter Try.func8, Try.ntmps8
  go_wp2_with (go_at_call 23; refine (draw.big_any _ _ _ _).mono ?_; rintro e w' ⟨rfl, rfl⟩)
  refine (draw.drawRelaxChord w _ len hc).mono ?_
  rintro e w1 ⟨v, n, m, N, P, b1, b2, vl, K, D, x, rfl, hn, hm, hK, hnm, o1, l1, l2, hK1, C1⟩
  obtain ⟨rn, rd, rc, hrn, ti, ts, hz⟩ := rhFacts n N m P K D x hnm hm (by omega)
  have TI := Lib.hid ti
  have TS := Lib.hid ts
  have HZ := Lib.hid hz
  have HCD := Lib.hid hc
  clear ti ts hz hc
  obtain ⟨pk, ck, rfl⟩ := draw.sl_sh hK1
  have hb2 : (rc != rc) = false := by simp
  have lxx := o1.lts
  obtain ⟨sx1, sx2, sx3, sx4, rfl⟩ := o1.shape
  go_wp2_with fail
  have bb := mem.below_new w1 (.cells #[.slice sx1 n sx2, .slice sx3 m sx4] 33)
  have B_x := boxed w1 (.slice sx1 n sx2) (.slice sx3 m sx4) 33
  have hs2 := bb.size
  have C2 := belowNext C1 bb
  have LK2 := hK1.next bb
  have x2 := o1.next bb
  clear bb C1 hK1 o1
  generalize hW2 : w1.alloc (Obj.cells #[.slice sx1 n sx2, .slice sx3 m sx4] 33) = w2 at *
  clear hW2
  have Bx2 := B_x
  clear B_x
  have lBx := Bx2.lt
  refine (TI.out _ _ _ x2.net LK2.zero).mono ?_
  rintro e w3 ⟨xA, gA, rfl, oA, lA, bb⟩
  have hs3 := bb.size
  have C3 := belowNext C2 bb
  have LK3 := LK2.next bb
  have x3 := x2.next bb
  have Bx3 := Bx2.next bb
  clear bb C2 LK2 x2 Bx2
  have lxA := oA.lt
  obtain ⟨sA1, sA2, rfl⟩ := oA.shape
  have qBx0 := Bx3.b0
  have qBx1 := Bx3.b1
  have qBx2 := Bx3.lt
  go_wp2_with fail
  refine (TS.out _ _ _ x3.net LK3.zero).mono ?_
  rintro e w4 ⟨xB, gB, rfl, oB, lB, bb⟩
  have hs4 := bb.size
  have C4 := belowNext C3 bb
  have LK4 := LK3.next bb
  have x4 := x3.next bb
  have Bx4 := Bx3.next bb
  have A4 := oA.next bb
  clear qBx0 qBx1 qBx2
  clear bb C3 LK3 x3 Bx3 oA
  have lxB := oB.lt
  obtain ⟨sB1, sB2, rfl⟩ := oB.shape
  have qBx0 := Bx4.b0
  have qBx1 := Bx4.b1
  have qBx2 := Bx4.lt
  go_wp2_with fail
  refine (likeInts_any _ _ _ rn rd 0 w4.heap.size 0 w4.heap.size (A4.cs (.inr rfl) (Nat.le_refl _)) (oB.cs (.inr rfl) (Nat.le_refl _))).mono ?_
  rintro e w5 ⟨rfl, bb⟩
  have hs5 := bb.size
  have C5 := belowNext C4 bb
  have LK5 := LK4.next bb
  have x5 := x4.next bb
  have Bx5 := Bx4.next bb
  have A5 := A4.next bb
  have B5 := oB.next bb
  clear qBx0 qBx1 qBx2
  clear bb C4 LK4 x4 Bx4 A4 oB
  clear B5
  by_cases hrc : rc = 0
  · subst hrc
    obtain ⟨ea, eb, q1, q2, hle, hec⟩ := HZ.out (by trivial)
    have Q1 := Lib.hid q1
    have Q2 := Lib.hid q2
    have HEC := Lib.hid hec
    clear q1 q2 hec
    clear HZ TI TS
    have hb5 : decide (eb ≤ ea) = true := decide_eq_true hle
    have qBx0 := Bx5.b0
    have qBx1 := Bx5.b1
    have qBx2 := Bx5.lt
    go_wp2_with fail
    have hszC := C5.size
    have lbx := Bx5.lt
    have HCB := Lib.hid C5
    have HCK : CodeAt w5 (.slice p len cap) len w5.heap.size := codeUp (codeAt_below HCD.out C5) (by omega)
    refine (draw.roll_any w5 _ len HCK 1101).mono ?_
    rintro e wq ⟨hh, rfl, hdc, hba⟩
    have HDC := Lib.hid hdc
    have HBA := Lib.hid hba
    clear hdc hba HCK
    go_wp2_with fail
    clear qBx0 qBx1 qBx2
    go_loopw [11] (fun iv wr => ∃ (k : Nat) (di dh : Int), iv = .int .i64 k ∧ k ≤ 3 ∧ draw.Dc wr w5.heap.size (.slice p len cap) len di dh ∧ Below w5.heap.size w5 wr) (fun iv _ => 3 - (intOf iv).toNat)
    case atStart => exact ⟨0, 0, hh, rfl, Nat.zero_le _, HDC.out, HBA.out⟩
    case round =>
      obtain ⟨k, di, dh, rfl, hk, hdc, bb⟩ := hrel
      clear HDC HBA
      have HDC := Lib.hid hdc
      have HBB := Lib.hid bb
      clear hdc
      have k0 : (0 : Int) ≤ (k : Int) := Int.natCast_nonneg _
      by_cases hlt : k < 3
      · have hkI : (k : Int) < 3 := by omega
        clear bb
        go_wp2_with fail
        have hAny : ∀ X : World, Below w5.heap.size w5 X → (fun w' => w'.cell? ⟨w1.heap.size, 0, none⟩ = some (.slice sx1 n sx2) ∧ w'.cell? ⟨w1.heap.size, 1, none⟩ = some (.slice sx3 m sx4)) X := fun X h => ⟨(Bx5.below h Bx5.lt).b0, (Bx5.below h Bx5.lt).b1⟩
        have K0 : Below w5.heap.size w5 wr.drew := HBB.out.drew
        have HCA : CodeAt wr.drew (.slice p len cap) len w5.heap.size := codeUp (codeAt_below HCD.out (HCB.out.trans (K0.mono hszC))) hszC
        go_region_held3 (fun w' => w'.cell? ⟨w1.heap.size, 0, none⟩ = some (.slice sx1 n sx2) ∧ w'.cell? ⟨w1.heap.size, 1, none⟩ = some (.slice sx3 m sx4)) (first | exact hAny _ K0 | exact hAny _ KX | exact hAny _ KY)
          (first | (go_at_call 37; refine (draw.dice_any wr.drew _ w5.heap.size _ len di dh 9 (draw.dc_drawn HDC.out 1) HCA (Nat.le_refl _) (by omega) (by omega)).mono ?_; rintro e wb ⟨r, ri, rh, rfl, r0, r1, hdc2, hob⟩; have KX : Below w5.heap.size w5 wb := K0.trans (draw.only_below hob (Nat.le_refl _)); have hwr : IntKind.i64.wrap (r - 4) = r - 4 := IntWalk.i64_in _ (by omega); obtain ⟨ev, ec, hq, hqc⟩ := HEC.out (r - 4) (by omega) (by omega); have HQ := Lib.hid hq; have HQC := Lib.hid hqc; clear hq hqc) | (go_at_call 36; refine (HQ.out wb _ _ (x5.below KX (Nat.le_refl _)).net (owns_sl (A5.next KX))).mono ?_; rintro e wc ⟨rfl, ba⟩; have KY : Below w5.heap.size w5 wc := KX.trans (ba.mono KX.size); have HD3 := Lib.hid (dc_next hdc2 ba); clear ba))
        have HKY := Lib.hid KY
        clear hAny K0 KX KY HCA hdc2 hob
        obtain ⟨wz, hwb⟩ : ∃ w', w' = wc := ⟨_, rfl⟩
        subst hwb
        rcases HQC.out with ⟨rfl, hev⟩ | rfl
        · have hb6 : decide (ev < 0) = false := decide_eq_false (by omega)
          go_wp2_with fail
          go_roundw
          case rel => exact ⟨k + 1, ri, rh, by go_num, hlt, HD3.out, HKY.out⟩
          case measure => simp [intOf]; omega
        · go_wp2_with fail
          go_roundw
          case rel => exact ⟨k + 1, ri, rh, by go_num, hlt, HD3.out, HKY.out⟩
          case measure => simp [intOf]; omega
      · obtain rfl : k = 3 := by omega
        obtain ⟨w6, hwb⟩ : ∃ w', w' = wr := ⟨_, rfl⟩
        subst hwb
        have hs6 := bb.size
        have C6 := belowNext C5 bb
        have LK6 := LK5.next bb
        have x6 := x5.next bb
        have Bx6 := Bx5.next bb
        have A6 := A5.next bb
        clear bb C5 LK5 x5 Bx5 A5
        have qBx0 := Bx6.b0
        have qBx1 := Bx6.b1
        have qBx2 := Bx6.lt
        go_wp2_with fail
        refine (Q1.out _ _ _ x6.net LK6.zero).mono ?_
        rintro e w7 ⟨rfl, bb⟩
        have hs7 := bb.size
        have C7 := belowNext C6 bb
        have LK7 := LK6.next bb
        have x7 := x6.next bb
        have Bx7 := Bx6.next bb
        have A7 := A6.next bb
        clear qBx0 qBx1 qBx2
        clear bb C6 LK6 x6 Bx6 A6
        have qBx0 := Bx7.b0
        have qBx1 := Bx7.b1
        have qBx2 := Bx7.lt
        go_wp2_with fail
        refine (Q2.out _ _ _ x7.net (owns_sl A7)).mono ?_
        rintro e w8 ⟨rfl, bb⟩
        have hs8 := bb.size
        have C8 := belowNext C7 bb
        have LK8 := LK7.next bb
        have x8 := x7.next bb
        have Bx8 := Bx7.next bb
        have A8 := A7.next bb
        clear qBx0 qBx1 qBx2
        clear bb C7 LK7 x7 Bx7 A7
        have qBx0 := Bx8.b0
        have qBx1 := Bx8.b1
        have qBx2 := Bx8.lt
        go_wp2_with fail
        go_ret
        exact ⟨rfl, C8⟩
  · have hxc' : (rc != 0) = true := by simpa using hrc
    have qBx0 := Bx5.b0
    have qBx1 := Bx5.b1
    have qBx2 := Bx5.lt
    go_wp2_with fail
    go_ret
    exact ⟨rfl, C5⟩

set_option maxRecDepth 100000 in
theorem lifted (os : Os) (started : os.Started) (H : Type) (enc : TypeId × Value → H) :
    ReturnsInHanded {} Try.checked os 8 .any (Rows.fnRelaxedChordsSpec.pre6 enc Try.prog Try.f8 Rows.fnRelaxedChordsRow.domain false) (Rows.fnRelaxedChordsSpec.post enc Try.prog Try.f8 false true false false) := by
  refine returnsInHanded_of_change (C := Try.checked) own started (by kernel_rfl) Try.func8
    (ChangeSpec.witness6 (enc := enc) (C := Try.checked) false ⟨#[], #[.slice none 0 0], []⟩ 8 (by kernel_rfl) (by kernel_rfl) (by kernel_rfl) (by kernel_rfl)) ?_
  intro W base args ds gs before hval0 hW hcnd _
  have hval : ∀ (j : Nat) t v, Try.f8.params[j]? = some t → args[j]? = some v → Value.okWide Try.prog W .any base t v := hval0
  have hW' := hW
  obtain ⟨p, q, hA0, hV, rfl, hfz, hnd⟩ := hW
  have hA : DataW.TrodAll enc Try.prog W 0 (fun _ => true) true Try.f8.params.toList args.toList ds p := hA0
  rw [Try.params8] at hA hval
  obtain ⟨v0, vs0, d0, ds0, p0, q0, hargs, rfl, rfl, h0, r0⟩ := trodAll_cons hA
  obtain ⟨rfl, rfl, rfl⟩ := trodAll_nil r0
  obtain rfl : args = #[v0] := by cases args; simp_all
  obtain ⟨rfl, rfl⟩ := trodVars_none hV
  have hc := open_code (hval 0 46 v0 rfl rfl) h0
  refine (walk v0 W hc).mono fun e W' ⟨he, hg⟩ => ?_
  subst he
  exact ⟨_, rfl, law.law_post hW' hg laidOut (by kernel_rfl) rfl rfl (by kernel_rfl) Try.underlying4⟩

theorem over : Rows.fnRelaxedChordsRow.holds Try.pinned (OpenSpec.ofChange Rows.fnRelaxedChordsSpec) :=
  OpenClaim.holds_of_wide 8 Try.f8 rfl rfl rfl rfl rfl rfl rfl ⟨rfl, rfl, rfl, rfl, rfl⟩ rfl rfl rfl rfl rfl (by kernel_rfl) Try.func8 (by kernel_rfl)
    (of_decide_eq_true (by kernel_rfl)) (by unfold Func.isWrapper; first | (rw [if_pos (by decide +kernel)]; kernel_rfl) | (rw [if_neg (by decide +kernel)]; exact ⟨rfl, rfl⟩))
    (fun os started H enc _ => lifted os started H enc)

theorem proved : Rows.FnRelaxedChordsSaid :=
  over
#print axioms proved
end Go.Proofs.Ytfkacpphdnlkfaa.fnRelaxedChords

