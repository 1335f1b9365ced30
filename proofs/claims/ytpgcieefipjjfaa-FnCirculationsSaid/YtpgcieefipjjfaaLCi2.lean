/-
  Several texts in one: Dre, LCir.
-/
import Derived.Test.YtpgcieefipjjfaaRows
import Derived.Test.YtpgcieefipjjfaaDrd
import Derived.WalkKit
import Derived.ProofKit
import Derived.Lib.Hide
import Derived.OwnWalk
import Derived.Outline
import Derived.Deep.RegionHeld3
import Derived.Deep.Cut
import Derived.Deep.RegionWith
import Derived.Test.YtpgcieefipjjfaaLaw
import Derived.Test.YtpgcieefipjjfaaCode
import Derived.Test.YtpgcieefipjjfaaLikeI
import Derived.Test.YtpgcieefipjjfaaLfm
import Derived.OpenShut
import Derived.Deep.QuietTactic
import Derived.BigQuiet
import Derived.Deep.RegionHeldLaw
import Derived.IntWalk
namespace Go.Proofs.Ytpgcieefipjjfaa.draw
open Go.RowKit
set_option linter.unusedVariables false

set_option maxRecDepth 100000 in
set_option maxHeartbeats 4000000 in
theorem drawIsCirculation (w : World) (cv : Value) (len : Nat) (hc : CodeAt w cv len w.heap.size) : Calls Try.prog 47 #[cv] w (NLOnly w) := by
  obtain ⟨pc, cc, rfl, hlen⟩ : ∃ p cap, cv = .slice p len cap ∧ len ≤ 140737488351232 := by
    rcases hc with ⟨p, cap, rfl, rfl⟩ | ⟨cb, co, cap, rfl, _, h, _⟩
    · exact ⟨_, _, rfl, by omega⟩
    · exact ⟨_, _, rfl, h⟩
  have HC := Lib.hid hc
  have R1 := mem.boxed w (.slice none 0 0) (.slice none 0 0) 33
  have C1 := mem.below_new w (.cells #[.slice none 0 0, .slice none 0 0] 33)
  have hsz : (w.alloc (.cells #[.slice none 0 0, .slice none 0 0] 33)).heap.size = w.heap.size + 1 := by simp
  go_enter Try.func47, Try.ntmps47
  go_wp2_with fail
  generalize hW : w.alloc (.cells #[.slice none 0 0, .slice none 0 0] 33) = Wa at *
  clear hW hc
  replace hsz := Nat.le_antisymm_iff.1 hsz
  refine (from_any Wa (Value.slice pc len cc) len (by have := codeAt_below HC.out C1; rcases this with h | ⟨cb, co, cap, h1, h2, h3⟩; exact .inl h; exact .inr ⟨cb, co, cap, h1, by omega, h3⟩)).mono ?_
  rintro e w1 ⟨s1, rfl, hS1, B1, z1⟩
  obtain ⟨b, hbe⟩ : ∃ b, b = Wa.heap.size := ⟨_, rfl⟩
  rw [← hbe] at hS1 z1 ⊢
  replace hbe := Nat.le_antisymm_iff.1 hbe
  replace z1 := Nat.le_antisymm_iff.1 z1
  have C2 := mem.belowNext C1 B1
  have R2 := R1.next B1
  clear B1 C1 R1
  go_wp2_with fail
  refine (chord_any w1 b w.heap.size (Value.slice pc len cc) len 0 s1 hS1 (codeAt_below HC.out C2) (by omega)).mono ?_
  rintro e w2 ⟨v, n, m, N, P, b1, b2, x, i2, s2, rfl, hn, hm, hnm, hO, l1, l2, hS2, U2⟩
  obtain ⟨p0, c0, p1, c1, rfl⟩ := hO.shape
  have xN := mem.below_new w2 (.cells #[.slice p0 n c0, .slice p1 m c1] 33)
  have C3 := Lib.hid ((C2.trans (U2.below (by omega) (by rintro x _ rfl; omega))).trans (xN.mono (by have := U2.size; omega)))
  have R3 := (R2.keep (U2.block w.heap.size (by omega) (by omega))).next xN
  have T3 := mem.boxed w2 (.slice p0 n c0) (.slice p1 m c1) 33
  have O3 := Lib.hid (hO.next xN)
  have S3 := src_alloc hS2 (src_lt hS2) (.cells #[.slice p0 n c0, .slice p1 m c1] 33)
  have hz3 : (w2.alloc (.cells #[.slice p0 n c0, .slice p1 m c1] 33)).heap.size = w2.heap.size + 1 := by simp
  have hb2 := src_lt hS2
  have hbT : b ≠ w2.heap.size := by omega
  have hbR : b ≠ w.heap.size := by omega
  have hTR : w2.heap.size ≠ w.heap.size := by omega
  have hl1 : b < b1 := by omega
  have hl2 : b < b2 := by omega
  have hU := U2.size
  have F0 := mem.Own.nilled (w2.alloc (.cells #[.slice p0 n c0, .slice p1 m c1] 33)) (fun _ => 0)
  have xB := mem.below_new (w2.alloc (.cells #[.slice p0 n c0, .slice p1 m c1] 33)) (.cells #[] 2)
  have D0 : Fl (w2.alloc (.cells #[.slice p0 n c0, .slice p1 m c1] 33)) b (Value.slice pc len cc) len ((w2.alloc (.cells #[.slice p0 n c0, .slice p1 m c1] 33)).alloc (.cells #[] 2)) (.slice (some ⟨(w2.alloc (.cells #[.slice p0 n c0, .slice p1 m c1] 33)).heap.size, 0, none⟩) 0 0) 0 := ⟨fun _ => 0, _, _, _, F0, fun j hj => by omega, Nat.le_refl _, src_upd S3 (xB.block b (src_lt S3)), mem.Upd.of_below xB⟩
  have HC3 := Lib.hid (codeAt_below HC.out C3.out)
  have lts := O3.out.lts
  rw [hz3] at D0
  clear F0 xB C2 R2 hO hS2 hS1 U2 xN S3
  go_wp2_with fail
  generalize hW : (w2.alloc (.cells #[.slice p0 n c0, .slice p1 m c1] 33)).alloc (.cells #[] 2) = W4 at *
  generalize hW2 : w2.alloc (.cells #[.slice p0 n c0, .slice p1 m c1] 33) = W3 at *
  generalize hv : Value.slice (some ⟨w2.heap.size + 1, 0, none⟩) 0 0 = vl0 at *
  clear hW hW2 hv
  have hr4 : 0 ≤ (len : Int) % 4 ∧ (len : Int) % 4 ≤ 3 := by omega
  go_loopw [7, 8] (fun ov iv wr => ∃ (k : Nat) (ov' : Value), ov' = ov ∧ iv = .int .i64 ((len : Int) % 4 + k) ∧ k ≤ 1000 ∧ Fl W3 b (Value.slice pc len cc) len wr ov' k) (fun _ iv _ => 1010 - (intOf iv).toNat)
  case atStart => exact ⟨0, _, rfl, by simp, Nat.zero_le _, D0⟩
  case round =>
    obtain ⟨k, ov, rfl, rfl, hk, DF⟩ := hrel
    clear D0
    obtain ⟨D, g, i6, s6, D6, hDb, hg, S6, U6⟩ := DF.ex
    clear DF
    have hzr := U6.size
    have T6 := T3.keep (U6.block w2.heap.size (by omega) (by omega))
    have O6 := Lib.hid (O3.out.upd U6 (.inr (by omega)) (.inr (by omega)))
    have q0 := T6.b0
    have q1 := T6.b1
    obtain ⟨co, rfl⟩ := D6.shape
    have k0' : (0 : Int) ≤ (k : Int) := Int.natCast_nonneg _
    have lg := D6.lt
    have lb := src_lt S6
    have HDb := Lib.hid hDb
    clear hDb
    go_wp2_with fail
    clear q0 q1
    refine (mem.sIsNetwork_any wr _ n N m P 0 wr.heap.size O6.out.net (Nat.le_refl _) hnm).mono ?_
    rintro e w7 ⟨rfl, x7⟩
    have z7 := x7.size
    have D7 := D6.keep (x7.block g (by omega))
    have T7 := T6.next x7
    have O7 := Lib.hid (O6.out.next x7)
    have S7 := src_upd S6 (x7.block b (src_lt S6))
    have U7 := U6.trans (mem.Upd.of_below x7)
    clear D6 T6 O6 S6 U6 x7
    cases hB : mem.netB n N m P
    · clear hB
      obtain ⟨rn, rd, rc, hrn, -, ts, -⟩ := mem.fcFacts n N m P k D hnm hm (by omega)
      have TS := Lib.hid ts
      have q0 := T7.b0
      have q1 := T7.b1
      have lga := D7.lt
      clear ts
      go_wp2_with fail
      clear q0 q1
      refine (TS.out _ _ _ O7.out.net (D7.sl.mono (Nat.zero_le _) lga)).mono ?_
      rintro e wq ⟨xA, gA, rfl, oA, lA, bb⟩
      obtain ⟨pA, cA, rfl⟩ := oA.shape
      have zq := bb.size
      have zU := U7.size
      have Cq := Lib.hid ((C3.out.trans (U7.below (by omega) (by rintro x _ rfl; omega))).trans (bb.mono (by omega)))
      have Rq := (R3.keep (U7.block w.heap.size (by omega) (by omega))).next bb
      have Tq := T7.next bb
      have Oq := Lib.hid (O7.out.next bb)
      have lbS := src_lt S7
      have Sq := src_upd S7 (bb.block b lbS)
      have HAq := Lib.hid (owns_slw oA lA)
      clear D7 T7 O7 S7 U7 bb TS oA
      by_cases hrc : rc = 0
      · subst hrc
        go_wp2_with fail
        refine (next_any wq b w.heap.size (Value.slice pc len cc) len i6 s6 4 Sq (codeAt_below HC.out Cq.out) (by omega) (by omega)).mono ?_
        rintro e w5 ⟨v5, i5, s5, rfl, t5, ht5, S5, o5⟩
        have hz5 := o5.size
        have C5 := Lib.hid (Cq.out.trans (only_below o5 (by omega)))
        have R5 := Rq.keep (o5.block w.heap.size (by omega))
        have T5 := Tq.keep (o5.block w2.heap.size (by omega))
        have O5 := Lib.hid (Oq.out.upd (upd_of o5) (.inr (by omega)) (.inr (by omega)))
        have HA5 := Lib.hid (sl_upd HAq.out (upd_of o5) (by omega) (by omega))
        clear Cq Rq Tq Oq Sq HAq o5
        by_cases hv5 : v5 = 0
        · subst hv5
          go_wp2_with fail
          have t0 := T5.b0
          have t1 := T5.b1
          have f0 := R5.b0
          have f1 := R5.b1
          have k0 := R5.free 0
          have k1 := R5.free 1
          have HCd := Lib.hid (code_of (b := b) (B := w.heap.size) (codeAt_below HC.out C5.out) ⟨rfl, rfl, rfl, Nat.le_refl _, fun _ _ _ => rfl⟩ (by omega) (src_lt S5) : CodeAt w5.drew (Value.slice pc len cc) len w.heap.size)
          have hTT := T5.lt
          have hRR := R5.lt
          go_region_held3 (fun w' => w'.cell? ⟨w2.heap.size, 0, none⟩ = some (.slice p0 n c0) ∧ w'.cell? ⟨w2.heap.size, 1, none⟩ = some (.slice p1 m c1)) (first | exact ⟨t0, t1⟩ | exact ⟨TX.b0, TX.b1⟩ | exact ⟨((((mem.Only.refl w.heap.size _).setCell _ _).setCell _ _).cell (a := ⟨w2.heap.size, 0, none⟩) hTR).trans TX.b0, ((((mem.Only.refl w.heap.size _).setCell _ _).setCell _ _).cell (a := ⟨w2.heap.size, 1, none⟩) hTR).trans TX.b1⟩ | go_keep)
            (first | (go_at_call 101; refine (flows_any _ b w.heap.size (Value.slice pc len cc) len i5 s5 (src_upd S5 rfl : Src w5.drew b (Value.slice pc len cc) len i5 s5) HCd.out (by omega) p0 n c0 p1 m c1 hm).mono ?_; rintro e wx ⟨vx, Kx, Dx, ix, sx, rfl, hKx, hLx, hSx, Ux⟩; have TX := (T5.keep (Ux.block w2.heap.size hTT (by omega)) : mem.Ob wx w2.heap.size 2 _); have RX := (R5.keep (Ux.block w.heap.size hRR (by omega)) : mem.Ob wx w.heap.size 2 _); have fx0 := RX.b0; have fx1 := RX.b1; have kx0 := RX.free 0; have kx1 := RX.free 1))
          obtain ⟨px, cx, rfl⟩ := sl_sh hLx
          have hzx := Ux.size
          have hzd : w5.drew.heap.size = w5.heap.size := rfl
          have hO := ((mem.Only.refl w.heap.size wx).setCell 0 (.slice p0 n c0)).setCell 1 (.slice p1 m c1)
          have HO := Lib.hid ((O5.out.drew.upd Ux (.inr (by omega)) (.inr (by omega))).upd (mem.Upd.of_only hO) (.inr (by omega)) (.inr (by omega)))
          have HB := Lib.hid (mem.below_only ((mem.below_dw C5.out).trans (Ux.below (by omega) (by rintro x _ rfl; omega))) hO (by omega))
          have HLX := Lib.hid ((hLx.only hO (.inl (by show w.heap.size < w5.heap.size; omega))).mono (show w.heap.size ≤ w5.heap.size by omega) (Nat.le_of_eq hO.size))
          clear hO Ux TX RX O5 hLx hSx
          go_wp2_with fail
          refine bodyPost_ret (v := .tuple #[.agg #[.slice p0 n c0, .slice p1 m c1], .slice px Kx cx]) (by simp [results, Try.results47, go_sem, fx0, fx1]) rfl ⟨_, n, m, N, P, b1, b2, _, Kx, Dx, rfl, hn, hm, hKx, hnm, HO.out, by omega, by omega, HLX.out, HB.out⟩

        · have hv5' : (v5 == 0) = false := by simpa using hv5
          have t0 := T5.b0
          have t1 := T5.b1
          have f0 := R5.b0
          have f1 := R5.b1
          have k0 := R5.free 0
          have k1 := R5.free 1
          have HF := Lib.hid (nl_post (w := w) O5.out (by omega) (by omega) hn hm (show rn ≤ 2000 by omega) hnm HA5.out (by omega) (by omega) C5.out)
          clear T5 R5 O5 C5 HA5 S5 hv5
          go_wp2_with fail
          exact bodyPost_ret (v := .tuple #[.agg #[.slice p0 n c0, .slice p1 m c1], .slice pA rn cA]) (by simp [results, Try.results47, go_sem, f0, f1]) rfl HF.out
      · have hrc' : (rc != 0) = true := by simpa using hrc
        go_wp2_with fail
        have t0 := Tq.b0
        have t1 := Tq.b1
        have f0 := Rq.b0
        have f1 := Rq.b1
        have k0 := Rq.free 0
        have k1 := Rq.free 1
        have HCd := Lib.hid (code_of (b := b) (B := w.heap.size) (codeAt_below HC.out Cq.out) ⟨rfl, rfl, rfl, Nat.le_refl _, fun _ _ _ => rfl⟩ (by omega) (src_lt Sq) : CodeAt wq.drew (Value.slice pc len cc) len w.heap.size)
        have hTT := Tq.lt
        have hRR := Rq.lt
        go_region_held3 (fun w' => w'.cell? ⟨w2.heap.size, 0, none⟩ = some (.slice p0 n c0) ∧ w'.cell? ⟨w2.heap.size, 1, none⟩ = some (.slice p1 m c1)) (first | exact ⟨t0, t1⟩ | exact ⟨TX.b0, TX.b1⟩ | exact ⟨((((mem.Only.refl w.heap.size _).setCell _ _).setCell _ _).cell (a := ⟨w2.heap.size, 0, none⟩) hTR).trans TX.b0, ((((mem.Only.refl w.heap.size _).setCell _ _).setCell _ _).cell (a := ⟨w2.heap.size, 1, none⟩) hTR).trans TX.b1⟩ | go_keep)
          (first | (go_at_call 101; refine (flows_any _ b w.heap.size (Value.slice pc len cc) len i6 s6 (src_upd Sq rfl : Src wq.drew b (Value.slice pc len cc) len i6 s6) HCd.out (by omega) p0 n c0 p1 m c1 hm).mono ?_; rintro e wx ⟨vx, Kx, Dx, ix, sx, rfl, hKx, hLx, hSx, Ux⟩; have TX := (Tq.keep (Ux.block w2.heap.size hTT (by omega)) : mem.Ob wx w2.heap.size 2 _); have RX := (Rq.keep (Ux.block w.heap.size hRR (by omega)) : mem.Ob wx w.heap.size 2 _); have fx0 := RX.b0; have fx1 := RX.b1; have kx0 := RX.free 0; have kx1 := RX.free 1))
        obtain ⟨px, cx, rfl⟩ := sl_sh hLx
        have hzx := Ux.size
        have hzd : wq.drew.heap.size = wq.heap.size := rfl
        have hO := ((mem.Only.refl w.heap.size wx).setCell 0 (.slice p0 n c0)).setCell 1 (.slice p1 m c1)
        have HO := Lib.hid ((Oq.out.drew.upd Ux (.inr (by omega)) (.inr (by omega))).upd (mem.Upd.of_only hO) (.inr (by omega)) (.inr (by omega)))
        have HB := Lib.hid (mem.below_only ((mem.below_dw Cq.out).trans (Ux.below (by omega) (by rintro x _ rfl; omega))) hO (by omega))
        have HLX := Lib.hid ((hLx.only hO (.inl (by show w.heap.size < wq.heap.size; omega))).mono (show w.heap.size ≤ wq.heap.size by omega) (Nat.le_of_eq hO.size))
        clear hO Ux TX RX Oq hLx hSx
        go_wp2_with fail
        refine bodyPost_ret (v := .tuple #[.agg #[.slice p0 n c0, .slice p1 m c1], .slice px Kx cx]) (by simp [results, Try.results47, go_sem, fx0, fx1]) rfl ⟨_, n, m, N, P, b1, b2, _, Kx, Dx, rfl, hn, hm, hKx, hnm, HO.out, by omega, by omega, HLX.out, HB.out⟩

    · have HB := Lib.hid hB
      obtain ⟨hn1, hn24, hm40⟩ := mem.net_sz hB
      have q0 := T7.b0
      have q1 := T7.b1
      clear hB
      go_wp2_with fail
      clear q0 q1
      refine (mem.l05Chords_any w7 _ n N m P 0 w7.heap.size O7.out.net (Nat.le_refl _) hnm HB.out).mono ?_
      rintro e w8 ⟨v8, g8, rfl, hV8, lg8, x8⟩
      obtain ⟨c8, rfl⟩ := hV8.shape
      have hcn := mem.chN_le n P m
      obtain ⟨cn, hcne⟩ : ∃ cn, mem.chN n P m = cn := ⟨_, rfl⟩
      rw [hcne] at hcn
      rw [hcne]
      clear hV8 hcne
      have z8 := x8.size
      have D8 := D7.keep (x8.block g (by omega))
      have T8 := T7.next x8
      have O8 := Lib.hid (O7.out.next x8)
      have S8 := src_upd S7 (x8.block b (src_lt S7))
      have U8 := U7.trans (mem.Upd.of_below x8)
      clear D7 T7 O7 S7 U7 x8
      have hbc : -4611686018427387904 ≤ (cn : Int) + (len : Int) % 4 ∧ (cn : Int) + (len : Int) % 4 ≤ 4611686018427387904 := by omega
      have hbk : -4611686018427387904 ≤ (len : Int) % 4 + (k : Int) + 1 ∧ (len : Int) % 4 + (k : Int) + 1 ≤ 4611686018427387904 := by omega
      by_cases hlt : k < cn
      · have k1' : (len : Int) % 4 + (k : Int) < (cn : Int) + (len : Int) % 4 := by omega
        go_wp2_with fail
        refine (next_any w8 b w.heap.size (Value.slice pc len cc) len i6 s6 9 S8 (code_of HC3.out U8 (by omega) (by omega)) (by omega) (by omega)).mono ?_
        rintro e w9 ⟨v9, i9, s9, rfl, t9, ht9, S9, o9⟩
        have D9 := D8.keep (o9.block g (by omega))
        have U9 := U8.trans (upd_of o9)
        have z9 := o9.size
        have hb1 : -4611686018427387904 ≤ v9 - 4 ∧ v9 - 4 ≤ 4611686018427387904 := by omega
        obtain ⟨va, wa, ga, hr, ap⟩ := mem.app_run (w9.alloc (.cells #[.int .i64 (v9 - 4)] 2)) _ k _ g (v9 - 4) w9.heap.size (D9.alloc _) (mem.cell_new1 w9 _) (by omega)
        have bl := ap.below (B := W3.heap.size) (by omega) (by rw [mem.szal]; omega)
        have xb : Below W3.heap.size w9 wa := ((mem.below_new w9 _).mono U9.size).trans bl.1
        have DF8 : Fl W3 b (Value.slice pc len cc) len wa va (k + 1) := ⟨_, ga, i9, s9, ap.own, fun j hj => by
          unfold mem.upd
          split
          · omega
          · exact HDb.out j (by omega), bl.2, src_upd S9 (xb.block b (by omega)), upd_bel U9 xb⟩
        clear D8 T8 O8 S8 U8 D9 U9 S9 o9 ap bl xb
        go_wp2_with (at_builtin; refine mem.wpList_app hr rfl _ _ rfl rfl rfl rfl ?_)
        clear hr
        go_roundw
        case rel => exact ⟨k + 1, _, rfl, by go_num, by omega, DF8⟩
        case measure => simp [intOf]; omega
      · have k1' : ¬ ((len : Int) % 4 + (k : Int) < (cn : Int) + (len : Int) % 4) := by omega
        obtain ⟨rn, rd, rc, hrn, -, ts, -⟩ := mem.fcFacts n N m P k D hnm hm (by omega)
        have TS := Lib.hid ts
        have q0 := T8.b0
        have q1 := T8.b1
        have lga := D8.lt
        clear ts
        go_wp2_with fail
        clear q0 q1
        refine (TS.out _ _ _ O8.out.net (D8.sl.mono (Nat.zero_le _) lga)).mono ?_
        rintro e wq ⟨xA, gA, rfl, oA, lA, bb⟩
        obtain ⟨pA, cA, rfl⟩ := oA.shape
        have zq := bb.size
        have zU := U8.size
        have Cq := Lib.hid ((C3.out.trans (U8.below (by omega) (by rintro x _ rfl; omega))).trans (bb.mono (by omega)))
        have Rq := (R3.keep (U8.block w.heap.size (by omega) (by omega))).next bb
        have Tq := T8.next bb
        have Oq := Lib.hid (O8.out.next bb)
        have lbS := src_lt S8
        have Sq := src_upd S8 (bb.block b lbS)
        have HAq := Lib.hid (owns_slw oA lA)
        clear D8 T8 O8 S8 U8 bb TS oA
        by_cases hrc : rc = 0
        · subst hrc
          go_wp2_with fail
          refine (next_any wq b w.heap.size (Value.slice pc len cc) len i6 s6 4 Sq (codeAt_below HC.out Cq.out) (by omega) (by omega)).mono ?_
          rintro e w5 ⟨v5, i5, s5, rfl, t5, ht5, S5, o5⟩
          have hz5 := o5.size
          have C5 := Lib.hid (Cq.out.trans (only_below o5 (by omega)))
          have R5 := Rq.keep (o5.block w.heap.size (by omega))
          have T5 := Tq.keep (o5.block w2.heap.size (by omega))
          have O5 := Lib.hid (Oq.out.upd (upd_of o5) (.inr (by omega)) (.inr (by omega)))
          have HA5 := Lib.hid (sl_upd HAq.out (upd_of o5) (by omega) (by omega))
          clear Cq Rq Tq Oq Sq HAq o5
          by_cases hv5 : v5 = 0
          · subst hv5
            go_wp2_with fail
            have t0 := T5.b0
            have t1 := T5.b1
            have f0 := R5.b0
            have f1 := R5.b1
            have k0 := R5.free 0
            have k1 := R5.free 1
            have HCd := Lib.hid (code_of (b := b) (B := w.heap.size) (codeAt_below HC.out C5.out) ⟨rfl, rfl, rfl, Nat.le_refl _, fun _ _ _ => rfl⟩ (by omega) (src_lt S5) : CodeAt w5.drew (Value.slice pc len cc) len w.heap.size)
            have hTT := T5.lt
            have hRR := R5.lt
            go_region_held3 (fun w' => w'.cell? ⟨w2.heap.size, 0, none⟩ = some (.slice p0 n c0) ∧ w'.cell? ⟨w2.heap.size, 1, none⟩ = some (.slice p1 m c1)) (first | exact ⟨t0, t1⟩ | exact ⟨TX.b0, TX.b1⟩ | exact ⟨((((mem.Only.refl w.heap.size _).setCell _ _).setCell _ _).cell (a := ⟨w2.heap.size, 0, none⟩) hTR).trans TX.b0, ((((mem.Only.refl w.heap.size _).setCell _ _).setCell _ _).cell (a := ⟨w2.heap.size, 1, none⟩) hTR).trans TX.b1⟩ | go_keep)
              (first | (go_at_call 101; refine (flows_any _ b w.heap.size (Value.slice pc len cc) len i5 s5 (src_upd S5 rfl : Src w5.drew b (Value.slice pc len cc) len i5 s5) HCd.out (by omega) p0 n c0 p1 m c1 hm).mono ?_; rintro e wx ⟨vx, Kx, Dx, ix, sx, rfl, hKx, hLx, hSx, Ux⟩; have TX := (T5.keep (Ux.block w2.heap.size hTT (by omega)) : mem.Ob wx w2.heap.size 2 _); have RX := (R5.keep (Ux.block w.heap.size hRR (by omega)) : mem.Ob wx w.heap.size 2 _); have fx0 := RX.b0; have fx1 := RX.b1; have kx0 := RX.free 0; have kx1 := RX.free 1))
            obtain ⟨px, cx, rfl⟩ := sl_sh hLx
            have hzx := Ux.size
            have hzd : w5.drew.heap.size = w5.heap.size := rfl
            have hO := ((mem.Only.refl w.heap.size wx).setCell 0 (.slice p0 n c0)).setCell 1 (.slice p1 m c1)
            have HO := Lib.hid ((O5.out.drew.upd Ux (.inr (by omega)) (.inr (by omega))).upd (mem.Upd.of_only hO) (.inr (by omega)) (.inr (by omega)))
            have HB := Lib.hid (mem.below_only ((mem.below_dw C5.out).trans (Ux.below (by omega) (by rintro x _ rfl; omega))) hO (by omega))
            have HLX := Lib.hid ((hLx.only hO (.inl (by show w.heap.size < w5.heap.size; omega))).mono (show w.heap.size ≤ w5.heap.size by omega) (Nat.le_of_eq hO.size))
            clear hO Ux TX RX O5 hLx hSx
            go_wp2_with fail
            refine bodyPost_ret (v := .tuple #[.agg #[.slice p0 n c0, .slice p1 m c1], .slice px Kx cx]) (by simp [results, Try.results47, go_sem, fx0, fx1]) rfl ⟨_, n, m, N, P, b1, b2, _, Kx, Dx, rfl, hn, hm, hKx, hnm, HO.out, by omega, by omega, HLX.out, HB.out⟩

          · have hv5' : (v5 == 0) = false := by simpa using hv5
            have t0 := T5.b0
            have t1 := T5.b1
            have f0 := R5.b0
            have f1 := R5.b1
            have k0 := R5.free 0
            have k1 := R5.free 1
            have HF := Lib.hid (nl_post (w := w) O5.out (by omega) (by omega) hn hm (show rn ≤ 2000 by omega) hnm HA5.out (by omega) (by omega) C5.out)
            clear T5 R5 O5 C5 HA5 S5 hv5
            go_wp2_with fail
            exact bodyPost_ret (v := .tuple #[.agg #[.slice p0 n c0, .slice p1 m c1], .slice pA rn cA]) (by simp [results, Try.results47, go_sem, f0, f1]) rfl HF.out
        · have hrc' : (rc != 0) = true := by simpa using hrc
          go_wp2_with fail
          have t0 := Tq.b0
          have t1 := Tq.b1
          have f0 := Rq.b0
          have f1 := Rq.b1
          have k0 := Rq.free 0
          have k1 := Rq.free 1
          have HCd := Lib.hid (code_of (b := b) (B := w.heap.size) (codeAt_below HC.out Cq.out) ⟨rfl, rfl, rfl, Nat.le_refl _, fun _ _ _ => rfl⟩ (by omega) (src_lt Sq) : CodeAt wq.drew (Value.slice pc len cc) len w.heap.size)
          have hTT := Tq.lt
          have hRR := Rq.lt
          go_region_held3 (fun w' => w'.cell? ⟨w2.heap.size, 0, none⟩ = some (.slice p0 n c0) ∧ w'.cell? ⟨w2.heap.size, 1, none⟩ = some (.slice p1 m c1)) (first | exact ⟨t0, t1⟩ | exact ⟨TX.b0, TX.b1⟩ | exact ⟨((((mem.Only.refl w.heap.size _).setCell _ _).setCell _ _).cell (a := ⟨w2.heap.size, 0, none⟩) hTR).trans TX.b0, ((((mem.Only.refl w.heap.size _).setCell _ _).setCell _ _).cell (a := ⟨w2.heap.size, 1, none⟩) hTR).trans TX.b1⟩ | go_keep)
            (first | (go_at_call 101; refine (flows_any _ b w.heap.size (Value.slice pc len cc) len i6 s6 (src_upd Sq rfl : Src wq.drew b (Value.slice pc len cc) len i6 s6) HCd.out (by omega) p0 n c0 p1 m c1 hm).mono ?_; rintro e wx ⟨vx, Kx, Dx, ix, sx, rfl, hKx, hLx, hSx, Ux⟩; have TX := (Tq.keep (Ux.block w2.heap.size hTT (by omega)) : mem.Ob wx w2.heap.size 2 _); have RX := (Rq.keep (Ux.block w.heap.size hRR (by omega)) : mem.Ob wx w.heap.size 2 _); have fx0 := RX.b0; have fx1 := RX.b1; have kx0 := RX.free 0; have kx1 := RX.free 1))
          obtain ⟨px, cx, rfl⟩ := sl_sh hLx
          have hzx := Ux.size
          have hzd : wq.drew.heap.size = wq.heap.size := rfl
          have hO := ((mem.Only.refl w.heap.size wx).setCell 0 (.slice p0 n c0)).setCell 1 (.slice p1 m c1)
          have HO := Lib.hid ((Oq.out.drew.upd Ux (.inr (by omega)) (.inr (by omega))).upd (mem.Upd.of_only hO) (.inr (by omega)) (.inr (by omega)))
          have HB := Lib.hid (mem.below_only ((mem.below_dw Cq.out).trans (Ux.below (by omega) (by rintro x _ rfl; omega))) hO (by omega))
          have HLX := Lib.hid ((hLx.only hO (.inl (by show w.heap.size < wq.heap.size; omega))).mono (show w.heap.size ≤ wq.heap.size by omega) (Nat.le_of_eq hO.size))
          clear hO Ux TX RX Oq hLx hSx
          go_wp2_with fail
          refine bodyPost_ret (v := .tuple #[.agg #[.slice p0 n c0, .slice p1 m c1], .slice px Kx cx]) (by simp [results, Try.results47, go_sem, fx0, fx1]) rfl ⟨_, n, m, N, P, b1, b2, _, Kx, Dx, rfl, hn, hm, hKx, hnm, HO.out, by omega, by omega, HLX.out, HB.out⟩

end Go.Proofs.Ytpgcieefipjjfaa.draw

namespace Go.Proofs.Ytpgcieefipjjfaa.fnCirculations
open Go.ChangeShapes Go.WideShapes Go.ChangeAt Go.RowKit Go.Proofs.Ytpgcieefipjjfaa.draw Go.Proofs.Ytpgcieefipjjfaa.mem
set_option linter.unusedVariables false

theorem own : ownKnob Try.prog.godebug = none := by kernel_rfl
theorem laidOut : laidOutB Try.prog = true := by kernel_rfl

theorem owns_sl {w : World} {v : Value} {n b : Nat} {d : Nat → Int} (h : OwnS w v n 1 (fun i _ => .int .i64 (d i)) b) : Sl w v n d 0 w.heap.size := by
  obtain ⟨p', cap, hv, h1, h2, h3⟩ := h.ex
  refine ⟨p', cap, hv, ?_⟩
  rcases h3 with h3 | ⟨h3, h4⟩
  · exact .inl h3
  · refine .inr ⟨b, 0, h3, Nat.zero_le _, h4.lt, fun k hk => ?_⟩
    have := h4.cell k 0 hk (by omega)
    simpa using this
theorem likeSl (w : World) (v u : Value) (n : Nat) (d e : Nat → Int) (lo hi lo' hi' : Nat) (h : Sl w v n d lo hi) (g : Sl w u n e lo' hi') (hde : ∀ k, k < n → e k = d k) (hn9 : n ≤ 1000000) :
    Calls Try.prog 35 #[v, u] w fun e w' => e = .returned (.bool true) ∧ Below w.heap.size w w' := by
  obtain ⟨p, cap, rfl, hc⟩ := h
  obtain ⟨p', cap', rfl, hc'⟩ := g
  have HC := Lib.hid hc
  have HC' := Lib.hid hc'
  have HE := Lib.hid hde
  clear hc hc' hde
  have hbb : ((n : Int) != n) = false := by simp
  go_enter Try.func35, Try.ntmps35
  go_wp2_with fail
  go_loopw [5] (fun i wr => ∃ k m : Nat, i = .int .i64 k ∧ k ≤ n ∧ wr = w.drewN m) (fun i _ => n - (intOf i).toNat)
  case atStart => exact ⟨0, 0, rfl, Nat.zero_le _, rfl⟩
  case round =>
    obtain ⟨k, m, rfl, hk, hw⟩ := hrel
    have HWR := Lib.hid hw
    by_cases hlt : k < n
    · rcases HC.out with h0 | ⟨b, o, rfl, g1, g2, g3⟩
      · omega
      rcases HC'.out with h0 | ⟨b', o', rfl, g1', g2', g3'⟩
      · omega
      have c1 : wr.cell? ⟨b, o + k, none⟩ = some (.int .i64 (d k)) := by rw [hw]; exact g3 k hlt
      have c2 : wr.cell? ⟨b', o' + k, none⟩ = some (.int .i64 (d k)) := by rw [hw, ← HE.out k hlt]; exact g3' k hlt
      have hkn : (k : Int) < (n : Int) := by omega
      have hdd : (d k != d k) = false := by simp
      clear hw g3 g3'
      go_wp2_with fail
      go_quiet (fail)
      go_wp2_with fail
      go_roundw
      case rel => exact ⟨k + 1, m + nq, by go_num, hlt, by rw [HWR.out]; exact (World.drewN_drewN _ _ _)⟩
      case measure => simp [intOf]; omega
    · clear hw
      go_wp2_with fail
      go_ret
      exact ⟨rfl, by rw [HWR.out]; exact below_self _ _ _⟩
set_option maxRecDepth 100000 in
set_option maxHeartbeats 20000000 in
theorem walk (v : Value) (w : World) (hc : CodeArg w v) :
    Calls Try.prog 9 #[v] w fun e w' => e = .returned (.bool true) ∧ Below w.heap.size w w' := by
  obtain ⟨p, len, cap, rfl, hlen, hcode⟩ := hc
  by_cases h4 : (4096 : Int) < len
  · clear hcode
    go_enter Try.func9, Try.ntmps9
    go_wp2_with (go_at_call 31; refine (draw.big_any _ _ _ _).mono ?_; rintro e w' ⟨rfl, rfl⟩)
    go_ret
    exact ⟨rfl, Below.refl _ _⟩
  have hc := hcode (by omega)
  clear hcode
  go_enter Try.func9, Try.ntmps9
  go_wp2_with (go_at_call 31; refine (draw.big_any _ _ _ _).mono ?_; rintro e w' ⟨rfl, rfl⟩)
  refine (draw.drawIsCirculation w _ len hc).mono ?_
  rintro e w1 ⟨v, n, m, N, P, b1, b2, vk, K, D, rfl, hn, hm, hK, hnm, o1, l1, l2, hK1, C1⟩
  obtain ⟨cb, ti, ts, hz⟩ := ciFacts n N m P K D hnm hm (by omega)
  have TI := Lib.hid ti
  have TS := Lib.hid ts
  have HZ := Lib.hid hz
  clear ti ts hz
  clear hc
  obtain ⟨pk, ck, rfl⟩ := draw.sl_sh hK1
  have hb2 : (cb != cb) = false := by simp
  have lxx := o1.lts
  obtain ⟨sx1, sx2, sx3, sx4, rfl⟩ := o1.shape
  go_wp2_with fail
  have bb := mem.below_new w1 (.cells #[.slice sx1 n sx2, .slice sx3 m sx4] 33)
  have B_x := boxed w1 (.slice sx1 n sx2) (.slice sx3 m sx4) 33
  have hs2 := bb.size
  have C2 := belowNext C1 bb
  have LK2 := hK1.next bb
  have x2 := o1.next bb
  clear bb C1 hK1 o1
  generalize hW2 : w1.alloc (Obj.cells #[.slice sx1 n sx2, .slice sx3 m sx4] 33) = w2 at *
  clear hW2
  have Bx2 := B_x
  clear B_x
  have lBx := Bx2.lt
  refine (TI.out _ _ _ x2.net LK2.zero).mono ?_
  rintro e w3 ⟨rfl, bb⟩
  have hs3 := bb.size
  have C3 := belowNext C2 bb
  have LK3 := LK2.next bb
  have x3 := x2.next bb
  have Bx3 := Bx2.next bb
  clear bb C2 LK2 x2 Bx2
  have qBx0 := Bx3.b0
  have qBx1 := Bx3.b1
  have qBx2 := Bx3.lt
  go_wp2_with fail
  refine (TS.out _ _ _ x3.net LK3.zero).mono ?_
  rintro e w4 ⟨rfl, bb⟩
  have hs4 := bb.size
  have C4 := belowNext C3 bb
  have LK4 := LK3.next bb
  have x4 := x3.next bb
  have Bx4 := Bx3.next bb
  clear qBx0 qBx1 qBx2
  clear bb C3 LK3 x3 Bx3
  cases cb
  · skip
    have qBx0 := Bx4.b0
    have qBx1 := Bx4.b1
    have qBx2 := Bx4.lt
    go_wp2_with fail
    go_ret
    exact ⟨rfl, C4⟩
  · obtain ⟨an, ad, rd, han, hK2, q1, q2, q3⟩ := HZ.out (by trivial)
    have Q1 := Lib.hid q1
    have Q2 := Lib.hid q2
    have Q3 := Lib.hid q3
    clear q1 q2 q3
    clear HZ
    have qBx0 := Bx4.b0
    have qBx1 := Bx4.b1
    have qBx2 := Bx4.lt
    go_wp2_with fail
    refine (Q1.out _ _ _ x4.net LK4.zero).mono ?_
    rintro e w5 ⟨xA, gA, rfl, oA, lA, bb⟩
    have hs5 := bb.size
    have C5 := belowNext C4 bb
    have LK5 := LK4.next bb
    have x5 := x4.next bb
    have Bx5 := Bx4.next bb
    clear qBx0 qBx1 qBx2
    clear bb C4 LK4 x4 Bx4
    have lxA := oA.lt
    obtain ⟨sA1, sA2, rfl⟩ := oA.shape
    have qBx0 := Bx5.b0
    have qBx1 := Bx5.b1
    have qBx2 := Bx5.lt
    go_wp2_with fail
    refine (Q2.out _ _ _ x5.net (owns_sl oA)).mono ?_
    rintro e w6 ⟨xB, gB, rfl, oB, lB, bb⟩
    have hs6 := bb.size
    have C6 := belowNext C5 bb
    have LK6 := LK5.next bb
    have x6 := x5.next bb
    have Bx6 := Bx5.next bb
    have A6 := oA.next bb
    clear qBx0 qBx1 qBx2
    clear bb C5 LK5 x5 Bx5 oA
    have lxB := oB.lt
    obtain ⟨sB1, sB2, rfl⟩ := oB.shape
    have qBx0 := Bx6.b0
    have qBx1 := Bx6.b1
    have qBx2 := Bx6.lt
    go_wp2_with fail
    refine (likeSl _ _ _ K rd D 0 _ 0 _ (owns_sl oB) LK6.zero (fun k hk => (Q3.out k hk).symm) (by omega)).mono ?_
    rintro e w7 ⟨rfl, bb⟩
    have hs7 := bb.size
    have C7 := belowNext C6 bb
    have LK7 := LK6.next bb
    have x7 := x6.next bb
    have Bx7 := Bx6.next bb
    have A7 := A6.next bb
    have B7 := oB.next bb
    clear qBx0 qBx1 qBx2
    clear bb C6 LK6 x6 Bx6 A6 oB
    have qBx0 := Bx7.b0
    have qBx1 := Bx7.b1
    have qBx2 := Bx7.lt
    go_wp2_with fail
    go_ret
    exact ⟨rfl, C7⟩

set_option maxRecDepth 100000 in
theorem lifted (os : Os) (started : os.Started) (H : Type) (enc : TypeId × Value → H) :
    ReturnsInHanded {} Try.checked os 9 .any (Rows.fnCirculationsSpec.pre6 enc Try.prog Try.f9 Rows.fnCirculationsRow.domain false) (Rows.fnCirculationsSpec.post enc Try.prog Try.f9 false true false false) := by
  refine returnsInHanded_of_change (C := Try.checked) own started (by kernel_rfl) Try.func9
    (ChangeSpec.witness6 (enc := enc) (C := Try.checked) false ⟨#[], #[.slice none 0 0], []⟩ 8 (by kernel_rfl) (by kernel_rfl) (by kernel_rfl) (by kernel_rfl)) ?_
  intro W base args ds gs before hval0 hW hcnd _
  have hval : ∀ (j : Nat) t v, Try.f9.params[j]? = some t → args[j]? = some v → Value.okWide Try.prog W .any base t v := hval0
  have hW' := hW
  obtain ⟨p, q, hA0, hV, rfl, hfz, hnd⟩ := hW
  have hA : DataW.TrodAll enc Try.prog W 0 (fun _ => true) true Try.f9.params.toList args.toList ds p := hA0
  rw [Try.params9] at hA hval
  obtain ⟨v0, vs0, d0, ds0, p0, q0, hargs, rfl, rfl, h0, r0⟩ := trodAll_cons hA
  obtain ⟨rfl, rfl, rfl⟩ := trodAll_nil r0
  obtain rfl : args = #[v0] := by cases args; simp_all
  obtain ⟨rfl, rfl⟩ := trodVars_none hV
  have hc := open_code (hval 0 48 v0 rfl rfl) h0
  refine (walk v0 W hc).mono fun e W' ⟨he, hg⟩ => ?_
  subst he
  exact ⟨_, rfl, law.law_post hW' hg laidOut (by kernel_rfl) rfl rfl (by kernel_rfl) Try.underlying4⟩

theorem over : Rows.fnCirculationsRow.holds Try.pinned (OpenSpec.ofChange Rows.fnCirculationsSpec) :=
  OpenClaim.holds_of_wide 9 Try.f9 rfl rfl rfl rfl rfl rfl rfl ⟨rfl, rfl, rfl, rfl, rfl⟩ rfl rfl rfl rfl rfl (by kernel_rfl) Try.func9 (by kernel_rfl)
    (of_decide_eq_true (by kernel_rfl)) (by unfold Func.isWrapper; first | (rw [if_pos (by decide +kernel)]; kernel_rfl) | (rw [if_neg (by decide +kernel)]; exact ⟨rfl, rfl⟩))
    (fun os started H enc _ => lifted os started H enc)

theorem proved : Rows.FnCirculationsSaid :=
  over
#print axioms proved
end Go.Proofs.Ytpgcieefipjjfaa.fnCirculations
