/-
  The draw of a network and flows of chords. Conditions: as each states.
-/
import Derived.Test.YtpgcieefipjjfaaRows
import Derived.Test.YtpgcieefipjjfaaDrc
import Derived.Test.YtpgcieefipjjfaaDrbM
import Derived.WalkKit
import Derived.ProofKit
import Derived.Lib.Hide
import Derived.OwnWalk
import Derived.Outline
import Derived.Deep.RegionHeld3
import Derived.Deep.Cut
import Derived.Deep.RegionWith
namespace Go.Proofs.Ytpgcieefipjjfaa.draw
open Go.RowKit
set_option linter.unusedVariables false

theorem nl_post {w X : World} {n m b1 b2 K lo hi : Nat} {v0 v1 vl : Value} {N : Nat → mem.Nod} {P : Nat → mem.Pip} {D : Nat → Int} (hO : mem.NetOwn X (.agg #[v0, v1]) n N m P b1 b2) (hb1 : w.heap.size < b1) (hb2 : w.heap.size < b2) (hn : n ≤ 1000) (hm : m ≤ 1000) (hK : K ≤ 2000) (hnm : ∀ i, i < n → (N i).s.size ≤ 9223372036854775807)
    (hL : mem.Sl X vl K D lo hi) (hlo : w.heap.size < lo) (hhi : hi ≤ X.heap.size) (hC : Below w.heap.size w X) : NLOnly w (.returned (.tuple #[.agg #[v0, v1], vl])) ((X.setCell ⟨w.heap.size, 0, none⟩ v0).setCell ⟨w.heap.size, 1, none⟩ v1) := by
  have hO2 := ((mem.Only.refl w.heap.size X).setCell 0 v0).setCell 1 v1
  exact ⟨_, n, m, N, P, b1, b2, vl, K, D, rfl, hn, hm, hK, hnm, hO.upd (mem.Upd.of_only hO2) (.inr (by omega)) (.inr (by omega)), by omega, by omega, (hL.only hO2 (.inl hlo)).mono (by omega) (Nat.le_trans hhi (Nat.le_of_eq hO2.size)), mem.below_only hC hO2 (Nat.le_refl _)⟩
set_option maxRecDepth 100000 in
set_option maxHeartbeats 4000000 in
theorem drawFromChords (w : World) (cv : Value) (len : Nat) (hc : CodeAt w cv len w.heap.size) : Calls Try.prog 48 #[cv] w (NLOnly w) := by
  have HC := Lib.hid hc
  have R1 := mem.boxed w (.slice none 0 0) (.slice none 0 0) 33
  have C1 := mem.below_new w (.cells #[.slice none 0 0, .slice none 0 0] 33)
  have hsz : (w.alloc (.cells #[.slice none 0 0, .slice none 0 0] 33)).heap.size = w.heap.size + 1 := by simp
  go_enter Try.func48, Try.ntmps48
  go_wp2_with fail
  generalize hW : w.alloc (.cells #[.slice none 0 0, .slice none 0 0] 33) = Wa at *
  clear hW hc
  replace hsz := Nat.le_antisymm_iff.1 hsz
  refine (from_any Wa cv len (by have := codeAt_below HC.out C1; rcases this with h | ⟨cb, co, cap, h1, h2, h3⟩; exact .inl h; exact .inr ⟨cb, co, cap, h1, by omega, h3⟩)).mono ?_
  rintro e w1 ⟨s1, rfl, hS1, B1, z1⟩
  obtain ⟨b, hbe⟩ : ∃ b, b = Wa.heap.size := ⟨_, rfl⟩
  rw [← hbe] at hS1 z1 ⊢
  replace hbe := Nat.le_antisymm_iff.1 hbe
  replace z1 := Nat.le_antisymm_iff.1 z1
  have C2 := mem.belowNext C1 B1
  have R2 := R1.next B1
  clear B1 C1 R1
  go_wp2_with fail
  refine (chord_any w1 b w.heap.size cv len 0 s1 hS1 (codeAt_below HC.out C2) (by omega)).mono ?_
  rintro e w2 ⟨v, n, m, N, P, b1, b2, x, i2, s2, rfl, hn, hm, hnm, hO, l1, l2, hS2, U2⟩
  obtain ⟨p0, c0, p1, c1, rfl⟩ := hO.shape
  have xN := mem.below_new w2 (.cells #[.slice p0 n c0, .slice p1 m c1] 33)
  have C3 := Lib.hid ((C2.trans (U2.below (by omega) (by rintro x _ rfl; omega))).trans (xN.mono (by have := U2.size; omega)))
  have R3 := (R2.keep (U2.block w.heap.size (by omega) (by omega))).next xN
  have T3 := mem.boxed w2 (.slice p0 n c0) (.slice p1 m c1) 33
  have O3 := Lib.hid (hO.next xN)
  have S3 := src_alloc hS2 (src_lt hS2) (.cells #[.slice p0 n c0, .slice p1 m c1] 33)
  have hz3 : (w2.alloc (.cells #[.slice p0 n c0, .slice p1 m c1] 33)).heap.size = w2.heap.size + 1 := by simp
  have hb2 := src_lt hS2
  have hbT : b ≠ w2.heap.size := by omega
  have hbR : b ≠ w.heap.size := by omega
  have hTR : w2.heap.size ≠ w.heap.size := by omega
  have hl1 : b < b1 := by omega
  have hl2 : b < b2 := by omega
  have hU := U2.size
  have F0 := mem.Own.nilled (w2.alloc (.cells #[.slice p0 n c0, .slice p1 m c1] 33)) (fun _ => 0)
  have xB := mem.below_new (w2.alloc (.cells #[.slice p0 n c0, .slice p1 m c1] 33)) (.cells #[] 2)
  have D0 : Fl (w2.alloc (.cells #[.slice p0 n c0, .slice p1 m c1] 33)) b cv len ((w2.alloc (.cells #[.slice p0 n c0, .slice p1 m c1] 33)).alloc (.cells #[] 2)) (.slice (some ⟨(w2.alloc (.cells #[.slice p0 n c0, .slice p1 m c1] 33)).heap.size, 0, none⟩) 0 0) 0 := ⟨fun _ => 0, _, _, _, F0, fun j hj => by omega, Nat.le_refl _, src_upd S3 (xB.block b (src_lt S3)), mem.Upd.of_below xB⟩
  have HC3 := Lib.hid (codeAt_below HC.out C3.out)
  have lts := O3.out.lts
  rw [hz3] at D0
  clear F0 xB C2 R2 hO hS2 hS1 U2 xN S3
  go_wp2_with fail
  generalize hW : (w2.alloc (.cells #[.slice p0 n c0, .slice p1 m c1] 33)).alloc (.cells #[] 2) = W4 at *
  generalize hW2 : w2.alloc (.cells #[.slice p0 n c0, .slice p1 m c1] 33) = W3 at *
  generalize hv : Value.slice (some ⟨w2.heap.size + 1, 0, none⟩) 0 0 = vl0 at *
  clear hW hW2 hv
  go_loopw [7, 8] (fun ov iv wr => ∃ (k : Nat) (ov' : Value), ov' = ov ∧ iv = .int .i64 k ∧ k ≤ 1000 ∧ Fl W3 b cv len wr ov' k) (fun _ iv _ => 1000 - (intOf iv).toNat)
  case atStart => exact ⟨0, _, rfl, rfl, Nat.zero_le _, D0⟩
  case round =>
    obtain ⟨k, ov, rfl, rfl, hk, DF⟩ := hrel
    clear D0
    obtain ⟨D, g, i6, s6, D6, hDb, hg, S6, U6⟩ := DF.ex
    clear DF
    have hzr := U6.size
    have T6 := T3.keep (U6.block w2.heap.size (by omega) (by omega))
    have O6 := Lib.hid (O3.out.upd U6 (.inr (by omega)) (.inr (by omega)))
    have q0 := T6.b0
    have q1 := T6.b1
    obtain ⟨co, rfl⟩ := D6.shape
    have k0' : (0 : Int) ≤ (k : Int) := Int.natCast_nonneg _
    have lg := D6.lt
    have lb := src_lt S6
    have HDb := Lib.hid hDb
    clear hDb
    go_wp2_with fail
    clear q0 q1
    refine (mem.sIsNetwork_any wr _ n N m P 0 wr.heap.size O6.out.net (Nat.le_refl _) hnm).mono ?_
    rintro e w7 ⟨rfl, x7⟩
    have z7 := x7.size
    have D7 := D6.keep (x7.block g (by omega))
    have T7 := T6.next x7
    have O7 := Lib.hid (O6.out.next x7)
    have S7 := src_upd S6 (x7.block b (src_lt S6))
    have U7 := U6.trans (mem.Upd.of_below x7)
    clear D6 T6 O6 S6 U6 x7
    cases hB : mem.netB n N m P
    · clear hB
      go_wp2_with fail
      refine (next_any w7 b w.heap.size cv len i6 s6 20 S7 (code_of HC3.out U7 (by omega) (by omega)) (by omega) (by omega)).mono ?_
      rintro e wy ⟨vy, iy, sy, rfl, ty, hty, Sy, oy⟩
      have Dy := D7.keep (oy.block g (by omega))
      have Ty := T7.keep (oy.block w2.heap.size (by omega))
      have Oy := Lib.hid (O7.out.upd (upd_of oy) (.inr (by omega)) (.inr (by omega)))
      have Uy := U7.trans (upd_of oy)
      have zy := oy.size
      have lgy := Dy.lt
      clear D7 T7 O7 S7 U7 oy
      rcases (by omega : vy = 0 ∨ vy = 1 ∨ (vy ≠ 0 ∧ vy ≠ 1)) with rfl | rfl | hvy
      · obtain ⟨vb, wz, gb, hr, ap⟩ := mem.app_run (wy.alloc (.cells #[.int .i64 0] 2)) _ k _ g 0 wy.heap.size (Dy.alloc _) (mem.cell_new1 wy _) (by omega)
        have bl := ap.below (B := W3.heap.size) (by omega) (by rw [mem.szal]; omega)
        have xb : Below W3.heap.size wy wz := ((mem.below_new wy _).mono (by omega)).trans bl.1
        have hlz := ap.own.lt
        have hb9 := bl.2
        go_upto_region 14 with (at_builtin; refine mem.wpList_app hr rfl _ _ rfl rfl rfl rfl ?_)
        have Xb : mem.Upd (fun x => W3.heap.size ≤ x) wy wz := ⟨xb.os, xb.tape, xb.output, xb.size, fun x _ hn => xb.block x (by omega)⟩
        have Oz := Lib.hid (Oy.out.upd Xb (lts.1.imp_right fun h => by show ¬ (W3.heap.size ≤ b1); omega) (lts.2.imp_right fun h => by show ¬ (W3.heap.size ≤ b2); omega))
        have Tz := Ty.keep (xb.block w2.heap.size (by omega))
        have Uz := upd_bel Uy xb
        have hsl := ap.own.sl
        clear hr ap Dy Ty Oy Uy Xb xb bl Sy
        have HF := Lib.hid (nl_post (w := w) Oz.out (by omega) (by omega) hn hm (show k + 1 ≤ 2000 by omega) hnm hsl (by omega) (by omega) (C3.out.trans (Uz.below (by omega) (by rintro x _ rfl; omega))))
        have q0 := Tz.b0
        have q1 := Tz.b1
        have R7 := R3.keep (Uz.block w.heap.size (by omega) (by omega))
        have f0 := R7.b0
        have f1 := R7.b1
        have k0 := R7.free 0
        have k1 := R7.free 1
        clear R7 Uz Tz Oz
        go_wp2_with fail
        exact bodyPost_ret (v := .tuple #[.agg #[.slice p0 n c0, .slice p1 m c1], vb]) (by simp [results, Try.results48, go_sem, f0, f1]) rfl HF.out
      · rcases Nat.eq_zero_or_pos k with hm0 | hm0
        · subst hm0
          have hsl := Dy.sl
          clear Dy Sy
          go_upto_region 14 with (fail)
          have HF := Lib.hid (nl_post (w := w) Oy.out (by omega) (by omega) hn hm (show 0 ≤ 2000 by omega) hnm hsl (by omega) (by omega) (C3.out.trans (Uy.below (by omega) (by rintro x _ rfl; omega))))
          have q0 := Ty.b0
          have q1 := Ty.b1
          have R7 := R3.keep (Uy.block w.heap.size (by omega) (by omega))
          have f0 := R7.b0
          have f1 := R7.b1
          have k0 := R7.free 0
          have k1 := R7.free 1
          clear R7 Uy Ty Oy
          go_wp2_with fail
          exact bodyPost_ret (v := .tuple #[.agg #[.slice p0 n c0, .slice p1 m c1], .slice (some ⟨g, 0, none⟩) 0 co]) (by simp [results, Try.results48, go_sem, f0, f1]) rfl HF.out
        · have hmI : (0 : Int) < (k : Int) := by omega
          have bA := mem.below_new wy (.cells #[.int .i64 30000, .int .i64 30001] 2)
          have tA := tabI wy 2 #[.int .i64 30000, .int .i64 30001] (by
            intro j hj
            rcases (by simp at hj; omega : j = 0 ∨ j = 1) with rfl | rfl
            all_goals exact ⟨_, rfl⟩)
          have SA := src_alloc Sy (src_lt Sy) (.cells #[.int .i64 30000, .int .i64 30001] 2)
          have UA := Uy.trans (mem.Upd.of_below bA)
          have CA := code_of HC3.out UA (by omega) (by omega)
          have HVA := Lib.hid (Dy.alloc (.cells #[.int .i64 30000, .int .i64 30001] 2))
          have OA := Lib.hid (Oy.out.next bA)
          have TA := Lib.hid (Ty.next bA)
          have hzA : (wy.alloc (.cells #[.int .i64 30000, .int .i64 30001] 2)).heap.size = wy.heap.size + 1 := by simp
          have lba := src_lt Sy
          have yzA := Dy.free 0
          clear Sy Uy Dy bA Oy Ty
          go_wp2_with fail
          refine (next_any _ b w.heap.size cv len iy sy 2 SA CA (by omega) (by omega)).mono ?_
          rintro e wc ⟨vc, ic, sc, rfl, tc, htc, Sc, oc⟩
          have hzc := oc.size
          have HVc := Lib.hid (HVA.out.keep (oc.block g (by omega)))
          have Uc := UA.trans (upd_of oc)
          have Oc := Lib.hid (OA.out.upd (upd_of oc) (.inr (by omega)) (.inr (by omega)))
          have Tc := Lib.hid (TA.out.keep (oc.block w2.heap.size (by omega)))
          obtain ⟨x, rfl⟩ := Int.eq_ofNat_of_zero_le tc
          have hx : x < 2 := by omega
          have hx2 : (x : Int) < 2 := by omega
          obtain ⟨y, hy⟩ := tA x hx
          have hyc : wc.cell? ⟨wy.heap.size, x, none⟩ = some (.int .i64 y) := (World.cell?_of_block (oc.block wy.heap.size (by omega))).trans hy
          have yf := HVc.out.row.cell 0 hm0
          have yz := HVc.out.free 0
          have oX := (mem.Only.refl g wc).setCell 0 (.int .i64 y)
          have hVx := HVc.out.put1 0 y hm0
          have Ox := Lib.hid (Oc.out.upd (mem.Upd.of_only oX) (lts.1.imp_right fun h => by show ¬ (b1 = g); omega) (lts.2.imp_right fun h => by show ¬ (b2 = g); omega))
          clear tA SA CA UA HVA hy oc htc yzA HVc Sc OA TA Oc
          go_upto_region 14 with (fail)
          obtain ⟨wx, hwx⟩ : ∃ wx, wc.setCell ⟨g, 0, none⟩ (.int .i64 y) = wx := ⟨_, rfl⟩
          rw [hwx] at oX hVx Ox ⊢
          clear hwx
          have Tx := Tc.out.keep (oX.block w2.heap.size (by omega))
          have Ux := upd_own Uc oX (by omega)
          have hsl := hVx.sl
          have hlx := hVx.lt
          clear hVx Tc Uc oX
          have HF := Lib.hid (nl_post (w := w) Ox.out (by omega) (by omega) hn hm (show k ≤ 2000 by omega) hnm hsl (by omega) (by omega) (C3.out.trans (Ux.below (by omega) (by rintro x _ rfl; omega))))
          have q0 := Tx.b0
          have q1 := Tx.b1
          have R7 := R3.keep (Ux.block w.heap.size (by omega) (by omega))
          have f0 := R7.b0
          have f1 := R7.b1
          have k0 := R7.free 0
          have k1 := R7.free 1
          clear R7 Ux Tx Ox
          go_wp2_with fail
          exact bodyPost_ret (v := .tuple #[.agg #[.slice p0 n c0, .slice p1 m c1], .slice (some ⟨g, 0, none⟩) k co]) (by simp [results, Try.results48, go_sem, f0, f1]) rfl HF.out
      · obtain ⟨hv0, hv1⟩ := hvy
        have hv0' : (vy == 0) = false := by simpa using hv0
        have hv1' : (vy == 1) = false := by simpa using hv1
        have hsl := Dy.sl
        clear hv0 hv1 Dy Sy
        go_upto_region 14 with (fail)
        have HF := Lib.hid (nl_post (w := w) Oy.out (by omega) (by omega) hn hm (show k ≤ 2000 by omega) hnm hsl (by omega) (by omega) (C3.out.trans (Uy.below (by omega) (by rintro x _ rfl; omega))))
        have q0 := Ty.b0
        have q1 := Ty.b1
        have R7 := R3.keep (Uy.block w.heap.size (by omega) (by omega))
        have f0 := R7.b0
        have f1 := R7.b1
        have k0 := R7.free 0
        have k1 := R7.free 1
        clear R7 Uy Ty Oy
        go_wp2_with fail
        exact bodyPost_ret (v := .tuple #[.agg #[.slice p0 n c0, .slice p1 m c1], .slice (some ⟨g, 0, none⟩) k co]) (by simp [results, Try.results48, go_sem, f0, f1]) rfl HF.out
    · have HB := Lib.hid hB
      obtain ⟨hn1, hn24, hm40⟩ := mem.net_sz hB
      have q0 := T7.b0
      have q1 := T7.b1
      clear hB
      go_wp2_with fail
      clear q0 q1
      refine (mem.l05Chords_any w7 _ n N m P 0 w7.heap.size O7.out.net (Nat.le_refl _) hnm HB.out).mono ?_
      rintro e w8 ⟨v8, g8, rfl, hV8, lg8, x8⟩
      obtain ⟨c8, rfl⟩ := hV8.shape
      have hcn := mem.chN_le n P m
      obtain ⟨cn, hcne⟩ : ∃ cn, mem.chN n P m = cn := ⟨_, rfl⟩
      rw [hcne] at hcn
      rw [hcne]
      clear hV8 hcne
      have z8 := x8.size
      have D8 := D7.keep (x8.block g (by omega))
      have T8 := T7.next x8
      have O8 := Lib.hid (O7.out.next x8)
      have S8 := src_upd S7 (x8.block b (src_lt S7))
      have U8 := U7.trans (mem.Upd.of_below x8)
      clear D7 T7 O7 S7 U7 x8
      by_cases hlt : k < cn
      · have k1' : (k : Int) < (cn : Int) := by omega
        go_wp2_with fail
        refine (next_any w8 b w.heap.size cv len i6 s6 60 S8 (code_of HC3.out U8 (by omega) (by omega)) (by omega) (by omega)).mono ?_
        rintro e w9 ⟨v9, i9, s9, rfl, t9, ht9, S9, o9⟩
        have D9 := D8.keep (o9.block g (by omega))
        have U9 := U8.trans (upd_of o9)
        have z9 := o9.size
        have hb1 : -4611686018427387904 ≤ v9 - 30 ∧ v9 - 30 ≤ 4611686018427387904 := by omega
        obtain ⟨va, wa, ga, hr, ap⟩ := mem.app_run (w9.alloc (.cells #[.int .i64 (v9 - 30)] 2)) _ k _ g (v9 - 30) w9.heap.size (D9.alloc _) (mem.cell_new1 w9 _) (by omega)
        have bl := ap.below (B := W3.heap.size) (by omega) (by rw [mem.szal]; omega)
        have xb : Below W3.heap.size w9 wa := ((mem.below_new w9 _).mono U9.size).trans bl.1
        have DF8 : Fl W3 b cv len wa va (k + 1) := ⟨_, ga, i9, s9, ap.own, fun j hj => by
          unfold mem.upd
          split
          · omega
          · exact HDb.out j (by omega), bl.2, src_upd S9 (xb.block b (by omega)), upd_bel U9 xb⟩
        clear D8 T8 O8 S8 U8 D9 U9 S9 o9 ap bl xb
        go_wp2_with (at_builtin; refine mem.wpList_app hr rfl _ _ rfl rfl rfl rfl ?_)
        clear hr
        go_roundw
        case rel => exact ⟨k + 1, _, rfl, by go_num, by omega, DF8⟩
        case measure => simp [intOf]; omega
      · have k1' : ¬ ((k : Int) < (cn : Int)) := by omega
        go_wp2_with fail
        refine (next_any w8 b w.heap.size cv len i6 s6 20 S8 (code_of HC3.out U8 (by omega) (by omega)) (by omega) (by omega)).mono ?_
        rintro e wy ⟨vy, iy, sy, rfl, ty, hty, Sy, oy⟩
        have Dy := D8.keep (oy.block g (by omega))
        have Ty := T8.keep (oy.block w2.heap.size (by omega))
        have Oy := Lib.hid (O8.out.upd (upd_of oy) (.inr (by omega)) (.inr (by omega)))
        have Uy := U8.trans (upd_of oy)
        have zy := oy.size
        have lgy := Dy.lt
        clear D8 T8 O8 S8 U8 oy
        rcases (by omega : vy = 0 ∨ vy = 1 ∨ (vy ≠ 0 ∧ vy ≠ 1)) with rfl | rfl | hvy
        · obtain ⟨vb, wz, gb, hr, ap⟩ := mem.app_run (wy.alloc (.cells #[.int .i64 0] 2)) _ k _ g 0 wy.heap.size (Dy.alloc _) (mem.cell_new1 wy _) (by omega)
          have bl := ap.below (B := W3.heap.size) (by omega) (by rw [mem.szal]; omega)
          have xb : Below W3.heap.size wy wz := ((mem.below_new wy _).mono (by omega)).trans bl.1
          have hlz := ap.own.lt
          have hb9 := bl.2
          go_upto_region 14 with (at_builtin; refine mem.wpList_app hr rfl _ _ rfl rfl rfl rfl ?_)
          have Xb : mem.Upd (fun x => W3.heap.size ≤ x) wy wz := ⟨xb.os, xb.tape, xb.output, xb.size, fun x _ hn => xb.block x (by omega)⟩
          have Oz := Lib.hid (Oy.out.upd Xb (lts.1.imp_right fun h => by show ¬ (W3.heap.size ≤ b1); omega) (lts.2.imp_right fun h => by show ¬ (W3.heap.size ≤ b2); omega))
          have Tz := Ty.keep (xb.block w2.heap.size (by omega))
          have Uz := upd_bel Uy xb
          have hsl := ap.own.sl
          clear hr ap Dy Ty Oy Uy Xb xb bl Sy
          have HF := Lib.hid (nl_post (w := w) Oz.out (by omega) (by omega) hn hm (show k + 1 ≤ 2000 by omega) hnm hsl (by omega) (by omega) (C3.out.trans (Uz.below (by omega) (by rintro x _ rfl; omega))))
          have q0 := Tz.b0
          have q1 := Tz.b1
          have R7 := R3.keep (Uz.block w.heap.size (by omega) (by omega))
          have f0 := R7.b0
          have f1 := R7.b1
          have k0 := R7.free 0
          have k1 := R7.free 1
          clear R7 Uz Tz Oz
          go_wp2_with fail
          exact bodyPost_ret (v := .tuple #[.agg #[.slice p0 n c0, .slice p1 m c1], vb]) (by simp [results, Try.results48, go_sem, f0, f1]) rfl HF.out
        · rcases Nat.eq_zero_or_pos k with hm0 | hm0
          · subst hm0
            have hsl := Dy.sl
            clear Dy Sy
            go_upto_region 14 with (fail)
            have HF := Lib.hid (nl_post (w := w) Oy.out (by omega) (by omega) hn hm (show 0 ≤ 2000 by omega) hnm hsl (by omega) (by omega) (C3.out.trans (Uy.below (by omega) (by rintro x _ rfl; omega))))
            have q0 := Ty.b0
            have q1 := Ty.b1
            have R7 := R3.keep (Uy.block w.heap.size (by omega) (by omega))
            have f0 := R7.b0
            have f1 := R7.b1
            have k0 := R7.free 0
            have k1 := R7.free 1
            clear R7 Uy Ty Oy
            go_wp2_with fail
            exact bodyPost_ret (v := .tuple #[.agg #[.slice p0 n c0, .slice p1 m c1], .slice (some ⟨g, 0, none⟩) 0 co]) (by simp [results, Try.results48, go_sem, f0, f1]) rfl HF.out
          · have hmI : (0 : Int) < (k : Int) := by omega
            have bA := mem.below_new wy (.cells #[.int .i64 30000, .int .i64 30001] 2)
            have tA := tabI wy 2 #[.int .i64 30000, .int .i64 30001] (by
              intro j hj
              rcases (by simp at hj; omega : j = 0 ∨ j = 1) with rfl | rfl
              all_goals exact ⟨_, rfl⟩)
            have SA := src_alloc Sy (src_lt Sy) (.cells #[.int .i64 30000, .int .i64 30001] 2)
            have UA := Uy.trans (mem.Upd.of_below bA)
            have CA := code_of HC3.out UA (by omega) (by omega)
            have HVA := Lib.hid (Dy.alloc (.cells #[.int .i64 30000, .int .i64 30001] 2))
            have OA := Lib.hid (Oy.out.next bA)
            have TA := Lib.hid (Ty.next bA)
            have hzA : (wy.alloc (.cells #[.int .i64 30000, .int .i64 30001] 2)).heap.size = wy.heap.size + 1 := by simp
            have lba := src_lt Sy
            have yzA := Dy.free 0
            clear Sy Uy Dy bA Oy Ty
            go_wp2_with fail
            refine (next_any _ b w.heap.size cv len iy sy 2 SA CA (by omega) (by omega)).mono ?_
            rintro e wc ⟨vc, ic, sc, rfl, tc, htc, Sc, oc⟩
            have hzc := oc.size
            have HVc := Lib.hid (HVA.out.keep (oc.block g (by omega)))
            have Uc := UA.trans (upd_of oc)
            have Oc := Lib.hid (OA.out.upd (upd_of oc) (.inr (by omega)) (.inr (by omega)))
            have Tc := Lib.hid (TA.out.keep (oc.block w2.heap.size (by omega)))
            obtain ⟨x, rfl⟩ := Int.eq_ofNat_of_zero_le tc
            have hx : x < 2 := by omega
            have hx2 : (x : Int) < 2 := by omega
            obtain ⟨y, hy⟩ := tA x hx
            have hyc : wc.cell? ⟨wy.heap.size, x, none⟩ = some (.int .i64 y) := (World.cell?_of_block (oc.block wy.heap.size (by omega))).trans hy
            have yf := HVc.out.row.cell 0 hm0
            have yz := HVc.out.free 0
            have oX := (mem.Only.refl g wc).setCell 0 (.int .i64 y)
            have hVx := HVc.out.put1 0 y hm0
            have Ox := Lib.hid (Oc.out.upd (mem.Upd.of_only oX) (lts.1.imp_right fun h => by show ¬ (b1 = g); omega) (lts.2.imp_right fun h => by show ¬ (b2 = g); omega))
            clear tA SA CA UA HVA hy oc htc yzA HVc Sc OA TA Oc
            go_upto_region 14 with (fail)
            obtain ⟨wx, hwx⟩ : ∃ wx, wc.setCell ⟨g, 0, none⟩ (.int .i64 y) = wx := ⟨_, rfl⟩
            rw [hwx] at oX hVx Ox ⊢
            clear hwx
            have Tx := Tc.out.keep (oX.block w2.heap.size (by omega))
            have Ux := upd_own Uc oX (by omega)
            have hsl := hVx.sl
            have hlx := hVx.lt
            clear hVx Tc Uc oX
            have HF := Lib.hid (nl_post (w := w) Ox.out (by omega) (by omega) hn hm (show k ≤ 2000 by omega) hnm hsl (by omega) (by omega) (C3.out.trans (Ux.below (by omega) (by rintro x _ rfl; omega))))
            have q0 := Tx.b0
            have q1 := Tx.b1
            have R7 := R3.keep (Ux.block w.heap.size (by omega) (by omega))
            have f0 := R7.b0
            have f1 := R7.b1
            have k0 := R7.free 0
            have k1 := R7.free 1
            clear R7 Ux Tx Ox
            go_wp2_with fail
            exact bodyPost_ret (v := .tuple #[.agg #[.slice p0 n c0, .slice p1 m c1], .slice (some ⟨g, 0, none⟩) k co]) (by simp [results, Try.results48, go_sem, f0, f1]) rfl HF.out
        · obtain ⟨hv0, hv1⟩ := hvy
          have hv0' : (vy == 0) = false := by simpa using hv0
          have hv1' : (vy == 1) = false := by simpa using hv1
          have hsl := Dy.sl
          clear hv0 hv1 Dy Sy
          go_upto_region 14 with (fail)
          have HF := Lib.hid (nl_post (w := w) Oy.out (by omega) (by omega) hn hm (show k ≤ 2000 by omega) hnm hsl (by omega) (by omega) (C3.out.trans (Uy.below (by omega) (by rintro x _ rfl; omega))))
          have q0 := Ty.b0
          have q1 := Ty.b1
          have R7 := R3.keep (Uy.block w.heap.size (by omega) (by omega))
          have f0 := R7.b0
          have f1 := R7.b1
          have k0 := R7.free 0
          have k1 := R7.free 1
          clear R7 Uy Ty Oy
          go_wp2_with fail
          exact bodyPost_ret (v := .tuple #[.agg #[.slice p0 n c0, .slice p1 m c1], .slice (some ⟨g, 0, none⟩) k co]) (by simp [results, Try.results48, go_sem, f0, f1]) rfl HF.out
end Go.Proofs.Ytpgcieefipjjfaa.draw
