/-
  The draw of a network and supplies. Conditions: as each states.
-/
import Derived.Test.YtpgcieefipjjfaaRows
import Derived.Test.YtpgcieefipjjfaaDrl
import Derived.Test.YtpgcieefipjjfaaOuw
import Derived.Test.YtpgcieefipjjfaaBaM
import Derived.WalkKit
import Derived.ProofKit
import Derived.Lib.Hide
import Derived.OwnWalk
import Derived.Outline
import Derived.Deep.Cut
namespace Go.Proofs.Ytpgcieefipjjfaa.draw
open Go.RowKit
set_option linter.unusedVariables false

/-- a network and a list have been drawn -/
def NLPost (w : World) (b : Nat) (cv : Value) (len : Nat) (e : Ending) (w' : World) : Prop :=
  ∃ (v : Value) (n m : Nat) (N : Nat → mem.Nod) (P : Nat → mem.Pip) (b1 b2 : Nat) (vl : Value) (K : Nat) (D : Nat → Int) (i s : Int), e = .returned (.tuple #[v, vl]) ∧ n ≤ 1000 ∧ m ≤ 1000 ∧ K ≤ 2000 ∧ (∀ i, i < n → (N i).s.size ≤ 9223372036854775807) ∧ mem.NetOwn w' v n N m P b1 b2 ∧ w.heap.size ≤ b1 ∧ w.heap.size ≤ b2 ∧ mem.Sl w' vl K D w.heap.size w'.heap.size ∧ Src w' b cv len i s ∧ mem.Upd (· = b) w w'
theorem upd_bel {X : Nat → Prop} {w w1 w2 : World} (h : mem.Upd X w w1) (k : Below w.heap.size w1 w2) : mem.Upd X w w2 :=
  ⟨k.os.trans h.os, k.tape.trans h.tape, k.output.trans h.output, Nat.le_trans h.size k.size, fun x hx hn => (k.block x hx).trans (h.block x hx hn)⟩
/-- flows while they are drawn -/
structure Fl (W1 : World) (b : Nat) (cv : Value) (len : Nat) (wr : World) (v : Value) (k : Nat) : Prop where
  ex : ∃ (D : Nat → Int) (g : Nat) (i s : Int), mem.Own wr v k D g ∧ (∀ j, j < k → -30000 ≤ D j ∧ D j ≤ 30000) ∧ W1.heap.size ≤ g ∧ Src wr b cv len i s ∧ mem.Upd (· = b) W1 wr
theorem six_post {w X : World} {b len n m b1 b2 K lo hi : Nat} {cv v0 v1 vl : Value} {N : Nat → mem.Nod} {P : Nat → mem.Pip} {D : Nat → Int} {i s : Int} (hO : mem.NetOwn X (.agg #[v0, v1]) n N m P b1 b2) (hb1 : w.heap.size < b1) (hb2 : w.heap.size < b2) (hn : n ≤ 1000) (hm : m ≤ 1000) (hK : K ≤ 2000) (hnm : ∀ i, i < n → (N i).s.size ≤ 9223372036854775807)
    (hL : mem.Sl X vl K D lo hi) (hlo : w.heap.size < lo) (hhi : hi ≤ X.heap.size) (hS : Src X b cv len i s) (hU : mem.Upd (· = b) w X) (hlt : b < w.heap.size) : NLPost w b cv len (.returned (.tuple #[.agg #[v0, v1], vl])) ((X.setCell ⟨w.heap.size, 0, none⟩ v0).setCell ⟨w.heap.size, 1, none⟩ v1) := by
  have hO2 := ((mem.Only.refl w.heap.size X).setCell 0 v0).setCell 1 v1
  exact ⟨_, n, m, N, P, b1, b2, vl, K, D, i, s, rfl, hn, hm, hK, hnm, hO.upd (mem.Upd.of_only hO2) (.inr (by omega)) (.inr (by omega)), by omega, by omega, (hL.only hO2 (.inl hlo)).mono (by omega) (Nat.le_trans hhi (Nat.le_of_eq hO2.size)), src_upd hS (hO2.block b (by omega)), upd_own hU hO2 (Nat.le_refl _)⟩
set_option maxRecDepth 100000 in
set_option maxHeartbeats 8000000 in
theorem six_any (w : World) (b B : Nat) (cv : Value) (len : Nat) (i s : Int) (h : Src w b cv len i s) (hc : CodeAt w cv len B) (hB' : B ≤ b) :
    Calls Try.prog 102 #[.pointer (some ⟨b, 0, none⟩)] w (NLPost w b cv len) := by
  have hlt := src_lt h
  have h' := src_alloc h hlt (.cells #[.slice none 0 0, .slice none 0 0] 33)
  have HC := Lib.hid (codeAt_below hc ((Below.refl B w).alloc (by omega) (.cells #[.slice none 0 0, .slice none 0 0] 33)))
  have R1 := mem.boxed w (.slice none 0 0) (.slice none 0 0) 33
  have U0 := Lib.hid (mem.Upd.of_below (mem.below_new w (.cells #[.slice none 0 0, .slice none 0 0] 33)) (X := (· = b)))
  have hsz : w.heap.size + 1 ≤ (w.alloc (.cells #[.slice none 0 0, .slice none 0 0] 33)).heap.size := by simp
  go_enter Try.func102, Try.ntmps102
  go_wp2_with fail
  generalize hW : w.alloc (.cells #[.slice none 0 0, .slice none 0 0] 33) = Wa at *
  clear hW h hc
  have hb : b < Wa.heap.size := by omega
  refine (loops_any Wa b B cv len i s h' HC.out hB').mono ?_
  rintro e w1 ⟨v, n, m, N, P, b1, b2, i1, s1, rfl, hn, hm, hnm, hO, l1, l2, hS1, U1⟩
  obtain ⟨p0, c0, p1, c1, rfl⟩ := hO.shape
  have hTl := U1.size
  have hbt := src_lt hS1
  have x2 := mem.below_new w1 (.cells #[.slice p0 n c0, .slice p1 m c1] 33)
  have T1 := mem.boxed w1 (.slice p0 n c0) (.slice p1 m c1) 33
  have HO := Lib.hid (hO.next x2)
  have S2 := src_alloc hS1 (src_lt hS1) (.cells #[.slice p0 n c0, .slice p1 m c1] 33)
  have U2 := U1.trans (mem.Upd.of_below x2)
  clear hO hS1 U1 x2 h'
  go_wp2_with fail
  generalize hW : w1.alloc (.cells #[.slice p0 n c0, .slice p1 m c1] 33) = w2 at *
  obtain ⟨T, hTe⟩ : ∃ T, w1.heap.size = T := ⟨_, rfl⟩
  rw [hTe] at T1 hbt hTl ⊢
  clear hW hTe
  refine (next_any w2 b B cv len i1 s1 16 S2 (code_of HC.out U2 hB' hb) hB' (by omega)).mono ?_
  rintro e w3 ⟨v3, i3, s3, rfl, t3, ht3, S3, o3⟩
  have HO3 := Lib.hid (HO.out.upd (upd_of o3) (.inr (by omega)) (.inr (by omega)))
  have T3 := T1.keep (o3.block T (by omega))
  have U3 := U2.trans (upd_of o3)
  clear HO T1 U2 o3 S2
  have hltw : b < w.heap.size := by omega
  by_cases hv3 : v3 = 0
  · subst hv3
    clear HO3 l1 l2 hn hm hnm
    have hTl3 := T3.lt
    have j0 := T3.free 0
    have j1 := T3.free 1
    have q0 := T3.b0
    have q1 := T3.b1
    go_wp2_with fail
    refine (any_ok w3 b B cv len i3 s3 S3 (code_of HC.out U3 hB' hb) hB').mono ?_
    rintro e w4 ⟨v, n, m, N, P, b1, b2, i4, s4, rfl, hn, hm, hnm, hO, l1, l2, hS4, U4⟩
    obtain ⟨p0, c0, p1, c1, rfl⟩ := hO.shape
    have T4 := T3.keep (U4.block T hTl3 (by omega))
    have hU3 := U3.size
    have j0' := T4.free 0
    have j1' := T4.free 1
    have q0' := T4.b0
    have q1' := T4.b1
    have hU4 := U4.size
    have oT := ((mem.Only.refl T w4).setCell 0 (.slice p0 n c0)).setCell 1 (.slice p1 m c1)
    have HOx := Lib.hid (hO.upd (mem.Upd.of_only oT) (.inr (by omega)) (.inr (by omega)))
    have Tx := Lib.hid ((T4.set 0 (.slice p0 n c0) (by omega)).set 1 (.slice p1 m c1) (by omega))
    have Sx := src_upd hS4 (oT.block b (by omega))
    have Ux := upd_own (U3.trans U4) oT (by omega)
    have hzx := oT.size
    clear T3 j0 j1 q0 q1 T4 hO hS4 U4 oT U3 S3
    go_upto_region 4 with (fail)
    clear j0' j1' q0' q1'
    obtain ⟨w3, hw3⟩ : ∃ wx, (w4.setCell ⟨T, 0, none⟩ (.slice p0 n c0)).setCell ⟨T, 1, none⟩ (.slice p1 m c1) = wx := ⟨_, rfl⟩
    rw [hw3] at HOx Tx Sx Ux hzx ⊢
    clear hw3
    have HO3 := HOx
    have S3 := Sx
    have U3 := Ux
    clear HOx Sx Ux
    have T3 := Tx.out.congr (e := mem.bx (.slice p0 n c0) (.slice p1 m c1)) (by intro j hj; rcases (by omega : j = 0 ∨ j = 1) with rfl | rfl <;> rfl)
    have q0 := T3.b0
    have q1 := T3.b1
    clear Tx
    go_wp2_with fail
    clear q0 q1
    refine (mem.sIsNetwork_any w3 _ n N m P 0 w3.heap.size HO3.out.net (Nat.le_refl _) hnm).mono ?_
    rintro e w5 ⟨rfl, x5⟩
    have z5 := x5.size
    have HO5 := Lib.hid (HO3.out.next x5)
    have T5 := T3.next x5
    have hTl5 := T5.lt
    have S5 := src_upd S3 (x5.block b (src_lt S3))
    have U5 := U3.trans (mem.Upd.of_below x5)
    clear HO3 T3 S3 U3 x5
    cases hB : mem.netB n N m P
    · have L6 := mem.Ob.new w5 #[.int .i64 1, .int .i64 (-1)] 2 2 (mem.ia (fun k => if k = 0 then 1 else -1)) rfl (by intro j hj; rcases (by omega : j = 0 ∨ j = 1) with rfl | rfl <;> rfl)
      have x6 := mem.below_new w5 (.cells #[.int .i64 1, .int .i64 (-1)] 2)
      have z6 := x6.size
      have S6 := src_upd S5 (x6.block b (src_lt S5))
      have U6 := U5.trans (mem.Upd.of_below x6)
      have HF := Lib.hid (six_post (w := w) (HO5.out.next x6) (by omega) (by omega) hn hm (by omega) hnm (L6.sl 2 2 (Nat.le_refl _)) (by omega) (by have := L6.lt; omega) S6 (U0.out.trans U6) hltw)
      have q0 := T5.b0
      have q1 := T5.b1
      clear HO5 T5 S5 U5 L6 x6
      have R7 := R1.keep (U6.block w.heap.size (by omega) (by omega))
      have f0 := R7.b0
      have f1 := R7.b1
      have k0 := R7.free 0
      have k1 := R7.free 1
      clear R7 U6 S6
      go_wp2_with fail
      exact bodyPost_ret (v := .tuple #[.agg #[.slice p0 n c0, .slice p1 m c1], .slice (some ⟨w5.heap.size, 0, none⟩) 2 2]) (by simp [results, Try.results102, go_sem, f0, f1]) rfl HF.out
    · have HB := Lib.hid hB
      obtain ⟨hn1, hn24, hm40⟩ := mem.net_sz hB
      have F0 := mem.Own.nilled w5 (fun _ => 0)
      have x6 := mem.below_new w5 (.cells #[] 2)
      have D0 : Fl w5 b cv len (w5.alloc (.cells #[] 2)) (.slice (some ⟨w5.heap.size, 0, none⟩) 0 0) 0 := ⟨fun _ => 0, w5.heap.size, _, _, F0, fun j hj => by omega, Nat.le_refl _, src_upd S5 (x6.block b (src_lt S5)), mem.Upd.of_below x6⟩
      have HC5 := Lib.hid (code_of HC.out U5 hB' hb)
      have lts := HO5.out.lts
      have hb5 := src_lt S5
      have q1 := T5.b1
      clear F0 x6 hB
      go_wp2_with fail
      generalize hW : w5.alloc (.cells #[] 2) = w6 at *
      generalize hv : Value.slice (some ⟨w5.heap.size, 0, none⟩) 0 0 = vl0 at *
      clear hW hv q1
      go_loopw [5, 6] (fun ov iv wr => ∃ (k : Nat) (ov' : Value), ov' = ov ∧ iv = .int .i64 k ∧ k ≤ m ∧ Fl w5 b cv len wr ov' k) (fun _ iv _ => m - (intOf iv).toNat)
      case atStart => exact ⟨0, _, rfl, rfl, Nat.zero_le _, D0⟩
      case round =>
        obtain ⟨k, ov, rfl, rfl, hk, DF⟩ := hrel
        clear D0
        obtain ⟨D, g, i6, s6, hD, hDb, hg, hS6, hU6⟩ := DF.ex
        clear DF
        have T6 := T5.keep (hU6.block T hTl5 (by omega))
        have q0 := T6.b0
        have q1 := T6.b1
        have k0' : (0 : Int) ≤ (k : Int) := Int.natCast_nonneg _
        by_cases hlt : k < m
        · have k1' : (k : Int) < (m : Int) := by omega
          clear q0
          go_wp2_with fail
          refine (next_any wr b B cv len i6 s6 40 hS6 (code_of HC5.out hU6 hB' hb5) hB' (by omega)).mono ?_
          rintro e w7 ⟨v7, i7, s7, rfl, t7, ht7, hS7, o7⟩
          obtain ⟨co, rfl⟩ := hD.shape
          have lg0 := hD.lt
          have hgb : g ≠ b := by omega
          have hD7 := hD.keep (o7.block g hgb)
          have hU7 := hU6.trans (upd_of o7)
          have hb1 : -4611686018427387904 ≤ v7 - 15 ∧ v7 - 15 ≤ 4611686018427387904 := by omega
          have lg := hD7.lt
          obtain ⟨v8, w8, g8, hr, ap⟩ := mem.app_run (w7.alloc (.cells #[.int .i64 (v7 - 15)] 2)) _ k _ g (v7 - 15) w7.heap.size (hD7.alloc _) (mem.cell_new1 w7 _) (by omega)
          have bl := ap.below (B := w5.heap.size) (by omega) (by rw [mem.szal]; omega)
          have xb : Below w5.heap.size w7 w8 := ((mem.below_new w7 _).mono hU7.size).trans bl.1
          have DF8 : Fl w5 b cv len w8 v8 (k + 1) := ⟨_, g8, i7, s7, ap.own, fun j hj => by
            unfold mem.upd
            split
            · omega
            · exact hDb j (by omega), bl.2, src_upd hS7 (xb.block b hb5), upd_bel hU7 xb⟩
          clear hD hDb hS6 hU6 hS7 o7 hD7 hU7 ap bl xb T6 q1 T5 S5 U5 HO5
          go_wp2_with (at_builtin; refine mem.wpList_app hr rfl _ _ rfl rfl rfl rfl ?_)
          clear hr
          go_roundw
          case rel => exact ⟨k + 1, _, rfl, by go_num, hlt, DF8⟩
          case measure => simp [intOf]; omega
        · obtain rfl : m = k := by omega
          have k1' : ¬ ((m : Int) < (m : Int)) := by omega
          have HO6 := Lib.hid (HO5.out.upd hU6 (.inr (by omega)) (.inr (by omega)))
          have lg := hD.lt
          have HD := Lib.hid hD.sl
          have HDB := Lib.hid (mem.flB_iff.2 (fun j hj => mem.flQ_iff.2 (hDb j hj)))
          have HDb := Lib.hid hDb
          have hzr := hU6.size
          obtain ⟨co, rfl⟩ := hD.shape
          clear hD hDb T5 S5 HO5
          go_wp2_with fail
          refine (mem.l05OutW_any wr _ n N m P 0 wr.heap.size HO6.out.net (Nat.le_refl _) hnm HB.out _ D g (g + 1) HD.out (by omega) HDB.out).mono ?_
          rintro e w8 ⟨v8, g8, rfl, hV8, lg8, x8⟩
          obtain ⟨c8, rfl⟩ := hV8.shape
          have hz8 := x8.size
          have HO8 := Lib.hid (HO6.out.next x8)
          have T8 := T6.next x8
          have S8 := src_upd hS6 (x8.block b (src_lt hS6))
          have U8 := U5.trans (hU6.trans (mem.Upd.of_below x8))
          have hC8 := code_of HC.out U8 hB' hb
          clear T6 q0 q1 hS6 hU6 U5 HO6 HD HDB HC5 x8
          go_wp2_with fail
          refine (next_any w8 b B cv len i6 s6 n S8 hC8 hB' (by omega)).mono ?_
          rintro e w9 ⟨v9, i9, s9, rfl, t9, ht9, S9, o9⟩
          have hV9 := hV8.keep (o9.block g8 (by omega))
          have HO9 := Lib.hid (HO8.out.upd (upd_of o9) (.inr (by omega)) (.inr (by omega)))
          have T9 := T8.keep (o9.block T (by omega))
          have U9 := U8.trans (upd_of o9)
          have hC9 := code_of HC.out U9 hB' hb
          have hz9 := o9.size
          obtain ⟨J, rfl⟩ := Int.eq_ofNat_of_zero_le t9
          have hJ : J < n := by omega
          clear hC8 hV8 HO8 T8 U8 S8 o9 t9 ht9
          go_wp2_with fail
          refine (next_any w9 b B cv len i9 s9 24 S9 hC9 hB' (by omega)).mono ?_
          rintro e wa ⟨va, ia, sa, rfl, ta, hta, Sa, oa⟩
          have hVa := hV9.keep (oa.block g8 (by omega))
          have HOa := Lib.hid (HO9.out.upd (upd_of oa) (.inr (by omega)) (.inr (by omega)))
          have Ta := T9.keep (oa.block T (by omega))
          have Ua := U9.trans (upd_of oa)
          have hza := oa.size
          have lga := hVa.lt
          clear hC9 hV9 HO9 T9 U9 S9 oa
          have bd := mem.dv_bd2 (P := P) (x := D) (z := ((J : Nat) : Int)) (k := m) (fun i hi => HDb.out i (by omega))
          rcases (by omega : va = 0 ∨ va = 1 ∨ va = 2 ∨ (va ≠ 0 ∧ va ≠ 1 ∧ va ≠ 2)) with rfl | rfl | rfl | hva
          · have yf : wa.cell? ⟨g8, J, none⟩ = some (.int .i64 (mem.dv P D m ((J : Nat) : Int))) := hVa.row.cell J hJ
            have yz := hVa.free J
            have bd2 : -4611686018427387904 ≤ mem.dv P D m ((J : Nat) : Int) + 1 ∧ mem.dv P D m ((J : Nat) : Int) + 1 ≤ 4611686018427387904 := by omega
            have oX := (mem.Only.refl g8 wa).setCell J (.int .i64 (mem.dv P D m ((J : Nat) : Int) + 1))
            have hVx := hVa.put1 J (mem.dv P D m ((J : Nat) : Int) + 1) hJ
            have HOx := Lib.hid (HOa.out.upd (mem.Upd.of_only oX) (lts.1.imp_right fun h => by show ¬ (b1 = g8); omega) (lts.2.imp_right fun h => by show ¬ (b2 = g8); omega))
            clear bd
            go_upto_region 20 with (fail)
            obtain ⟨wx, hwx⟩ : ∃ wx, wa.setCell ⟨g8, J, none⟩ (.int .i64 (mem.dv P D m ((J : Nat) : Int) + 1)) = wx := ⟨_, rfl⟩
            rw [hwx] at oX hVx HOx ⊢
            clear hwx
            have Tx := Ta.keep (oX.block T (by omega))
            have Ux := upd_own Ua oX (by omega)
            have Sx := src_upd Sa (oX.block b (by omega))
            have HF := Lib.hid (six_post (w := w) HOx.out (by omega) (by omega) hn hm (show n ≤ 2000 by omega) hnm hVx.sl (by omega) (by have := hVx.lt; omega) Sx (U0.out.trans Ux) hltw)
            have q0 := Tx.b0
            have q1 := Tx.b1
            have R7 := R1.keep (Ux.block w.heap.size (by omega) (by omega))
            have f0 := R7.b0
            have f1 := R7.b1
            have k0 := R7.free 0
            have k1 := R7.free 1
            clear R7 Ux Sx Tx
            go_wp2_with fail
            exact bodyPost_ret (v := .tuple #[.agg #[.slice p0 n c0, .slice p1 m c1], .slice (some ⟨g8, 0, none⟩) n c8]) (by simp [results, Try.results102, go_sem, f0, f1]) rfl HF.out
          · have bA := mem.below_new wa (Obj.cells #[.int .i64 30000, .int .i64 30001] 2)
            have tA := tabI wa 2 #[.int .i64 30000, .int .i64 30001] (by
              intro j hj
              rcases (by simp at hj; omega : j = 0 ∨ j = 1) with rfl | rfl
              all_goals exact ⟨_, rfl⟩)
            have SA := src_alloc Sa (src_lt Sa) (Obj.cells #[.int .i64 30000, .int .i64 30001] 2)
            have UA := Ua.trans (mem.Upd.of_below bA)
            have CA := code_of HC.out UA hB' hb
            have HVA := Lib.hid (hVa.alloc (Obj.cells #[.int .i64 30000, .int .i64 30001] 2))
            have HOA := Lib.hid (HOa.out.next bA)
            have HTA := Lib.hid (Ta.next bA)
            have hzA : (wa.alloc (Obj.cells #[.int .i64 30000, .int .i64 30001] 2)).heap.size = wa.heap.size + 1 := by simp
            have lba := src_lt Sa
            have yzA := hVa.free J
            have lga2 : J < n := hJ
            clear bd bA Sa Ua Ta HOa hVa
            go_wp2_with fail
            refine (next_any _ b B cv len ia sa 2 SA CA hB' (by omega)).mono ?_
            rintro e wc ⟨vc, ic, sc, rfl, tc, htc, Sc, oc⟩
            have hzc := oc.size
            have HVc := Lib.hid (HVA.out.keep (oc.block g8 (by omega)))
            have HOc := Lib.hid (HOA.out.upd (upd_of oc) (.inr (by omega)) (.inr (by omega)))
            have HTc := Lib.hid (HTA.out.keep (oc.block T (by omega)))
            have Uc := UA.trans (upd_of oc)
            obtain ⟨x, rfl⟩ := Int.eq_ofNat_of_zero_le tc
            have hx : x < 2 := by omega
            have hx2 : (x : Int) < 2 := by omega
            obtain ⟨y, hy⟩ := tA x hx
            have hyc : wc.cell? ⟨wa.heap.size, x, none⟩ = some (.int .i64 y) := by
              have e := oc.block wa.heap.size (by omega)
              simp only [World.cell?] at hy ⊢
              rw [e]
              exact hy
            have yf := HVc.out.row.cell J hJ
            have yz := HVc.out.free J
            have oX := (mem.Only.refl g8 wc).setCell J (.int .i64 y)
            have hVx := HVc.out.put1 J y hJ
            have HOx := Lib.hid (HOc.out.upd (mem.Upd.of_only oX) (lts.1.imp_right fun h => by show ¬ (b1 = g8); omega) (lts.2.imp_right fun h => by show ¬ (b2 = g8); omega))
            clear tA SA CA UA HVA HOA HTA hy oc htc yzA HVc HOc
            go_upto_region 20 with (fail)
            obtain ⟨wx, hwx⟩ : ∃ wx, wc.setCell ⟨g8, J, none⟩ (.int .i64 y) = wx := ⟨_, rfl⟩
            rw [hwx] at oX hVx HOx ⊢
            clear hwx
            have Tx := HTc.out.keep (oX.block T (by omega))
            have Ux := upd_own Uc oX (by omega)
            have Sx := src_upd Sc (oX.block b (by omega))
            have HF := Lib.hid (six_post (w := w) HOx.out (by omega) (by omega) hn hm (show n ≤ 2000 by omega) hnm hVx.sl (by omega) (by have := hVx.lt; omega) Sx (U0.out.trans Ux) hltw)
            have q0 := Tx.b0
            have q1 := Tx.b1
            have R7 := R1.keep (Ux.block w.heap.size (by omega) (by omega))
            have f0 := R7.b0
            have f1 := R7.b1
            have k0 := R7.free 0
            have k1 := R7.free 1
            clear R7 Ux Sx Tx
            go_wp2_with fail
            exact bodyPost_ret (v := .tuple #[.agg #[.slice p0 n c0, .slice p1 m c1], .slice (some ⟨g8, 0, none⟩) n c8]) (by simp [results, Try.results102, go_sem, f0, f1]) rfl HF.out
          · have hbz : g8 < wa.heap.size := lga
            obtain ⟨vb, wb, gb, hr, ap⟩ := mem.app_run (wa.alloc (.cells #[.int .i64 0] 2)) _ n _ g8 0 wa.heap.size (hVa.alloc _) (mem.cell_new1 wa _) (by omega)
            have bl := ap.below (B := w5.heap.size) (by omega) (by rw [mem.szal]; omega)
            have xb : Below w5.heap.size wa wb := ((mem.below_new wa _).mono (by omega)).trans bl.1
            clear bd
            go_upto_region 20 with (at_builtin; refine mem.wpList_app hr rfl _ _ rfl rfl rfl rfl ?_)
            have Xb : mem.Upd (fun x => w5.heap.size ≤ x) wa wb := ⟨xb.os, xb.tape, xb.output, xb.size, fun x _ hn => xb.block x (by omega)⟩
            have HOx := Lib.hid (HOa.out.upd Xb (lts.1.imp_right fun h => by show ¬ (w5.heap.size ≤ b1); omega) (lts.2.imp_right fun h => by show ¬ (w5.heap.size ≤ b2); omega))
            have Tx := Ta.keep (xb.block T hTl5)
            have Ux := upd_bel Ua (xb.mono (by omega))
            have Sx := src_upd Sa (xb.block b hb5)
            have hlb := bl.2
            clear hr
            have HF := Lib.hid (six_post (w := w) HOx.out (by omega) (by omega) hn hm (show n + 1 ≤ 2000 by omega) hnm ap.own.sl (by omega) (by have := ap.own.lt; omega) Sx (U0.out.trans Ux) hltw)
            have q0 := Tx.b0
            have q1 := Tx.b1
            have R7 := R1.keep (Ux.block w.heap.size (by omega) (by omega))
            have f0 := R7.b0
            have f1 := R7.b1
            have k0 := R7.free 0
            have k1 := R7.free 1
            clear R7 Ux Sx Tx
            go_wp2_with fail
            exact bodyPost_ret (v := .tuple #[.agg #[.slice p0 n c0, .slice p1 m c1], vb]) (by simp [results, Try.results102, go_sem, f0, f1]) rfl HF.out
          · obtain ⟨hv0, hv1, hv2⟩ := hva
            have hv0' : (va == 0) = false := by simpa using hv0
            have hv1' : (va == 1) = false := by simpa using hv1
            have hv2' : (va == 2) = false := by simpa using hv2
            clear hv0 hv1 hv2 bd
            go_upto_region 20 with (fail)
            have HF := Lib.hid (six_post (w := w) HOa.out (by omega) (by omega) hn hm (show n ≤ 2000 by omega) hnm hVa.sl (by omega) (by omega) Sa (U0.out.trans Ua) hltw)
            have q0 := Ta.b0
            have q1 := Ta.b1
            have R7 := R1.keep (Ua.block w.heap.size (by omega) (by omega))
            have f0 := R7.b0
            have f1 := R7.b1
            have k0 := R7.free 0
            have k1 := R7.free 1
            clear R7 Ua Sa Ta
            go_wp2_with fail
            exact bodyPost_ret (v := .tuple #[.agg #[.slice p0 n c0, .slice p1 m c1], .slice (some ⟨g8, 0, none⟩) n c8]) (by simp [results, Try.results102, go_sem, f0, f1]) rfl HF.out
  · have hv3' : (v3 == 0) = false := by simpa using hv3
    have q0 := T3.b0
    have q1 := T3.b1
    clear hv3
    go_wp2_with fail
    clear q0 q1
    refine (mem.sIsNetwork_any w3 _ n N m P 0 w3.heap.size HO3.out.net (Nat.le_refl _) hnm).mono ?_
    rintro e w5 ⟨rfl, x5⟩
    have z5 := x5.size
    have HO5 := Lib.hid (HO3.out.next x5)
    have T5 := T3.next x5
    have hTl5 := T5.lt
    have S5 := src_upd S3 (x5.block b (src_lt S3))
    have U5 := U3.trans (mem.Upd.of_below x5)
    clear HO3 T3 S3 U3 x5
    cases hB : mem.netB n N m P
    · have L6 := mem.Ob.new w5 #[.int .i64 1, .int .i64 (-1)] 2 2 (mem.ia (fun k => if k = 0 then 1 else -1)) rfl (by intro j hj; rcases (by omega : j = 0 ∨ j = 1) with rfl | rfl <;> rfl)
      have x6 := mem.below_new w5 (.cells #[.int .i64 1, .int .i64 (-1)] 2)
      have z6 := x6.size
      have S6 := src_upd S5 (x6.block b (src_lt S5))
      have U6 := U5.trans (mem.Upd.of_below x6)
      have HF := Lib.hid (six_post (w := w) (HO5.out.next x6) (by omega) (by omega) hn hm (by omega) hnm (L6.sl 2 2 (Nat.le_refl _)) (by omega) (by have := L6.lt; omega) S6 (U0.out.trans U6) hltw)
      have q0 := T5.b0
      have q1 := T5.b1
      clear HO5 T5 S5 U5 L6 x6
      have R7 := R1.keep (U6.block w.heap.size (by omega) (by omega))
      have f0 := R7.b0
      have f1 := R7.b1
      have k0 := R7.free 0
      have k1 := R7.free 1
      clear R7 U6 S6
      go_wp2_with fail
      exact bodyPost_ret (v := .tuple #[.agg #[.slice p0 n c0, .slice p1 m c1], .slice (some ⟨w5.heap.size, 0, none⟩) 2 2]) (by simp [results, Try.results102, go_sem, f0, f1]) rfl HF.out
    · have HB := Lib.hid hB
      obtain ⟨hn1, hn24, hm40⟩ := mem.net_sz hB
      have F0 := mem.Own.nilled w5 (fun _ => 0)
      have x6 := mem.below_new w5 (.cells #[] 2)
      have D0 : Fl w5 b cv len (w5.alloc (.cells #[] 2)) (.slice (some ⟨w5.heap.size, 0, none⟩) 0 0) 0 := ⟨fun _ => 0, w5.heap.size, _, _, F0, fun j hj => by omega, Nat.le_refl _, src_upd S5 (x6.block b (src_lt S5)), mem.Upd.of_below x6⟩
      have HC5 := Lib.hid (code_of HC.out U5 hB' hb)
      have lts := HO5.out.lts
      have hb5 := src_lt S5
      have q1 := T5.b1
      clear F0 x6 hB
      go_wp2_with fail
      generalize hW : w5.alloc (.cells #[] 2) = w6 at *
      generalize hv : Value.slice (some ⟨w5.heap.size, 0, none⟩) 0 0 = vl0 at *
      clear hW hv q1
      go_loopw [5, 6] (fun ov iv wr => ∃ (k : Nat) (ov' : Value), ov' = ov ∧ iv = .int .i64 k ∧ k ≤ m ∧ Fl w5 b cv len wr ov' k) (fun _ iv _ => m - (intOf iv).toNat)
      case atStart => exact ⟨0, _, rfl, rfl, Nat.zero_le _, D0⟩
      case round =>
        obtain ⟨k, ov, rfl, rfl, hk, DF⟩ := hrel
        clear D0
        obtain ⟨D, g, i6, s6, hD, hDb, hg, hS6, hU6⟩ := DF.ex
        clear DF
        have T6 := T5.keep (hU6.block T hTl5 (by omega))
        have q0 := T6.b0
        have q1 := T6.b1
        have k0' : (0 : Int) ≤ (k : Int) := Int.natCast_nonneg _
        by_cases hlt : k < m
        · have k1' : (k : Int) < (m : Int) := by omega
          clear q0
          go_wp2_with fail
          refine (next_any wr b B cv len i6 s6 40 hS6 (code_of HC5.out hU6 hB' hb5) hB' (by omega)).mono ?_
          rintro e w7 ⟨v7, i7, s7, rfl, t7, ht7, hS7, o7⟩
          obtain ⟨co, rfl⟩ := hD.shape
          have lg0 := hD.lt
          have hgb : g ≠ b := by omega
          have hD7 := hD.keep (o7.block g hgb)
          have hU7 := hU6.trans (upd_of o7)
          have hb1 : -4611686018427387904 ≤ v7 - 15 ∧ v7 - 15 ≤ 4611686018427387904 := by omega
          have lg := hD7.lt
          obtain ⟨v8, w8, g8, hr, ap⟩ := mem.app_run (w7.alloc (.cells #[.int .i64 (v7 - 15)] 2)) _ k _ g (v7 - 15) w7.heap.size (hD7.alloc _) (mem.cell_new1 w7 _) (by omega)
          have bl := ap.below (B := w5.heap.size) (by omega) (by rw [mem.szal]; omega)
          have xb : Below w5.heap.size w7 w8 := ((mem.below_new w7 _).mono hU7.size).trans bl.1
          have DF8 : Fl w5 b cv len w8 v8 (k + 1) := ⟨_, g8, i7, s7, ap.own, fun j hj => by
            unfold mem.upd
            split
            · omega
            · exact hDb j (by omega), bl.2, src_upd hS7 (xb.block b hb5), upd_bel hU7 xb⟩
          clear hD hDb hS6 hU6 hS7 o7 hD7 hU7 ap bl xb T6 q1 T5 S5 U5 HO5
          go_wp2_with (at_builtin; refine mem.wpList_app hr rfl _ _ rfl rfl rfl rfl ?_)
          clear hr
          go_roundw
          case rel => exact ⟨k + 1, _, rfl, by go_num, hlt, DF8⟩
          case measure => simp [intOf]; omega
        · obtain rfl : m = k := by omega
          have k1' : ¬ ((m : Int) < (m : Int)) := by omega
          have HO6 := Lib.hid (HO5.out.upd hU6 (.inr (by omega)) (.inr (by omega)))
          have lg := hD.lt
          have HD := Lib.hid hD.sl
          have HDB := Lib.hid (mem.flB_iff.2 (fun j hj => mem.flQ_iff.2 (hDb j hj)))
          have HDb := Lib.hid hDb
          have hzr := hU6.size
          obtain ⟨co, rfl⟩ := hD.shape
          clear hD hDb T5 S5 HO5
          go_wp2_with fail
          refine (mem.l05OutW_any wr _ n N m P 0 wr.heap.size HO6.out.net (Nat.le_refl _) hnm HB.out _ D g (g + 1) HD.out (by omega) HDB.out).mono ?_
          rintro e w8 ⟨v8, g8, rfl, hV8, lg8, x8⟩
          obtain ⟨c8, rfl⟩ := hV8.shape
          have hz8 := x8.size
          have HO8 := Lib.hid (HO6.out.next x8)
          have T8 := T6.next x8
          have S8 := src_upd hS6 (x8.block b (src_lt hS6))
          have U8 := U5.trans (hU6.trans (mem.Upd.of_below x8))
          have hC8 := code_of HC.out U8 hB' hb
          clear T6 q0 q1 hS6 hU6 U5 HO6 HD HDB HC5 x8
          go_wp2_with fail
          refine (next_any w8 b B cv len i6 s6 n S8 hC8 hB' (by omega)).mono ?_
          rintro e w9 ⟨v9, i9, s9, rfl, t9, ht9, S9, o9⟩
          have hV9 := hV8.keep (o9.block g8 (by omega))
          have HO9 := Lib.hid (HO8.out.upd (upd_of o9) (.inr (by omega)) (.inr (by omega)))
          have T9 := T8.keep (o9.block T (by omega))
          have U9 := U8.trans (upd_of o9)
          have hC9 := code_of HC.out U9 hB' hb
          have hz9 := o9.size
          obtain ⟨J, rfl⟩ := Int.eq_ofNat_of_zero_le t9
          have hJ : J < n := by omega
          clear hC8 hV8 HO8 T8 U8 S8 o9 t9 ht9
          go_wp2_with fail
          refine (next_any w9 b B cv len i9 s9 24 S9 hC9 hB' (by omega)).mono ?_
          rintro e wa ⟨va, ia, sa, rfl, ta, hta, Sa, oa⟩
          have hVa := hV9.keep (oa.block g8 (by omega))
          have HOa := Lib.hid (HO9.out.upd (upd_of oa) (.inr (by omega)) (.inr (by omega)))
          have Ta := T9.keep (oa.block T (by omega))
          have Ua := U9.trans (upd_of oa)
          have hza := oa.size
          have lga := hVa.lt
          clear hC9 hV9 HO9 T9 U9 S9 oa
          have bd := mem.dv_bd2 (P := P) (x := D) (z := ((J : Nat) : Int)) (k := m) (fun i hi => HDb.out i (by omega))
          rcases (by omega : va = 0 ∨ va = 1 ∨ va = 2 ∨ (va ≠ 0 ∧ va ≠ 1 ∧ va ≠ 2)) with rfl | rfl | rfl | hva
          · have yf : wa.cell? ⟨g8, J, none⟩ = some (.int .i64 (mem.dv P D m ((J : Nat) : Int))) := hVa.row.cell J hJ
            have yz := hVa.free J
            have bd2 : -4611686018427387904 ≤ mem.dv P D m ((J : Nat) : Int) + 1 ∧ mem.dv P D m ((J : Nat) : Int) + 1 ≤ 4611686018427387904 := by omega
            have oX := (mem.Only.refl g8 wa).setCell J (.int .i64 (mem.dv P D m ((J : Nat) : Int) + 1))
            have hVx := hVa.put1 J (mem.dv P D m ((J : Nat) : Int) + 1) hJ
            have HOx := Lib.hid (HOa.out.upd (mem.Upd.of_only oX) (lts.1.imp_right fun h => by show ¬ (b1 = g8); omega) (lts.2.imp_right fun h => by show ¬ (b2 = g8); omega))
            clear bd
            go_upto_region 20 with (fail)
            obtain ⟨wx, hwx⟩ : ∃ wx, wa.setCell ⟨g8, J, none⟩ (.int .i64 (mem.dv P D m ((J : Nat) : Int) + 1)) = wx := ⟨_, rfl⟩
            rw [hwx] at oX hVx HOx ⊢
            clear hwx
            have Tx := Ta.keep (oX.block T (by omega))
            have Ux := upd_own Ua oX (by omega)
            have Sx := src_upd Sa (oX.block b (by omega))
            have HF := Lib.hid (six_post (w := w) HOx.out (by omega) (by omega) hn hm (show n ≤ 2000 by omega) hnm hVx.sl (by omega) (by have := hVx.lt; omega) Sx (U0.out.trans Ux) hltw)
            have q0 := Tx.b0
            have q1 := Tx.b1
            have R7 := R1.keep (Ux.block w.heap.size (by omega) (by omega))
            have f0 := R7.b0
            have f1 := R7.b1
            have k0 := R7.free 0
            have k1 := R7.free 1
            clear R7 Ux Sx Tx
            go_wp2_with fail
            exact bodyPost_ret (v := .tuple #[.agg #[.slice p0 n c0, .slice p1 m c1], .slice (some ⟨g8, 0, none⟩) n c8]) (by simp [results, Try.results102, go_sem, f0, f1]) rfl HF.out
          · have bA := mem.below_new wa (Obj.cells #[.int .i64 30000, .int .i64 30001] 2)
            have tA := tabI wa 2 #[.int .i64 30000, .int .i64 30001] (by
              intro j hj
              rcases (by simp at hj; omega : j = 0 ∨ j = 1) with rfl | rfl
              all_goals exact ⟨_, rfl⟩)
            have SA := src_alloc Sa (src_lt Sa) (Obj.cells #[.int .i64 30000, .int .i64 30001] 2)
            have UA := Ua.trans (mem.Upd.of_below bA)
            have CA := code_of HC.out UA hB' hb
            have HVA := Lib.hid (hVa.alloc (Obj.cells #[.int .i64 30000, .int .i64 30001] 2))
            have HOA := Lib.hid (HOa.out.next bA)
            have HTA := Lib.hid (Ta.next bA)
            have hzA : (wa.alloc (Obj.cells #[.int .i64 30000, .int .i64 30001] 2)).heap.size = wa.heap.size + 1 := by simp
            have lba := src_lt Sa
            have yzA := hVa.free J
            have lga2 : J < n := hJ
            clear bd bA Sa Ua Ta HOa hVa
            go_wp2_with fail
            refine (next_any _ b B cv len ia sa 2 SA CA hB' (by omega)).mono ?_
            rintro e wc ⟨vc, ic, sc, rfl, tc, htc, Sc, oc⟩
            have hzc := oc.size
            have HVc := Lib.hid (HVA.out.keep (oc.block g8 (by omega)))
            have HOc := Lib.hid (HOA.out.upd (upd_of oc) (.inr (by omega)) (.inr (by omega)))
            have HTc := Lib.hid (HTA.out.keep (oc.block T (by omega)))
            have Uc := UA.trans (upd_of oc)
            obtain ⟨x, rfl⟩ := Int.eq_ofNat_of_zero_le tc
            have hx : x < 2 := by omega
            have hx2 : (x : Int) < 2 := by omega
            obtain ⟨y, hy⟩ := tA x hx
            have hyc : wc.cell? ⟨wa.heap.size, x, none⟩ = some (.int .i64 y) := by
              have e := oc.block wa.heap.size (by omega)
              simp only [World.cell?] at hy ⊢
              rw [e]
              exact hy
            have yf := HVc.out.row.cell J hJ
            have yz := HVc.out.free J
            have oX := (mem.Only.refl g8 wc).setCell J (.int .i64 y)
            have hVx := HVc.out.put1 J y hJ
            have HOx := Lib.hid (HOc.out.upd (mem.Upd.of_only oX) (lts.1.imp_right fun h => by show ¬ (b1 = g8); omega) (lts.2.imp_right fun h => by show ¬ (b2 = g8); omega))
            clear tA SA CA UA HVA HOA HTA hy oc htc yzA HVc HOc
            go_upto_region 20 with (fail)
            obtain ⟨wx, hwx⟩ : ∃ wx, wc.setCell ⟨g8, J, none⟩ (.int .i64 y) = wx := ⟨_, rfl⟩
            rw [hwx] at oX hVx HOx ⊢
            clear hwx
            have Tx := HTc.out.keep (oX.block T (by omega))
            have Ux := upd_own Uc oX (by omega)
            have Sx := src_upd Sc (oX.block b (by omega))
            have HF := Lib.hid (six_post (w := w) HOx.out (by omega) (by omega) hn hm (show n ≤ 2000 by omega) hnm hVx.sl (by omega) (by have := hVx.lt; omega) Sx (U0.out.trans Ux) hltw)
            have q0 := Tx.b0
            have q1 := Tx.b1
            have R7 := R1.keep (Ux.block w.heap.size (by omega) (by omega))
            have f0 := R7.b0
            have f1 := R7.b1
            have k0 := R7.free 0
            have k1 := R7.free 1
            clear R7 Ux Sx Tx
            go_wp2_with fail
            exact bodyPost_ret (v := .tuple #[.agg #[.slice p0 n c0, .slice p1 m c1], .slice (some ⟨g8, 0, none⟩) n c8]) (by simp [results, Try.results102, go_sem, f0, f1]) rfl HF.out
          · have hbz : g8 < wa.heap.size := lga
            obtain ⟨vb, wb, gb, hr, ap⟩ := mem.app_run (wa.alloc (.cells #[.int .i64 0] 2)) _ n _ g8 0 wa.heap.size (hVa.alloc _) (mem.cell_new1 wa _) (by omega)
            have bl := ap.below (B := w5.heap.size) (by omega) (by rw [mem.szal]; omega)
            have xb : Below w5.heap.size wa wb := ((mem.below_new wa _).mono (by omega)).trans bl.1
            clear bd
            go_upto_region 20 with (at_builtin; refine mem.wpList_app hr rfl _ _ rfl rfl rfl rfl ?_)
            have Xb : mem.Upd (fun x => w5.heap.size ≤ x) wa wb := ⟨xb.os, xb.tape, xb.output, xb.size, fun x _ hn => xb.block x (by omega)⟩
            have HOx := Lib.hid (HOa.out.upd Xb (lts.1.imp_right fun h => by show ¬ (w5.heap.size ≤ b1); omega) (lts.2.imp_right fun h => by show ¬ (w5.heap.size ≤ b2); omega))
            have Tx := Ta.keep (xb.block T hTl5)
            have Ux := upd_bel Ua (xb.mono (by omega))
            have Sx := src_upd Sa (xb.block b hb5)
            have hlb := bl.2
            clear hr
            have HF := Lib.hid (six_post (w := w) HOx.out (by omega) (by omega) hn hm (show n + 1 ≤ 2000 by omega) hnm ap.own.sl (by omega) (by have := ap.own.lt; omega) Sx (U0.out.trans Ux) hltw)
            have q0 := Tx.b0
            have q1 := Tx.b1
            have R7 := R1.keep (Ux.block w.heap.size (by omega) (by omega))
            have f0 := R7.b0
            have f1 := R7.b1
            have k0 := R7.free 0
            have k1 := R7.free 1
            clear R7 Ux Sx Tx
            go_wp2_with fail
            exact bodyPost_ret (v := .tuple #[.agg #[.slice p0 n c0, .slice p1 m c1], vb]) (by simp [results, Try.results102, go_sem, f0, f1]) rfl HF.out
          · obtain ⟨hv0, hv1, hv2⟩ := hva
            have hv0' : (va == 0) = false := by simpa using hv0
            have hv1' : (va == 1) = false := by simpa using hv1
            have hv2' : (va == 2) = false := by simpa using hv2
            clear hv0 hv1 hv2 bd
            go_upto_region 20 with (fail)
            have HF := Lib.hid (six_post (w := w) HOa.out (by omega) (by omega) hn hm (show n ≤ 2000 by omega) hnm hVa.sl (by omega) (by omega) Sa (U0.out.trans Ua) hltw)
            have q0 := Ta.b0
            have q1 := Ta.b1
            have R7 := R1.keep (Ua.block w.heap.size (by omega) (by omega))
            have f0 := R7.b0
            have f1 := R7.b1
            have k0 := R7.free 0
            have k1 := R7.free 1
            clear R7 Ua Sa Ta
            go_wp2_with fail
            exact bodyPost_ret (v := .tuple #[.agg #[.slice p0 n c0, .slice p1 m c1], .slice (some ⟨g8, 0, none⟩) n c8]) (by simp [results, Try.results102, go_sem, f0, f1]) rfl HF.out
end Go.Proofs.Ytpgcieefipjjfaa.draw
