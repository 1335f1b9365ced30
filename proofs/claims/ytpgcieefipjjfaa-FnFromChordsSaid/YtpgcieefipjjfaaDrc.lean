/-
  The draw of a network and a chord. Conditions: as each states.
-/
import Derived.Test.YtpgcieefipjjfaaRows
import Derived.Test.YtpgcieefipjjfaaDrl
import Derived.Test.YtpgcieefipjjfaaCsM
import Derived.WalkKit
import Derived.ProofKit
import Derived.Lib.Hide
import Derived.OwnWalk
import Derived.Outline
import Derived.Deep.Cut
import Derived.Deep.RegionHeld3
import Derived.Deep.RegionWith
namespace Go.Proofs.Ytpgcieefipjjfaa.draw
open Go.RowKit
set_option linter.unusedVariables false

/-- a network and a number have been drawn -/
def NCPost (w : World) (b : Nat) (cv : Value) (len : Nat) (e : Ending) (w' : World) : Prop :=
  ∃ (v : Value) (n m : Nat) (N : Nat → mem.Nod) (P : Nat → mem.Pip) (b1 b2 : Nat) (x i s : Int), e = .returned (.tuple #[v, .int .i64 x]) ∧ n ≤ 1000 ∧ m ≤ 1000 ∧ (∀ i, i < n → (N i).s.size ≤ 9223372036854775807) ∧ mem.NetOwn w' v n N m P b1 b2 ∧ w.heap.size ≤ b1 ∧ w.heap.size ≤ b2 ∧ Src w' b cv len i s ∧ mem.Upd (· = b) w w'
theorem chord_post {w X : World} {b len n m b1 b2 : Nat} {cv v0 v1 : Value} {N : Nat → mem.Nod} {P : Nat → mem.Pip} {i s x : Int} (hO : mem.NetOwn X (.agg #[v0, v1]) n N m P b1 b2) (hb1 : w.heap.size < b1) (hb2 : w.heap.size < b2) (hn : n ≤ 1000) (hm : m ≤ 1000) (hnm : ∀ i, i < n → (N i).s.size ≤ 9223372036854775807)
    (hS : Src X b cv len i s) (hU : mem.Upd (· = b) w X) (hlt : b < w.heap.size) : NCPost w b cv len (.returned (.tuple #[.agg #[v0, v1], .int .i64 x])) ((X.setCell ⟨w.heap.size, 0, none⟩ v0).setCell ⟨w.heap.size, 1, none⟩ v1) := by
  have hO2 := ((mem.Only.refl w.heap.size X).setCell 0 v0).setCell 1 v1
  exact ⟨_, n, m, N, P, b1, b2, x, i, s, rfl, hn, hm, hnm, hO.upd (mem.Upd.of_only hO2) (.inr (by omega)) (.inr (by omega)), by omega, by omega, src_upd hS (hO2.block b (by omega)), upd_own hU hO2 (Nat.le_refl _)⟩
set_option maxRecDepth 100000 in
set_option maxHeartbeats 8000000 in
theorem chord_any (w : World) (b B : Nat) (cv : Value) (len : Nat) (i s : Int) (h : Src w b cv len i s) (hc : CodeAt w cv len B) (hB' : B ≤ b) :
    Calls Try.prog 94 #[.pointer (some ⟨b, 0, none⟩)] w (NCPost w b cv len) := by
  have hlt := src_lt h
  have h' := src_alloc h hlt (.cells #[.slice none 0 0, .slice none 0 0] 33)
  have HC := Lib.hid (codeAt_below hc ((Below.refl B w).alloc (by omega) (.cells #[.slice none 0 0, .slice none 0 0] 33)))
  have R1 := mem.boxed w (.slice none 0 0) (.slice none 0 0) 33
  have U0 := Lib.hid (mem.Upd.of_below (mem.below_new w (.cells #[.slice none 0 0, .slice none 0 0] 33)) (X := (· = b)))
  have hsz : w.heap.size + 1 ≤ (w.alloc (.cells #[.slice none 0 0, .slice none 0 0] 33)).heap.size := by simp
  go_enter Try.func94, Try.ntmps94
  go_wp2_with fail
  generalize hW : w.alloc (.cells #[.slice none 0 0, .slice none 0 0] 33) = Wa at *
  clear hW h hc
  have hb : b < Wa.heap.size := by omega
  refine (loops_any Wa b B cv len i s h' HC.out hB').mono ?_
  rintro e w1 ⟨v, n, m, N, P, b1, b2, i1, s1, rfl, hn, hm, hnm, hO, l1, l2, hS1, U1⟩
  obtain ⟨p0, c0, p1, c1, rfl⟩ := hO.shape
  have hTl := U1.size
  have hbt := src_lt hS1
  have x2 := mem.below_new w1 (.cells #[.slice p0 n c0, .slice p1 m c1] 33)
  have T1 := mem.boxed w1 (.slice p0 n c0) (.slice p1 m c1) 33
  have HO := Lib.hid (hO.next x2)
  have S2 := src_alloc hS1 (src_lt hS1) (.cells #[.slice p0 n c0, .slice p1 m c1] 33)
  have U2 := U1.trans (mem.Upd.of_below x2)
  clear hO hS1 U1 x2 h'
  go_wp2_with fail
  generalize hW : w1.alloc (.cells #[.slice p0 n c0, .slice p1 m c1] 33) = w2 at *
  obtain ⟨T, hTe⟩ : ∃ T, w1.heap.size = T := ⟨_, rfl⟩
  rw [hTe] at T1 hbt hTl ⊢
  clear hW hTe
  refine (next_any w2 b B cv len i1 s1 12 S2 (code_of HC.out U2 hB' hb) hB' (by omega)).mono ?_
  rintro e w3 ⟨v3, i3, s3, rfl, t3, ht3, S3, o3⟩
  have HO3 := Lib.hid (HO.out.upd (upd_of o3) (.inr (by omega)) (.inr (by omega)))
  have T3 := T1.keep (o3.block T (by omega))
  have U3 := U2.trans (upd_of o3)
  clear HO T1 U2 o3 S2
  have hltw : b < w.heap.size := by omega
  by_cases hv3 : v3 = 0
  · subst hv3
    clear HO3 l1 l2 hn hm hnm
    have hTl3 := T3.lt
    have j0 := T3.free 0
    have j1 := T3.free 1
    have q0 := T3.b0
    have q1 := T3.b1
    go_wp2_with fail
    refine (any_ok w3 b B cv len i3 s3 S3 (code_of HC.out U3 hB' hb) hB').mono ?_
    rintro e w4 ⟨v, n, m, N, P, b1, b2, i3, s3, rfl, hn, hm, hnm, hO, l1, l2, hS4, U4⟩
    obtain ⟨p0, c0, p1, c1, rfl⟩ := hO.shape
    have T4 := T3.keep (U4.block T hTl3 (by omega))
    have hU3 := U3.size
    have j0' := T4.free 0
    have j1' := T4.free 1
    have q0' := T4.b0
    have q1' := T4.b1
    have hU4 := U4.size
    have oT := ((mem.Only.refl T w4).setCell 0 (.slice p0 n c0)).setCell 1 (.slice p1 m c1)
    have HOx := Lib.hid (hO.upd (mem.Upd.of_only oT) (.inr (by omega)) (.inr (by omega)))
    have Tx := Lib.hid ((T4.set 0 (.slice p0 n c0) (by omega)).set 1 (.slice p1 m c1) (by omega))
    have Sx := src_upd hS4 (oT.block b (by omega))
    have Ux := upd_own (U3.trans U4) oT (by omega)
    have hzx := oT.size
    clear T3 j0 j1 q0 q1 T4 hO hS4 U4 oT U3 S3
    go_upto_region 4 with (fail)
    clear j0' j1' q0' q1'
    obtain ⟨w3, hw3⟩ : ∃ wx, (w4.setCell ⟨T, 0, none⟩ (.slice p0 n c0)).setCell ⟨T, 1, none⟩ (.slice p1 m c1) = wx := ⟨_, rfl⟩
    rw [hw3] at HOx Tx Sx Ux hzx ⊢
    clear hw3
    have HO3 := HOx
    have S3 := Sx
    have U3 := Ux
    clear HOx Sx Ux
    have T3 := Tx.out.congr (e := mem.bx (.slice p0 n c0) (.slice p1 m c1)) (by intro j hj; rcases (by omega : j = 0 ∨ j = 1) with rfl | rfl <;> rfl)
    have q0 := T3.b0
    have q1 := T3.b1
    clear Tx
    go_wp2_with fail
    clear q0 q1
    refine (mem.chordsOfS_any w3 _ n N m P 0 w3.heap.size HO3.out.net (Nat.le_refl _) hnm).mono ?_
    rintro e w5 ⟨vA, gA, rfl, oA, lA, x5⟩
    obtain ⟨cn, hcn⟩ : ∃ cn, mem.coN n N m P = cn := ⟨_, rfl⟩
    rw [hcn] at oA
    obtain ⟨pA, cA, rfl⟩ := oA.shape
    obtain ⟨dA, hdA⟩ : ∃ d, mem.fd (mem.chP n P m) m = d := ⟨_, rfl⟩
    rw [hdA] at oA
    have hcb : cn ≤ 9223372036854775807 ∧ (cn = 0 ∨ (pA = some ⟨gA, 0, none⟩ ∧ gA < w5.heap.size ∧ ∀ j, j < cn → w5.cell? ⟨gA, j, none⟩ = some (.int .i64 (dA j)))) := by
      obtain ⟨p', cap', hv, h1, h2, h3⟩ := oA.ex
      injection hv with e1 _ e3
      subst e1
      refine ⟨by omega, ?_⟩
      rcases h3 with h3 | ⟨h3, h4⟩
      · exact .inl h3
      · refine .inr ⟨h3, h4.lt, fun j hj => ?_⟩
        have := h4.cell j 0 hj (by omega)
        simpa using this
    obtain ⟨hcb, hcells⟩ := hcb
    have z5 := x5.size
    have hT3l := T3.lt
    have HO5 := Lib.hid (HO3.out.next x5)
    have T5 := T3.next x5
    have S5 := src_upd S3 (x5.block b (src_lt S3))
    have hb3 := src_lt S3
    have U5 := U3.trans (mem.Upd.of_below x5)
    have hTl5 := T5.lt
    have hTR : T ≠ w.heap.size := by omega
    have hzU := U5.size
    clear HO3 T3 S3 U3 x5 oA hcn hdA
    rcases hcells with hc0 | ⟨rfl, hgl, hcl⟩
    · subst hc0
      go_wp2_with fail
      have RR := R1.keep (U5.block w.heap.size (by omega) (by omega))
      have t0 := T5.b0
      have t1 := T5.b1
      have f0 := RR.b0
      have f1 := RR.b1
      have k0 := RR.free 0
      have k1 := RR.free 1
      have HCd := Lib.hid (code_of (b := b) HC.out (upd_dw' U5) hB' hb : CodeAt w5.drew cv len B)
      go_region_held3 (fun w' => w'.cell? ⟨T, 0, none⟩ = some (.slice p0 n c0) ∧ w'.cell? ⟨T, 1, none⟩ = some (.slice p1 m c1)) (first | exact ⟨t0, t1⟩ | exact ⟨TX.b0, TX.b1⟩ | exact ⟨((((mem.Only.refl w.heap.size _).setCell _ _).setCell _ _).cell (a := ⟨T, 0, none⟩) hTR).trans TX.b0, ((((mem.Only.refl w.heap.size _).setCell _ _).setCell _ _).cell (a := ⟨T, 1, none⟩) hTR).trans TX.b1⟩ | go_keep)
        (first | (go_at_call 139; refine (index_any _ b B cv len i3 s3 m (src_upd S5 rfl : Src w5.drew b cv len i3 s3) HCd.out hB' (by omega)).mono ?_; rintro e wx ⟨x, ix, sx, rfl, x0, x1, hSx, ox⟩; have TX := (T5.keep (ox.block T (by omega)) : mem.Ob wx T 2 _); have RX := (RR.keep (ox.block w.heap.size (by omega)) : mem.Ob wx w.heap.size 2 _); have fx0 := RX.b0; have fx1 := RX.b1; have kx0 := RX.free 0; have kx1 := RX.free 1))
      have HF := Lib.hid (chord_post (w := w) (x := x) (HO5.out.drew.upd (upd_of ox) (.inr (by omega)) (.inr (by omega))) (by omega) (by omega) hn hm hnm hSx (U0.out.trans ((upd_dw' U5).trans (upd_of ox))) hltw)
      clear HO5 S5 T5 U5 RR TX RX ox hSx
      go_wp2_with fail
      exact bodyPost_ret (v := .tuple #[.agg #[.slice p0 n c0, .slice p1 m c1], .int .i64 x]) (by simp [results, Try.results94, go_sem, fx0, fx1]) rfl HF.out
    · rcases Nat.eq_zero_or_pos cn with hc0 | hc0
      · subst hc0
        clear hcl
        go_wp2_with fail
        have RR := R1.keep (U5.block w.heap.size (by omega) (by omega))
        have t0 := T5.b0
        have t1 := T5.b1
        have f0 := RR.b0
        have f1 := RR.b1
        have k0 := RR.free 0
        have k1 := RR.free 1
        have HCd := Lib.hid (code_of (b := b) HC.out (upd_dw' U5) hB' hb : CodeAt w5.drew cv len B)
        go_region_held3 (fun w' => w'.cell? ⟨T, 0, none⟩ = some (.slice p0 n c0) ∧ w'.cell? ⟨T, 1, none⟩ = some (.slice p1 m c1)) (first | exact ⟨t0, t1⟩ | exact ⟨TX.b0, TX.b1⟩ | exact ⟨((((mem.Only.refl w.heap.size _).setCell _ _).setCell _ _).cell (a := ⟨T, 0, none⟩) hTR).trans TX.b0, ((((mem.Only.refl w.heap.size _).setCell _ _).setCell _ _).cell (a := ⟨T, 1, none⟩) hTR).trans TX.b1⟩ | go_keep)
          (first | (go_at_call 139; refine (index_any _ b B cv len i3 s3 m (src_upd S5 rfl : Src w5.drew b cv len i3 s3) HCd.out hB' (by omega)).mono ?_; rintro e wx ⟨x, ix, sx, rfl, x0, x1, hSx, ox⟩; have TX := (T5.keep (ox.block T (by omega)) : mem.Ob wx T 2 _); have RX := (RR.keep (ox.block w.heap.size (by omega)) : mem.Ob wx w.heap.size 2 _); have fx0 := RX.b0; have fx1 := RX.b1; have kx0 := RX.free 0; have kx1 := RX.free 1))
        have HF := Lib.hid (chord_post (w := w) (x := x) (HO5.out.drew.upd (upd_of ox) (.inr (by omega)) (.inr (by omega))) (by omega) (by omega) hn hm hnm hSx (U0.out.trans ((upd_dw' U5).trans (upd_of ox))) hltw)
        clear HO5 S5 T5 U5 RR TX RX ox hSx
        go_wp2_with fail
        exact bodyPost_ret (v := .tuple #[.agg #[.slice p0 n c0, .slice p1 m c1], .int .i64 x]) (by simp [results, Try.results94, go_sem, fx0, fx1]) rfl HF.out
      · have hcI : (cn == 0) = false := by simp; omega
        have hcI2 : ((cn : Int) == 0) = false := by simp; omega
        have HCL := Lib.hid hcl
        clear hcl
        go_wp2_with fail
        refine (next_any w5 b B cv len i3 s3 8 S5 (code_of HC.out U5 hB' hb) hB' (by omega)).mono ?_
        rintro e w6 ⟨v6, i6, s6, rfl, t6, ht6, S6, o6⟩
        have HY := Lib.hid (show ∀ j, j < cn → ∃ y : Int, w6.cell? ⟨gA, j, none⟩ = some (.int .i64 y) from fun j hj => ⟨dA j, (World.cell?_of_block (o6.block gA (by omega))).trans (HCL.out j hj)⟩)
        have HO6 := Lib.hid (HO5.out.upd (upd_of o6) (.inr (by omega)) (.inr (by omega)))
        have T6 := T5.keep (o6.block T (by omega))
        have U6 := U5.trans (upd_of o6)
        have hz6 := o6.size
        clear HO5 T5 S5 U5 o6 HCL hcI hcI2
        by_cases hv6 : v6 = 0
        · subst hv6
          go_wp2_with fail
          have RR := R1.keep (U6.block w.heap.size (by omega) (by omega))
          have t0 := T6.b0
          have t1 := T6.b1
          have f0 := RR.b0
          have f1 := RR.b1
          have k0 := RR.free 0
          have k1 := RR.free 1
          have HCd := Lib.hid (code_of (b := b) HC.out (upd_dw' U6) hB' hb : CodeAt w6.drew cv len B)
          go_region_held3 (fun w' => w'.cell? ⟨T, 0, none⟩ = some (.slice p0 n c0) ∧ w'.cell? ⟨T, 1, none⟩ = some (.slice p1 m c1)) (first | exact ⟨t0, t1⟩ | exact ⟨TX.b0, TX.b1⟩ | exact ⟨((((mem.Only.refl w.heap.size _).setCell _ _).setCell _ _).cell (a := ⟨T, 0, none⟩) hTR).trans TX.b0, ((((mem.Only.refl w.heap.size _).setCell _ _).setCell _ _).cell (a := ⟨T, 1, none⟩) hTR).trans TX.b1⟩ | go_keep)
            (first | (go_at_call 139; refine (index_any _ b B cv len i6 s6 m (src_upd S6 rfl : Src w6.drew b cv len i6 s6) HCd.out hB' (by omega)).mono ?_; rintro e wx ⟨x, ix, sx, rfl, x0, x1, hSx, ox⟩; have TX := (T6.keep (ox.block T (by omega)) : mem.Ob wx T 2 _); have RX := (RR.keep (ox.block w.heap.size (by omega)) : mem.Ob wx w.heap.size 2 _); have fx0 := RX.b0; have fx1 := RX.b1; have kx0 := RX.free 0; have kx1 := RX.free 1))
          have HF := Lib.hid (chord_post (w := w) (x := x) (HO6.out.drew.upd (upd_of ox) (.inr (by omega)) (.inr (by omega))) (by omega) (by omega) hn hm hnm hSx (U0.out.trans ((upd_dw' U6).trans (upd_of ox))) hltw)
          clear HO6 S6 T6 U6 RR TX RX ox hSx
          go_wp2_with fail
          exact bodyPost_ret (v := .tuple #[.agg #[.slice p0 n c0, .slice p1 m c1], .int .i64 x]) (by simp [results, Try.results94, go_sem, fx0, fx1]) rfl HF.out
        · have hv6' : (v6 == 0) = false := by simpa using hv6
          clear hv6
          go_wp2_with fail
          have RR := R1.keep (U6.block w.heap.size (by omega) (by omega))
          have t0 := T6.b0
          have t1 := T6.b1
          have f0 := RR.b0
          have f1 := RR.b1
          have k0 := RR.free 0
          have k1 := RR.free 1
          have HCd := Lib.hid (code_of (b := b) HC.out (upd_dw' U6) hB' hb : CodeAt w6.drew cv len B)
          go_region_with (first | (go_at_call 100; refine (next_any _ b B cv len i6 s6 cn (src_upd S6 rfl : Src w6.drew b cv len i6 s6) HCd.out hB' (by omega)).mono ?_; rintro e wx ⟨x, ix, sx, rfl, x0, x1, hSx, ox⟩; obtain ⟨j, rfl⟩ := Int.eq_ofNat_of_zero_le x0; have hjn : j < cn := (by omega); have hj1 : (j : Int) < cn := (by omega); have TX := (T6.keep (ox.block T (by omega)) : mem.Ob wx T 2 _); have RX := (RR.keep (ox.block w.heap.size (by omega)) : mem.Ob wx w.heap.size 2 _); have fx0 := RX.b0; have fx1 := RX.b1; have kx0 := RX.free 0; have kx1 := RX.free 1; obtain ⟨y, hy⟩ := HY.out j hjn; have hq : wx.cell? ⟨gA, j, none⟩ = some (.int .i64 y) := (World.cell?_of_block (ox.block gA (by omega))).trans hy; have hq2 := ((((mem.Only.refl w.heap.size wx).setCell 0 (.slice p0 n c0)).setCell 1 (.slice p1 m c1)).cell (a := ⟨gA, j, none⟩) (by show gA ≠ w.heap.size; omega)).trans hq; have tx0 := TX.b0; have tx1 := TX.b1))
          all_goals
            have HF := Lib.hid (chord_post (w := w) (x := y) (HO6.out.drew.upd (upd_of ox) (.inr (by omega)) (.inr (by omega))) (by omega) (by omega) hn hm hnm hSx (U0.out.trans ((upd_dw' U6).trans (upd_of ox))) hltw)
            clear HO6 S6 T6 U6 RR TX RX ox hSx
            go_wp2_with fail
            exact bodyPost_ret (v := .tuple #[.agg #[.slice p0 n c0, .slice p1 m c1], .int .i64 y]) (by simp [results, Try.results94, go_sem, fx0, fx1]) rfl HF.out
  · have hv3' : (v3 == 0) = false := by simpa using hv3
    have q0 := T3.b0
    have q1 := T3.b1
    clear hv3
    go_wp2_with fail
    clear q0 q1
    refine (mem.chordsOfS_any w3 _ n N m P 0 w3.heap.size HO3.out.net (Nat.le_refl _) hnm).mono ?_
    rintro e w5 ⟨vA, gA, rfl, oA, lA, x5⟩
    obtain ⟨cn, hcn⟩ : ∃ cn, mem.coN n N m P = cn := ⟨_, rfl⟩
    rw [hcn] at oA
    obtain ⟨pA, cA, rfl⟩ := oA.shape
    obtain ⟨dA, hdA⟩ : ∃ d, mem.fd (mem.chP n P m) m = d := ⟨_, rfl⟩
    rw [hdA] at oA
    have hcb : cn ≤ 9223372036854775807 ∧ (cn = 0 ∨ (pA = some ⟨gA, 0, none⟩ ∧ gA < w5.heap.size ∧ ∀ j, j < cn → w5.cell? ⟨gA, j, none⟩ = some (.int .i64 (dA j)))) := by
      obtain ⟨p', cap', hv, h1, h2, h3⟩ := oA.ex
      injection hv with e1 _ e3
      subst e1
      refine ⟨by omega, ?_⟩
      rcases h3 with h3 | ⟨h3, h4⟩
      · exact .inl h3
      · refine .inr ⟨h3, h4.lt, fun j hj => ?_⟩
        have := h4.cell j 0 hj (by omega)
        simpa using this
    obtain ⟨hcb, hcells⟩ := hcb
    have z5 := x5.size
    have hT3l := T3.lt
    have HO5 := Lib.hid (HO3.out.next x5)
    have T5 := T3.next x5
    have S5 := src_upd S3 (x5.block b (src_lt S3))
    have hb3 := src_lt S3
    have U5 := U3.trans (mem.Upd.of_below x5)
    have hTl5 := T5.lt
    have hTR : T ≠ w.heap.size := by omega
    have hzU := U5.size
    clear HO3 T3 S3 U3 x5 oA hcn hdA
    rcases hcells with hc0 | ⟨rfl, hgl, hcl⟩
    · subst hc0
      go_wp2_with fail
      have RR := R1.keep (U5.block w.heap.size (by omega) (by omega))
      have t0 := T5.b0
      have t1 := T5.b1
      have f0 := RR.b0
      have f1 := RR.b1
      have k0 := RR.free 0
      have k1 := RR.free 1
      have HCd := Lib.hid (code_of (b := b) HC.out (upd_dw' U5) hB' hb : CodeAt w5.drew cv len B)
      go_region_held3 (fun w' => w'.cell? ⟨T, 0, none⟩ = some (.slice p0 n c0) ∧ w'.cell? ⟨T, 1, none⟩ = some (.slice p1 m c1)) (first | exact ⟨t0, t1⟩ | exact ⟨TX.b0, TX.b1⟩ | exact ⟨((((mem.Only.refl w.heap.size _).setCell _ _).setCell _ _).cell (a := ⟨T, 0, none⟩) hTR).trans TX.b0, ((((mem.Only.refl w.heap.size _).setCell _ _).setCell _ _).cell (a := ⟨T, 1, none⟩) hTR).trans TX.b1⟩ | go_keep)
        (first | (go_at_call 139; refine (index_any _ b B cv len i3 s3 m (src_upd S5 rfl : Src w5.drew b cv len i3 s3) HCd.out hB' (by omega)).mono ?_; rintro e wx ⟨x, ix, sx, rfl, x0, x1, hSx, ox⟩; have TX := (T5.keep (ox.block T (by omega)) : mem.Ob wx T 2 _); have RX := (RR.keep (ox.block w.heap.size (by omega)) : mem.Ob wx w.heap.size 2 _); have fx0 := RX.b0; have fx1 := RX.b1; have kx0 := RX.free 0; have kx1 := RX.free 1))
      have HF := Lib.hid (chord_post (w := w) (x := x) (HO5.out.drew.upd (upd_of ox) (.inr (by omega)) (.inr (by omega))) (by omega) (by omega) hn hm hnm hSx (U0.out.trans ((upd_dw' U5).trans (upd_of ox))) hltw)
      clear HO5 S5 T5 U5 RR TX RX ox hSx
      go_wp2_with fail
      exact bodyPost_ret (v := .tuple #[.agg #[.slice p0 n c0, .slice p1 m c1], .int .i64 x]) (by simp [results, Try.results94, go_sem, fx0, fx1]) rfl HF.out
    · rcases Nat.eq_zero_or_pos cn with hc0 | hc0
      · subst hc0
        clear hcl
        go_wp2_with fail
        have RR := R1.keep (U5.block w.heap.size (by omega) (by omega))
        have t0 := T5.b0
        have t1 := T5.b1
        have f0 := RR.b0
        have f1 := RR.b1
        have k0 := RR.free 0
        have k1 := RR.free 1
        have HCd := Lib.hid (code_of (b := b) HC.out (upd_dw' U5) hB' hb : CodeAt w5.drew cv len B)
        go_region_held3 (fun w' => w'.cell? ⟨T, 0, none⟩ = some (.slice p0 n c0) ∧ w'.cell? ⟨T, 1, none⟩ = some (.slice p1 m c1)) (first | exact ⟨t0, t1⟩ | exact ⟨TX.b0, TX.b1⟩ | exact ⟨((((mem.Only.refl w.heap.size _).setCell _ _).setCell _ _).cell (a := ⟨T, 0, none⟩) hTR).trans TX.b0, ((((mem.Only.refl w.heap.size _).setCell _ _).setCell _ _).cell (a := ⟨T, 1, none⟩) hTR).trans TX.b1⟩ | go_keep)
          (first | (go_at_call 139; refine (index_any _ b B cv len i3 s3 m (src_upd S5 rfl : Src w5.drew b cv len i3 s3) HCd.out hB' (by omega)).mono ?_; rintro e wx ⟨x, ix, sx, rfl, x0, x1, hSx, ox⟩; have TX := (T5.keep (ox.block T (by omega)) : mem.Ob wx T 2 _); have RX := (RR.keep (ox.block w.heap.size (by omega)) : mem.Ob wx w.heap.size 2 _); have fx0 := RX.b0; have fx1 := RX.b1; have kx0 := RX.free 0; have kx1 := RX.free 1))
        have HF := Lib.hid (chord_post (w := w) (x := x) (HO5.out.drew.upd (upd_of ox) (.inr (by omega)) (.inr (by omega))) (by omega) (by omega) hn hm hnm hSx (U0.out.trans ((upd_dw' U5).trans (upd_of ox))) hltw)
        clear HO5 S5 T5 U5 RR TX RX ox hSx
        go_wp2_with fail
        exact bodyPost_ret (v := .tuple #[.agg #[.slice p0 n c0, .slice p1 m c1], .int .i64 x]) (by simp [results, Try.results94, go_sem, fx0, fx1]) rfl HF.out
      · have hcI : (cn == 0) = false := by simp; omega
        have hcI2 : ((cn : Int) == 0) = false := by simp; omega
        have HCL := Lib.hid hcl
        clear hcl
        go_wp2_with fail
        refine (next_any w5 b B cv len i3 s3 8 S5 (code_of HC.out U5 hB' hb) hB' (by omega)).mono ?_
        rintro e w6 ⟨v6, i6, s6, rfl, t6, ht6, S6, o6⟩
        have HY := Lib.hid (show ∀ j, j < cn → ∃ y : Int, w6.cell? ⟨gA, j, none⟩ = some (.int .i64 y) from fun j hj => ⟨dA j, (World.cell?_of_block (o6.block gA (by omega))).trans (HCL.out j hj)⟩)
        have HO6 := Lib.hid (HO5.out.upd (upd_of o6) (.inr (by omega)) (.inr (by omega)))
        have T6 := T5.keep (o6.block T (by omega))
        have U6 := U5.trans (upd_of o6)
        have hz6 := o6.size
        clear HO5 T5 S5 U5 o6 HCL hcI hcI2
        by_cases hv6 : v6 = 0
        · subst hv6
          go_wp2_with fail
          have RR := R1.keep (U6.block w.heap.size (by omega) (by omega))
          have t0 := T6.b0
          have t1 := T6.b1
          have f0 := RR.b0
          have f1 := RR.b1
          have k0 := RR.free 0
          have k1 := RR.free 1
          have HCd := Lib.hid (code_of (b := b) HC.out (upd_dw' U6) hB' hb : CodeAt w6.drew cv len B)
          go_region_held3 (fun w' => w'.cell? ⟨T, 0, none⟩ = some (.slice p0 n c0) ∧ w'.cell? ⟨T, 1, none⟩ = some (.slice p1 m c1)) (first | exact ⟨t0, t1⟩ | exact ⟨TX.b0, TX.b1⟩ | exact ⟨((((mem.Only.refl w.heap.size _).setCell _ _).setCell _ _).cell (a := ⟨T, 0, none⟩) hTR).trans TX.b0, ((((mem.Only.refl w.heap.size _).setCell _ _).setCell _ _).cell (a := ⟨T, 1, none⟩) hTR).trans TX.b1⟩ | go_keep)
            (first | (go_at_call 139; refine (index_any _ b B cv len i6 s6 m (src_upd S6 rfl : Src w6.drew b cv len i6 s6) HCd.out hB' (by omega)).mono ?_; rintro e wx ⟨x, ix, sx, rfl, x0, x1, hSx, ox⟩; have TX := (T6.keep (ox.block T (by omega)) : mem.Ob wx T 2 _); have RX := (RR.keep (ox.block w.heap.size (by omega)) : mem.Ob wx w.heap.size 2 _); have fx0 := RX.b0; have fx1 := RX.b1; have kx0 := RX.free 0; have kx1 := RX.free 1))
          have HF := Lib.hid (chord_post (w := w) (x := x) (HO6.out.drew.upd (upd_of ox) (.inr (by omega)) (.inr (by omega))) (by omega) (by omega) hn hm hnm hSx (U0.out.trans ((upd_dw' U6).trans (upd_of ox))) hltw)
          clear HO6 S6 T6 U6 RR TX RX ox hSx
          go_wp2_with fail
          exact bodyPost_ret (v := .tuple #[.agg #[.slice p0 n c0, .slice p1 m c1], .int .i64 x]) (by simp [results, Try.results94, go_sem, fx0, fx1]) rfl HF.out
        · have hv6' : (v6 == 0) = false := by simpa using hv6
          clear hv6
          go_wp2_with fail
          have RR := R1.keep (U6.block w.heap.size (by omega) (by omega))
          have t0 := T6.b0
          have t1 := T6.b1
          have f0 := RR.b0
          have f1 := RR.b1
          have k0 := RR.free 0
          have k1 := RR.free 1
          have HCd := Lib.hid (code_of (b := b) HC.out (upd_dw' U6) hB' hb : CodeAt w6.drew cv len B)
          go_region_with (first | (go_at_call 100; refine (next_any _ b B cv len i6 s6 cn (src_upd S6 rfl : Src w6.drew b cv len i6 s6) HCd.out hB' (by omega)).mono ?_; rintro e wx ⟨x, ix, sx, rfl, x0, x1, hSx, ox⟩; obtain ⟨j, rfl⟩ := Int.eq_ofNat_of_zero_le x0; have hjn : j < cn := (by omega); have hj1 : (j : Int) < cn := (by omega); have TX := (T6.keep (ox.block T (by omega)) : mem.Ob wx T 2 _); have RX := (RR.keep (ox.block w.heap.size (by omega)) : mem.Ob wx w.heap.size 2 _); have fx0 := RX.b0; have fx1 := RX.b1; have kx0 := RX.free 0; have kx1 := RX.free 1; obtain ⟨y, hy⟩ := HY.out j hjn; have hq : wx.cell? ⟨gA, j, none⟩ = some (.int .i64 y) := (World.cell?_of_block (ox.block gA (by omega))).trans hy; have hq2 := ((((mem.Only.refl w.heap.size wx).setCell 0 (.slice p0 n c0)).setCell 1 (.slice p1 m c1)).cell (a := ⟨gA, j, none⟩) (by show gA ≠ w.heap.size; omega)).trans hq; have tx0 := TX.b0; have tx1 := TX.b1))
          all_goals
            have HF := Lib.hid (chord_post (w := w) (x := y) (HO6.out.drew.upd (upd_of ox) (.inr (by omega)) (.inr (by omega))) (by omega) (by omega) hn hm hnm hSx (U0.out.trans ((upd_dw' U6).trans (upd_of ox))) hltw)
            clear HO6 S6 T6 U6 RR TX RX ox hSx
            go_wp2_with fail
            exact bodyPost_ret (v := .tuple #[.agg #[.slice p0 n c0, .slice p1 m c1], .int .i64 y]) (by simp [results, Try.results94, go_sem, fx0, fx1]) rfl HF.out
def NCOnly (w : World) (e : Ending) (w' : World) : Prop :=
  ∃ (v : Value) (n m : Nat) (N : Nat → mem.Nod) (P : Nat → mem.Pip) (b1 b2 : Nat) (x : Int), e = .returned (.tuple #[v, .int .i64 x]) ∧ n ≤ 1000 ∧ m ≤ 1000 ∧ (∀ i, i < n → (N i).s.size ≤ 9223372036854775807) ∧ mem.NetOwn w' v n N m P b1 b2 ∧ w.heap.size ≤ b1 ∧ w.heap.size ≤ b2 ∧ Below w.heap.size w w'
set_option maxRecDepth 100000 in
set_option maxHeartbeats 4000000 in
theorem drawCycleOf (w : World) (cv : Value) (len : Nat) (hc : CodeAt w cv len w.heap.size) : Calls Try.prog 40 #[cv] w (NCOnly w) := by
  have HC := Lib.hid hc
  have R1 := mem.boxed w (.slice none 0 0) (.slice none 0 0) 33
  have C1 := mem.below_new w (.cells #[.slice none 0 0, .slice none 0 0] 33)
  have hsz : (w.alloc (.cells #[.slice none 0 0, .slice none 0 0] 33)).heap.size = w.heap.size + 1 := by simp
  go_enter Try.func40, Try.ntmps40
  go_wp2_with fail
  generalize hW : w.alloc (.cells #[.slice none 0 0, .slice none 0 0] 33) = Wa at *
  clear hW hc
  replace hsz := Nat.le_antisymm_iff.1 hsz
  refine (from_any Wa cv len (by have := codeAt_below HC.out C1; rcases this with h | ⟨cb, co, cap, h1, h2, h3⟩; exact .inl h; exact .inr ⟨cb, co, cap, h1, by omega, h3⟩)).mono ?_
  rintro e w1 ⟨s1, rfl, hS1, B1, z1⟩
  obtain ⟨b, hbe⟩ : ∃ b, b = Wa.heap.size := ⟨_, rfl⟩
  rw [← hbe] at hS1 z1 ⊢
  replace hbe := Nat.le_antisymm_iff.1 hbe
  replace z1 := Nat.le_antisymm_iff.1 z1
  have C2 := mem.belowNext C1 B1
  have R2 := R1.next B1
  clear B1 C1 R1
  go_wp2_with fail
  refine (chord_any w1 b w.heap.size cv len 0 s1 hS1 (codeAt_below HC.out C2) (by omega)).mono ?_
  rintro e w2 ⟨v, n, m, N, P, b1, b2, x, i2, s2, rfl, hn, hm, hnm, hO, l1, l2, hS2, U2⟩
  obtain ⟨p0, c0, p1, c1, rfl⟩ := hO.shape
  have C3 := C2.trans (U2.below (by omega) (by rintro x _ rfl; omega))
  have R3 := R2.keep (U2.block w.heap.size (by omega) (by omega))
  have f0 := R3.b0
  have f1 := R3.b1
  have k0 := R3.free 0
  have k1 := R3.free 1
  have hO2 := ((mem.Only.refl w.heap.size w2).setCell 0 (.slice p0 n c0)).setCell 1 (.slice p1 m c1)
  have HO := Lib.hid (hO.upd (mem.Upd.of_only hO2) (.inr (by omega)) (.inr (by omega)))
  have HB := Lib.hid (mem.below_only C3 hO2 (by omega))
  clear C2 R2 hO hS2 hS1 C3 R3 U2 hO2
  go_wp2_with fail
  refine bodyPost_ret (v := .tuple #[.agg #[.slice p0 n c0, .slice p1 m c1], .int .i64 x]) (by simp [results, Try.results40, go_sem, f0, f1]) rfl ⟨_, n, m, N, P, b1, b2, x, rfl, hn, hm, hnm, HO.out, by omega, by omega, HB.out⟩
end Go.Proofs.Ytpgcieefipjjfaa.draw
