/-
  The draw of a network, flows, a chord and a number. Conditions: as each states.
-/
import Derived.Test.YtcpglmiboikfmaaRows
import Derived.Test.YtcpglmiboikfmaaDrc
import Derived.Test.YtcpglmiboikfmaaDrbM
import Derived.WalkKit
import Derived.ProofKit
import Derived.Lib.Hide
import Derived.OwnWalk
import Derived.Outline
import Derived.Deep.RegionHeld3
import Derived.Deep.Cut
import Derived.Deep.RegionWith
namespace Go.Proofs.Ytcpglmiboikfmaa.draw
open Go.RowKit
set_option linter.unusedVariables false

def NLXYOnly (w : World) (e : Ending) (w' : World) : Prop :=
  ∃ (v : Value) (n m : Nat) (N : Nat → mem.Nod) (P : Nat → mem.Pip) (b1 b2 : Nat) (vk : Value) (K : Nat) (D : Nat → Int) (x y : Int), e = .returned (.tuple #[v, vk, .int .i64 x, .int .i64 y]) ∧ n ≤ 1000 ∧ m ≤ 1000 ∧ K ≤ 2000 ∧ (∀ i, i < n → (N i).s.size ≤ 9223372036854775807) ∧ mem.NetOwn w' v n N m P b1 b2 ∧ w.heap.size ≤ b1 ∧ w.heap.size ≤ b2 ∧ mem.Sl w' vk K D w.heap.size w'.heap.size ∧ Below w.heap.size w w'
set_option maxRecDepth 100000 in
set_option maxHeartbeats 4000000 in
theorem drawAddCycle (w : World) (cv : Value) (len : Nat) (hc : CodeAt w cv len w.heap.size) : Calls Try.prog 14 #[cv] w (NLXYOnly w) := by
  have HC := Lib.hid hc
  have R1 := mem.boxed w (.slice none 0 0) (.slice none 0 0) 27
  have C1 := mem.below_new w (.cells #[.slice none 0 0, .slice none 0 0] 27)
  have hsz : (w.alloc (.cells #[.slice none 0 0, .slice none 0 0] 27)).heap.size = w.heap.size + 1 := by simp
  go_enter Try.func14, Try.ntmps14
  go_wp2_with fail
  generalize hW : w.alloc (.cells #[.slice none 0 0, .slice none 0 0] 27) = Wa at *
  clear hW hc
  replace hsz := Nat.le_antisymm_iff.1 hsz
  refine (from_any Wa cv len (by have := codeAt_below HC.out C1; rcases this with h | ⟨cb, co, cap, h1, h2, h3⟩; exact .inl h; exact .inr ⟨cb, co, cap, h1, by omega, h3⟩)).mono ?_
  rintro e w1 ⟨s1, rfl, hS1, B1, z1⟩
  obtain ⟨b, hbe⟩ : ∃ b, b = Wa.heap.size := ⟨_, rfl⟩
  rw [← hbe] at hS1 z1 ⊢
  replace hbe := Nat.le_antisymm_iff.1 hbe
  replace z1 := Nat.le_antisymm_iff.1 z1
  have C2 := mem.belowNext C1 B1
  have R2 := R1.next B1
  clear B1 C1 R1
  go_wp2_with fail
  refine (chord_any w1 b w.heap.size cv len 0 s1 hS1 (codeAt_below HC.out C2) (by omega)).mono ?_
  rintro e w2 ⟨v, n, m, N, P, b1, b2, x, i2, s2, rfl, hn, hm, hnm, hO, l1, l2, hS2, U2⟩
  obtain ⟨p0, c0, p1, c1, rfl⟩ := hO.shape
  have xN := mem.below_new w2 (.cells #[.slice p0 n c0, .slice p1 m c1] 27)
  have C3 := Lib.hid ((C2.trans (U2.below (by omega) (by rintro x _ rfl; omega))).trans (xN.mono (by have := U2.size; omega)))
  have R3 := (R2.keep (U2.block w.heap.size (by omega) (by omega))).next xN
  have T3 := mem.boxed w2 (.slice p0 n c0) (.slice p1 m c1) 27
  have O3 := Lib.hid (hO.next xN)
  have S3 := src_alloc hS2 (src_lt hS2) (.cells #[.slice p0 n c0, .slice p1 m c1] 27)
  have hz3 : (w2.alloc (.cells #[.slice p0 n c0, .slice p1 m c1] 27)).heap.size = w2.heap.size + 1 := by simp
  have hb2 := src_lt hS2
  have hbT : b ≠ w2.heap.size := by omega
  have hbR : b ≠ w.heap.size := by omega
  have hTR : w2.heap.size ≠ w.heap.size := by omega
  have hl1 : b < b1 := by omega
  have hl2 : b < b2 := by omega
  have hU := U2.size
  clear C2 R2 hO hS2 hS1 U2 xN
  go_wp2_with fail
  generalize hW : w2.alloc (.cells #[.slice p0 n c0, .slice p1 m c1] 27) = W3 at *
  clear hW
  refine (next_any W3 b w.heap.size cv len i2 s2 40 S3 (codeAt_below HC.out C3.out) (by omega) (by omega)).mono ?_
  rintro e w4 ⟨v4, i4, s4, rfl, t4, ht4, S4, o4⟩
  have hz4 := o4.size
  have C4 := Lib.hid (C3.out.trans (only_below o4 (by omega)))
  have R4 := R3.keep (o4.block w.heap.size (by omega))
  have T4 := T3.keep (o4.block w2.heap.size (by omega))
  have O4 := Lib.hid (O3.out.upd (upd_of o4) (.inr (by omega)) (.inr (by omega)))
  clear C3 R3 T3 O3 S3 o4
  have hy1 : -4611686018427387904 ≤ v4 - 20 ∧ v4 - 20 ≤ 4611686018427387904 := by omega
  go_wp2_with fail
  refine (next_any w4 b w.heap.size cv len i4 s4 20 S4 (codeAt_below HC.out C4.out) (by omega) (by omega)).mono ?_
  rintro e w5 ⟨v5, i5, s5, rfl, t5, ht5, S5, o5⟩
  have hz5 := o5.size
  have C5 := Lib.hid (C4.out.trans (only_below o5 (by omega)))
  have R5 := R4.keep (o5.block w.heap.size (by omega))
  have T5 := T4.keep (o5.block w2.heap.size (by omega))
  have O5 := Lib.hid (O4.out.upd (upd_of o5) (.inr (by omega)) (.inr (by omega)))
  clear C4 R4 T4 O4 S4 o5
  by_cases hv5 : v5 = 0
  · subst hv5
    have bA := mem.below_new w5 (.cells #[.int .i64 30000, .int .i64 30001, .int .i64 (-30001)] 2)
    have tA := tabI w5 2 #[.int .i64 30000, .int .i64 30001, .int .i64 (-30001)] (by
      intro j hj
      rcases (by simp at hj; omega : j = 0 ∨ j = 1 ∨ j = 2) with rfl | rfl | rfl
      all_goals exact ⟨_, rfl⟩)
    have SA := src_alloc S5 (src_lt S5) (.cells #[.int .i64 30000, .int .i64 30001, .int .i64 (-30001)] 2)
    have CA := Lib.hid (C5.out.trans (bA.mono (by omega)))
    have OA := Lib.hid (O5.out.next bA)
    have TA := Lib.hid (T5.next bA)
    have RA := Lib.hid (R5.next bA)
    have hzA : (w5.alloc (.cells #[.int .i64 30000, .int .i64 30001, .int .i64 (-30001)] 2)).heap.size = w5.heap.size + 1 := by simp
    have lb5 := src_lt S5
    clear bA S5 C5 O5 T5 R5
    go_wp2_with fail
    refine (next_any _ b w.heap.size cv len i5 s5 3 SA (codeAt_below HC.out CA.out) (by omega) (by omega)).mono ?_
    rintro e w6 ⟨v6, i6, s6, rfl, t6, ht6, S6, o6⟩
    have hz6 := o6.size
    have C6 := Lib.hid (CA.out.trans (only_below o6 (by omega)))
    have R6 := RA.out.keep (o6.block w.heap.size (by omega))
    have T6 := TA.out.keep (o6.block w2.heap.size (by omega))
    have O6 := Lib.hid (OA.out.upd (upd_of o6) (.inr (by omega)) (.inr (by omega)))
    obtain ⟨j, rfl⟩ := Int.eq_ofNat_of_zero_le t6
    have hj : j < 3 := by omega
    have hj2 : (j : Int) < 3 := by omega
    obtain ⟨y, hy⟩ := tA j hj
    have hyc : w6.cell? ⟨w5.heap.size, j, none⟩ = some (.int .i64 y) := (World.cell?_of_block (o6.block w5.heap.size (by omega))).trans hy
    clear tA SA CA OA TA RA hy o6
    go_wp2_with fail
    clear hyc
    have t0 := T6.b0
    have t1 := T6.b1
    have f0 := R6.b0
    have f1 := R6.b1
    have k0 := R6.free 0
    have k1 := R6.free 1
    have HCd := Lib.hid (code_of (b := b) (B := w.heap.size) (codeAt_below HC.out C6.out) ⟨rfl, rfl, rfl, Nat.le_refl _, fun _ _ _ => rfl⟩ (by omega) (src_lt S6) : CodeAt w6.drew cv len w.heap.size)
    have hTT := T6.lt
    have hRR := R6.lt
    go_region_held3 (fun w' => w'.cell? ⟨w2.heap.size, 0, none⟩ = some (.slice p0 n c0) ∧ w'.cell? ⟨w2.heap.size, 1, none⟩ = some (.slice p1 m c1)) (first | exact ⟨t0, t1⟩ | exact ⟨TX.b0, TX.b1⟩ | exact ⟨((((mem.Only.refl w.heap.size _).setCell _ _).setCell _ _).cell (a := ⟨w2.heap.size, 0, none⟩) hTR).trans TX.b0, ((((mem.Only.refl w.heap.size _).setCell _ _).setCell _ _).cell (a := ⟨w2.heap.size, 1, none⟩) hTR).trans TX.b1⟩ | go_keep)
      (first | (go_at_call 45; refine (flows_any _ b w.heap.size cv len i6 s6 (src_upd S6 rfl : Src w6.drew b cv len i6 s6) HCd.out (by omega) p0 n c0 p1 m c1 hm).mono ?_; rintro e wx ⟨vx, Kx, Dx, ix, sx, rfl, hKx, hLx, hSx, Ux⟩; have TX := (T6.keep (Ux.block w2.heap.size hTT (by omega)) : mem.Ob wx w2.heap.size 2 _); have RX := (R6.keep (Ux.block w.heap.size hRR (by omega)) : mem.Ob wx w.heap.size 2 _); have fx0 := RX.b0; have fx1 := RX.b1; have kx0 := RX.free 0; have kx1 := RX.free 1))
    obtain ⟨px, cx, rfl⟩ := sl_sh hLx
    have hzx := Ux.size
    have hzd : w6.drew.heap.size = w6.heap.size := rfl
    have hO := ((mem.Only.refl w.heap.size wx).setCell 0 (.slice p0 n c0)).setCell 1 (.slice p1 m c1)
    have HO := Lib.hid ((O6.out.drew.upd Ux (.inr (by omega)) (.inr (by omega))).upd (mem.Upd.of_only hO) (.inr (by omega)) (.inr (by omega)))
    have HB := Lib.hid (mem.below_only ((mem.below_dw C6.out).trans (Ux.below (by omega) (by rintro x _ rfl; omega))) hO (by omega))
    have HLX := Lib.hid ((hLx.only hO (.inl (by show w.heap.size < w6.heap.size; omega))).mono (show w.heap.size ≤ w6.heap.size by omega) (Nat.le_of_eq hO.size))
    clear hO Ux TX RX O6 hLx hSx
    go_wp2_with fail
    refine bodyPost_ret (v := .tuple #[.agg #[.slice p0 n c0, .slice p1 m c1], .slice px Kx cx, .int .i64 x, .int .i64 y]) (by simp [results, Try.results14, go_sem, fx0, fx1]) rfl ⟨_, n, m, N, P, b1, b2, _, Kx, Dx, x, y, rfl, hn, hm, hKx, hnm, HO.out, by omega, by omega, HLX.out, HB.out⟩
  · have hv5' : (v5 == 0) = false := by simpa using hv5
    clear hv5
    go_wp2_with fail
    have t0 := T5.b0
    have t1 := T5.b1
    have f0 := R5.b0
    have f1 := R5.b1
    have k0 := R5.free 0
    have k1 := R5.free 1
    have HCd := Lib.hid (code_of (b := b) (B := w.heap.size) (codeAt_below HC.out C5.out) ⟨rfl, rfl, rfl, Nat.le_refl _, fun _ _ _ => rfl⟩ (by omega) (src_lt S5) : CodeAt w5.drew cv len w.heap.size)
    have hTT := T5.lt
    have hRR := R5.lt
    go_region_held3 (fun w' => w'.cell? ⟨w2.heap.size, 0, none⟩ = some (.slice p0 n c0) ∧ w'.cell? ⟨w2.heap.size, 1, none⟩ = some (.slice p1 m c1)) (first | exact ⟨t0, t1⟩ | exact ⟨TX.b0, TX.b1⟩ | exact ⟨((((mem.Only.refl w.heap.size _).setCell _ _).setCell _ _).cell (a := ⟨w2.heap.size, 0, none⟩) hTR).trans TX.b0, ((((mem.Only.refl w.heap.size _).setCell _ _).setCell _ _).cell (a := ⟨w2.heap.size, 1, none⟩) hTR).trans TX.b1⟩ | go_keep)
      (first | (go_at_call 45; refine (flows_any _ b w.heap.size cv len i5 s5 (src_upd S5 rfl : Src w5.drew b cv len i5 s5) HCd.out (by omega) p0 n c0 p1 m c1 hm).mono ?_; rintro e wx ⟨vx, Kx, Dx, ix, sx, rfl, hKx, hLx, hSx, Ux⟩; have TX := (T5.keep (Ux.block w2.heap.size hTT (by omega)) : mem.Ob wx w2.heap.size 2 _); have RX := (R5.keep (Ux.block w.heap.size hRR (by omega)) : mem.Ob wx w.heap.size 2 _); have fx0 := RX.b0; have fx1 := RX.b1; have kx0 := RX.free 0; have kx1 := RX.free 1))
    obtain ⟨px, cx, rfl⟩ := sl_sh hLx
    have hzx := Ux.size
    have hzd : w5.drew.heap.size = w5.heap.size := rfl
    have hO := ((mem.Only.refl w.heap.size wx).setCell 0 (.slice p0 n c0)).setCell 1 (.slice p1 m c1)
    have HO := Lib.hid ((O5.out.drew.upd Ux (.inr (by omega)) (.inr (by omega))).upd (mem.Upd.of_only hO) (.inr (by omega)) (.inr (by omega)))
    have HB := Lib.hid (mem.below_only ((mem.below_dw C5.out).trans (Ux.below (by omega) (by rintro x _ rfl; omega))) hO (by omega))
    have HLX := Lib.hid ((hLx.only hO (.inl (by show w.heap.size < w5.heap.size; omega))).mono (show w.heap.size ≤ w5.heap.size by omega) (Nat.le_of_eq hO.size))
    clear hO Ux TX RX O5 hLx hSx
    go_wp2_with fail
    refine bodyPost_ret (v := .tuple #[.agg #[.slice p0 n c0, .slice p1 m c1], .slice px Kx cx, .int .i64 x, .int .i64 (v4 - 20)]) (by simp [results, Try.results14, go_sem, fx0, fx1]) rfl ⟨_, n, m, N, P, b1, b2, _, Kx, Dx, x, (v4 - 20), rfl, hn, hm, hKx, hnm, HO.out, by omega, by omega, HLX.out, HB.out⟩
end Go.Proofs.Ytcpglmiboikfmaa.draw
