/-
  Several texts in one: De1, De2.
-/
import Derived.Test.YtpgcieefipjjfaaGreatRows
import Derived.Test.YtpgcieefipjjfaaGreatDyM
import Derived.Test.YtpgcieefipjjfaaGreatEnM
import Derived.WalkKit
import Derived.ProofKit
import Derived.Lib.Hide
import Derived.OwnWalk
import Derived.Outline
import Derived.Deep.RegionHeld3
import Derived.Deep.Cut
import Derived.Deep.RegionWith
import Derived.IntWalk
import Derived.Test.YtpgcieefipjjfaaGreatElM
namespace Go.Proofs.YtpgcieefipjjfaaGreat.draw
open Go.RowKit
open Go.Proofs.YtpgcieefipjjfaaGreat.mem (range2 range_blockN there_blockN nthe0 nthe1 nthe2 nthe3 nthe4 nthe5 nthe6 nthe7 nthe8 nthe9 nthe10 nthe11 nthe12 nthe13 nthe14 nthe15)
set_option linter.unusedVariables false

/-- a network, flows and a number have been drawn -/
def LXPost (w : World) (b : Nat) (cv : Value) (len : Nat) (e : Ending) (w' : World) : Prop :=
  ∃ (v : Value) (n m : Nat) (N : Nat → mem.Nod) (P : Nat → mem.Pip) (b1 b2 : Nat) (vk : Value) (K : Nat) (D : Nat → Int) (x i s : Int), e = .returned (.tuple #[v, vk, .int .i64 x]) ∧ n ≤ 1000 ∧ m ≤ 1000 ∧ K ≤ 2000 ∧ (∀ i, i < n → (N i).s.size ≤ 9223372036854775807) ∧ mem.NetOwn w' v n N m P b1 b2 ∧ w.heap.size ≤ b1 ∧ w.heap.size ≤ b2 ∧ mem.Sl w' vk K D w.heap.size w'.heap.size ∧ Src w' b cv len i s ∧ mem.Upd (· = b) w w'
theorem put2 {w : World} {R : Nat} {d : Nat → Value} (h : mem.Ob w R 2 d) (v0 v1 : Value) : (w.setCells R 0 [v0, v1]).cell? ⟨R, 0, none⟩ = some v0 ∧ (w.setCells R 0 [v0, v1]).cell? ⟨R, 1, none⟩ = some v1 := by
  have h1 := h.setCs [v0, v1] 0 (by simp)
  exact ⟨h1.cell 0 (by omega), h1.cell 1 (by omega)⟩
theorem net2_info : (Tryz.prog.info? 27).map (·.size) = some 2 := by kernel_rfl
theorem net2_one {p0 p1 : Option Addr} {n m c0 c1 : Nat} : ∀ u ∈ ([.slice p0 n c0, .slice p1 m c1] : List Value), u.oneCell' = true := by
  intro u hu
  simp only [List.mem_cons, List.not_mem_nil, or_false] at hu
  rcases hu with rfl | rfl <;> rfl
set_option maxRecDepth 100000 in
set_option maxHeartbeats 8000000 in
theorem l10Draw_any (w : World) (b B : Nat) (cv : Value) (len : Nat) (i s : Int) (h : Src w b cv len i s) (hc : CodeAt w cv len B) (hB' : B ≤ b) :
    Calls Tryz.prog 18 #[.pointer (some ⟨b, 0, none⟩)] w (LXPost w b cv len) := by
  have hlt := src_lt h
  have h' := src_alloc h hlt (.cells #[.slice none 0 0, .slice none 0 0] 27)
  have HC := Lib.hid (codeAt_below hc ((Below.refl B w).alloc (by omega) (.cells #[.slice none 0 0, .slice none 0 0] 27)))
  have R1 := mem.boxed w (.slice none 0 0) (.slice none 0 0) 27
  have U0 := Lib.hid (mem.Upd.of_below (mem.below_new w (.cells #[.slice none 0 0, .slice none 0 0] 27)) (X := (· = b)))
  have hsz : w.heap.size + 1 ≤ (w.alloc (.cells #[.slice none 0 0, .slice none 0 0] 27)).heap.size := by simp
  have UN := Tryz.underlying27
  go_enter Tryz.func18, Tryz.ntmps18
  go_wp2_with fail
  generalize hW : w.alloc (.cells #[.slice none 0 0, .slice none 0 0] 27) = Wa at *
  clear hW h hc
  have hb : b < Wa.heap.size := by omega
  refine (chord_any Wa b B cv len i s h' HC.out hB').mono ?_
  rintro e w1 ⟨v, n, m, N, P, b1, b2, x, i1, s1, rfl, hn, hm, hnm, hO, l1, l2, hS1, U1⟩
  obtain ⟨p0, c0, p1, c1, rfl⟩ := hO.shape
  have hTl := U1.size
  have hbt := src_lt hS1
  have x2 := mem.below_new w1 (.cells #[.slice p0 n c0, .slice p1 m c1] 27)
  have T2 := mem.boxed w1 (.slice p0 n c0) (.slice p1 m c1) 27
  have R2 := (R1.keep (U1.block w.heap.size (by omega) (by omega))).next x2
  have HO := Lib.hid (hO.next x2)
  have S2 := src_alloc hS1 (src_lt hS1) (.cells #[.slice p0 n c0, .slice p1 m c1] 27)
  have U2 := U1.trans (mem.Upd.of_below x2)
  have hz2 : (w1.alloc (.cells #[.slice p0 n c0, .slice p1 m c1] 27)).heap.size = w1.heap.size + 1 := by simp
  clear hO hS1 U1 x2 h' R1
  go_upto_region 2 with (fail)
  generalize hW : w1.alloc (.cells #[.slice p0 n c0, .slice p1 m c1] 27) = w2 at *
  obtain ⟨T, hTe⟩ : ∃ T, w1.heap.size = T := ⟨_, rfl⟩
  rw [hTe] at T2 hbt hTl hz2 ⊢
  clear hW hTe
  try simp only [Act.put, List.setIfInBounds_toArray, List.set_cons_zero, List.set_cons_succ]
  have g0 := range2 T2.b0 T2.b1
  have r0 := R2.there
  have HCd := code_of (b := b) HC.out (upd_dw' U2) hB' hb
  have lT := T2.lt
  have lR := R2.lt
  have nTR : T ≠ w.heap.size := by omega
  have nTb : T ≠ b := by omega
  have nRb : w.heap.size ≠ b := by omega
  refine wp_region_noPanic ?_
  refine wp_region_held_drew (S := fun w' : World => w'.rangeAt T 0 [.slice p0 n c0, .slice p1 m c1]) (by kernel_rfl) (range_blockN g0 rfl) (fun sH => ?_)
  refine wpAnyH_take (i := 0) (v := .agg #[.slice p0 n c0, .slice p1 m c1]) nthe0 (by kernel_rfl) (by kernel_rfl) (by kernel_rfl) (fun _ _ _ h => h) (yieldsIf_load_mid (by rfl) _ _ rfl T 0 rfl [.slice p0 n c0, .slice p1 m c1] _ (fun _ h => h) UN rfl (by exact net2_info)) sH ?_
  try simp only [Act.put, List.setIfInBounds_toArray, List.set_cons_zero, List.set_cons_succ]
  refine wpAnyH_take (i := 1) (v := ?_) nthe1 (by kernel_rfl) (by kernel_rfl) (by kernel_rfl) (fun _ _ _ h => h) (Or.inl ⟨by rfl, ?_⟩) sH ?_
  rotate_left
  · intro wS hSw; (try dsimp only at hSw); go_simp; try with_reducible rfl
  try simp only [Act.put, List.setIfInBounds_toArray, List.set_cons_zero, List.set_cons_succ]
  refine wpAnyH_take (i := 2) (v := .agg #[.slice p0 n c0, .slice p1 m c1]) nthe2 (by kernel_rfl) (by kernel_rfl) (by kernel_rfl) (fun _ _ _ h => h) (yieldsIf_load_mid (by rfl) _ _ rfl T 0 rfl [.slice p0 n c0, .slice p1 m c1] _ (fun _ h => h) UN rfl (by exact net2_info)) sH ?_
  try simp only [Act.put, List.setIfInBounds_toArray, List.set_cons_zero, List.set_cons_succ]
  refine wpAnyH_take (i := 4) (v := ?_) nthe4 (by kernel_rfl) (by kernel_rfl) (by kernel_rfl) (fun _ _ _ h => h) (Or.inl ⟨by rfl, ?_⟩) sH ?_
  rotate_left
  · intro wS hSw; (try dsimp only at hSw); go_simp; try with_reducible rfl
  try simp only [Act.put, List.setIfInBounds_toArray, List.set_cons_zero, List.set_cons_succ]
  refine wpAnyH_ready (rs := [3]) (by kernel_rfl) (by simp) (AllReadyH.cons nthe3 (fun KON hKON => ?_) AllReadyH.nil)
  clear sH
  go_simp
  refine (flows_any _ b B cv len i1 s1 (src_upd S2 rfl : Src w2.drew b cv len i1 s1) HCd hB' p0 n c0 p1 m c1 hm).mono ?_
  rintro e wx ⟨vx, Kx, Dx, ix, sx, rfl, hKx, hLx, hSx, Ux⟩
  have g1 := range_blockN g0 (Ux.block T lT nTb)
  have r1 := there_blockN r0 (Ux.block w.heap.size lR nRb)
  have R3 := (R2.keep (Ux.block w.heap.size lR nRb) : mem.Ob wx w.heap.size 2 _)
  refine hKON.out _ _ g1 (fun sH => ?_)
  clear hKON KON
  try simp only [Act.put, List.set_cons_succ]
  refine wpAnyH_ready (rs := [5]) (by kernel_rfl) (by simp) (AllReadyH.cons nthe5 (fun KON hKON => ?_) AllReadyH.nil)
  rw [if_pos (by rfl)]
  refine wp_store_mid _ _ _ rfl w.heap.size _ ([.slice p0 n c0, .slice p1 m c1] : List Value).toArray rfl rfl (by show World.there _ _ 0 2; exact r1) (by exact net2_info) (all_oneCell_toArray net2_one) ?_
  simp only [Act.put]
  refine hKON.out _ _ (World.rangeAt_setCells_apart g1 _ _ _ (.inl nTR)) (fun sH => ?_)
  clear hKON KON
  refine wpAnyH_take (i := 6) (v := ?_) nthe6 (by kernel_rfl) (by kernel_rfl) (by kernel_rfl) (fun _ _ _ h => h) (Or.inl ⟨by rfl, ?_⟩) sH ?_
  rotate_left
  · intro wS hSw; (try dsimp only at hSw); go_simp; try with_reducible rfl
  try simp only [Act.put]
  refine wpAnyH_take (i := 7) (v := ?_) nthe7 (by kernel_rfl) (by kernel_rfl) (by kernel_rfl) (fun _ _ _ h => h) (Or.inl ⟨by rfl, ?_⟩) sH ?_
  rotate_left
  · intro wS hSw; (try dsimp only at hSw); go_simp; try with_reducible rfl
  try simp only [Act.put, List.setIfInBounds_toArray, List.set_cons_succ]
  refine wpAnyH_done (by kernel_rfl) ?_ _
  refine NoPanic.normal ?_
  obtain ⟨px, cx, rfl⟩ := sl_sh hLx
  have hzx := Ux.size
  have hzd : w2.drew.heap.size = w2.heap.size := rfl
  have hO2 := (mem.Only.refl w.heap.size wx).setCs [.slice p0 n c0, .slice p1 m c1] 0
  obtain ⟨fx0, fx1⟩ := put2 R3 (.slice p0 n c0) (.slice p1 m c1)
  have HF := Lib.hid ((HO.out.drew.upd Ux (.inr (by omega)) (.inr (by omega))).upd (mem.Upd.of_only hO2) (.inr (by omega)) (.inr (by omega)))
  have HL := Lib.hid ((hLx.only hO2 (.inl (by show w.heap.size < w2.heap.size; omega))).mono (show w.heap.size ≤ w2.heap.size by omega) (Nat.le_of_eq hO2.size))
  have HS := Lib.hid (src_upd hSx (hO2.block b (fun e => nRb e.symm)))
  have HU := Lib.hid (upd_own (U0.out.trans ((upd_dw' U2).trans Ux)) hO2 (Nat.le_refl _))
  clear Ux R2 R3 T2 S2 U2 hO2 hLx hSx g0 g1 r0 r1
  go_wp2_with fail
  refine bodyPost_ret (v := .tuple #[.agg #[.slice p0 n c0, .slice p1 m c1], .slice px Kx cx, .int .i64 x]) (by simp [results, Tryz.results18, go_sem, fx0, fx1]) rfl ⟨_, n, m, N, P, b1, b2, _, Kx, Dx, x, ix, sx, rfl, hn, hm, hKx, hnm, HF.out, by omega, by omega, HL.out, HS.out, HU.out⟩

end Go.Proofs.YtpgcieefipjjfaaGreat.draw

namespace Go.Proofs.YtpgcieefipjjfaaGreat.draw
open Go.RowKit
open Go.Proofs.YtpgcieefipjjfaaGreat.mem (range2 range_blockN there_blockN nthe0 nthe1 nthe2 nthe3 nthe4 nthe5 nthe6 nthe7 nthe8 nthe9 nthe10 nthe11 nthe12 nthe13 nthe14 nthe15)
set_option linter.unusedVariables false

set_option maxRecDepth 100000 in
set_option maxHeartbeats 8000000 in
theorem drawIsRelaxed (w : World) (cv : Value) (len : Nat) (hc : CodeAt w cv len w.heap.size) : Calls Tryz.prog 5 #[cv] w (NLOnly w) := by
  have HC := Lib.hid hc
  have R1 := mem.boxed w (.slice none 0 0) (.slice none 0 0) 27
  have C1 := mem.below_new w (.cells #[.slice none 0 0, .slice none 0 0] 27)
  have hsz : (w.alloc (.cells #[.slice none 0 0, .slice none 0 0] 27)).heap.size = w.heap.size + 1 := by simp
  have UN := Tryz.underlying27
  go_enter Tryz.func5, Tryz.ntmps5
  go_wp2_with fail
  generalize hW : w.alloc (.cells #[.slice none 0 0, .slice none 0 0] 27) = Wa at *
  clear hW hc
  replace hsz := Nat.le_antisymm_iff.1 hsz
  refine (from_any Wa cv len (by have := codeAt_below HC.out C1; rcases this with h | ⟨cb, co, cap, h1, h2, h3⟩; exact .inl h; exact .inr ⟨cb, co, cap, h1, by omega, h3⟩)).mono ?_
  rintro e w1 ⟨s1, rfl, hS1, B1, z1⟩
  obtain ⟨b, hbe⟩ : ∃ b, b = Wa.heap.size := ⟨_, rfl⟩
  rw [← hbe] at hS1 z1 ⊢
  replace hbe := Nat.le_antisymm_iff.1 hbe
  replace z1 := Nat.le_antisymm_iff.1 z1
  have C2 := mem.belowNext C1 B1
  have R2 := R1.next B1
  clear B1 C1 R1
  go_wp2_with fail
  refine (l10Draw_any w1 b w.heap.size cv len 0 s1 hS1 (codeAt_below HC.out C2) (by omega)).mono ?_
  rintro e w2 ⟨v, n, m, N, P, b1, b2, vk, K, D, x, i2, s2, rfl, hn, hm, hK, hnm, hO, l1, l2, hL2, hS2, U2⟩
  obtain ⟨p0, c0, p1, c1, rfl⟩ := hO.shape
  obtain ⟨pk, ck, rfl⟩ := sl_sh hL2
  have xN := mem.below_new w2 (.cells #[.slice p0 n c0, .slice p1 m c1] 27)
  have hU := U2.size
  have C3 := (C2.trans (U2.below (by omega) (by rintro x _ rfl; omega))).trans (xN.mono (by omega))
  have R3 := (R2.keep (U2.block w.heap.size (by omega) (by omega))).next xN
  have T3 := mem.boxed w2 (.slice p0 n c0) (.slice p1 m c1) 27
  have O3 := hO.next xN
  have hz3 : (w2.alloc (.cells #[.slice p0 n c0, .slice p1 m c1] 27)).heap.size = w2.heap.size + 1 := by simp
  have L3 := (hL2.below xN (Nat.le_refl _)).mono (show w.heap.size ≤ w1.heap.size by omega) (show w2.heap.size ≤ (w2.alloc (.cells #[.slice p0 n c0, .slice p1 m c1] 27)).heap.size by omega)
  have L3' := (hL2.below xN (Nat.le_refl _)).mono (Nat.le_refl _) (show w2.heap.size ≤ (w2.alloc (.cells #[.slice p0 n c0, .slice p1 m c1] 27)).heap.size by omega)
  have S3 := src_alloc hS2 (src_lt hS2) (.cells #[.slice p0 n c0, .slice p1 m c1] 27)
  have hb2 := src_lt hS2
  have hbT : b ≠ w2.heap.size := by omega
  have hbR : b ≠ w.heap.size := by omega
  have hTR : w2.heap.size ≠ w.heap.size := by omega
  have hb1 : b < w1.heap.size := src_lt hS1
  have hl1 : b < b1 := by omega
  have hl2 : b < b2 := by omega
  clear C2 R2 hO hS2 hL2 U2 xN
  go_upto_region 3 with (fail)
  generalize hW : w2.alloc (.cells #[.slice p0 n c0, .slice p1 m c1] 27) = w3 at *
  clear hW
  have hb1' : b < w1.heap.size := hb1
  replace hz3 := Nat.le_antisymm_iff.1 hz3
  have t0 := T3.b0
  have t1 := T3.b1
  have C3' := Lib.hid C3
  by_cases hc : mem.flC n N m P K D = 0
  rotate_left 1
  · have hb1 : (mem.flC n N m P K D != 0) = true := by simpa using hc
    clear hc
    go_upto_region 4 with (go_at_call 19; refine (mem.l05Code_any w3 _ n N m P 0 w3.heap.size O3.net (Nat.le_refl _) hnm _ K D _ _ L3 (Nat.le_refl _) (by omega)).mono ?_; rintro e w4 ⟨rfl, b4⟩)
    have z4 := b4.size
    have O4 := O3.next b4
    have L4 := (L3'.below b4 (Nat.le_refl _)).mono (Nat.le_refl _) z4
    have C4 := C3.trans (b4.mono (by omega))
    have R4 := R3.next b4
    have T4 := T3.next b4
    clear b4 O3 L3 L3' R3 T3 C3 t0 t1
    have t0 := T4.b0
    have t1 := T4.b1
    have f0 := R4.b0
    have f1 := R4.b1
    have k0 := R4.free 0
    have k1 := R4.free 1
    have hO2 := ((mem.Only.refl w.heap.size w4).setCell 0 (.slice p0 n c0)).setCell 1 (.slice p1 m c1)
    have HO := Lib.hid (O4.upd (mem.Upd.of_only hO2) (.inr (by omega)) (.inr (by omega)))
    have HL := Lib.hid ((L4.only hO2 (.inl (by omega))).mono (show w.heap.size ≤ w1.heap.size by omega) (Nat.le_of_eq hO2.size))
    have HB := Lib.hid (mem.below_only C4 hO2 (Nat.le_refl _))
    clear hO2
    go_wp2_with fail
    exact bodyPost_ret (v := .tuple #[.agg #[.slice p0 n c0, .slice p1 m c1], .slice pk K ck]) (by simp [results, Tryz.results5, go_sem, f0, f1]) rfl ⟨_, n, m, N, P, b1, b2, _, K, D, rfl, hn, hm, (by omega), hnm, HO.out, by omega, by omega, HL.out, HB.out⟩
  · obtain ⟨hB, hKm, hf⟩ := mem.flC_ok hc
    have hm40 := (mem.net_sz hB).2.2
    have HBN := Lib.hid hB
    have HFR := Lib.hid (show ∀ k, k < m → -30000 ≤ D k ∧ D k ≤ 30000 from fun k hk => mem.flQ_iff.1 (mem.flB_iff.1 hf k (by omega)))
    have hb1 : (mem.flC n N m P K D != 0) = false := by rw [hc]; rfl
    have HFL := Lib.hid hc
    subst hKm
    have S3' := Lib.hid S3
    have O3' := Lib.hid O3
    have LL3 := Lib.hid L3'
    have LZ3 := Lib.hid L3
    have R3' := Lib.hid R3
    have T3' := Lib.hid T3
    clear hc hB hf S3 O3 L3 L3' R3 T3 C3
    go_wp2_with (first
      | (go_at_call 19; refine (mem.l05Code_any w3 _ n N K P 0 w3.heap.size O3'.out.net (Nat.le_refl _) hnm _ K D _ _ LZ3.out (Nat.le_refl _) (by omega)).mono ?_; rintro e w4 ⟨rfl, b4⟩; have z4 := b4.size; have C4 := C3'.out.trans (b4.mono (by omega)); have S4 := src_upd S3'.out (b4.block b (src_lt S3'.out)); have O4 := O3'.out.next b4; have L4 := (LL3.out.below b4 (Nat.le_refl _)).mono (Nat.le_refl _) z4; have R4 := R3'.out.next b4; have T4 := T3'.out.next b4)
      | (go_at_call 20; refine (next_any w4 b w.heap.size cv len i2 s2 4 S4 (codeAt_below HC.out C4) (by omega) (by omega)).mono ?_; rintro e w5 ⟨v5, i5, s5, rfl, v50, v51, S5, o5⟩; obtain ⟨b5, hb5⟩ : ∃ b5, (v5 == 0) = b5 := ⟨_, rfl⟩; have z5 : w4.heap.size ≤ w5.heap.size := Nat.le_of_eq o5.size; have C5 := C4.trans (only_below o5 (by omega)); have O5 := O4.upd (upd_of o5) (.inr (by omega)) (.inr (by omega)); have L5 := (sl_upd L4 (upd_of o5) hb1' (Nat.le_refl _)).mono (Nat.le_refl _) z5; have R5 := R4.keep (o5.block w.heap.size (fun e => hbR e.symm)); have T5 := T4.keep (o5.block w2.heap.size (fun e => hbT e.symm)); have t0' := T5.b0; have t1' := T5.b1; have f0 := R5.b0; have f1 := R5.b1; have k0 := R5.free 0; have k1 := R5.free 1; clear O4 L4 R4 T4 C4 S4 o5)
      | (go_at_call 21; refine (mem.l11Relax_any w5 _ n N K P 0 w5.heap.size O5.net (Nat.le_refl _) hnm HBN.out _ D w1.heap.size w5.heap.size L5 (Nat.le_refl _) HFR.out 64 (by omega)).mono ?_; rintro e w6 ⟨v6, g6, rfl, o6, hg6, b6⟩; obtain ⟨c6, rfl⟩ := o6.shape; have z6 := b6.size; have C6 := C5.trans (b6.mono (by omega)); have O6 := O5.next b6; have L6 := o6.sl.mono (show w1.heap.size ≤ g6 by omega) o6.lt; have R6 := R5.next b6; have T6 := T5.next b6; have s0' := T6.b0; have s1' := T6.b1; have h0 := R6.b0; have h1 := R6.b1; have j0 := R6.free 0; have j1 := R6.free 1))
    · have hO2 := ((mem.Only.refl w.heap.size w5).setCell 0 (.slice p0 n c0)).setCell 1 (.slice p1 K c1)
      have HO := O5.upd (mem.Upd.of_only hO2) (.inr (by omega)) (.inr (by omega))
      have HL := (L5.only hO2 (.inl (by omega))).mono (show w.heap.size ≤ w1.heap.size by omega) (Nat.le_of_eq hO2.size)
      have HB := mem.below_only C5 hO2 (Nat.le_refl _)
      exact bodyPost_ret (v := .tuple #[.agg #[.slice p0 n c0, .slice p1 K c1], .slice pk K ck]) (by simp [results, Tryz.results5, go_sem, f0, f1]) rfl ⟨_, n, K, N, P, b1, b2, _, K, _, rfl, hn, hm, (by omega), hnm, HO, by omega, by omega, HL, HB⟩
    · have hO2 := ((mem.Only.refl w.heap.size w6).setCell 0 (.slice p0 n c0)).setCell 1 (.slice p1 K c1)
      have HO := O6.upd (mem.Upd.of_only hO2) (.inr (by omega)) (.inr (by omega))
      have HL := (L6.only hO2 (.inl (by omega))).mono (show w.heap.size ≤ w1.heap.size by omega) (Nat.le_of_eq hO2.size)
      have HB := mem.below_only C6 hO2 (Nat.le_refl _)
      exact bodyPost_ret (v := .tuple #[.agg #[.slice p0 n c0, .slice p1 K c1], .slice (some ⟨g6, 0, none⟩) K c6]) (by simp [results, Tryz.results5, go_sem, h0, h1]) rfl ⟨_, n, K, N, P, b1, b2, _, K, _, rfl, hn, hm, (by omega), hnm, HO, by omega, by omega, HL, HB⟩
end Go.Proofs.YtpgcieefipjjfaaGreat.draw
