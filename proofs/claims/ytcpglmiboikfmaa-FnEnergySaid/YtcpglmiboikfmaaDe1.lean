/-
  The draws of a network, flows and a chord (chapter 10). Conditions: as each states.
-/
import Derived.Test.YtcpglmiboikfmaaRows
import Derived.Test.YtcpglmiboikfmaaDyM
import Derived.Test.YtcpglmiboikfmaaEnM
import Derived.WalkKit
import Derived.ProofKit
import Derived.Lib.Hide
import Derived.OwnWalk
import Derived.Outline
import Derived.Deep.RegionHeld3
import Derived.Deep.Cut
import Derived.Deep.RegionWith
import Derived.IntWalk
namespace Go.Proofs.Ytcpglmiboikfmaa.draw
open Go.RowKit
open Go.Proofs.Ytcpglmiboikfmaa.mem (range2 range_blockN there_blockN nthe0 nthe1 nthe2 nthe3 nthe4 nthe5 nthe6 nthe7 nthe8 nthe9 nthe10 nthe11 nthe12 nthe13 nthe14 nthe15)
set_option linter.unusedVariables false

/-- a network, flows and a number have been drawn -/
def LXPost (w : World) (b : Nat) (cv : Value) (len : Nat) (e : Ending) (w' : World) : Prop :=
  ∃ (v : Value) (n m : Nat) (N : Nat → mem.Nod) (P : Nat → mem.Pip) (b1 b2 : Nat) (vk : Value) (K : Nat) (D : Nat → Int) (x i s : Int), e = .returned (.tuple #[v, vk, .int .i64 x]) ∧ n ≤ 1000 ∧ m ≤ 1000 ∧ K ≤ 2000 ∧ (∀ i, i < n → (N i).s.size ≤ 9223372036854775807) ∧ mem.NetOwn w' v n N m P b1 b2 ∧ w.heap.size ≤ b1 ∧ w.heap.size ≤ b2 ∧ mem.Sl w' vk K D w.heap.size w'.heap.size ∧ Src w' b cv len i s ∧ mem.Upd (· = b) w w'
theorem put2 {w : World} {R : Nat} {d : Nat → Value} (h : mem.Ob w R 2 d) (v0 v1 : Value) : (w.setCells R 0 [v0, v1]).cell? ⟨R, 0, none⟩ = some v0 ∧ (w.setCells R 0 [v0, v1]).cell? ⟨R, 1, none⟩ = some v1 := by
  have h1 := h.setCs [v0, v1] 0 (by simp)
  exact ⟨h1.cell 0 (by omega), h1.cell 1 (by omega)⟩
theorem net2_info : (Try.prog.info? 27).map (·.size) = some 2 := by kernel_rfl
theorem net2_one {p0 p1 : Option Addr} {n m c0 c1 : Nat} : ∀ u ∈ ([.slice p0 n c0, .slice p1 m c1] : List Value), u.oneCell' = true := by
  intro u hu
  simp only [List.mem_cons, List.not_mem_nil, or_false] at hu
  rcases hu with rfl | rfl <;> rfl
set_option maxRecDepth 100000 in
set_option maxHeartbeats 8000000 in
theorem l10Draw_any (w : World) (b B : Nat) (cv : Value) (len : Nat) (i s : Int) (h : Src w b cv len i s) (hc : CodeAt w cv len B) (hB' : B ≤ b) :
    Calls Try.prog 63 #[.pointer (some ⟨b, 0, none⟩)] w (LXPost w b cv len) := by
  have hlt := src_lt h
  have h' := src_alloc h hlt (.cells #[.slice none 0 0, .slice none 0 0] 27)
  have HC := Lib.hid (codeAt_below hc ((Below.refl B w).alloc (by omega) (.cells #[.slice none 0 0, .slice none 0 0] 27)))
  have R1 := mem.boxed w (.slice none 0 0) (.slice none 0 0) 27
  have U0 := Lib.hid (mem.Upd.of_below (mem.below_new w (.cells #[.slice none 0 0, .slice none 0 0] 27)) (X := (· = b)))
  have hsz : w.heap.size + 1 ≤ (w.alloc (.cells #[.slice none 0 0, .slice none 0 0] 27)).heap.size := by simp
  have UN := Try.underlying27
  go_enter Try.func63, Try.ntmps63
  go_wp2_with fail
  generalize hW : w.alloc (.cells #[.slice none 0 0, .slice none 0 0] 27) = Wa at *
  clear hW h hc
  have hb : b < Wa.heap.size := by omega
  refine (chord_any Wa b B cv len i s h' HC.out hB').mono ?_
  rintro e w1 ⟨v, n, m, N, P, b1, b2, x, i1, s1, rfl, hn, hm, hnm, hO, l1, l2, hS1, U1⟩
  obtain ⟨p0, c0, p1, c1, rfl⟩ := hO.shape
  have hTl := U1.size
  have hbt := src_lt hS1
  have x2 := mem.below_new w1 (.cells #[.slice p0 n c0, .slice p1 m c1] 27)
  have T2 := mem.boxed w1 (.slice p0 n c0) (.slice p1 m c1) 27
  have R2 := (R1.keep (U1.block w.heap.size (by omega) (by omega))).next x2
  have HO := Lib.hid (hO.next x2)
  have S2 := src_alloc hS1 (src_lt hS1) (.cells #[.slice p0 n c0, .slice p1 m c1] 27)
  have U2 := U1.trans (mem.Upd.of_below x2)
  have hz2 : (w1.alloc (.cells #[.slice p0 n c0, .slice p1 m c1] 27)).heap.size = w1.heap.size + 1 := by simp
  clear hO hS1 U1 x2 h' R1
  go_upto_region 2 with (fail)
  generalize hW : w1.alloc (.cells #[.slice p0 n c0, .slice p1 m c1] 27) = w2 at *
  obtain ⟨T, hTe⟩ : ∃ T, w1.heap.size = T := ⟨_, rfl⟩
  rw [hTe] at T2 hbt hTl hz2 ⊢
  clear hW hTe
  try simp only [Act.put, List.setIfInBounds_toArray, List.set_cons_zero, List.set_cons_succ]
  have g0 := range2 T2.b0 T2.b1
  have r0 := R2.there
  have HCd := code_of (b := b) HC.out (upd_dw' U2) hB' hb
  have lT := T2.lt
  have lR := R2.lt
  have nTR : T ≠ w.heap.size := by omega
  have nTb : T ≠ b := by omega
  have nRb : w.heap.size ≠ b := by omega
  refine wp_region_noPanic ?_
  refine wp_region_held_drew (S := fun w' : World => w'.rangeAt T 0 [.slice p0 n c0, .slice p1 m c1]) (by kernel_rfl) (range_blockN g0 rfl) (fun sH => ?_)
  refine wpAnyH_take (i := 0) (v := .agg #[.slice p0 n c0, .slice p1 m c1]) nthe0 (by kernel_rfl) (by kernel_rfl) (by kernel_rfl) (fun _ _ _ h => h) (yieldsIf_load_mid (by rfl) _ _ rfl T 0 rfl [.slice p0 n c0, .slice p1 m c1] _ (fun _ h => h) UN rfl (by exact net2_info)) sH ?_
  try simp only [Act.put, List.setIfInBounds_toArray, List.set_cons_zero, List.set_cons_succ]
  refine wpAnyH_take (i := 1) (v := ?_) nthe1 (by kernel_rfl) (by kernel_rfl) (by kernel_rfl) (fun _ _ _ h => h) (Or.inl ⟨by rfl, ?_⟩) sH ?_
  rotate_left
  · intro wS hSw; (try dsimp only at hSw); go_simp; try with_reducible rfl
  try simp only [Act.put, List.setIfInBounds_toArray, List.set_cons_zero, List.set_cons_succ]
  refine wpAnyH_take (i := 2) (v := .agg #[.slice p0 n c0, .slice p1 m c1]) nthe2 (by kernel_rfl) (by kernel_rfl) (by kernel_rfl) (fun _ _ _ h => h) (yieldsIf_load_mid (by rfl) _ _ rfl T 0 rfl [.slice p0 n c0, .slice p1 m c1] _ (fun _ h => h) UN rfl (by exact net2_info)) sH ?_
  try simp only [Act.put, List.setIfInBounds_toArray, List.set_cons_zero, List.set_cons_succ]
  refine wpAnyH_take (i := 4) (v := ?_) nthe4 (by kernel_rfl) (by kernel_rfl) (by kernel_rfl) (fun _ _ _ h => h) (Or.inl ⟨by rfl, ?_⟩) sH ?_
  rotate_left
  · intro wS hSw; (try dsimp only at hSw); go_simp; try with_reducible rfl
  try simp only [Act.put, List.setIfInBounds_toArray, List.set_cons_zero, List.set_cons_succ]
  refine wpAnyH_ready (rs := [3]) (by kernel_rfl) (by simp) (AllReadyH.cons nthe3 (fun KON hKON => ?_) AllReadyH.nil)
  clear sH
  go_simp
  refine (flows_any _ b B cv len i1 s1 (src_upd S2 rfl : Src w2.drew b cv len i1 s1) HCd hB' p0 n c0 p1 m c1 hm).mono ?_
  rintro e wx ⟨vx, Kx, Dx, ix, sx, rfl, hKx, hLx, hSx, Ux⟩
  have g1 := range_blockN g0 (Ux.block T lT nTb)
  have r1 := there_blockN r0 (Ux.block w.heap.size lR nRb)
  have R3 := (R2.keep (Ux.block w.heap.size lR nRb) : mem.Ob wx w.heap.size 2 _)
  refine hKON.out _ _ g1 (fun sH => ?_)
  clear hKON KON
  try simp only [Act.put, List.set_cons_succ]
  refine wpAnyH_ready (rs := [5]) (by kernel_rfl) (by simp) (AllReadyH.cons nthe5 (fun KON hKON => ?_) AllReadyH.nil)
  rw [if_pos (by rfl)]
  refine wp_store_mid _ _ _ rfl w.heap.size _ ([.slice p0 n c0, .slice p1 m c1] : List Value).toArray rfl rfl (by show World.there _ _ 0 2; exact r1) (by exact net2_info) (all_oneCell_toArray net2_one) ?_
  simp only [Act.put]
  refine hKON.out _ _ (World.rangeAt_setCells_apart g1 _ _ _ (.inl nTR)) (fun sH => ?_)
  clear hKON KON
  refine wpAnyH_take (i := 6) (v := ?_) nthe6 (by kernel_rfl) (by kernel_rfl) (by kernel_rfl) (fun _ _ _ h => h) (Or.inl ⟨by rfl, ?_⟩) sH ?_
  rotate_left
  · intro wS hSw; (try dsimp only at hSw); go_simp; try with_reducible rfl
  try simp only [Act.put]
  refine wpAnyH_take (i := 7) (v := ?_) nthe7 (by kernel_rfl) (by kernel_rfl) (by kernel_rfl) (fun _ _ _ h => h) (Or.inl ⟨by rfl, ?_⟩) sH ?_
  rotate_left
  · intro wS hSw; (try dsimp only at hSw); go_simp; try with_reducible rfl
  try simp only [Act.put, List.setIfInBounds_toArray, List.set_cons_succ]
  refine wpAnyH_done (by kernel_rfl) ?_ _
  refine NoPanic.normal ?_
  obtain ⟨px, cx, rfl⟩ := sl_sh hLx
  have hzx := Ux.size
  have hzd : w2.drew.heap.size = w2.heap.size := rfl
  have hO2 := (mem.Only.refl w.heap.size wx).setCs [.slice p0 n c0, .slice p1 m c1] 0
  obtain ⟨fx0, fx1⟩ := put2 R3 (.slice p0 n c0) (.slice p1 m c1)
  have HF := Lib.hid ((HO.out.drew.upd Ux (.inr (by omega)) (.inr (by omega))).upd (mem.Upd.of_only hO2) (.inr (by omega)) (.inr (by omega)))
  have HL := Lib.hid ((hLx.only hO2 (.inl (by show w.heap.size < w2.heap.size; omega))).mono (show w.heap.size ≤ w2.heap.size by omega) (Nat.le_of_eq hO2.size))
  have HS := Lib.hid (src_upd hSx (hO2.block b (fun e => nRb e.symm)))
  have HU := Lib.hid (upd_own (U0.out.trans ((upd_dw' U2).trans Ux)) hO2 (Nat.le_refl _))
  clear Ux R2 R3 T2 S2 U2 hO2 hLx hSx g0 g1 r0 r1
  go_wp2_with fail
  refine bodyPost_ret (v := .tuple #[.agg #[.slice p0 n c0, .slice p1 m c1], .slice px Kx cx, .int .i64 x]) (by simp [results, Try.results63, go_sem, fx0, fx1]) rfl ⟨_, n, m, N, P, b1, b2, _, Kx, Dx, x, ix, sx, rfl, hn, hm, hKx, hnm, HF.out, by omega, by omega, HL.out, HS.out, HU.out⟩

set_option maxRecDepth 100000 in
set_option maxHeartbeats 8000000 in
theorem drawEnergyChange (w : World) (cv : Value) (len : Nat) (hc : CodeAt w cv len w.heap.size) : Calls Try.prog 19 #[cv] w (NLXYOnly w) := by
  have HC := Lib.hid hc
  have R1 := mem.boxed w (.slice none 0 0) (.slice none 0 0) 27
  have C1 := mem.below_new w (.cells #[.slice none 0 0, .slice none 0 0] 27)
  have hsz : (w.alloc (.cells #[.slice none 0 0, .slice none 0 0] 27)).heap.size = w.heap.size + 1 := by simp
  have UN := Try.underlying27
  go_enter Try.func19, Try.ntmps19
  go_wp2_with fail
  generalize hW : w.alloc (.cells #[.slice none 0 0, .slice none 0 0] 27) = Wa at *
  clear hW hc
  replace hsz := Nat.le_antisymm_iff.1 hsz
  refine (from_any Wa cv len (by have := codeAt_below HC.out C1; rcases this with h | ⟨cb, co, cap, h1, h2, h3⟩; exact .inl h; exact .inr ⟨cb, co, cap, h1, by omega, h3⟩)).mono ?_
  rintro e w1 ⟨s1, rfl, hS1, B1, z1⟩
  obtain ⟨b, hbe⟩ : ∃ b, b = Wa.heap.size := ⟨_, rfl⟩
  rw [← hbe] at hS1 z1 ⊢
  replace hbe := Nat.le_antisymm_iff.1 hbe
  replace z1 := Nat.le_antisymm_iff.1 z1
  have C2 := mem.belowNext C1 B1
  have R2 := R1.next B1
  clear B1 C1 R1
  go_wp2_with fail
  refine (l10Draw_any w1 b w.heap.size cv len 0 s1 hS1 (codeAt_below HC.out C2) (by omega)).mono ?_
  rintro e w2 ⟨v, n, m, N, P, b1, b2, vk, K, D, x, i2, s2, rfl, hn, hm, hK, hnm, hO, l1, l2, hL2, hS2, U2⟩
  obtain ⟨p0, c0, p1, c1, rfl⟩ := hO.shape
  obtain ⟨pk, ck, rfl⟩ := sl_sh hL2
  have xN := mem.below_new w2 (.cells #[.slice p0 n c0, .slice p1 m c1] 27)
  have hU := U2.size
  have C3 := (C2.trans (U2.below (by omega) (by rintro x _ rfl; omega))).trans (xN.mono (by omega))
  have R3 := (R2.keep (U2.block w.heap.size (by omega) (by omega))).next xN
  have T3 := mem.boxed w2 (.slice p0 n c0) (.slice p1 m c1) 27
  have O3 := hO.next xN
  have hz3 : (w2.alloc (.cells #[.slice p0 n c0, .slice p1 m c1] 27)).heap.size = w2.heap.size + 1 := by simp
  have L3 := (hL2.below xN (Nat.le_refl _)).mono (show w.heap.size ≤ w1.heap.size by omega) (show w2.heap.size ≤ (w2.alloc (.cells #[.slice p0 n c0, .slice p1 m c1] 27)).heap.size by omega)
  have L3' := (hL2.below xN (Nat.le_refl _)).mono (Nat.le_refl _) (show w2.heap.size ≤ (w2.alloc (.cells #[.slice p0 n c0, .slice p1 m c1] 27)).heap.size by omega)
  have S3 := src_alloc hS2 (src_lt hS2) (.cells #[.slice p0 n c0, .slice p1 m c1] 27)
  have hb2 := src_lt hS2
  have hbT : b ≠ w2.heap.size := by omega
  have hbR : b ≠ w.heap.size := by omega
  have hTR : w2.heap.size ≠ w.heap.size := by omega
  have hb1 : b < w1.heap.size := src_lt hS1
  have hl1 : b < b1 := by omega
  have hl2 : b < b2 := by omega
  clear C2 R2 hO hS2 hL2 U2 xN
  go_wp2_with fail
  generalize hW : w2.alloc (.cells #[.slice p0 n c0, .slice p1 m c1] 27) = w3 at *
  clear hW
  refine (next_any w3 b w.heap.size cv len i2 s2 12 S3 (codeAt_below HC.out C3) (by omega) (by omega)).mono ?_
  rintro e w4 ⟨v4, i3, s3, rfl, t4, ht4, S4, o4⟩
  have hz4 : w4.heap.size = w3.heap.size := o4.size.symm
  have C4 := C3.trans (only_below o4 (by omega))
  have R4 := R3.keep (o4.block w.heap.size (fun e => hbR e.symm))
  have T4 := T3.keep (o4.block w2.heap.size (fun e => hbT e.symm))
  have O4 := O3.upd (upd_of o4) (.inr (by omega)) (.inr (by omega))
  have L4 := (sl_upd L3' (upd_of o4) hb1 (Nat.le_refl _)).mono (Nat.le_refl _) (show w3.heap.size ≤ w4.heap.size by omega)
  have g4 := range2 T4.b0 T4.b1
  have lT4 := T4.lt
  clear C3 R3 T3 O3 S3 L3 L3' o4
  obtain ⟨O3, L3, S3, C3, R3, T3, lT3, hzd⟩ : mem.NetOwn w4.drew (.agg #[.slice p0 n c0, .slice p1 m c1]) n N m P b1 b2 ∧ mem.Sl w4.drew (.slice pk K ck) K D w1.heap.size w4.drew.heap.size ∧ Src w4.drew b cv len i3 s3 ∧ Below w.heap.size w w4.drew ∧ mem.Ob w4.drew w.heap.size 2 (mem.bx (.slice none 0 0) (.slice none 0 0)) ∧ w4.drew.rangeAt w2.heap.size 0 [.slice p0 n c0, .slice p1 m c1] ∧ w2.heap.size < w4.drew.heap.size ∧ w4.drew.heap.size = w4.heap.size := ⟨O4.drew, sl_drew L4, src_upd S4 rfl, mem.below_dw C4, R4.keep rfl, range_blockN g4 rfl, lT4, rfl⟩
  clear C4 R4 T4 O4 S4 L4 g4
  replace hzd := Nat.le_antisymm_iff.1 hzd
  replace hz3 := Nat.le_antisymm_iff.1 hz3
  replace hz4 := Nat.le_antisymm_iff.1 hz4
  have HOUT : ∀ (W : World) (y : Int), mem.NetOwn W (.agg #[.slice p0 n c0, .slice p1 m c1]) n N m P b1 b2 → mem.Sl W (.slice pk K ck) K D w1.heap.size W.heap.size → Below w.heap.size w W → NLXYOnly w (.returned (.tuple #[.agg #[.slice p0 n c0, .slice p1 m c1], .slice pk K ck, .int .i64 x, .int .i64 y])) W := fun W y hO hL hC => ⟨_, n, m, N, P, b1, b2, _, K, D, x, y, rfl, hn, hm, hK, hnm, hO, by omega, by omega, hL.mono (by omega) (Nat.le_refl _), hC⟩
  by_cases hv4 : v4 = 0
  · subst hv4
    go_upto_region 4 with (fail)
    refine wp_region_noPanic ?_
    refine wp_region_held_drew (S := fun w' : World => w'.rangeAt w2.heap.size 0 [.slice p0 n c0, .slice p1 m c1]) (by kernel_rfl) T3 (fun sH => ?_)
    refine wpAnyH_take (i := 0) (v := .agg #[.slice p0 n c0, .slice p1 m c1]) nthe0 (by kernel_rfl) (by kernel_rfl) (by kernel_rfl) (fun _ _ _ h => h) (yieldsIf_load_mid (by rfl) _ _ rfl w2.heap.size 0 rfl [.slice p0 n c0, .slice p1 m c1] _ (fun _ h => h) UN rfl (by exact net2_info)) sH ?_
    try simp only [Act.put, List.setIfInBounds_toArray, List.set_cons_zero, List.set_cons_succ]
    refine wpAnyH_take (i := 1) (v := ?_) nthe1 (by kernel_rfl) (by kernel_rfl) (by kernel_rfl) (fun _ _ _ h => h) (Or.inl ⟨by rfl, ?_⟩) sH ?_
    rotate_left
    · intro wS hSw; (try dsimp only at hSw); go_simp; try with_reducible rfl
    try simp only [Act.put, List.setIfInBounds_toArray, List.set_cons_zero, List.set_cons_succ]
    refine wpAnyH_take (i := 2) (v := ?_) nthe2 (by kernel_rfl) (by kernel_rfl) (by kernel_rfl) (fun _ _ _ h => h) (Or.inl ⟨by rfl, ?_⟩) sH ?_
    rotate_left
    · intro wS hSw; (try dsimp only at hSw); go_simp; try with_reducible rfl
    try simp only [Act.put, List.setIfInBounds_toArray, List.set_cons_zero, List.set_cons_succ]
    refine wpAnyH_take (i := 4) (v := ?_) nthe4 (by kernel_rfl) (by kernel_rfl) (by kernel_rfl) (fun _ _ _ h => h) (Or.inl ⟨by rfl, ?_⟩) sH ?_
    rotate_left
    · intro wS hSw; (try dsimp only at hSw); go_simp; try with_reducible rfl
    try simp only [Act.put, List.setIfInBounds_toArray, List.set_cons_zero, List.set_cons_succ]
    refine wpAnyH_ready (rs := [3, 5]) (by kernel_rfl) (by simp) (AllReadyH.cons nthe3 (fun KON hKON => ?_) (AllReadyH.cons nthe5 (fun KON hKON => ?_) AllReadyH.nil))
    · go_simp
      have bA := mem.below_new w4.drew (.cells #[.int .i64 30000, .int .i64 30001, .int .i64 (-30001)] 2)
      have tA := tabI w4.drew 2 #[.int .i64 30000, .int .i64 30001, .int .i64 (-30001)] (by
        intro j hj
        rcases (by simp at hj; omega : j = 0 ∨ j = 1 ∨ j = 2) with rfl | rfl | rfl
        all_goals exact ⟨_, rfl⟩)
      have hz4 : (w4.drew.alloc (.cells #[.int .i64 30000, .int .i64 30001, .int .i64 (-30001)] 2)).heap.size = w4.drew.heap.size + 1 := by simp
      replace hz4 := Nat.le_antisymm_iff.1 hz4
      have O4 := O3.next bA
      have L4 := (L3.below bA (Nat.le_refl _)).mono (Nat.le_refl _) (show w4.drew.heap.size ≤ (w4.drew.alloc (.cells #[.int .i64 30000, .int .i64 30001, .int .i64 (-30001)] 2)).heap.size by omega)
      have S4 := src_alloc S3 (src_lt S3) (.cells #[.int .i64 30000, .int .i64 30001, .int .i64 (-30001)] 2)
      have C4 := C3.trans (bA.mono (C3.size))
      have R4 := R3.next bA
      have T4 := range_blockN T3 (bA.block w2.heap.size lT3)
      have lT4 : w2.heap.size < (w4.drew.alloc (.cells #[.int .i64 30000, .int .i64 30001, .int .i64 (-30001)] 2)).heap.size := by omega
      have lA4 : w4.drew.heap.size < (w4.drew.alloc (.cells #[.int .i64 30000, .int .i64 30001, .int .i64 (-30001)] 2)).heap.size := by omega
      refine hKON.out _ _ T4 (fun sH => ?_)
      clear hKON KON
      try simp only [Act.put, List.setIfInBounds_toArray, List.set_cons_zero, List.set_cons_succ]
      refine wpAnyH_ready (rs := [5]) (by kernel_rfl) (by simp) (AllReadyH.cons nthe5 (fun KON hKON => ?_) AllReadyH.nil)
      · go_simp
        refine (next_any _ b w.heap.size cv len i3 s3 3 S4 (codeAt_below HC.out C4) (by omega) (by omega)).mono ?_
        rintro e wn ⟨vn, i4, s4, rfl, tn, htn, S5, on⟩
        obtain ⟨j, rfl⟩ := Int.eq_ofNat_of_zero_le tn
        have hj : j < 3 := by omega
        have hj2 : (j : Int) < 3 := by omega
        have hz5 : wn.heap.size = (w4.drew.alloc (.cells #[.int .i64 30000, .int .i64 30001, .int .i64 (-30001)] 2)).heap.size := on.size.symm
        replace hz5 := Nat.le_antisymm_iff.1 hz5
        have O5 := O4.upd (upd_of on) (.inr (by omega)) (.inr (by omega))
        have L5 := (sl_upd L4 (upd_of on) hb1 (Nat.le_refl _)).mono (Nat.le_refl _) (show (w4.drew.alloc (.cells #[.int .i64 30000, .int .i64 30001, .int .i64 (-30001)] 2)).heap.size ≤ wn.heap.size by omega)
        have C5 := C4.trans (only_below on (by omega))
        have R5 := R4.keep (on.block w.heap.size (fun e => hbR e.symm))
        have T5 := range_blockN T4 (on.block w2.heap.size (fun e => hbT e.symm))
        have lT5 : w2.heap.size < wn.heap.size := by omega
        obtain ⟨y, hy⟩ := tA j hj
        have hyc : wn.cell? ⟨w4.heap.size, j, none⟩ = some (.int .i64 y) := (World.cell?_of_block (on.block w4.heap.size (by omega))).trans hy
        refine hKON.out _ _ T5 (fun sH => ?_)
        clear hKON KON
        try simp only [Act.put, List.setIfInBounds_toArray, List.set_cons_zero, List.set_cons_succ]
        refine wpAnyH_take (i := 6) (v := ?_) nthe6 (by kernel_rfl) (by kernel_rfl) (by kernel_rfl) (fun _ _ _ h => h) (Or.inl ⟨by rfl, ?_⟩) sH ?_
        rotate_left
        · intro wS hSw; (try dsimp only at hSw); go_simp; try with_reducible rfl
        try simp only [Act.put, List.setIfInBounds_toArray, List.set_cons_zero, List.set_cons_succ]
        refine wpAnyH_ready (rs := [7, 8]) (by kernel_rfl) (by simp) (AllReadyH.cons nthe7 (fun KON hKON => ?_) (AllReadyH.cons nthe8 (fun KON hKON => ?_) AllReadyH.nil))
        · go_simp
          refine hKON.out _ _ T5 (fun sH => ?_)
          clear hKON KON
          try simp only [Act.put, List.setIfInBounds_toArray, List.set_cons_zero, List.set_cons_succ]
          refine wpAnyH_ready (rs := [8]) (by kernel_rfl) (by simp) (AllReadyH.cons nthe8 (fun KON hKON => ?_) AllReadyH.nil)
          · rw [if_pos (by rfl)]
            refine wp_store_mid _ _ _ rfl w.heap.size _ ([.slice p0 n c0, .slice p1 m c1] : List Value).toArray rfl rfl (by show World.there _ _ 0 2; exact R5.there) (by exact net2_info) (all_oneCell_toArray net2_one) ?_
            simp only [Act.put]
            have hO2 := (mem.Only.refl w.heap.size wn).setCs [.slice p0 n c0, .slice p1 m c1] 0
            obtain ⟨fx0, fx1⟩ := put2 R5 (.slice p0 n c0) (.slice p1 m c1)
            have hz6 : (wn.setCells w.heap.size 0 [.slice p0 n c0, .slice p1 m c1]).heap.size = wn.heap.size := hO2.size.symm
            replace hz6 := Nat.le_antisymm_iff.1 hz6
            have O6 := O5.upd (mem.Upd.of_only hO2) (.inr (by omega)) (.inr (by omega))
            have L6 := (L5.only hO2 (.inl (by omega))).mono (Nat.le_refl _) (show wn.heap.size ≤ (wn.setCells w.heap.size 0 [.slice p0 n c0, .slice p1 m c1]).heap.size by omega)
            have C6 := mem.below_only C5 hO2 (Nat.le_refl _)
            have S6 := src_upd S5 (hO2.block b hbR)
            have R6 := R5.setCs [.slice p0 n c0, .slice p1 m c1] 0 (by simp)
            have T6 := range_blockN T5 (hO2.block w2.heap.size hTR)
            have lT6 : w2.heap.size < (wn.setCells w.heap.size 0 [.slice p0 n c0, .slice p1 m c1]).heap.size := by omega
            refine hKON.out _ _ T6 (fun sH => ?_)
            clear hKON KON
            try simp only [Act.put, List.set_cons_succ]
            refine wpAnyH_take (i := 9) (v := ?_) nthe9 (by kernel_rfl) (by kernel_rfl) (by kernel_rfl) (fun _ _ _ h => h) (Or.inl ⟨by rfl, ?_⟩) sH ?_
            rotate_left
            · intro wS hSw; (try dsimp only at hSw); go_simp; try with_reducible rfl
            try simp only [Act.put]
            refine wpAnyH_take (i := 10) (v := ?_) nthe10 (by kernel_rfl) (by kernel_rfl) (by kernel_rfl) (fun _ _ _ h => h) (Or.inl ⟨by rfl, ?_⟩) sH ?_
            rotate_left
            · intro wS hSw; (try dsimp only at hSw); go_simp; try with_reducible rfl
            try simp only [Act.put, List.setIfInBounds_toArray, List.set_cons_zero, List.set_cons_succ]
            refine wpAnyH_take (i := 11) (v := ?_) nthe11 (by kernel_rfl) (by kernel_rfl) (by kernel_rfl) (fun _ _ _ h => h) (Or.inl ⟨by rfl, ?_⟩) sH ?_
            rotate_left
            · intro wS hSw; (try dsimp only at hSw); go_simp; try with_reducible rfl
            try simp only [Act.put, List.setIfInBounds_toArray, List.set_cons_zero, List.set_cons_succ]
            refine wpAnyH_done (by kernel_rfl) ?_ _
            refine NoPanic.normal ?_
            go_wp2_with fail
            refine bodyPost_ret (v := .tuple #[.agg #[.slice p0 n c0, .slice p1 m c1], .slice pk K ck, .int .i64 x, .int .i64 y]) (by simp [results, Try.results19, go_sem, fx0, fx1]) rfl (HOUT _ _ O6 L6 C6)
        · rw [if_pos (by rfl)]
          refine wp_store_mid _ _ _ rfl w.heap.size _ ([.slice p0 n c0, .slice p1 m c1] : List Value).toArray rfl rfl (by show World.there _ _ 0 2; exact R5.there) (by exact net2_info) (all_oneCell_toArray net2_one) ?_
          simp only [Act.put]
          have hO2 := (mem.Only.refl w.heap.size wn).setCs [.slice p0 n c0, .slice p1 m c1] 0
          obtain ⟨fx0, fx1⟩ := put2 R5 (.slice p0 n c0) (.slice p1 m c1)
          have hz6 : (wn.setCells w.heap.size 0 [.slice p0 n c0, .slice p1 m c1]).heap.size = wn.heap.size := hO2.size.symm
          replace hz6 := Nat.le_antisymm_iff.1 hz6
          have O6 := O5.upd (mem.Upd.of_only hO2) (.inr (by omega)) (.inr (by omega))
          have L6 := (L5.only hO2 (.inl (by omega))).mono (Nat.le_refl _) (show wn.heap.size ≤ (wn.setCells w.heap.size 0 [.slice p0 n c0, .slice p1 m c1]).heap.size by omega)
          have C6 := mem.below_only C5 hO2 (Nat.le_refl _)
          have S6 := src_upd S5 (hO2.block b hbR)
          have R6 := R5.setCs [.slice p0 n c0, .slice p1 m c1] 0 (by simp)
          have T6 := range_blockN T5 (hO2.block w2.heap.size hTR)
          have lT6 : w2.heap.size < (wn.setCells w.heap.size 0 [.slice p0 n c0, .slice p1 m c1]).heap.size := by omega
          have hyc2 : (wn.setCells w.heap.size 0 [.slice p0 n c0, .slice p1 m c1]).cell? ⟨w4.heap.size, j, none⟩ = some (.int .i64 y) := (World.cell?_of_block (hO2.block w4.heap.size (by omega))).trans hyc
          clear hyc
          have hyc := hyc2
          refine hKON.out _ _ T6 (fun sH => ?_)
          clear hKON KON
          try simp only [Act.put, List.set_cons_succ]
          refine wpAnyH_take (i := 9) (v := ?_) nthe9 (by kernel_rfl) (by kernel_rfl) (by kernel_rfl) (fun _ _ _ h => h) (Or.inl ⟨by rfl, ?_⟩) sH ?_
          rotate_left
          · intro wS hSw; (try dsimp only at hSw); go_simp; try with_reducible rfl
          try simp only [Act.put]
          refine wpAnyH_take (i := 10) (v := ?_) nthe10 (by kernel_rfl) (by kernel_rfl) (by kernel_rfl) (fun _ _ _ h => h) (Or.inl ⟨by rfl, ?_⟩) sH ?_
          rotate_left
          · intro wS hSw; (try dsimp only at hSw); go_simp; try with_reducible rfl
          try simp only [Act.put, List.setIfInBounds_toArray, List.set_cons_zero, List.set_cons_succ]
          refine wpAnyH_ready (rs := [7]) (by kernel_rfl) (by simp) (AllReadyH.cons nthe7 (fun KON hKON => ?_) AllReadyH.nil)
          · go_simp
            refine hKON.out _ _ T6 (fun sH => ?_)
            clear hKON KON
            try simp only [Act.put, List.setIfInBounds_toArray, List.set_cons_zero, List.set_cons_succ]
            refine wpAnyH_take (i := 11) (v := ?_) nthe11 (by kernel_rfl) (by kernel_rfl) (by kernel_rfl) (fun _ _ _ h => h) (Or.inl ⟨by rfl, ?_⟩) sH ?_
            rotate_left
            · intro wS hSw; (try dsimp only at hSw); go_simp; try with_reducible rfl
            try simp only [Act.put, List.setIfInBounds_toArray, List.set_cons_zero, List.set_cons_succ]
            refine wpAnyH_done (by kernel_rfl) ?_ _
            refine NoPanic.normal ?_
            go_wp2_with fail
            refine bodyPost_ret (v := .tuple #[.agg #[.slice p0 n c0, .slice p1 m c1], .slice pk K ck, .int .i64 x, .int .i64 y]) (by simp [results, Try.results19, go_sem, fx0, fx1]) rfl (HOUT _ _ O6 L6 C6)
    · go_simp
      refine (next_any _ b w.heap.size cv len i3 s3 3 S3 (codeAt_below HC.out C3) (by omega) (by omega)).mono ?_
      rintro e wn ⟨vn, i4, s4, rfl, tn, htn, S4, on⟩
      obtain ⟨j, rfl⟩ := Int.eq_ofNat_of_zero_le tn
      have hj : j < 3 := by omega
      have hj2 : (j : Int) < 3 := by omega
      have hz4 : wn.heap.size = w4.drew.heap.size := on.size.symm
      replace hz4 := Nat.le_antisymm_iff.1 hz4
      have O4 := O3.upd (upd_of on) (.inr (by omega)) (.inr (by omega))
      have L4 := (sl_upd L3 (upd_of on) hb1 (Nat.le_refl _)).mono (Nat.le_refl _) (show w4.drew.heap.size ≤ wn.heap.size by omega)
      have C4 := C3.trans (only_below on (by omega))
      have R4 := R3.keep (on.block w.heap.size (fun e => hbR e.symm))
      have T4 := range_blockN T3 (on.block w2.heap.size (fun e => hbT e.symm))
      have lT4 : w2.heap.size < wn.heap.size := by omega
      refine hKON.out _ _ T4 (fun sH => ?_)
      clear hKON KON
      try simp only [Act.put, List.setIfInBounds_toArray, List.set_cons_zero, List.set_cons_succ]
      refine wpAnyH_ready (rs := [3, 8]) (by kernel_rfl) (by simp) (AllReadyH.cons nthe3 (fun KON hKON => ?_) (AllReadyH.cons nthe8 (fun KON hKON => ?_) AllReadyH.nil))
      · go_simp
        have bA := mem.below_new wn (.cells #[.int .i64 30000, .int .i64 30001, .int .i64 (-30001)] 2)
        have tA := tabI wn 2 #[.int .i64 30000, .int .i64 30001, .int .i64 (-30001)] (by
          intro j hj
          rcases (by simp at hj; omega : j = 0 ∨ j = 1 ∨ j = 2) with rfl | rfl | rfl
          all_goals exact ⟨_, rfl⟩)
        have hz5 : (wn.alloc (.cells #[.int .i64 30000, .int .i64 30001, .int .i64 (-30001)] 2)).heap.size = wn.heap.size + 1 := by simp
        replace hz5 := Nat.le_antisymm_iff.1 hz5
        have O5 := O4.next bA
        have L5 := (L4.below bA (Nat.le_refl _)).mono (Nat.le_refl _) (show wn.heap.size ≤ (wn.alloc (.cells #[.int .i64 30000, .int .i64 30001, .int .i64 (-30001)] 2)).heap.size by omega)
        have S5 := src_alloc S4 (src_lt S4) (.cells #[.int .i64 30000, .int .i64 30001, .int .i64 (-30001)] 2)
        have C5 := C4.trans (bA.mono (C4.size))
        have R5 := R4.next bA
        have T5 := range_blockN T4 (bA.block w2.heap.size lT4)
        have lT5 : w2.heap.size < (wn.alloc (.cells #[.int .i64 30000, .int .i64 30001, .int .i64 (-30001)] 2)).heap.size := by omega
        have lA5 : wn.heap.size < (wn.alloc (.cells #[.int .i64 30000, .int .i64 30001, .int .i64 (-30001)] 2)).heap.size := by omega
        obtain ⟨y, hy⟩ := tA j hj
        have hyc : (wn.alloc (.cells #[.int .i64 30000, .int .i64 30001, .int .i64 (-30001)] 2)).cell? ⟨wn.heap.size, j, none⟩ = some (.int .i64 y) := hy
        refine hKON.out _ _ T5 (fun sH => ?_)
        clear hKON KON
        try simp only [Act.put, List.setIfInBounds_toArray, List.set_cons_zero, List.set_cons_succ]
        refine wpAnyH_take (i := 6) (v := ?_) nthe6 (by kernel_rfl) (by kernel_rfl) (by kernel_rfl) (fun _ _ _ h => h) (Or.inl ⟨by rfl, ?_⟩) sH ?_
        rotate_left
        · intro wS hSw; (try dsimp only at hSw); go_simp; try with_reducible rfl
        try simp only [Act.put, List.setIfInBounds_toArray, List.set_cons_zero, List.set_cons_succ]
        refine wpAnyH_ready (rs := [7, 8]) (by kernel_rfl) (by simp) (AllReadyH.cons nthe7 (fun KON hKON => ?_) (AllReadyH.cons nthe8 (fun KON hKON => ?_) AllReadyH.nil))
        · go_simp
          refine hKON.out _ _ T5 (fun sH => ?_)
          clear hKON KON
          try simp only [Act.put, List.setIfInBounds_toArray, List.set_cons_zero, List.set_cons_succ]
          refine wpAnyH_ready (rs := [8]) (by kernel_rfl) (by simp) (AllReadyH.cons nthe8 (fun KON hKON => ?_) AllReadyH.nil)
          · rw [if_pos (by rfl)]
            refine wp_store_mid _ _ _ rfl w.heap.size _ ([.slice p0 n c0, .slice p1 m c1] : List Value).toArray rfl rfl (by show World.there _ _ 0 2; exact R5.there) (by exact net2_info) (all_oneCell_toArray net2_one) ?_
            simp only [Act.put]
            have hO2 := (mem.Only.refl w.heap.size (wn.alloc (.cells #[.int .i64 30000, .int .i64 30001, .int .i64 (-30001)] 2))).setCs [.slice p0 n c0, .slice p1 m c1] 0
            obtain ⟨fx0, fx1⟩ := put2 R5 (.slice p0 n c0) (.slice p1 m c1)
            have hz6 : ((wn.alloc (.cells #[.int .i64 30000, .int .i64 30001, .int .i64 (-30001)] 2)).setCells w.heap.size 0 [.slice p0 n c0, .slice p1 m c1]).heap.size = (wn.alloc (.cells #[.int .i64 30000, .int .i64 30001, .int .i64 (-30001)] 2)).heap.size := hO2.size.symm
            replace hz6 := Nat.le_antisymm_iff.1 hz6
            have O6 := O5.upd (mem.Upd.of_only hO2) (.inr (by omega)) (.inr (by omega))
            have L6 := (L5.only hO2 (.inl (by omega))).mono (Nat.le_refl _) (show (wn.alloc (.cells #[.int .i64 30000, .int .i64 30001, .int .i64 (-30001)] 2)).heap.size ≤ ((wn.alloc (.cells #[.int .i64 30000, .int .i64 30001, .int .i64 (-30001)] 2)).setCells w.heap.size 0 [.slice p0 n c0, .slice p1 m c1]).heap.size by omega)
            have C6 := mem.below_only C5 hO2 (Nat.le_refl _)
            have S6 := src_upd S5 (hO2.block b hbR)
            have R6 := R5.setCs [.slice p0 n c0, .slice p1 m c1] 0 (by simp)
            have T6 := range_blockN T5 (hO2.block w2.heap.size hTR)
            have lT6 : w2.heap.size < ((wn.alloc (.cells #[.int .i64 30000, .int .i64 30001, .int .i64 (-30001)] 2)).setCells w.heap.size 0 [.slice p0 n c0, .slice p1 m c1]).heap.size := by omega
            refine hKON.out _ _ T6 (fun sH => ?_)
            clear hKON KON
            try simp only [Act.put, List.set_cons_succ]
            refine wpAnyH_take (i := 9) (v := ?_) nthe9 (by kernel_rfl) (by kernel_rfl) (by kernel_rfl) (fun _ _ _ h => h) (Or.inl ⟨by rfl, ?_⟩) sH ?_
            rotate_left
            · intro wS hSw; (try dsimp only at hSw); go_simp; try with_reducible rfl
            try simp only [Act.put]
            refine wpAnyH_take (i := 10) (v := ?_) nthe10 (by kernel_rfl) (by kernel_rfl) (by kernel_rfl) (fun _ _ _ h => h) (Or.inl ⟨by rfl, ?_⟩) sH ?_
            rotate_left
            · intro wS hSw; (try dsimp only at hSw); go_simp; try with_reducible rfl
            try simp only [Act.put, List.setIfInBounds_toArray, List.set_cons_zero, List.set_cons_succ]
            refine wpAnyH_take (i := 11) (v := ?_) nthe11 (by kernel_rfl) (by kernel_rfl) (by kernel_rfl) (fun _ _ _ h => h) (Or.inl ⟨by rfl, ?_⟩) sH ?_
            rotate_left
            · intro wS hSw; (try dsimp only at hSw); go_simp; try with_reducible rfl
            try simp only [Act.put, List.setIfInBounds_toArray, List.set_cons_zero, List.set_cons_succ]
            refine wpAnyH_done (by kernel_rfl) ?_ _
            refine NoPanic.normal ?_
            go_wp2_with fail
            refine bodyPost_ret (v := .tuple #[.agg #[.slice p0 n c0, .slice p1 m c1], .slice pk K ck, .int .i64 x, .int .i64 y]) (by simp [results, Try.results19, go_sem, fx0, fx1]) rfl (HOUT _ _ O6 L6 C6)
        · rw [if_pos (by rfl)]
          refine wp_store_mid _ _ _ rfl w.heap.size _ ([.slice p0 n c0, .slice p1 m c1] : List Value).toArray rfl rfl (by show World.there _ _ 0 2; exact R5.there) (by exact net2_info) (all_oneCell_toArray net2_one) ?_
          simp only [Act.put]
          have hO2 := (mem.Only.refl w.heap.size (wn.alloc (.cells #[.int .i64 30000, .int .i64 30001, .int .i64 (-30001)] 2))).setCs [.slice p0 n c0, .slice p1 m c1] 0
          obtain ⟨fx0, fx1⟩ := put2 R5 (.slice p0 n c0) (.slice p1 m c1)
          have hz6 : ((wn.alloc (.cells #[.int .i64 30000, .int .i64 30001, .int .i64 (-30001)] 2)).setCells w.heap.size 0 [.slice p0 n c0, .slice p1 m c1]).heap.size = (wn.alloc (.cells #[.int .i64 30000, .int .i64 30001, .int .i64 (-30001)] 2)).heap.size := hO2.size.symm
          replace hz6 := Nat.le_antisymm_iff.1 hz6
          have O6 := O5.upd (mem.Upd.of_only hO2) (.inr (by omega)) (.inr (by omega))
          have L6 := (L5.only hO2 (.inl (by omega))).mono (Nat.le_refl _) (show (wn.alloc (.cells #[.int .i64 30000, .int .i64 30001, .int .i64 (-30001)] 2)).heap.size ≤ ((wn.alloc (.cells #[.int .i64 30000, .int .i64 30001, .int .i64 (-30001)] 2)).setCells w.heap.size 0 [.slice p0 n c0, .slice p1 m c1]).heap.size by omega)
          have C6 := mem.below_only C5 hO2 (Nat.le_refl _)
          have S6 := src_upd S5 (hO2.block b hbR)
          have R6 := R5.setCs [.slice p0 n c0, .slice p1 m c1] 0 (by simp)
          have T6 := range_blockN T5 (hO2.block w2.heap.size hTR)
          have lT6 : w2.heap.size < ((wn.alloc (.cells #[.int .i64 30000, .int .i64 30001, .int .i64 (-30001)] 2)).setCells w.heap.size 0 [.slice p0 n c0, .slice p1 m c1]).heap.size := by omega
          have hyc2 : ((wn.alloc (.cells #[.int .i64 30000, .int .i64 30001, .int .i64 (-30001)] 2)).setCells w.heap.size 0 [.slice p0 n c0, .slice p1 m c1]).cell? ⟨wn.heap.size, j, none⟩ = some (.int .i64 y) := (World.cell?_of_block (hO2.block wn.heap.size (by omega))).trans hyc
          clear hyc
          have hyc := hyc2
          refine hKON.out _ _ T6 (fun sH => ?_)
          clear hKON KON
          try simp only [Act.put, List.set_cons_succ]
          refine wpAnyH_take (i := 9) (v := ?_) nthe9 (by kernel_rfl) (by kernel_rfl) (by kernel_rfl) (fun _ _ _ h => h) (Or.inl ⟨by rfl, ?_⟩) sH ?_
          rotate_left
          · intro wS hSw; (try dsimp only at hSw); go_simp; try with_reducible rfl
          try simp only [Act.put]
          refine wpAnyH_take (i := 10) (v := ?_) nthe10 (by kernel_rfl) (by kernel_rfl) (by kernel_rfl) (fun _ _ _ h => h) (Or.inl ⟨by rfl, ?_⟩) sH ?_
          rotate_left
          · intro wS hSw; (try dsimp only at hSw); go_simp; try with_reducible rfl
          try simp only [Act.put, List.setIfInBounds_toArray, List.set_cons_zero, List.set_cons_succ]
          refine wpAnyH_ready (rs := [7]) (by kernel_rfl) (by simp) (AllReadyH.cons nthe7 (fun KON hKON => ?_) AllReadyH.nil)
          · go_simp
            refine hKON.out _ _ T6 (fun sH => ?_)
            clear hKON KON
            try simp only [Act.put, List.setIfInBounds_toArray, List.set_cons_zero, List.set_cons_succ]
            refine wpAnyH_take (i := 11) (v := ?_) nthe11 (by kernel_rfl) (by kernel_rfl) (by kernel_rfl) (fun _ _ _ h => h) (Or.inl ⟨by rfl, ?_⟩) sH ?_
            rotate_left
            · intro wS hSw; (try dsimp only at hSw); go_simp; try with_reducible rfl
            try simp only [Act.put, List.setIfInBounds_toArray, List.set_cons_zero, List.set_cons_succ]
            refine wpAnyH_done (by kernel_rfl) ?_ _
            refine NoPanic.normal ?_
            go_wp2_with fail
            refine bodyPost_ret (v := .tuple #[.agg #[.slice p0 n c0, .slice p1 m c1], .slice pk K ck, .int .i64 x, .int .i64 y]) (by simp [results, Try.results19, go_sem, fx0, fx1]) rfl (HOUT _ _ O6 L6 C6)
      · rw [if_pos (by rfl)]
        refine wp_store_mid _ _ _ rfl w.heap.size _ ([.slice p0 n c0, .slice p1 m c1] : List Value).toArray rfl rfl (by show World.there _ _ 0 2; exact R4.there) (by exact net2_info) (all_oneCell_toArray net2_one) ?_
        simp only [Act.put]
        have hO2 := (mem.Only.refl w.heap.size wn).setCs [.slice p0 n c0, .slice p1 m c1] 0
        obtain ⟨fx0, fx1⟩ := put2 R4 (.slice p0 n c0) (.slice p1 m c1)
        have hz5 : (wn.setCells w.heap.size 0 [.slice p0 n c0, .slice p1 m c1]).heap.size = wn.heap.size := hO2.size.symm
        replace hz5 := Nat.le_antisymm_iff.1 hz5
        have O5 := O4.upd (mem.Upd.of_only hO2) (.inr (by omega)) (.inr (by omega))
        have L5 := (L4.only hO2 (.inl (by omega))).mono (Nat.le_refl _) (show wn.heap.size ≤ (wn.setCells w.heap.size 0 [.slice p0 n c0, .slice p1 m c1]).heap.size by omega)
        have C5 := mem.below_only C4 hO2 (Nat.le_refl _)
        have S5 := src_upd S4 (hO2.block b hbR)
        have R5 := R4.setCs [.slice p0 n c0, .slice p1 m c1] 0 (by simp)
        have T5 := range_blockN T4 (hO2.block w2.heap.size hTR)
        have lT5 : w2.heap.size < (wn.setCells w.heap.size 0 [.slice p0 n c0, .slice p1 m c1]).heap.size := by omega
        refine hKON.out _ _ T5 (fun sH => ?_)
        clear hKON KON
        try simp only [Act.put, List.set_cons_succ]
        refine wpAnyH_take (i := 9) (v := ?_) nthe9 (by kernel_rfl) (by kernel_rfl) (by kernel_rfl) (fun _ _ _ h => h) (Or.inl ⟨by rfl, ?_⟩) sH ?_
        rotate_left
        · intro wS hSw; (try dsimp only at hSw); go_simp; try with_reducible rfl
        try simp only [Act.put]
        refine wpAnyH_take (i := 10) (v := ?_) nthe10 (by kernel_rfl) (by kernel_rfl) (by kernel_rfl) (fun _ _ _ h => h) (Or.inl ⟨by rfl, ?_⟩) sH ?_
        rotate_left
        · intro wS hSw; (try dsimp only at hSw); go_simp; try with_reducible rfl
        try simp only [Act.put, List.setIfInBounds_toArray, List.set_cons_zero, List.set_cons_succ]
        refine wpAnyH_ready (rs := [3]) (by kernel_rfl) (by simp) (AllReadyH.cons nthe3 (fun KON hKON => ?_) AllReadyH.nil)
        · go_simp
          have bA := mem.below_new (wn.setCells w.heap.size 0 [.slice p0 n c0, .slice p1 m c1]) (.cells #[.int .i64 30000, .int .i64 30001, .int .i64 (-30001)] 2)
          have tA := tabI (wn.setCells w.heap.size 0 [.slice p0 n c0, .slice p1 m c1]) 2 #[.int .i64 30000, .int .i64 30001, .int .i64 (-30001)] (by
            intro j hj
            rcases (by simp at hj; omega : j = 0 ∨ j = 1 ∨ j = 2) with rfl | rfl | rfl
            all_goals exact ⟨_, rfl⟩)
          have hz6 : ((wn.setCells w.heap.size 0 [.slice p0 n c0, .slice p1 m c1]).alloc (.cells #[.int .i64 30000, .int .i64 30001, .int .i64 (-30001)] 2)).heap.size = (wn.setCells w.heap.size 0 [.slice p0 n c0, .slice p1 m c1]).heap.size + 1 := by simp
          replace hz6 := Nat.le_antisymm_iff.1 hz6
          have O6 := O5.next bA
          have L6 := (L5.below bA (Nat.le_refl _)).mono (Nat.le_refl _) (show (wn.setCells w.heap.size 0 [.slice p0 n c0, .slice p1 m c1]).heap.size ≤ ((wn.setCells w.heap.size 0 [.slice p0 n c0, .slice p1 m c1]).alloc (.cells #[.int .i64 30000, .int .i64 30001, .int .i64 (-30001)] 2)).heap.size by omega)
          have S6 := src_alloc S5 (src_lt S5) (.cells #[.int .i64 30000, .int .i64 30001, .int .i64 (-30001)] 2)
          have C6 := C5.trans (bA.mono (C5.size))
          have R6 := R5.next bA
          have T6 := range_blockN T5 (bA.block w2.heap.size lT5)
          have lT6 : w2.heap.size < ((wn.setCells w.heap.size 0 [.slice p0 n c0, .slice p1 m c1]).alloc (.cells #[.int .i64 30000, .int .i64 30001, .int .i64 (-30001)] 2)).heap.size := by omega
          have lA6 : (wn.setCells w.heap.size 0 [.slice p0 n c0, .slice p1 m c1]).heap.size < ((wn.setCells w.heap.size 0 [.slice p0 n c0, .slice p1 m c1]).alloc (.cells #[.int .i64 30000, .int .i64 30001, .int .i64 (-30001)] 2)).heap.size := by omega
          have fx0' := (bA.cell (p := ⟨w.heap.size, 0, none⟩) (by show w.heap.size < _; omega)).trans fx0
          have fx1' := (bA.cell (p := ⟨w.heap.size, 1, none⟩) (by show w.heap.size < _; omega)).trans fx1
          clear fx0 fx1
          have fx0 := fx0'
          have fx1 := fx1'
          obtain ⟨y, hy⟩ := tA j hj
          have hyc : ((wn.setCells w.heap.size 0 [.slice p0 n c0, .slice p1 m c1]).alloc (.cells #[.int .i64 30000, .int .i64 30001, .int .i64 (-30001)] 2)).cell? ⟨(wn.setCells w.heap.size 0 [.slice p0 n c0, .slice p1 m c1]).heap.size, j, none⟩ = some (.int .i64 y) := hy
          refine hKON.out _ _ T6 (fun sH => ?_)
          clear hKON KON
          try simp only [Act.put, List.setIfInBounds_toArray, List.set_cons_zero, List.set_cons_succ]
          refine wpAnyH_take (i := 6) (v := ?_) nthe6 (by kernel_rfl) (by kernel_rfl) (by kernel_rfl) (fun _ _ _ h => h) (Or.inl ⟨by rfl, ?_⟩) sH ?_
          rotate_left
          · intro wS hSw; (try dsimp only at hSw); go_simp; try with_reducible rfl
          try simp only [Act.put, List.setIfInBounds_toArray, List.set_cons_zero, List.set_cons_succ]
          refine wpAnyH_ready (rs := [7]) (by kernel_rfl) (by simp) (AllReadyH.cons nthe7 (fun KON hKON => ?_) AllReadyH.nil)
          · go_simp
            refine hKON.out _ _ T6 (fun sH => ?_)
            clear hKON KON
            try simp only [Act.put, List.setIfInBounds_toArray, List.set_cons_zero, List.set_cons_succ]
            refine wpAnyH_take (i := 11) (v := ?_) nthe11 (by kernel_rfl) (by kernel_rfl) (by kernel_rfl) (fun _ _ _ h => h) (Or.inl ⟨by rfl, ?_⟩) sH ?_
            rotate_left
            · intro wS hSw; (try dsimp only at hSw); go_simp; try with_reducible rfl
            try simp only [Act.put, List.setIfInBounds_toArray, List.set_cons_zero, List.set_cons_succ]
            refine wpAnyH_done (by kernel_rfl) ?_ _
            refine NoPanic.normal ?_
            go_wp2_with fail
            refine bodyPost_ret (v := .tuple #[.agg #[.slice p0 n c0, .slice p1 m c1], .slice pk K ck, .int .i64 x, .int .i64 y]) (by simp [results, Try.results19, go_sem, fx0, fx1]) rfl (HOUT _ _ O6 L6 C6)
  · have hv4' : (v4 == 0) = false := by simpa using hv4
    clear hv4
    go_upto_region 5 with (fail)
    refine wp_region_noPanic ?_
    refine wp_region_held_drew (S := fun w' : World => w'.rangeAt w2.heap.size 0 [.slice p0 n c0, .slice p1 m c1]) (by kernel_rfl) T3 (fun sH => ?_)
    refine wpAnyH_take (i := 0) (v := .agg #[.slice p0 n c0, .slice p1 m c1]) nthe0 (by kernel_rfl) (by kernel_rfl) (by kernel_rfl) (fun _ _ _ h => h) (yieldsIf_load_mid (by rfl) _ _ rfl w2.heap.size 0 rfl [.slice p0 n c0, .slice p1 m c1] _ (fun _ h => h) UN rfl (by exact net2_info)) sH ?_
    try simp only [Act.put, List.setIfInBounds_toArray, List.set_cons_zero, List.set_cons_succ]
    refine wpAnyH_take (i := 1) (v := ?_) nthe1 (by kernel_rfl) (by kernel_rfl) (by kernel_rfl) (fun _ _ _ h => h) (Or.inl ⟨by rfl, ?_⟩) sH ?_
    rotate_left
    · intro wS hSw; (try dsimp only at hSw); go_simp; try with_reducible rfl
    try simp only [Act.put, List.setIfInBounds_toArray, List.set_cons_zero, List.set_cons_succ]
    refine wpAnyH_take (i := 2) (v := ?_) nthe2 (by kernel_rfl) (by kernel_rfl) (by kernel_rfl) (fun _ _ _ h => h) (Or.inl ⟨by rfl, ?_⟩) sH ?_
    rotate_left
    · intro wS hSw; (try dsimp only at hSw); go_simp; try with_reducible rfl
    try simp only [Act.put, List.setIfInBounds_toArray, List.set_cons_zero, List.set_cons_succ]
    refine wpAnyH_take (i := 3) (v := ?_) nthe3 (by kernel_rfl) (by kernel_rfl) (by kernel_rfl) (fun _ _ _ h => h) (Or.inl ⟨by rfl, ?_⟩) sH ?_
    rotate_left
    · intro wS hSw; (try dsimp only at hSw); go_simp; try with_reducible rfl
    try simp only [Act.put, List.setIfInBounds_toArray, List.set_cons_zero, List.set_cons_succ]
    refine wpAnyH_ready (rs := [4]) (by kernel_rfl) (by simp) (AllReadyH.cons nthe4 (fun KON hKON => ?_) AllReadyH.nil)
    clear sH
    go_simp
    refine (next_any _ b w.heap.size cv len i3 s3 21 S3 (codeAt_below HC.out C3) (by omega) (by omega)).mono ?_
    rintro e wn ⟨vn, i4, s4, rfl, tn, htn, S4, on⟩
    have hz4 : wn.heap.size = w4.drew.heap.size := on.size.symm
    replace hz4 := Nat.le_antisymm_iff.1 hz4
    have O4 := O3.upd (upd_of on) (.inr (by omega)) (.inr (by omega))
    have L4 := (sl_upd L3 (upd_of on) hb1 (Nat.le_refl _)).mono (Nat.le_refl _) (show w4.drew.heap.size ≤ wn.heap.size by omega)
    have C4 := C3.trans (only_below on (by omega))
    have R4 := R3.keep (on.block w.heap.size (fun e => hbR e.symm))
    have T4 := range_blockN T3 (on.block w2.heap.size (fun e => hbT e.symm))
    have lT4 : w2.heap.size < wn.heap.size := by omega
    have hwr : IntKind.i64.wrap (vn - 10) = vn - 10 := IntWalk.i64_in _ (by omega)
    refine hKON.out _ _ T4 (fun sH => ?_)
    clear hKON KON
    try simp only [Act.put, List.setIfInBounds_toArray, List.set_cons_zero, List.set_cons_succ]
    refine wpAnyH_take (i := 5) (v := ?_) nthe5 (by kernel_rfl) (by kernel_rfl) (by kernel_rfl) (fun _ _ _ h => h) (Or.inl ⟨by rfl, ?_⟩) sH ?_
    rotate_left
    · intro wS hSw; (try dsimp only at hSw); go_simp; try with_reducible rfl
    try simp only [Act.put, List.setIfInBounds_toArray, List.set_cons_succ]
    refine wpAnyH_ready (rs := [6]) (by kernel_rfl) (by simp) (AllReadyH.cons nthe6 (fun KON hKON => ?_) AllReadyH.nil)
    rw [if_pos (by rfl)]
    refine wp_store_mid _ _ _ rfl w.heap.size _ ([.slice p0 n c0, .slice p1 m c1] : List Value).toArray rfl rfl (by show World.there _ _ 0 2; exact R4.there) (by exact net2_info) (all_oneCell_toArray net2_one) ?_
    simp only [Act.put, List.set_cons_zero]
    have hO2 := (mem.Only.refl w.heap.size wn).setCs [.slice p0 n c0, .slice p1 m c1] 0
    obtain ⟨fx0, fx1⟩ := put2 R4 (.slice p0 n c0) (.slice p1 m c1)
    have hz5 : (wn.setCells w.heap.size 0 [.slice p0 n c0, .slice p1 m c1]).heap.size = wn.heap.size := hO2.size.symm
    replace hz5 := Nat.le_antisymm_iff.1 hz5
    have O5 := O4.upd (mem.Upd.of_only hO2) (.inr (by omega)) (.inr (by omega))
    have L5 := (L4.only hO2 (.inl (by omega))).mono (Nat.le_refl _) (show wn.heap.size ≤ (wn.setCells w.heap.size 0 [.slice p0 n c0, .slice p1 m c1]).heap.size by omega)
    have C5 := mem.below_only C4 hO2 (Nat.le_refl _)
    have S5 := src_upd S4 (hO2.block b hbR)
    have R5 := R4.setCs [.slice p0 n c0, .slice p1 m c1] 0 (by simp)
    have T5 := range_blockN T4 (hO2.block w2.heap.size hTR)
    have lT5 : w2.heap.size < (wn.setCells w.heap.size 0 [.slice p0 n c0, .slice p1 m c1]).heap.size := by omega
    refine hKON.out _ _ T5 (fun sH => ?_)
    clear hKON KON
    try simp only [Act.put, List.set_cons_succ]
    refine wpAnyH_take (i := 7) (v := ?_) nthe7 (by kernel_rfl) (by kernel_rfl) (by kernel_rfl) (fun _ _ _ h => h) (Or.inl ⟨by rfl, ?_⟩) sH ?_
    rotate_left
    · intro wS hSw; (try dsimp only at hSw); go_simp; try with_reducible rfl
    try simp only [Act.put, List.setIfInBounds_toArray, List.set_cons_zero, List.set_cons_succ]
    refine wpAnyH_take (i := 8) (v := ?_) nthe8 (by kernel_rfl) (by kernel_rfl) (by kernel_rfl) (fun _ _ _ h => h) (Or.inl ⟨by rfl, ?_⟩) sH ?_
    rotate_left
    · intro wS hSw; (try dsimp only at hSw); go_simp; try with_reducible rfl
    try simp only [Act.put, List.setIfInBounds_toArray, List.set_cons_zero, List.set_cons_succ]
    refine wpAnyH_take (i := 9) (v := ?_) nthe9 (by kernel_rfl) (by kernel_rfl) (by kernel_rfl) (fun _ _ _ h => h) (Or.inl ⟨by rfl, ?_⟩) sH ?_
    rotate_left
    · intro wS hSw; (try dsimp only at hSw); go_simp; try with_reducible rfl
    try simp only [Act.put, List.setIfInBounds_toArray, List.set_cons_zero, List.set_cons_succ]
    refine wpAnyH_done (by kernel_rfl) ?_ _
    refine NoPanic.normal ?_
    go_wp2_with fail
    refine bodyPost_ret (v := .tuple #[.agg #[.slice p0 n c0, .slice p1 m c1], .slice pk K ck, .int .i64 x, .int .i64 (vn - 10)]) (by simp [results, Try.results19, go_sem, fx0, fx1]) rfl (HOUT _ _ O5 L5 C5)
end Go.Proofs.Ytcpglmiboikfmaa.draw
