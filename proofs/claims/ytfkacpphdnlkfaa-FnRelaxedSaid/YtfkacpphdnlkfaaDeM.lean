/-
  Several texts in one: De1, De2.
-/
import Derived.Test.YtfkacpphdnlkfaaRows
import Derived.Test.YtfkacpphdnlkfaaDyM
import Derived.Test.YtfkacpphdnlkfaaEnM
import Derived.WalkKit
import Derived.ProofKit
import Derived.Lib.Hide
import Derived.OwnWalk
import Derived.Outline
import Derived.Deep.RegionHeld3
import Derived.Deep.Cut
import Derived.Deep.RegionWith
import Derived.IntWalk
import Derived.Test.YtfkacpphdnlkfaaElM
namespace Go.Proofs.Ytfkacpphdnlkfaa.draw
open Go.RowKit
open Go.Proofs.Ytfkacpphdnlkfaa.mem (range2 range_blockN there_blockN nthe0 nthe1 nthe2 nthe3 nthe4 nthe5 nthe6 nthe7 nthe8 nthe9 nthe10 nthe11 nthe12 nthe13 nthe14 nthe15)
set_option linter.unusedVariables false

/-- a network, flows and a number have been drawn -/
def LXPost (w : World) (b : Nat) (cv : Value) (len : Nat) (e : Ending) (w' : World) : Prop :=
  ∃ (v : Value) (n m : Nat) (N : Nat → mem.Nod) (P : Nat → mem.Pip) (b1 b2 : Nat) (vk : Value) (K : Nat) (D : Nat → Int) (x i s : Int), e = .returned (.tuple #[v, vk, .int .i64 x]) ∧ n ≤ 1000 ∧ m ≤ 1000 ∧ K ≤ 2000 ∧ (∀ i, i < n → (N i).s.size ≤ 9223372036854775807) ∧ mem.NetOwn w' v n N m P b1 b2 ∧ w.heap.size ≤ b1 ∧ w.heap.size ≤ b2 ∧ mem.Sl w' vk K D w.heap.size w'.heap.size ∧ Src w' b cv len i s ∧ mem.Upd (· = b) w w'
theorem put2 {w : World} {R : Nat} {d : Nat → Value} (h : mem.Ob w R 2 d) (v0 v1 : Value) : (w.setCells R 0 [v0, v1]).cell? ⟨R, 0, none⟩ = some v0 ∧ (w.setCells R 0 [v0, v1]).cell? ⟨R, 1, none⟩ = some v1 := by
  have h1 := h.setCs [v0, v1] 0 (by simp)
  exact ⟨h1.cell 0 (by omega), h1.cell 1 (by omega)⟩
theorem net2_info : (Try.prog.info? 33).map (·.size) = some 2 := by kernel_rfl
theorem net2_one {p0 p1 : Option Addr} {n m c0 c1 : Nat} : ∀ u ∈ ([.slice p0 n c0, .slice p1 m c1] : List Value), u.oneCell' = true := by
  intro u hu
  simp only [List.mem_cons, List.not_mem_nil, or_false] at hu
  rcases hu with rfl | rfl <;> rfl
set_option maxRecDepth 100000 in
set_option maxHeartbeats 8000000 in
theorem l10Draw_any (w : World) (b B : Nat) (cv : Value) (len : Nat) (i s : Int) (h : Src w b cv len i s) (hc : CodeAt w cv len B) (hB' : B ≤ b) :
    Calls Try.prog 71 #[.pointer (some ⟨b, 0, none⟩)] w (LXPost w b cv len) := by
  have hlt := src_lt h
  have h' := src_alloc h hlt (.cells #[.slice none 0 0, .slice none 0 0] 33)
  have HC := Lib.hid (codeAt_below hc ((Below.refl B w).alloc (by omega) (.cells #[.slice none 0 0, .slice none 0 0] 33)))
  have R1 := mem.boxed w (.slice none 0 0) (.slice none 0 0) 33
  have U0 := Lib.hid (mem.Upd.of_below (mem.below_new w (.cells #[.slice none 0 0, .slice none 0 0] 33)) (X := (· = b)))
  have hsz : w.heap.size + 1 ≤ (w.alloc (.cells #[.slice none 0 0, .slice none 0 0] 33)).heap.size := by simp
  have UN := Try.underlying33
  go_enter Try.func71, Try.ntmps71
  go_wp2_with fail
  generalize hW : w.alloc (.cells #[.slice none 0 0, .slice none 0 0] 33) = Wa at *
  clear hW h hc
  have hb : b < Wa.heap.size := by omega
  refine (chord_any Wa b B cv len i s h' HC.out hB').mono ?_
  rintro e w1 ⟨v, n, m, N, P, b1, b2, x, i1, s1, rfl, hn, hm, hnm, hO, l1, l2, hS1, U1⟩
  obtain ⟨p0, c0, p1, c1, rfl⟩ := hO.shape
  have hTl := U1.size
  have hbt := src_lt hS1
  have x2 := mem.below_new w1 (.cells #[.slice p0 n c0, .slice p1 m c1] 33)
  have T2 := mem.boxed w1 (.slice p0 n c0) (.slice p1 m c1) 33
  have R2 := (R1.keep (U1.block w.heap.size (by omega) (by omega))).next x2
  have HO := Lib.hid (hO.next x2)
  have S2 := src_alloc hS1 (src_lt hS1) (.cells #[.slice p0 n c0, .slice p1 m c1] 33)
  have U2 := U1.trans (mem.Upd.of_below x2)
  have hz2 : (w1.alloc (.cells #[.slice p0 n c0, .slice p1 m c1] 33)).heap.size = w1.heap.size + 1 := by simp
  clear hO hS1 U1 x2 h' R1
  go_upto_region 2 with (fail)
  generalize hW : w1.alloc (.cells #[.slice p0 n c0, .slice p1 m c1] 33) = w2 at *
  obtain ⟨T, hTe⟩ : ∃ T, w1.heap.size = T := ⟨_, rfl⟩
  rw [hTe] at T2 hbt hTl hz2 ⊢
  clear hW hTe
  try simp only [Act.put, List.setIfInBounds_toArray, List.set_cons_zero, List.set_cons_succ]
  have g0 := range2 T2.b0 T2.b1
  have r0 := R2.there
  have HCd := code_of (b := b) HC.out (upd_dw' U2) hB' hb
  have lT := T2.lt
  have lR := R2.lt
  have nTR : T ≠ w.heap.size := by omega
  have nTb : T ≠ b := by omega
  have nRb : w.heap.size ≠ b := by omega
  refine wp_region_noPanic ?_
  refine wp_region_held_drew (S := fun w' : World => w'.rangeAt T 0 [.slice p0 n c0, .slice p1 m c1]) (by kernel_rfl) (range_blockN g0 rfl) (fun sH => ?_)
  refine wpAnyH_take (i := 0) (v := .agg #[.slice p0 n c0, .slice p1 m c1]) nthe0 (by kernel_rfl) (by kernel_rfl) (by kernel_rfl) (fun _ _ _ h => h) (yieldsIf_load_mid (by rfl) _ _ rfl T 0 rfl [.slice p0 n c0, .slice p1 m c1] _ (fun _ h => h) UN rfl (by exact net2_info)) sH ?_
  try simp only [Act.put, List.setIfInBounds_toArray, List.set_cons_zero, List.set_cons_succ]
  refine wpAnyH_take (i := 1) (v := ?_) nthe1 (by kernel_rfl) (by kernel_rfl) (by kernel_rfl) (fun _ _ _ h => h) (Or.inl ⟨by rfl, ?_⟩) sH ?_
  rotate_left
  · intro wS hSw; (try dsimp only at hSw); go_simp; try with_reducible rfl
  try simp only [Act.put, List.setIfInBounds_toArray, List.set_cons_zero, List.set_cons_succ]
  refine wpAnyH_take (i := 2) (v := .agg #[.slice p0 n c0, .slice p1 m c1]) nthe2 (by kernel_rfl) (by kernel_rfl) (by kernel_rfl) (fun _ _ _ h => h) (yieldsIf_load_mid (by rfl) _ _ rfl T 0 rfl [.slice p0 n c0, .slice p1 m c1] _ (fun _ h => h) UN rfl (by exact net2_info)) sH ?_
  try simp only [Act.put, List.setIfInBounds_toArray, List.set_cons_zero, List.set_cons_succ]
  refine wpAnyH_take (i := 4) (v := ?_) nthe4 (by kernel_rfl) (by kernel_rfl) (by kernel_rfl) (fun _ _ _ h => h) (Or.inl ⟨by rfl, ?_⟩) sH ?_
  rotate_left
  · intro wS hSw; (try dsimp only at hSw); go_simp; try with_reducible rfl
  try simp only [Act.put, List.setIfInBounds_toArray, List.set_cons_zero, List.set_cons_succ]
  refine wpAnyH_ready (rs := [3]) (by kernel_rfl) (by simp) (AllReadyH.cons nthe3 (fun KON hKON => ?_) AllReadyH.nil)
  clear sH
  go_simp
  refine (flows_any _ b B cv len i1 s1 (src_upd S2 rfl : Src w2.drew b cv len i1 s1) HCd hB' p0 n c0 p1 m c1 hm).mono ?_
  rintro e wx ⟨vx, Kx, Dx, ix, sx, rfl, hKx, hLx, hSx, Ux⟩
  have g1 := range_blockN g0 (Ux.block T lT nTb)
  have r1 := there_blockN r0 (Ux.block w.heap.size lR nRb)
  have R3 := (R2.keep (Ux.block w.heap.size lR nRb) : mem.Ob wx w.heap.size 2 _)
  refine hKON.out _ _ g1 (fun sH => ?_)
  clear hKON KON
  try simp only [Act.put, List.set_cons_succ]
  refine wpAnyH_ready (rs := [5]) (by kernel_rfl) (by simp) (AllReadyH.cons nthe5 (fun KON hKON => ?_) AllReadyH.nil)
  rw [if_pos (by rfl)]
  refine wp_store_mid _ _ _ rfl w.heap.size _ ([.slice p0 n c0, .slice p1 m c1] : List Value).toArray rfl rfl (by show World.there _ _ 0 2; exact r1) (by exact net2_info) (all_oneCell_toArray net2_one) ?_
  simp only [Act.put]
  refine hKON.out _ _ (World.rangeAt_setCells_apart g1 _ _ _ (.inl nTR)) (fun sH => ?_)
  clear hKON KON
  refine wpAnyH_take (i := 6) (v := ?_) nthe6 (by kernel_rfl) (by kernel_rfl) (by kernel_rfl) (fun _ _ _ h => h) (Or.inl ⟨by rfl, ?_⟩) sH ?_
  rotate_left
  · intro wS hSw; (try dsimp only at hSw); go_simp; try with_reducible rfl
  try simp only [Act.put]
  refine wpAnyH_take (i := 7) (v := ?_) nthe7 (by kernel_rfl) (by kernel_rfl) (by kernel_rfl) (fun _ _ _ h => h) (Or.inl ⟨by rfl, ?_⟩) sH ?_
  rotate_left
  · intro wS hSw; (try dsimp only at hSw); go_simp; try with_reducible rfl
  try simp only [Act.put, List.setIfInBounds_toArray, List.set_cons_succ]
  refine wpAnyH_done (by kernel_rfl) ?_ _
  refine NoPanic.normal ?_
  obtain ⟨px, cx, rfl⟩ := sl_sh hLx
  have hzx := Ux.size
  have hzd : w2.drew.heap.size = w2.heap.size := rfl
  have hO2 := (mem.Only.refl w.heap.size wx).setCs [.slice p0 n c0, .slice p1 m c1] 0
  obtain ⟨fx0, fx1⟩ := put2 R3 (.slice p0 n c0) (.slice p1 m c1)
  have HF := Lib.hid ((HO.out.drew.upd Ux (.inr (by omega)) (.inr (by omega))).upd (mem.Upd.of_only hO2) (.inr (by omega)) (.inr (by omega)))
  have HL := Lib.hid ((hLx.only hO2 (.inl (by show w.heap.size < w2.heap.size; omega))).mono (show w.heap.size ≤ w2.heap.size by omega) (Nat.le_of_eq hO2.size))
  have HS := Lib.hid (src_upd hSx (hO2.block b (fun e => nRb e.symm)))
  have HU := Lib.hid (upd_own (U0.out.trans ((upd_dw' U2).trans Ux)) hO2 (Nat.le_refl _))
  clear Ux R2 R3 T2 S2 U2 hO2 hLx hSx g0 g1 r0 r1
  go_wp2_with fail
  refine bodyPost_ret (v := .tuple #[.agg #[.slice p0 n c0, .slice p1 m c1], .slice px Kx cx, .int .i64 x]) (by simp [results, Try.results71, go_sem, fx0, fx1]) rfl ⟨_, n, m, N, P, b1, b2, _, Kx, Dx, x, ix, sx, rfl, hn, hm, hKx, hnm, HF.out, by omega, by omega, HL.out, HS.out, HU.out⟩

end Go.Proofs.Ytfkacpphdnlkfaa.draw

namespace Go.Proofs.Ytfkacpphdnlkfaa.draw
open Go.RowKit
open Go.Proofs.Ytfkacpphdnlkfaa.mem (range2 range_blockN there_blockN nthe0 nthe1 nthe2 nthe3 nthe4 nthe5 nthe6 nthe7 nthe8 nthe9 nthe10 nthe11 nthe12 nthe13 nthe14 nthe15)
set_option linter.unusedVariables false

end Go.Proofs.Ytfkacpphdnlkfaa.draw
