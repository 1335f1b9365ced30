/-
  The draws of chapter 8: a network and flows, with a root, with a root and a level. Conditions: as each states.
-/
import Derived.Test.YtebbnhnggjmbiaaGreatRows
import Derived.Test.YtebbnhnggjmbiaaGreatDyM
import Derived.Test.YtebbnhnggjmbiaaGreatKkM
import Derived.IntWalk
import Derived.WalkKit
import Derived.ProofKit
import Derived.Lib.Hide
import Derived.OwnWalk
import Derived.Outline
import Derived.Deep.RegionHeld3
import Derived.Deep.Cut
import Derived.Deep.RegionWith
namespace Go.Proofs.YtebbnhnggjmbiaaGreat.draw
open Go.RowKit
set_option linter.unusedVariables false

def NLXOnly (w : World) (e : Ending) (w' : World) : Prop :=
  ∃ (v : Value) (n m : Nat) (N : Nat → mem.Nod) (P : Nat → mem.Pip) (b1 b2 : Nat) (vk : Value) (K : Nat) (D : Nat → Int) (x : Int), e = .returned (.tuple #[v, vk, .int .i64 x]) ∧ n ≤ 1000 ∧ m ≤ 1000 ∧ K ≤ 2000 ∧ (∀ i, i < n → (N i).s.size ≤ 9223372036854775807) ∧ mem.NetOwn w' v n N m P b1 b2 ∧ w.heap.size ≤ b1 ∧ w.heap.size ≤ b2 ∧ mem.Sl w' vk K D w.heap.size w'.heap.size ∧ Below w.heap.size w w'
theorem code_next {w w' : World} {cv : Value} {len : Nat} (h : CodeAt w cv len w.heap.size) (b : Below w.heap.size w w') : CodeAt w' cv len w'.heap.size := by
  have hs := b.size
  rcases codeAt_below h b with h | ⟨cb, co, cap, h1, h2, h3⟩
  · exact .inl h
  · exact .inr ⟨cb, co, cap, h1, by omega, h3⟩
set_option maxRecDepth 100000 in
set_option maxHeartbeats 8000000 in
theorem drawRootRange (w : World) (cv : Value) (len : Nat) (hc : CodeAt w cv len w.heap.size) : Calls Tryz.prog 24 #[cv] w (NLXOnly w) := by
  have HC := Lib.hid hc
  have R1 := mem.boxed w (.slice none 0 0) (.slice none 0 0) 33
  have C1 := mem.below_new w (.cells #[.slice none 0 0, .slice none 0 0] 33)
  have hsz : (w.alloc (.cells #[.slice none 0 0, .slice none 0 0] 33)).heap.size = w.heap.size + 1 := by simp
  go_enter Tryz.func24, Tryz.ntmps24
  go_wp2_with fail
  generalize hW : w.alloc (.cells #[.slice none 0 0, .slice none 0 0] 33) = Wa at *
  clear hW hc
  replace hsz := Nat.le_antisymm_iff.1 hsz
  refine (from_any Wa cv len (by have := codeAt_below HC.out C1; rcases this with h | ⟨cb, co, cap, h1, h2, h3⟩; exact .inl h; exact .inr ⟨cb, co, cap, h1, by omega, h3⟩)).mono ?_
  rintro e w1 ⟨s1, rfl, hS1, B1, z1⟩
  obtain ⟨b, hbe⟩ : ∃ b, b = Wa.heap.size := ⟨_, rfl⟩
  rw [← hbe] at hS1 z1 ⊢
  replace hbe := Nat.le_antisymm_iff.1 hbe
  replace z1 := Nat.le_antisymm_iff.1 z1
  have C2 := mem.belowNext C1 B1
  have R2 := R1.next B1
  clear B1 C1 R1
  go_wp2_with fail
  refine (chord_any w1 b w.heap.size cv len 0 s1 hS1 (codeAt_below HC.out C2) (by omega)).mono ?_
  rintro e w2 ⟨v, n, m, N, P, b1, b2, x0, i2, s2, rfl, hn, hm, hnm, hO, l1, l2, hS2, U2⟩
  obtain ⟨p0, c0, p1, c1, rfl⟩ := hO.shape
  have xN := mem.below_new w2 (.cells #[.slice p0 n c0, .slice p1 m c1] 33)
  have C3 := Lib.hid ((C2.trans (U2.below (by omega) (by rintro x _ rfl; omega))).trans (xN.mono (by have := U2.size; omega)))
  have R3 := (R2.keep (U2.block w.heap.size (by omega) (by omega))).next xN
  have T3 := mem.boxed w2 (.slice p0 n c0) (.slice p1 m c1) 33
  have O3 := Lib.hid (hO.next xN)
  have S3 := src_alloc hS2 (src_lt hS2) (.cells #[.slice p0 n c0, .slice p1 m c1] 33)
  have hz3 : (w2.alloc (.cells #[.slice p0 n c0, .slice p1 m c1] 33)).heap.size = w2.heap.size + 1 := by simp
  have hb2 := src_lt hS2
  have hbT : b ≠ w2.heap.size := by omega
  have hbR : b ≠ w.heap.size := by omega
  have hTR : w2.heap.size ≠ w.heap.size := by omega
  have hl1 : b < b1 := by omega
  have hl2 : b < b2 := by omega
  have hU := U2.size
  clear C2 R2 hO hS2 hS1 U2 xN
  have e0 := T3.b0
  have e1 := T3.b1
  go_wp2_with fail
  generalize hW : w2.alloc (.cells #[.slice p0 n c0, .slice p1 m c1] 33) = W3 at *
  clear hW
  refine (flows_any W3 b w.heap.size cv len i2 s2 S3 (codeAt_below HC.out C3.out) (by omega) p0 n c0 p1 m c1 hm).mono ?_
  rintro e w4 ⟨vk, K, D, i4, s4, rfl, hK, hL4, S4, U4⟩
  obtain ⟨pk, ck, rfl⟩ := sl_sh hL4
  have hz4 := U4.size
  have C4 := Lib.hid (C3.out.trans (U4.below (by omega) (by rintro x _ rfl; omega)))
  have R4 := R3.keep (U4.block w.heap.size (by omega) (by omega))
  have T4 := T3.keep (U4.block w2.heap.size (by omega) (by omega))
  have O4 := Lib.hid (O3.out.upd U4 (.inr (by omega)) (.inr (by omega)))
  have L4 := Lib.hid hL4
  clear e0 e1 C3 R3 T3 O3 S3 U4 hL4
  have hLw : w.heap.size ≤ W3.heap.size := by omega
  have t0 := T4.b0
  have t1 := T4.b1
  have f0 := R4.b0
  have f1 := R4.b1
  have k0 := R4.free 0
  have k1 := R4.free 1
  have HCd := Lib.hid (code_of (b := b) (B := w.heap.size) (codeAt_below HC.out C4.out) ⟨rfl, rfl, rfl, Nat.le_refl _, fun _ _ _ => rfl⟩ (by omega) (src_lt S4) : CodeAt w4.drew cv len w.heap.size)
  have hTT := T4.lt
  have hRR := R4.lt
  go_wp2_with fail
  go_region_held3 (fun w' => w'.cell? ⟨w2.heap.size, 0, none⟩ = some (.slice p0 n c0) ∧ w'.cell? ⟨w2.heap.size, 1, none⟩ = some (.slice p1 m c1)) (first | exact ⟨t0, t1⟩ | exact ⟨TY.b0, TY.b1⟩ | exact ⟨TX.b0, TX.b1⟩ | exact ⟨((((mem.Only.refl w.heap.size _).setCell _ _).setCell _ _).cell (a := ⟨w2.heap.size, 0, none⟩) hTR).trans TY.b0, ((((mem.Only.refl w.heap.size _).setCell _ _).setCell _ _).cell (a := ⟨w2.heap.size, 1, none⟩) hTR).trans TY.b1⟩ | exact ⟨((((mem.Only.refl w.heap.size _).setCell _ _).setCell _ _).cell (a := ⟨w2.heap.size, 0, none⟩) hTR).trans TX.b0, ((((mem.Only.refl w.heap.size _).setCell _ _).setCell _ _).cell (a := ⟨w2.heap.size, 1, none⟩) hTR).trans TX.b1⟩ | go_keep)
    (first | (go_at_call 56; (with_reducible refine (index_any _ b w.heap.size cv len i4 s4 n (src_upd S4 rfl : Src w4.drew b cv len i4 s4) HCd.out (by omega) (by omega)).mono ?_); rintro e wx ⟨x, ix, sx, rfl, x0, x1, hSx, ox⟩; have TX := (T4.keep (ox.block w2.heap.size (by omega)) : mem.Ob wx w2.heap.size 2 _); have RX := (R4.keep (ox.block w.heap.size (by omega)) : mem.Ob wx w.heap.size 2 _); have HCX := (code_of (b := b) (B := w.heap.size) HCd.out (upd_of ox) (by omega) (src_lt S4 : b < w4.heap.size) : CodeAt wx cv len w.heap.size); have fx0 := RX.b0; have fx1 := RX.b1; have kx0 := RX.free 0; have kx1 := RX.free 1))
  all_goals
    have hzd : w4.drew.heap.size = w4.heap.size := rfl
    have zx := ox.size
    have hO := ((mem.Only.refl w.heap.size wx).setCell 0 (.slice p0 n c0)).setCell 1 (.slice p1 m c1)
    have HO := Lib.hid ((O4.out.drew.upd (upd_of ox) (.inr (by omega)) (.inr (by omega))).upd (mem.Upd.of_only hO) (.inr (by omega)) (.inr (by omega)))
    have HB := Lib.hid (mem.below_only ((mem.below_dw C4.out).trans (((upd_of ox)).below (by omega) (by rintro x _ rfl; omega))) hO (by omega))
    have HLX := Lib.hid (((sl_upd (sl_drew L4.out) (upd_of ox) (by show b < W3.heap.size; omega) (Nat.le_refl _)).only hO (.inl (by show w.heap.size < W3.heap.size; omega))).mono hLw (Nat.le_trans (by omega) (Nat.le_of_eq hO.size)))
    clear hO TX RX O4
    go_wp2_with fail
    refine bodyPost_ret (v := .tuple #[.agg #[.slice p0 n c0, .slice p1 m c1], .slice pk K ck, .int .i64 x]) (by simp [results, Tryz.results24, go_sem, fx0, fx1]) rfl ?_
    exact ⟨_, n, m, N, P, b1, b2, _, K, D, x, rfl, hn, hm, hK, hnm, HO.out, by omega, by omega, HLX.out, HB.out⟩
set_option maxRecDepth 100000 in
set_option maxHeartbeats 8000000 in
theorem drawLowestNode (w : World) (cv : Value) (len : Nat) (hc : CodeAt w cv len w.heap.size) : Calls Tryz.prog 65 #[cv] w (NLOnly w) := by
  have HC := Lib.hid hc
  have R1 := mem.boxed w (.slice none 0 0) (.slice none 0 0) 33
  have C1 := mem.below_new w (.cells #[.slice none 0 0, .slice none 0 0] 33)
  have hsz : (w.alloc (.cells #[.slice none 0 0, .slice none 0 0] 33)).heap.size = w.heap.size + 1 := by simp
  go_enter Tryz.func65, Tryz.ntmps65
  go_wp2_with fail
  generalize hW : w.alloc (.cells #[.slice none 0 0, .slice none 0 0] 33) = Wa at *
  clear hW hc
  replace hsz := Nat.le_antisymm_iff.1 hsz
  refine (from_any Wa cv len (by have := codeAt_below HC.out C1; rcases this with h | ⟨cb, co, cap, h1, h2, h3⟩; exact .inl h; exact .inr ⟨cb, co, cap, h1, by omega, h3⟩)).mono ?_
  rintro e w1 ⟨s1, rfl, hS1, B1, z1⟩
  obtain ⟨b, hbe⟩ : ∃ b, b = Wa.heap.size := ⟨_, rfl⟩
  rw [← hbe] at hS1 z1 ⊢
  replace hbe := Nat.le_antisymm_iff.1 hbe
  replace z1 := Nat.le_antisymm_iff.1 z1
  have C2 := mem.belowNext C1 B1
  have R2 := R1.next B1
  clear B1 C1 R1
  go_wp2_with fail
  refine (chord_any w1 b w.heap.size cv len 0 s1 hS1 (codeAt_below HC.out C2) (by omega)).mono ?_
  rintro e w2 ⟨v, n, m, N, P, b1, b2, x0, i2, s2, rfl, hn, hm, hnm, hO, l1, l2, hS2, U2⟩
  obtain ⟨p0, c0, p1, c1, rfl⟩ := hO.shape
  have xN := mem.below_new w2 (.cells #[.slice p0 n c0, .slice p1 m c1] 33)
  have C3 := Lib.hid ((C2.trans (U2.below (by omega) (by rintro x _ rfl; omega))).trans (xN.mono (by have := U2.size; omega)))
  have R3 := (R2.keep (U2.block w.heap.size (by omega) (by omega))).next xN
  have T3 := mem.boxed w2 (.slice p0 n c0) (.slice p1 m c1) 33
  have O3 := Lib.hid (hO.next xN)
  have S3 := src_alloc hS2 (src_lt hS2) (.cells #[.slice p0 n c0, .slice p1 m c1] 33)
  have hz3 : (w2.alloc (.cells #[.slice p0 n c0, .slice p1 m c1] 33)).heap.size = w2.heap.size + 1 := by simp
  have hb2 := src_lt hS2
  have hbT : b ≠ w2.heap.size := by omega
  have hbR : b ≠ w.heap.size := by omega
  have hTR : w2.heap.size ≠ w.heap.size := by omega
  have hl1 : b < b1 := by omega
  have hl2 : b < b2 := by omega
  have hU := U2.size
  clear C2 R2 hO hS2 hS1 U2 xN
  have e0 := T3.b0
  have e1 := T3.b1
  go_wp2_with fail
  generalize hW : w2.alloc (.cells #[.slice p0 n c0, .slice p1 m c1] 33) = W3 at *
  clear hW
  have hLw : w.heap.size ≤ W3.heap.size := by omega
  have t0 := T3.b0
  have t1 := T3.b1
  have f0 := R3.b0
  have f1 := R3.b1
  have k0 := R3.free 0
  have k1 := R3.free 1
  have HCd := Lib.hid (code_of (b := b) (B := w.heap.size) (codeAt_below HC.out C3.out) ⟨rfl, rfl, rfl, Nat.le_refl _, fun _ _ _ => rfl⟩ (by omega) (src_lt S3) : CodeAt W3.drew cv len w.heap.size)
  have hTT := T3.lt
  have hRR := R3.lt
  go_wp2_with fail
  go_region_held3 (fun w' => w'.cell? ⟨w2.heap.size, 0, none⟩ = some (.slice p0 n c0) ∧ w'.cell? ⟨w2.heap.size, 1, none⟩ = some (.slice p1 m c1)) (first | exact ⟨t0, t1⟩ | exact ⟨TY.b0, TY.b1⟩ | exact ⟨TX.b0, TX.b1⟩ | exact ⟨((((mem.Only.refl w.heap.size _).setCell _ _).setCell _ _).cell (a := ⟨w2.heap.size, 0, none⟩) hTR).trans TY.b0, ((((mem.Only.refl w.heap.size _).setCell _ _).setCell _ _).cell (a := ⟨w2.heap.size, 1, none⟩) hTR).trans TY.b1⟩ | exact ⟨((((mem.Only.refl w.heap.size _).setCell _ _).setCell _ _).cell (a := ⟨w2.heap.size, 0, none⟩) hTR).trans TX.b0, ((((mem.Only.refl w.heap.size _).setCell _ _).setCell _ _).cell (a := ⟨w2.heap.size, 1, none⟩) hTR).trans TX.b1⟩ | go_keep)
    (first | (go_at_call 55; refine (flows_any _ b w.heap.size cv len i2 s2 (src_upd S3 rfl : Src W3.drew b cv len i2 s2) HCd.out (by omega) p0 n c0 p1 m c1 hm).mono ?_; rintro e wx ⟨vk, K, D, i4, s4, rfl, hK, hL4, S4, U4⟩; obtain ⟨pk, ck, rfl⟩ := sl_sh hL4; have TX := (T3.keep (U4.block w2.heap.size hTT (by omega)) : mem.Ob wx w2.heap.size 2 _); have RX := (R3.keep (U4.block w.heap.size hRR (by omega)) : mem.Ob wx w.heap.size 2 _); have fx0 := RX.b0; have fx1 := RX.b1; have kx0 := RX.free 0; have kx1 := RX.free 1))
  all_goals
    have hzd : W3.drew.heap.size = W3.heap.size := rfl
    have zx := U4.size
    have hO := ((mem.Only.refl w.heap.size wx).setCell 0 (.slice p0 n c0)).setCell 1 (.slice p1 m c1)
    have HO := Lib.hid ((O3.out.drew.upd U4 (.inr (by omega)) (.inr (by omega))).upd (mem.Upd.of_only hO) (.inr (by omega)) (.inr (by omega)))
    have HB := Lib.hid (mem.below_only ((mem.below_dw C3.out).trans ((U4).below (by omega) (by rintro x _ rfl; omega))) hO (by omega))
    have HLX := Lib.hid (((hL4).only hO (.inl (by show w.heap.size < W3.heap.size; omega))).mono hLw (Nat.le_trans (by omega) (Nat.le_of_eq hO.size)))
    clear hO TX RX O3
    go_wp2_with fail
    refine bodyPost_ret (v := .tuple #[.agg #[.slice p0 n c0, .slice p1 m c1], .slice pk K ck]) (by simp [results, Tryz.results65, go_sem, fx0, fx1]) rfl ?_
    exact ⟨_, n, m, N, P, b1, b2, _, K, D, rfl, hn, hm, hK, hnm, HO.out, by omega, by omega, HLX.out, HB.out⟩
set_option maxRecDepth 100000 in
set_option maxHeartbeats 4000000 in
theorem drawBlockingPair (w : World) (cv : Value) (len : Nat) (hc : CodeAt w cv len w.heap.size) : Calls Tryz.prog 32 #[cv] w (NLOnly w) := by
  have R1 := mem.boxed w (.slice none 0 0) (.slice none 0 0) 33
  have C1 := mem.below_new w (.cells #[.slice none 0 0, .slice none 0 0] 33)
  have HC := Lib.hid (code_next hc C1)
  have hsz : (w.alloc (.cells #[.slice none 0 0, .slice none 0 0] 33)).heap.size = w.heap.size + 1 := by simp
  go_enter Tryz.func32, Tryz.ntmps32
  go_wp2_with fail
  generalize hW : w.alloc (.cells #[.slice none 0 0, .slice none 0 0] 33) = Wa at *
  clear hW hc
  replace hsz := Nat.le_antisymm_iff.1 hsz
  refine (drawLowestNode Wa cv len HC.out).mono ?_
  rintro e w1 ⟨v, n, m, N, P, b1, b2, vk, K, D, rfl, hn, hm, hK, hnm, hO, l1, l2, hL, B1⟩
  obtain ⟨p0, c0, p1, c1, rfl⟩ := hO.shape
  obtain ⟨pk, ck, rfl⟩ := sl_sh hL
  have C2 := mem.belowNext C1 B1
  have R2 := R1.next B1
  have hs1 := B1.size
  clear B1 C1 R1
  have f0 := R2.free 0
  have f1 := R2.free 1
  have r0 := R2.b0
  have r1 := R2.b1
  have hQ := ((mem.Only.refl w.heap.size w1).setCell 0 (.slice p0 n c0)).setCell 1 (.slice p1 m c1)
  have HF := Lib.hid (C2.trans (hQ.below (Nat.le_refl _)))
  have HO := Lib.hid (hO.upd (mem.Upd.of_only hQ) (.inr (by omega)) (.inr (by omega)))
  have HL := Lib.hid ((hL.only hQ (.inl (by omega))).mono (show w.heap.size ≤ Wa.heap.size by omega) (Nat.le_of_eq hQ.size))
  clear hQ hO hL
  go_wp2_with fail
  refine bodyPost_ret (v := .tuple #[.agg #[.slice p0 n c0, .slice p1 m c1], .slice pk K ck]) (by simp [results, Tryz.results32, go_sem, r0, r1]) rfl ⟨_, n, m, N, P, b1, b2, _, K, D, rfl, hn, hm, hK, hnm, HO.out, by omega, by omega, HL.out, HF.out⟩
set_option maxRecDepth 100000 in
set_option maxHeartbeats 8000000 in
theorem drawTightNodes (w : World) (cv : Value) (len : Nat) (hc : CodeAt w cv len w.heap.size) : Calls Tryz.prog 28 #[cv] w (NLXYOnly w) := by
  have HC := Lib.hid hc
  have R1 := mem.boxed w (.slice none 0 0) (.slice none 0 0) 33
  have C1 := mem.below_new w (.cells #[.slice none 0 0, .slice none 0 0] 33)
  have hsz : (w.alloc (.cells #[.slice none 0 0, .slice none 0 0] 33)).heap.size = w.heap.size + 1 := by simp
  go_enter Tryz.func28, Tryz.ntmps28
  go_wp2_with fail
  generalize hW : w.alloc (.cells #[.slice none 0 0, .slice none 0 0] 33) = Wa at *
  clear hW hc
  replace hsz := Nat.le_antisymm_iff.1 hsz
  refine (from_any Wa cv len (by have := codeAt_below HC.out C1; rcases this with h | ⟨cb, co, cap, h1, h2, h3⟩; exact .inl h; exact .inr ⟨cb, co, cap, h1, by omega, h3⟩)).mono ?_
  rintro e w1 ⟨s1, rfl, hS1, B1, z1⟩
  obtain ⟨b, hbe⟩ : ∃ b, b = Wa.heap.size := ⟨_, rfl⟩
  rw [← hbe] at hS1 z1 ⊢
  replace hbe := Nat.le_antisymm_iff.1 hbe
  replace z1 := Nat.le_antisymm_iff.1 z1
  have C2 := mem.belowNext C1 B1
  have R2 := R1.next B1
  clear B1 C1 R1
  go_wp2_with fail
  have c1 := code_next HC.out C2
  refine (drawRootRange w1 cv len c1).mono ?_
  rintro e w2 ⟨v, n, m, N, P, b1, b2, vk, K, D, x, rfl, hn, hm, hK, hnm, hO, l1, l2, hL, B2⟩
  obtain ⟨p0, c0, p1, c1', rfl⟩ := hO.shape
  obtain ⟨pk, ck, rfl⟩ := sl_sh hL
  have hb1 := src_lt hS1
  have zB2 := B2.size
  have hLw : w.heap.size ≤ w1.heap.size := by omega
  have xN := mem.below_new w2 (.cells #[.slice p0 n c0, .slice p1 m c1'] 33)
  have C3 := Lib.hid ((C2.trans (B2.mono (by omega))).trans (xN.mono (by omega)))
  have R3 := (R2.next B2).next xN
  have T3 := mem.boxed w2 (.slice p0 n c0) (.slice p1 m c1') 33
  have O3 := Lib.hid (hO.next xN)
  have L3 := Lib.hid (hL.below xN (Nat.le_refl _))
  have hS2 := src_upd hS1 (B2.block b hb1)
  have S3 := src_alloc hS2 (src_lt hS2) (.cells #[.slice p0 n c0, .slice p1 m c1'] 33)
  have hz3 : (w2.alloc (.cells #[.slice p0 n c0, .slice p1 m c1'] 33)).heap.size = w2.heap.size + 1 := by simp
  have hbT : b ≠ w2.heap.size := by omega
  have hbR : b ≠ w.heap.size := by omega
  have hTR : w2.heap.size ≠ w.heap.size := by omega
  have hl1 : b < b1 := by omega
  have hl2 : b < b2 := by omega
  clear C2 R2 hO hS2 hS1 xN hL B2 c1
  have e0 := T3.b0
  have e1 := T3.b1
  go_wp2_with fail
  generalize hW : w2.alloc (.cells #[.slice p0 n c0, .slice p1 m c1'] 33) = W3 at *
  clear hW
  replace hz3 := Nat.le_antisymm_iff.1 hz3
  refine (mem.rootRangeS_any W3 _ n N m P 0 W3.heap.size O3.out.net (Nat.le_refl _) hnm _ K D w1.heap.size w2.heap.size L3.out (by omega) (by omega) x).mono ?_
  rintro e w4 ⟨rfl, b4⟩
  have hz4 := b4.size
  obtain ⟨i4, hi4⟩ : ∃ i, i = (0 : Int) := ⟨_, rfl⟩
  obtain ⟨s4, hs4⟩ : ∃ i, i = s1 := ⟨_, rfl⟩
  rw [← hi4, ← hs4] at S3
  clear hi4 hs4
  have S4 := src_upd S3 (b4.block b (by omega))
  have C4 := Lib.hid (C3.out.trans (b4.mono (by omega)))
  have R4 := R3.next b4
  have T4 := T3.next b4
  have O4 := Lib.hid (O3.out.next b4)
  have L4 := Lib.hid (L3.out.below b4 (by omega))
  clear S3 C3 R3 T3 O3 L3 b4 e0 e1
  obtain ⟨lw, hlw⟩ : ∃ y, y = mem.rrA n N m P K D x := ⟨_, rfl⟩
  obtain ⟨hg, hhg⟩ : ∃ y, y = mem.rrZ n N m P K D x := ⟨_, rfl⟩
  have HLG := Lib.hid (show mem.rrC n N m P K D x = 0 → -700000000000000000 ≤ lw ∧ hg ≤ 700000000000000000 ∧ lw ≤ hg from fun h => by
    have := mem.rr_bnd h
    rw [hlw, hhg]
    unfold mem.rrA mem.rrZ
    rw [if_pos h, if_pos h]
    omega)
  rw [← hlw, ← hhg]
  clear hlw hhg
  by_cases hrc : mem.rrC n N m P K D x = 0
  rotate_left 1
  · have hrb : (mem.rrC n N m P K D x != 0) = true := by simpa using hrc
    clear hrc
    have t0 := T4.b0
    have t1 := T4.b1
    have f0 := R4.b0
    have f1 := R4.b1
    have k0 := R4.free 0
    have k1 := R4.free 1
    have HCd := Lib.hid (code_of (b := b) (B := w.heap.size) (codeAt_below HC.out C4.out) ⟨rfl, rfl, rfl, Nat.le_refl _, fun _ _ _ => rfl⟩ (by omega) (src_lt S4) : CodeAt w4.drew cv len w.heap.size)
    have hTT := T4.lt
    have hRR := R4.lt
    go_wp2_with fail
    go_region_held3 (fun w' => w'.cell? ⟨w2.heap.size, 0, none⟩ = some (.slice p0 n c0) ∧ w'.cell? ⟨w2.heap.size, 1, none⟩ = some (.slice p1 m c1')) (first | exact ⟨t0, t1⟩ | exact ⟨TY.b0, TY.b1⟩ | exact ⟨TX.b0, TX.b1⟩ | exact ⟨((((mem.Only.refl w.heap.size _).setCell _ _).setCell _ _).cell (a := ⟨w2.heap.size, 0, none⟩) hTR).trans TY.b0, ((((mem.Only.refl w.heap.size _).setCell _ _).setCell _ _).cell (a := ⟨w2.heap.size, 1, none⟩) hTR).trans TY.b1⟩ | exact ⟨((((mem.Only.refl w.heap.size _).setCell _ _).setCell _ _).cell (a := ⟨w2.heap.size, 0, none⟩) hTR).trans TX.b0, ((((mem.Only.refl w.heap.size _).setCell _ _).setCell _ _).cell (a := ⟨w2.heap.size, 1, none⟩) hTR).trans TX.b1⟩ | go_keep)
      (first | (go_at_call 64; refine (level_any _ b w.heap.size cv len i4 s4 (src_upd S4 rfl : Src w4.drew b cv len i4 s4) HCd.out (by omega)).mono ?_; rintro e wx ⟨y, ix, sx, rfl, hSx, Ux⟩; have TX := (T4.keep (Ux.block w2.heap.size hTT (by omega)) : mem.Ob wx w2.heap.size 2 _); have RX := (R4.keep (Ux.block w.heap.size hRR (by omega)) : mem.Ob wx w.heap.size 2 _); have fx0 := RX.b0; have fx1 := RX.b1; have kx0 := RX.free 0; have kx1 := RX.free 1))

    all_goals
      have hzd : w4.drew.heap.size = w4.heap.size := rfl
      have zx := Ux.size
      have hO := ((mem.Only.refl w.heap.size wx).setCell 0 (.slice p0 n c0)).setCell 1 (.slice p1 m c1')
      have HO := Lib.hid ((O4.out.drew.upd Ux (.inr (by omega)) (.inr (by omega))).upd (mem.Upd.of_only hO) (.inr (by omega)) (.inr (by omega)))
      have HB := Lib.hid (mem.below_only ((mem.below_dw C4.out).trans ((Ux).below (by omega) (by rintro x _ rfl; omega))) hO (by omega))
      have HLX := Lib.hid (((sl_upd (sl_drew L4.out) Ux (by omega) (by show w2.heap.size ≤ w4.heap.size; omega)).only hO (.inl (by show w.heap.size < w1.heap.size; omega))).mono hLw (Nat.le_trans (by omega) (Nat.le_of_eq hO.size)))
      clear hO TX RX O4
      go_wp2_with fail
      refine bodyPost_ret (v := .tuple #[.agg #[.slice p0 n c0, .slice p1 m c1'], .slice pk K ck, .int .i64 x, .int .i64 y]) (by simp [results, Tryz.results28, go_sem, fx0, fx1]) rfl ?_
      exact ⟨_, n, m, N, P, b1, b2, _, K, D, x, y, rfl, hn, hm, hK, hnm, HO.out, by omega, by omega, HLX.out, HB.out⟩

  have hrb : (mem.rrC n N m P K D x != 0) = false := by simp [hrc]
  obtain ⟨lg0, lg1, lg2⟩ := HLG.out hrc
  clear hrc
  go_wp2_with fail
  refine (next_any w4 b w.heap.size cv len i4 s4 3 S4 (codeAt_below HC.out C4.out) (by omega) (by omega)).mono ?_
  rintro e w5 ⟨v5, i5, s5, rfl, t5, ht5, S5, o5⟩
  have hz5 := o5.size
  have C5 := Lib.hid (C4.out.trans (only_below o5 (by omega)))
  have R5 := R4.keep (o5.block w.heap.size (by omega))
  have T5 := T4.keep (o5.block w2.heap.size (by omega))
  have O5 := Lib.hid (O4.out.upd (upd_of o5) (.inr (by omega)) (.inr (by omega)))
  have L5 := Lib.hid (sl_upd L4.out (upd_of o5) (by omega) (by omega))
  clear C4 R4 T4 O4 S4 o5 L4
  by_cases hv5 : v5 = 0
  · subst hv5
    have t0 := T5.b0
    have t1 := T5.b1
    have f0 := R5.b0
    have f1 := R5.b1
    have k0 := R5.free 0
    have k1 := R5.free 1
    have HCd := Lib.hid (code_of (b := b) (B := w.heap.size) (codeAt_below HC.out C5.out) ⟨rfl, rfl, rfl, Nat.le_refl _, fun _ _ _ => rfl⟩ (by omega) (src_lt S5) : CodeAt w5.drew cv len w.heap.size)
    have hTT := T5.lt
    have hRR := R5.lt
    go_wp2_with fail
    go_region_held3 (fun w' => w'.cell? ⟨w2.heap.size, 0, none⟩ = some (.slice p0 n c0) ∧ w'.cell? ⟨w2.heap.size, 1, none⟩ = some (.slice p1 m c1')) (first | exact ⟨t0, t1⟩ | exact ⟨TY.b0, TY.b1⟩ | exact ⟨TX.b0, TX.b1⟩ | exact ⟨((((mem.Only.refl w.heap.size _).setCell _ _).setCell _ _).cell (a := ⟨w2.heap.size, 0, none⟩) hTR).trans TY.b0, ((((mem.Only.refl w.heap.size _).setCell _ _).setCell _ _).cell (a := ⟨w2.heap.size, 1, none⟩) hTR).trans TY.b1⟩ | exact ⟨((((mem.Only.refl w.heap.size _).setCell _ _).setCell _ _).cell (a := ⟨w2.heap.size, 0, none⟩) hTR).trans TX.b0, ((((mem.Only.refl w.heap.size _).setCell _ _).setCell _ _).cell (a := ⟨w2.heap.size, 1, none⟩) hTR).trans TX.b1⟩ | go_keep)
      (first | (go_at_call 64; refine (level_any _ b w.heap.size cv len i5 s5 (src_upd S5 rfl : Src w5.drew b cv len i5 s5) HCd.out (by omega)).mono ?_; rintro e wx ⟨y, ix, sx, rfl, hSx, Ux⟩; have TX := (T5.keep (Ux.block w2.heap.size hTT (by omega)) : mem.Ob wx w2.heap.size 2 _); have RX := (R5.keep (Ux.block w.heap.size hRR (by omega)) : mem.Ob wx w.heap.size 2 _); have fx0 := RX.b0; have fx1 := RX.b1; have kx0 := RX.free 0; have kx1 := RX.free 1))

    all_goals
      have hzd : w5.drew.heap.size = w5.heap.size := rfl
      have zx := Ux.size
      have hO := ((mem.Only.refl w.heap.size wx).setCell 0 (.slice p0 n c0)).setCell 1 (.slice p1 m c1')
      have HO := Lib.hid ((O5.out.drew.upd Ux (.inr (by omega)) (.inr (by omega))).upd (mem.Upd.of_only hO) (.inr (by omega)) (.inr (by omega)))
      have HB := Lib.hid (mem.below_only ((mem.below_dw C5.out).trans ((Ux).below (by omega) (by rintro x _ rfl; omega))) hO (by omega))
      have HLX := Lib.hid (((sl_upd (sl_drew L5.out) Ux (by omega) (by show w2.heap.size ≤ w5.heap.size; omega)).only hO (.inl (by show w.heap.size < w1.heap.size; omega))).mono hLw (Nat.le_trans (by omega) (Nat.le_of_eq hO.size)))
      clear hO TX RX O5
      go_wp2_with fail
      refine bodyPost_ret (v := .tuple #[.agg #[.slice p0 n c0, .slice p1 m c1'], .slice pk K ck, .int .i64 x, .int .i64 y]) (by simp [results, Tryz.results28, go_sem, fx0, fx1]) rfl ?_
      exact ⟨_, n, m, N, P, b1, b2, _, K, D, x, y, rfl, hn, hm, hK, hnm, HO.out, by omega, by omega, HLX.out, HB.out⟩

  · have hv5' : (v5 == 0) = false := by simpa using hv5
    clear hv5
    have hwl : IntKind.i64.wrap (lw + 1) = lw + 1 := IntWalk.i64_in _ (by omega)
    have tabc : ∀ j, j < (#[.int .i64 lw, .int .i64 hg, .int .i64 (lw + 1)] : Array Value).size → ∃ y : Int, (#[.int .i64 lw, .int .i64 hg, .int .i64 (lw + 1)] : Array Value)[j]? = some (.int .i64 y) := by
      intro j hj
      rcases (by simp at hj; omega : j = 0 ∨ j = 1 ∨ j = 2) with rfl | rfl | rfl
      all_goals exact ⟨_, rfl⟩
    have bA := mem.below_new w5.drew (.cells #[.int .i64 lw, .int .i64 hg, .int .i64 (lw + 1)] 2)
    have tA := tabI w5.drew 2 #[.int .i64 lw, .int .i64 hg, .int .i64 (lw + 1)] tabc
    have hzd : w5.drew.heap.size = w5.heap.size := rfl
    have hltb : b < w5.drew.heap.size := (src_lt S5 : b < w5.heap.size)
    have SA : Src (w5.alloc (.cells #[.int .i64 lw, .int .i64 hg, .int .i64 (lw + 1)] 2)).drew b cv len i5 s5 := src_alloc (src_upd S5 rfl : Src w5.drew b cv len i5 s5) hltb (.cells #[.int .i64 lw, .int .i64 hg, .int .i64 (lw + 1)] 2)
    have HCd := Lib.hid (code_of (b := b) (B := w.heap.size) (codeAt_below HC.out C5.out) ⟨rfl, rfl, rfl, Nat.le_refl _, fun _ _ _ => rfl⟩ (by omega) (src_lt S5) : CodeAt w5.drew cv len w.heap.size)
    have HCA := Lib.hid (codeAt_below HCd.out (bA.mono (show w.heap.size ≤ w5.drew.heap.size by omega)) : CodeAt (w5.alloc (.cells #[.int .i64 lw, .int .i64 hg, .int .i64 (lw + 1)] 2)).drew cv len w.heap.size)
    have TA : mem.Ob (w5.alloc (.cells #[.int .i64 lw, .int .i64 hg, .int .i64 (lw + 1)] 2)).drew w2.heap.size 2 _ := (T5.keep rfl : mem.Ob w5.drew w2.heap.size 2 _).next bA
    have RA : mem.Ob (w5.alloc (.cells #[.int .i64 lw, .int .i64 hg, .int .i64 (lw + 1)] 2)).drew w.heap.size 2 _ := (R5.keep rfl : mem.Ob w5.drew w.heap.size 2 _).next bA
    have hTT := T5.lt
    have hRR := R5.lt
    have t0 := T5.b0
    have t1 := T5.b1
    have f0 := R5.b0
    have f1 := R5.b1
    have k0 := R5.free 0
    have k1 := R5.free 1
    go_wp2_with fail
    go_region_with (first | (go_at_call 63; (with_reducible refine (next_any _ b w.heap.size cv len i5 s5 3 SA HCA.out (by omega) (by omega)).mono ?_); rintro e wx ⟨v6, ix, sx, rfl, t6, ht6, hSx, ox⟩; obtain ⟨j, rfl⟩ := Int.eq_ofNat_of_zero_le t6; have hj : j < 3 := (by omega); have hj2 : (j : Int) < 3 := (by omega); have TX := (TA.keep (ox.block w2.heap.size (by omega)) : mem.Ob wx w2.heap.size 2 _); have RX := (RA.keep (ox.block w.heap.size (by omega)) : mem.Ob wx w.heap.size 2 _); have fx0 := RX.b0; have fx1 := RX.b1; have kx0 := RX.free 0; have kx1 := RX.free 1; have gx0 := TX.b0; have gx1 := TX.b1; obtain ⟨y, hy⟩ := tA j hj; have hyc : wx.cell? ⟨w5.heap.size, j, none⟩ = some (.int .i64 y) := (World.cell?_of_block (ox.block w5.heap.size (by omega))).trans hy; have WU : mem.Upd (· = b) w5.drew wx := (mem.Upd.of_below bA).trans (upd_of ox)) | (go_at_call 63; refine (next_any _ b w.heap.size cv len i5 s5 3 (src_upd S5 rfl : Src w5.drew b cv len i5 s5) HCd.out (by omega) (by omega)).mono ?_; rintro e wx ⟨v6, ix, sx, rfl, t6, ht6, hSx, ox⟩; obtain ⟨j, rfl⟩ := Int.eq_ofNat_of_zero_le t6; have hj : j < 3 := (by omega); have hj2 : (j : Int) < 3 := (by omega); have TX := (T5.keep (ox.block w2.heap.size (by omega)) : mem.Ob wx w2.heap.size 2 _); have RX := (R5.keep (ox.block w.heap.size (by omega)) : mem.Ob wx w.heap.size 2 _); have fx0 := RX.b0; have fx1 := RX.b1; have kx0 := RX.free 0; have kx1 := RX.free 1; have gx0 := TX.b0; have gx1 := TX.b1; obtain ⟨y, hyl⟩ := tabc j (by simpa using hj); have hyl2 : ([.int .i64 lw, .int .i64 hg, .int .i64 (lw + 1)] : List Value)[j] = .int .i64 y := (by simpa [hj] using hyl); have WU : mem.Upd (· = b) w5.drew wx := upd_of ox; have lRx := RX.lt; have lTx := TX.lt))
    all_goals
      have hzx := ox.size
      (first | (have zW := WU.size; have hO := ((mem.Only.refl w.heap.size wx).setCell 0 (.slice p0 n c0)).setCell 1 (.slice p1 m c1'); have HO := Lib.hid ((O5.out.drew.upd WU (.inr (by omega)) (.inr (by omega))).upd (mem.Upd.of_only hO) (.inr (by omega)) (.inr (by omega))); have HB := Lib.hid (mem.below_only ((mem.below_dw C5.out).trans (WU.below (by show w.heap.size ≤ w5.heap.size; omega) (by rintro x _ rfl; omega))) hO (by omega)); have HLX := Lib.hid (((sl_upd (sl_drew L5.out) WU (by omega) (by show w2.heap.size ≤ w5.heap.size; omega)).only hO (.inl (by omega))).mono hLw (Nat.le_trans (show w2.heap.size ≤ wx.heap.size by omega) (Nat.le_of_eq hO.size))); clear hO TX RX O5 WU; go_wp2_with fail; refine bodyPost_ret (v := .tuple #[.agg #[.slice p0 n c0, .slice p1 m c1'], .slice pk K ck, .int .i64 x, .int .i64 y]) (by simp [results, Tryz.results28, go_sem, fx0, fx1]) rfl ?_; exact ⟨_, n, m, N, P, b1, b2, _, K, D, x, y, rfl, hn, hm, hK, hnm, HO.out, by omega, by omega, HLX.out, HB.out⟩) | (have zW := WU.size; have hO := ((mem.Only.refl w.heap.size wx).setCell 0 (.slice p0 n c0)).setCell 1 (.slice p1 m c1'); have HO := Lib.hid ((O5.out.drew.upd WU (.inr (by omega)) (.inr (by omega))).upd (mem.Upd.of_only hO) (.inr (by omega)) (.inr (by omega))); have HB := Lib.hid (mem.below_only ((mem.below_dw C5.out).trans (WU.below (by show w.heap.size ≤ w5.heap.size; omega) (by rintro x _ rfl; omega))) hO (by omega)); have HLX := Lib.hid (((sl_upd (sl_drew L5.out) WU (by omega) (by show w2.heap.size ≤ w5.heap.size; omega)).only hO (.inl (by omega))).mono hLw (Nat.le_trans (show w2.heap.size ≤ wx.heap.size by omega) (Nat.le_of_eq hO.size))); have hz2 : ((wx.setCell ⟨w.heap.size, 0, none⟩ (.slice p0 n c0)).setCell ⟨w.heap.size, 1, none⟩ (.slice p1 m c1')).heap.size = wx.heap.size := hO.size.symm; have bN := mem.below_new ((wx.setCell ⟨w.heap.size, 0, none⟩ (.slice p0 n c0)).setCell ⟨w.heap.size, 1, none⟩ (.slice p1 m c1')) (.cells #[.int .i64 lw, .int .i64 hg, .int .i64 (lw + 1)] 2); have HO2 := Lib.hid (HO.out.next bN); have HLX2 := Lib.hid ((HLX.out.below bN (Nat.le_refl _)).mono (Nat.le_refl _) bN.size); have HB2 := Lib.hid (HB.out.trans (bN.mono (by omega))); clear bN HO HB HLX; clear hO TX RX O5 WU; go_wp2_with fail; refine bodyPost_ret (v := .tuple #[.agg #[.slice p0 n c0, .slice p1 m c1'], .slice pk K ck, .int .i64 x, .int .i64 y]) (by simp [results, Tryz.results28, go_sem, fx0, fx1, lRx]) rfl ?_; exact ⟨_, n, m, N, P, b1, b2, _, K, D, x, y, rfl, hn, hm, hK, hnm, HO2.out, by omega, by omega, HLX2.out, HB2.out⟩))
end Go.Proofs.YtebbnhnggjmbiaaGreat.draw
