/-
  The draws of a network, an index and a name. Conditions: as each states.
-/
import Derived.Test.YtdmcggnhnkaoeaaRows
import Derived.Test.YtdmcggnhnkaoeaaDrG
import Derived.WalkKit
import Derived.ProofKit
import Derived.Lib.Hide
import Derived.OwnWalk
import Derived.Outline
import Derived.Deep.RegionHeld3
import Derived.Deep.Cut
import Derived.Deep.RegionWith
namespace Go.Proofs.Ytdmcggnhnkaoeaa.draw
open Go.RowKit
set_option linter.unusedVariables false

set_option maxRecDepth 100000 in
set_option maxHeartbeats 4000000 in
theorem nodeDraw (w : World) (cv : Value) (len : Nat) (hc : CodeAt w cv len w.heap.size) : Calls Try.prog 64 #[cv] w (NetIdxPost w) := by
  have HC := Lib.hid hc
  have R1 := mem.boxed w (.slice none 0 0) (.slice none 0 0) 27
  have C1 := mem.below_new w (.cells #[.slice none 0 0, .slice none 0 0] 27)
  have hsz : (w.alloc (.cells #[.slice none 0 0, .slice none 0 0] 27)).heap.size = w.heap.size + 1 := by simp
  go_enter Try.func64, Try.ntmps64
  go_wp2_with fail
  generalize hW : w.alloc (.cells #[.slice none 0 0, .slice none 0 0] 27) = Wa at *
  clear hW hc
  replace hsz := Nat.le_antisymm_iff.1 hsz
  refine (from_any Wa cv len (by have := codeAt_below HC.out C1; rcases this with h | ⟨cb, co, cap, h1, h2, h3⟩; exact .inl h; exact .inr ⟨cb, co, cap, h1, by omega, h3⟩)).mono ?_
  rintro e w1 ⟨s1, rfl, hS1, B1, z1⟩
  obtain ⟨b, hbe⟩ : ∃ b, b = Wa.heap.size := ⟨_, rfl⟩
  rw [← hbe] at hS1 z1 ⊢
  replace hbe := Nat.le_antisymm_iff.1 hbe
  replace z1 := Nat.le_antisymm_iff.1 z1
  have C2 := mem.belowNext C1 B1
  have R2 := R1.next B1
  clear B1 C1 R1
  go_wp2_with fail
  refine (any_ok w1 b w.heap.size cv len 0 s1 hS1 (codeAt_below HC.out C2) (by omega)).mono ?_
  rintro e w2 ⟨v, n, m, N, P, b1, b2, i2, s2, rfl, hn, hm, hnm, hO, l1, l2, hS2, U2⟩
  obtain ⟨p0, c0, p1, c1, rfl⟩ := hO.shape
  have C3 := Lib.hid ((C2.trans (U2.below (by omega) (by rintro x _ rfl; omega))).trans ((mem.below_new w2 (.cells #[.slice p0 n c0, .slice p1 m c1] 27)).mono (by have := U2.size; omega)))
  have R3 := (R2.keep (U2.block w.heap.size (by omega) (by omega))).next (mem.below_new w2 (.cells #[.slice p0 n c0, .slice p1 m c1] 27))
  have T3 := mem.boxed w2 (.slice p0 n c0) (.slice p1 m c1) 27
  have O3 := Lib.hid (hO.next (mem.below_new w2 (.cells #[.slice p0 n c0, .slice p1 m c1] 27)))
  have S3 := src_alloc hS2 (src_lt hS2) (.cells #[.slice p0 n c0, .slice p1 m c1] 27)
  have hb2 := src_lt hS2
  have hbT : b ≠ w2.heap.size := by omega
  have hbR : b ≠ w.heap.size := by omega
  have hTR : w2.heap.size ≠ w.heap.size := by omega
  have hl1 : b < b1 := by omega
  have hl2 : b < b2 := by omega
  clear C2 R2 hO hS2 hS1
  have hU := U2.size
  clear U2
  go_wp2_with fail
  generalize hW : w2.alloc (.cells #[.slice p0 n c0, .slice p1 m c1] 27) = W3 at *
  clear hW
  have t0 := T3.b0
  have t1 := T3.b1
  have f0 := R3.b0
  have f1 := R3.b1
  have k0 := R3.free 0
  have k1 := R3.free 1
  have HC3 := Lib.hid (code_of (b := b) (B := w.heap.size) (codeAt_below HC.out C3.out) ⟨rfl, rfl, rfl, Nat.le_refl _, fun _ _ _ => rfl⟩ (by omega) (src_lt S3) : CodeAt W3.drew cv len w.heap.size)
  go_region_held3 (fun w' => w'.cell? ⟨w2.heap.size, 0, none⟩ = some (.slice p0 n c0) ∧ w'.cell? ⟨w2.heap.size, 1, none⟩ = some (.slice p1 m c1)) (first | exact ⟨t0, t1⟩ | exact ⟨TX.b0, TX.b1⟩ | exact ⟨((((mem.Only.refl w.heap.size _).setCell _ _).setCell _ _).cell (a := ⟨w2.heap.size, 0, none⟩) hTR).trans TX.b0, ((((mem.Only.refl w.heap.size _).setCell _ _).setCell _ _).cell (a := ⟨w2.heap.size, 1, none⟩) hTR).trans TX.b1⟩ | go_keep)
    (first | (go_at_call 45; refine (index_any _ b w.heap.size cv len i2 s2 n (src_upd S3 rfl : Src W3.drew b cv len i2 s2) HC3.out (by omega) (by omega)).mono ?_; rintro e wx ⟨x, ix, sx, rfl, x0, x1, hSx, ox⟩; have TX := (T3.keep (ox.block w2.heap.size (by omega)) : mem.Ob wx w2.heap.size 2 _); have RX := (R3.keep (ox.block w.heap.size (by omega)) : mem.Ob wx w.heap.size 2 _); have fx0 := RX.b0; have fx1 := RX.b1; have kx0 := RX.free 0; have kx1 := RX.free 1))
  have hO := ((mem.Only.refl w.heap.size wx).setCell 0 (.slice p0 n c0)).setCell 1 (.slice p1 m c1)
  have HO := Lib.hid ((O3.out.drew.upd (upd_of ox) (.inr (by omega)) (.inr (by omega))).upd (mem.Upd.of_only hO) (.inr (by omega)) (.inr (by omega)))
  have HB := Lib.hid (mem.below_only ((mem.below_dw C3.out).trans (only_below ox (by omega))) hO (by omega))
  clear hO ox TX RX O3
  go_wp2_with fail
  refine bodyPost_ret (v := .tuple #[.agg #[.slice p0 n c0, .slice p1 m c1], .int .i64 x]) (by simp [results, Try.results64, go_sem, fx0, fx1]) rfl ⟨_, n, m, N, P, b1, b2, x, rfl, hn, hm, hnm, HO.out, by omega, by omega, x0, x1, HB.out⟩
/-- a network, an index and a name have been drawn -/
def NetIdxStrPost (w : World) (e : Ending) (w' : World) : Prop :=
  ∃ (v : Value) (n m : Nat) (N : Nat → mem.Nod) (P : Nat → mem.Pip) (b1 b2 : Nat) (x : Int) (s : ByteArray), e = .returned (.tuple #[v, .int .i64 x, .string s]) ∧ n ≤ 1000 ∧ m ≤ 1000 ∧ (∀ i, i < n → (N i).s.size ≤ 9223372036854775807) ∧ mem.NetOwn w' v n N m P b1 b2 ∧ w.heap.size ≤ b1 ∧ w.heap.size ≤ b2 ∧ -1 ≤ x ∧ x ≤ 4000000 ∧ s.size ≤ 9223372036854775807 ∧ Below w.heap.size w w'

set_option maxRecDepth 100000 in
set_option maxHeartbeats 4000000 in
theorem renameDraw (w : World) (cv : Value) (len : Nat) (hc : CodeAt w cv len w.heap.size) : Calls Try.prog 29 #[cv] w (NetIdxStrPost w) := by
  have HC := Lib.hid hc
  have R1 := mem.boxed w (.slice none 0 0) (.slice none 0 0) 27
  have C1 := mem.below_new w (.cells #[.slice none 0 0, .slice none 0 0] 27)
  have hsz : (w.alloc (.cells #[.slice none 0 0, .slice none 0 0] 27)).heap.size = w.heap.size + 1 := by simp
  go_enter Try.func29, Try.ntmps29
  go_wp2_with fail
  generalize hW : w.alloc (.cells #[.slice none 0 0, .slice none 0 0] 27) = Wa at *
  clear hW hc
  replace hsz := Nat.le_antisymm_iff.1 hsz
  refine (from_any Wa cv len (by have := codeAt_below HC.out C1; rcases this with h | ⟨cb, co, cap, h1, h2, h3⟩; exact .inl h; exact .inr ⟨cb, co, cap, h1, by omega, h3⟩)).mono ?_
  rintro e w1 ⟨s1, rfl, hS1, B1, z1⟩
  obtain ⟨b, hbe⟩ : ∃ b, b = Wa.heap.size := ⟨_, rfl⟩
  rw [← hbe] at hS1 z1 ⊢
  replace hbe := Nat.le_antisymm_iff.1 hbe
  replace z1 := Nat.le_antisymm_iff.1 z1
  have C2 := mem.belowNext C1 B1
  have R2 := R1.next B1
  clear B1 C1 R1
  go_wp2_with fail
  refine (any_ok w1 b w.heap.size cv len 0 s1 hS1 (codeAt_below HC.out C2) (by omega)).mono ?_
  rintro e w2 ⟨v, n, m, N, P, b1, b2, i2, s2, rfl, hn, hm, hnm, hO, l1, l2, hS2, U2⟩
  obtain ⟨p0, c0, p1, c1, rfl⟩ := hO.shape
  have C3 := Lib.hid ((C2.trans (U2.below (by omega) (by rintro x _ rfl; omega))).trans ((mem.below_new w2 (.cells #[.slice p0 n c0, .slice p1 m c1] 27)).mono (by have := U2.size; omega)))
  have R3 := (R2.keep (U2.block w.heap.size (by omega) (by omega))).next (mem.below_new w2 (.cells #[.slice p0 n c0, .slice p1 m c1] 27))
  have T3 := mem.boxed w2 (.slice p0 n c0) (.slice p1 m c1) 27
  have O3 := Lib.hid (hO.next (mem.below_new w2 (.cells #[.slice p0 n c0, .slice p1 m c1] 27)))
  have S3 := src_alloc hS2 (src_lt hS2) (.cells #[.slice p0 n c0, .slice p1 m c1] 27)
  have hb2 := src_lt hS2
  have hbT : b ≠ w2.heap.size := by omega
  have hbR : b ≠ w.heap.size := by omega
  have hTR : w2.heap.size ≠ w.heap.size := by omega
  have hl1 : b < b1 := by omega
  have hl2 : b < b2 := by omega
  clear C2 R2 hO hS2 hS1
  have hU := U2.size
  clear U2
  go_wp2_with fail
  generalize hW : w2.alloc (.cells #[.slice p0 n c0, .slice p1 m c1] 27) = W3 at *
  clear hW
  have t0 := T3.b0
  have t1 := T3.b1
  have f0 := R3.b0
  have f1 := R3.b1
  have k0 := R3.free 0
  have k1 := R3.free 1
  have U0 : mem.Upd (· = b) W3 W3.drew := mem.Upd.refl _ _ |>.trans ⟨rfl, rfl, rfl, Nat.le_refl _, fun _ _ _ => rfl⟩
  have HC3 := Lib.hid (codeAt_below HC.out C3.out)
  have hlt := src_lt S3
  have hBb : w.heap.size ≤ b := by omega
  have h7 : (7 : Int) ≤ 9223372036854775807 := by omega
  have hcs : ∀ j, j < (#[.string ⟨#[120]⟩, .string ⟨#[110, 48]⟩, .string ⟨#[110, 49]⟩, .string ⟨#[]⟩, .string ⟨#[65]⟩, .string ⟨#[101, 105, 103, 104, 116, 99, 104, 97]⟩, .string ⟨#[110, 105, 110, 101, 99, 104, 97, 114, 115]⟩] : Array Value).size → ∃ y : ByteArray, y.size ≤ 9223372036854775807 ∧ (#[.string ⟨#[120]⟩, .string ⟨#[110, 48]⟩, .string ⟨#[110, 49]⟩, .string ⟨#[]⟩, .string ⟨#[65]⟩, .string ⟨#[101, 105, 103, 104, 116, 99, 104, 97]⟩, .string ⟨#[110, 105, 110, 101, 99, 104, 97, 114, 115]⟩] : Array Value)[j]? = some (.string y) := by
    intro j hj
    rcases (by simp at hj; omega : j = 0 ∨ j = 1 ∨ j = 2 ∨ j = 3 ∨ j = 4 ∨ j = 5 ∨ j = 6) with rfl | rfl | rfl | rfl | rfl | rfl | rfl
    all_goals exact ⟨_, by decide, rfl⟩
  have hAny : ∀ X : World, mem.Upd (· = b) W3 X → X.cell? ⟨w2.heap.size, 0, none⟩ = some (.slice p0 n c0) ∧ X.cell? ⟨w2.heap.size, 1, none⟩ = some (.slice p1 m c1) := fun X h => ⟨(T3.keep (h.block _ T3.lt (by omega))).b0, (T3.keep (h.block _ T3.lt (by omega))).b1⟩
  have hCode : ∀ X : World, mem.Upd (· = b) W3 X → CodeAt X cv len w.heap.size := fun X h => code_of HC3.out h hBb hlt
  have hDw : ∀ X : World, mem.Upd (· = b) W3 X → mem.Upd (· = b) W3 X.drew := fun X h => upd_dw' h
  have hAl : ∀ (X : World) (o : Obj), mem.Upd (· = b) W3 X → mem.Upd (· = b) W3 (X.alloc o) := fun X o h => h.trans (mem.Upd.of_below (mem.below_new X o))
  have hOn : ∀ (X Y : World), mem.Upd (· = b) W3 X → Only b X Y → mem.Upd (· = b) W3 Y := fun X Y h g => h.trans (upd_of g)
  have hSz : ∀ X : World, mem.Upd (· = b) W3 X → b < X.heap.size := fun X h => Nat.lt_of_lt_of_le hlt h.size
  have S30 := (src_upd S3 rfl : Src W3.drew b cv len i2 s2)
  have UA : mem.Upd (· = b) W3 (W3.alloc (Obj.cells #[.string ⟨#[120]⟩, .string ⟨#[110, 48]⟩, .string ⟨#[110, 49]⟩, .string ⟨#[]⟩, .string ⟨#[65]⟩, .string ⟨#[101, 105, 103, 104, 116, 99, 104, 97]⟩, .string ⟨#[110, 105, 110, 101, 99, 104, 97, 114, 115]⟩] 9)).drew := hDw _ (hAl W3 (Obj.cells #[.string ⟨#[120]⟩, .string ⟨#[110, 48]⟩, .string ⟨#[110, 49]⟩, .string ⟨#[]⟩, .string ⟨#[65]⟩, .string ⟨#[101, 105, 103, 104, 116, 99, 104, 97]⟩, .string ⟨#[110, 105, 110, 101, 99, 104, 97, 114, 115]⟩] 9) (mem.Upd.refl _ _))
  have SA : Src (W3.alloc (Obj.cells #[.string ⟨#[120]⟩, .string ⟨#[110, 48]⟩, .string ⟨#[110, 49]⟩, .string ⟨#[]⟩, .string ⟨#[65]⟩, .string ⟨#[101, 105, 103, 104, 116, 99, 104, 97]⟩, .string ⟨#[110, 105, 110, 101, 99, 104, 97, 114, 115]⟩] 9)).drew b cv len i2 s2 := src_upd (src_alloc S3 hlt (Obj.cells #[.string ⟨#[120]⟩, .string ⟨#[110, 48]⟩, .string ⟨#[110, 49]⟩, .string ⟨#[]⟩, .string ⟨#[65]⟩, .string ⟨#[101, 105, 103, 104, 116, 99, 104, 97]⟩, .string ⟨#[110, 105, 110, 101, 99, 104, 97, 114, 115]⟩] 9)) rfl
  have hne : W3.heap.size ≠ b := by omega
  have hT3 := T3.lt
  refine wp_region_held_drew (S := fun w' => w'.cell? ⟨w2.heap.size, 0, none⟩ = some (.slice p0 n c0) ∧ w'.cell? ⟨w2.heap.size, 1, none⟩ = some (.slice p1 m c1)) (by kernel_rfl) ⟨t0, t1⟩ (fun hHeld => ?_)
  refine wpAnyH_take (i := 0) (v := ?_) nth0 (by kernel_rfl) (by kernel_rfl) (by kernel_rfl) (fun _ _ _ h => h) (Or.inl ⟨by rfl, ?_⟩) (by assumption) ?_
  rotate_left
  · intro w hSw; (try dsimp only at hSw); go_simp; try with_reducible rfl
  try simp only [Act.put, List.setIfInBounds_toArray, List.set_cons_zero, List.set_cons_succ]
  refine wpAnyH_take (i := 1) (v := ?_) nth1 (by kernel_rfl) (by kernel_rfl) (by kernel_rfl) (fun _ _ _ h => h) (Or.inl ⟨by rfl, ?_⟩) (by assumption) ?_
  rotate_left
  · intro w hSw; (try dsimp only at hSw); go_simp; try with_reducible rfl
  try simp only [Act.put, List.setIfInBounds_toArray, List.set_cons_zero, List.set_cons_succ]
  refine wpAnyH_take (i := 2) (v := ?_) nth2 (by kernel_rfl) (by kernel_rfl) (by kernel_rfl) (fun _ _ _ h => h) (Or.inl ⟨by rfl, ?_⟩) (by assumption) ?_
  rotate_left
  · intro w hSw; (try dsimp only at hSw); go_simp; try with_reducible rfl
  try simp only [Act.put, List.setIfInBounds_toArray, List.set_cons_zero, List.set_cons_succ]
  refine wpAnyH_take (i := 3) (v := ?_) nth3 (by kernel_rfl) (by kernel_rfl) (by kernel_rfl) (fun _ _ _ h => h) (Or.inl ⟨by rfl, ?_⟩) (by assumption) ?_
  rotate_left
  · intro w hSw; (try dsimp only at hSw); go_simp; try with_reducible rfl
  try simp only [Act.put, List.setIfInBounds_toArray, List.set_cons_zero, List.set_cons_succ]
  refine wpAnyH_take (i := 4) (v := ?_) nth4 (by kernel_rfl) (by kernel_rfl) (by kernel_rfl) (fun _ _ _ h => h) (Or.inl ⟨by rfl, ?_⟩) (by assumption) ?_
  rotate_left
  · intro w hSw; (try dsimp only at hSw); go_simp; try with_reducible rfl
  try simp only [Act.put, List.setIfInBounds_toArray, List.set_cons_zero, List.set_cons_succ]
  refine wpAnyH_take (i := 7) (v := ?_) nth7 (by kernel_rfl) (by kernel_rfl) (by kernel_rfl) (fun _ _ _ h => h) (Or.inl ⟨by rfl, ?_⟩) (by assumption) ?_
  rotate_left
  · intro w hSw; (try dsimp only at hSw); go_simp; try with_reducible rfl
  try simp only [Act.put, List.setIfInBounds_toArray, List.set_cons_zero, List.set_cons_succ]
  refine wpAnyH_ready (rs := [5, 6]) (by kernel_rfl) (by simp) ?_
  refine (AllReadyH.cons nth5 (fun K hK => ?_) (AllReadyH.cons nth6 (fun K hK => ?_) AllReadyH.nil))
  · go_simp
    go_at_call 45
    refine (index_any _ b w.heap.size cv len i2 s2 n S30 (hCode _ (hDw _ (mem.Upd.refl _ _))) hBb (by omega)).mono ?_
    rintro e wx ⟨x, ix, sx, rfl, x0, x1, SX, ox⟩
    have UX := hOn _ _ (hDw _ (mem.Upd.refl _ _)) ox
    refine hK.out _ _ ?_ (fun hHeld => ?_)
    · exact hAny _ UX
    clear hK K
    try simp only [Act.put, List.setIfInBounds_toArray, List.set_cons_zero, List.set_cons_succ]
    have UB := hAl wx (Obj.cells #[.string ⟨#[120]⟩, .string ⟨#[110, 48]⟩, .string ⟨#[110, 49]⟩, .string ⟨#[]⟩, .string ⟨#[65]⟩, .string ⟨#[101, 105, 103, 104, 116, 99, 104, 97]⟩, .string ⟨#[110, 105, 110, 101, 99, 104, 97, 114, 115]⟩] 9) UX
    have SB := src_alloc SX (hSz _ UX) (Obj.cells #[.string ⟨#[120]⟩, .string ⟨#[110, 48]⟩, .string ⟨#[110, 49]⟩, .string ⟨#[]⟩, .string ⟨#[65]⟩, .string ⟨#[101, 105, 103, 104, 116, 99, 104, 97]⟩, .string ⟨#[110, 105, 110, 101, 99, 104, 97, 114, 115]⟩] 9)
    refine wpAnyH_ready (rs := [6, 8]) (by kernel_rfl) (by simp) ?_
    refine (AllReadyH.cons nth6 (fun K hK => ?_) (AllReadyH.cons nth8 (fun K hK => ?_) AllReadyH.nil))
    · go_simp
      refine hK.out _ _ ?_ (fun hHeld => ?_)
      · exact hAny _ UB
      clear hK K
      try simp only [Act.put, List.setIfInBounds_toArray, List.set_cons_zero, List.set_cons_succ]
      refine wpAnyH_ready (rs := [8]) (by kernel_rfl) (by simp) ?_
      refine (AllReadyH.cons nth8 (fun K hK => ?_) AllReadyH.nil)
      go_simp
      go_at_call 52
      refine (next_any _ b w.heap.size cv len ix sx 7 SB (hCode _ UB) hBb h7).mono ?_
      rintro e wy ⟨y0, iy, sy, rfl, q0, q1, SY, oy⟩
      obtain ⟨jx, rfl⟩ := Int.eq_ofNat_of_zero_le q0
      have hjx : jx < 7 := by omega
      have hjI : (jx : Int) < 7 := by omega
      have UY := hOn _ _ UB oy
      obtain ⟨y, hys, hy⟩ := tabS wx 9 _ hcs jx hjx
      have hy2 : wy.cell? ⟨wx.heap.size, jx, none⟩ = some (.string y) := (World.cell?_of_block (oy.block wx.heap.size (by have := hSz _ UX; omega))).trans hy
      have hxz := UX.size
      have UZ := UY
      refine hK.out _ _ ?_ (fun hHeld => ?_)
      · exact hAny _ UY
      clear hK K
      try simp only [Act.put, List.setIfInBounds_toArray, List.set_cons_zero, List.set_cons_succ]
      refine wpAnyH_take (i := 9) (v := ?_) nth9 (by kernel_rfl) (by kernel_rfl) (by kernel_rfl) (fun _ _ _ h => h) (Or.inl ⟨by rfl, ?_⟩) (by assumption) ?_
      rotate_left
      · intro w hSw; (try dsimp only at hSw); go_simp; try with_reducible rfl
      try simp only [Act.put, List.setIfInBounds_toArray, List.set_cons_zero, List.set_cons_succ]
      refine wpAnyH_ready (rs := [10, 11]) (by kernel_rfl) (by simp) ?_
      refine (AllReadyH.cons nth10 (fun K hK => ?_) (AllReadyH.cons nth11 (fun K hK => ?_) AllReadyH.nil))
      · go_simp
        refine hK.out _ _ ?_ (fun hHeld => ?_)
        · exact hAny _ UZ
        clear hK K
        try simp only [Act.put, List.setIfInBounds_toArray, List.set_cons_zero, List.set_cons_succ]
        refine wpAnyH_ready (rs := [11]) (by kernel_rfl) (by simp) ?_
        refine (AllReadyH.cons nth11 (fun K hK => ?_) AllReadyH.nil)
        have RZ := R3.keep (UZ.block _ R3.lt (by omega))
        clear f0 f1 k0 k1
        have f0 := RZ.b0
        have f1 := RZ.b1
        have k0 := RZ.free 0
        have k1 := RZ.free 1
        have RS := (RZ.set 0 (.slice p0 n c0) (by omega)).set 1 (.slice p1 m c1) (by omega)
        have hO := ((mem.Only.refl w.heap.size wy).setCell 0 (.slice p0 n c0)).setCell 1 (.slice p1 m c1)
        have HOS := Lib.hid ((O3.out.upd UZ (.inr (by omega)) (.inr (by omega))).upd (mem.Upd.of_only hO) (.inr (by omega)) (.inr (by omega)))
        have HBS := Lib.hid (mem.below_only (C3.out.trans (UZ.below (by omega) (by rintro q _ rfl; omega))) hO (by omega))
        have TS := And.intro ((hO.cell (a := ⟨w2.heap.size, 0, none⟩) hTR).trans (hAny _ UZ).1) ((hO.cell (a := ⟨w2.heap.size, 1, none⟩) hTR).trans (hAny _ UZ).2)
        have hyS := (hO.cell (a := ⟨wx.heap.size, jx, none⟩) (by show wx.heap.size ≠ w.heap.size; omega)).trans hy2
        clear RZ hO
        go_simp
        refine hK.out _ _ ?_ (fun hHeld => ?_)
        · exact TS
        clear hK K
        try simp only [Act.put, List.setIfInBounds_toArray, List.set_cons_zero, List.set_cons_succ]
        clear f0 f1 k0 k1
        generalize hW : (wy.setCell ⟨w.heap.size, 0, none⟩ (.slice p0 n c0)).setCell ⟨w.heap.size, 1, none⟩ (.slice p1 m c1) = WS at *
        clear hW
        have g0 : WS.cell? ⟨w.heap.size, 0, none⟩ = some (.slice p0 n c0) := RS.cell 0 (by omega)
        have g1 : WS.cell? ⟨w.heap.size, 1, none⟩ = some (.slice p1 m c1) := RS.cell 1 (by omega)
        refine wpAnyH_take (i := 12) (v := ?_) nth12 (by kernel_rfl) (by kernel_rfl) (by kernel_rfl) (fun _ _ _ h => h) (Or.inl ⟨by rfl, ?_⟩) (by assumption) ?_
        rotate_left
        · intro w hSw; (try dsimp only at hSw); go_simp; try with_reducible rfl
        try simp only [Act.put, List.setIfInBounds_toArray, List.set_cons_zero, List.set_cons_succ]
        refine wpAnyH_take (i := 13) (v := ?_) nth13 (by kernel_rfl) (by kernel_rfl) (by kernel_rfl) (fun _ _ _ h => h) (Or.inl ⟨by rfl, ?_⟩) (by assumption) ?_
        rotate_left
        · intro w hSw; (try dsimp only at hSw); go_simp; try with_reducible rfl
        try simp only [Act.put, List.setIfInBounds_toArray, List.set_cons_zero, List.set_cons_succ]
        refine wpAnyH_done (by kernel_rfl) ?_ _
        go_wp2_with fail
        refine bodyPost_ret (v := .tuple #[.agg #[.slice p0 n c0, .slice p1 m c1], .int .i64 x, .string y]) (by simp [results, Try.results29, go_sem, g0, g1]) rfl ⟨_, n, m, N, P, b1, b2, x, y, rfl, hn, hm, hnm, HOS.out, by omega, by omega, x0, x1, hys, HBS.out⟩
      · have RZ := R3.keep (UZ.block _ R3.lt (by omega))
        clear f0 f1 k0 k1
        have f0 := RZ.b0
        have f1 := RZ.b1
        have k0 := RZ.free 0
        have k1 := RZ.free 1
        have RS := (RZ.set 0 (.slice p0 n c0) (by omega)).set 1 (.slice p1 m c1) (by omega)
        have hO := ((mem.Only.refl w.heap.size wy).setCell 0 (.slice p0 n c0)).setCell 1 (.slice p1 m c1)
        have HOS := Lib.hid ((O3.out.upd UZ (.inr (by omega)) (.inr (by omega))).upd (mem.Upd.of_only hO) (.inr (by omega)) (.inr (by omega)))
        have HBS := Lib.hid (mem.below_only (C3.out.trans (UZ.below (by omega) (by rintro q _ rfl; omega))) hO (by omega))
        have TS := And.intro ((hO.cell (a := ⟨w2.heap.size, 0, none⟩) hTR).trans (hAny _ UZ).1) ((hO.cell (a := ⟨w2.heap.size, 1, none⟩) hTR).trans (hAny _ UZ).2)
        have hyS := (hO.cell (a := ⟨wx.heap.size, jx, none⟩) (by show wx.heap.size ≠ w.heap.size; omega)).trans hy2
        clear RZ hO
        go_simp
        refine hK.out _ _ ?_ (fun hHeld => ?_)
        · exact TS
        clear hK K
        try simp only [Act.put, List.setIfInBounds_toArray, List.set_cons_zero, List.set_cons_succ]
        clear f0 f1 k0 k1
        generalize hW : (wy.setCell ⟨w.heap.size, 0, none⟩ (.slice p0 n c0)).setCell ⟨w.heap.size, 1, none⟩ (.slice p1 m c1) = WS at *
        clear hW
        have g0 : WS.cell? ⟨w.heap.size, 0, none⟩ = some (.slice p0 n c0) := RS.cell 0 (by omega)
        have g1 : WS.cell? ⟨w.heap.size, 1, none⟩ = some (.slice p1 m c1) := RS.cell 1 (by omega)
        refine wpAnyH_take (i := 12) (v := ?_) nth12 (by kernel_rfl) (by kernel_rfl) (by kernel_rfl) (fun _ _ _ h => h) (Or.inl ⟨by rfl, ?_⟩) (by assumption) ?_
        rotate_left
        · intro w hSw; (try dsimp only at hSw); go_simp; try with_reducible rfl
        try simp only [Act.put, List.setIfInBounds_toArray, List.set_cons_zero, List.set_cons_succ]
        refine wpAnyH_ready (rs := [10]) (by kernel_rfl) (by simp) ?_
        refine (AllReadyH.cons nth10 (fun K hK => ?_) AllReadyH.nil)
        go_simp
        refine hK.out _ _ ?_ (fun hHeld => ?_)
        · exact TS
        clear hK K
        try simp only [Act.put, List.setIfInBounds_toArray, List.set_cons_zero, List.set_cons_succ]
        refine wpAnyH_take (i := 13) (v := ?_) nth13 (by kernel_rfl) (by kernel_rfl) (by kernel_rfl) (fun _ _ _ h => h) (Or.inl ⟨by rfl, ?_⟩) (by assumption) ?_
        rotate_left
        · intro w hSw; (try dsimp only at hSw); go_simp; try with_reducible rfl
        try simp only [Act.put, List.setIfInBounds_toArray, List.set_cons_zero, List.set_cons_succ]
        refine wpAnyH_done (by kernel_rfl) ?_ _
        go_wp2_with fail
        refine bodyPost_ret (v := .tuple #[.agg #[.slice p0 n c0, .slice p1 m c1], .int .i64 x, .string y]) (by simp [results, Try.results29, go_sem, g0, g1]) rfl ⟨_, n, m, N, P, b1, b2, x, y, rfl, hn, hm, hnm, HOS.out, by omega, by omega, x0, x1, hys, HBS.out⟩
    · go_simp
      go_at_call 52
      refine (next_any _ b w.heap.size cv len ix sx 7 SX (hCode _ UX) hBb h7).mono ?_
      rintro e wy ⟨y0, iy, sy, rfl, q0, q1, SY, oy⟩
      obtain ⟨jx, rfl⟩ := Int.eq_ofNat_of_zero_le q0
      have hjx : jx < 7 := by omega
      have hjI : (jx : Int) < 7 := by omega
      have UY := hOn _ _ UX oy
      refine hK.out _ _ ?_ (fun hHeld => ?_)
      · exact hAny _ UY
      clear hK K
      try simp only [Act.put, List.setIfInBounds_toArray, List.set_cons_zero, List.set_cons_succ]
      have UZ := hAl wy (Obj.cells #[.string ⟨#[120]⟩, .string ⟨#[110, 48]⟩, .string ⟨#[110, 49]⟩, .string ⟨#[]⟩, .string ⟨#[65]⟩, .string ⟨#[101, 105, 103, 104, 116, 99, 104, 97]⟩, .string ⟨#[110, 105, 110, 101, 99, 104, 97, 114, 115]⟩] 9) UY
      refine wpAnyH_ready (rs := [6, 11]) (by kernel_rfl) (by simp) ?_
      refine (AllReadyH.cons nth6 (fun K hK => ?_) (AllReadyH.cons nth11 (fun K hK => ?_) AllReadyH.nil))
      · go_simp
        refine hK.out _ _ ?_ (fun hHeld => ?_)
        · exact hAny _ UZ
        clear hK K
        try simp only [Act.put, List.setIfInBounds_toArray, List.set_cons_zero, List.set_cons_succ]
        obtain ⟨y, hys, hy⟩ := tabS wy 9 _ hcs jx hjx
        have hy2 := hy
        have hyz := UY.size
        generalize hWZ : (wy.alloc (Obj.cells #[.string ⟨#[120]⟩, .string ⟨#[110, 48]⟩, .string ⟨#[110, 49]⟩, .string ⟨#[]⟩, .string ⟨#[65]⟩, .string ⟨#[101, 105, 103, 104, 116, 99, 104, 97]⟩, .string ⟨#[110, 105, 110, 101, 99, 104, 97, 114, 115]⟩] 9)) = WZ at *
        clear hWZ
        refine wpAnyH_take (i := 9) (v := ?_) nth9 (by kernel_rfl) (by kernel_rfl) (by kernel_rfl) (fun _ _ _ h => h) (Or.inl ⟨by rfl, ?_⟩) (by assumption) ?_
        rotate_left
        · intro w hSw; (try dsimp only at hSw); go_simp; try with_reducible rfl
        try simp only [Act.put, List.setIfInBounds_toArray, List.set_cons_zero, List.set_cons_succ]
        refine wpAnyH_ready (rs := [10, 11]) (by kernel_rfl) (by simp) ?_
        refine (AllReadyH.cons nth10 (fun K hK => ?_) (AllReadyH.cons nth11 (fun K hK => ?_) AllReadyH.nil))
        · go_simp
          refine hK.out _ _ ?_ (fun hHeld => ?_)
          · exact hAny _ UZ
          clear hK K
          try simp only [Act.put, List.setIfInBounds_toArray, List.set_cons_zero, List.set_cons_succ]
          refine wpAnyH_ready (rs := [11]) (by kernel_rfl) (by simp) ?_
          refine (AllReadyH.cons nth11 (fun K hK => ?_) AllReadyH.nil)
          have RZ := R3.keep (UZ.block _ R3.lt (by omega))
          clear f0 f1 k0 k1
          have f0 := RZ.b0
          have f1 := RZ.b1
          have k0 := RZ.free 0
          have k1 := RZ.free 1
          have RS := (RZ.set 0 (.slice p0 n c0) (by omega)).set 1 (.slice p1 m c1) (by omega)
          have hO := ((mem.Only.refl w.heap.size WZ).setCell 0 (.slice p0 n c0)).setCell 1 (.slice p1 m c1)
          have HOS := Lib.hid ((O3.out.upd UZ (.inr (by omega)) (.inr (by omega))).upd (mem.Upd.of_only hO) (.inr (by omega)) (.inr (by omega)))
          have HBS := Lib.hid (mem.below_only (C3.out.trans (UZ.below (by omega) (by rintro q _ rfl; omega))) hO (by omega))
          have TS := And.intro ((hO.cell (a := ⟨w2.heap.size, 0, none⟩) hTR).trans (hAny _ UZ).1) ((hO.cell (a := ⟨w2.heap.size, 1, none⟩) hTR).trans (hAny _ UZ).2)
          have hyS := (hO.cell (a := ⟨wy.heap.size, jx, none⟩) (by show wy.heap.size ≠ w.heap.size; omega)).trans hy2
          clear RZ hO
          go_simp
          refine hK.out _ _ ?_ (fun hHeld => ?_)
          · exact TS
          clear hK K
          try simp only [Act.put, List.setIfInBounds_toArray, List.set_cons_zero, List.set_cons_succ]
          clear f0 f1 k0 k1
          generalize hW : (WZ.setCell ⟨w.heap.size, 0, none⟩ (.slice p0 n c0)).setCell ⟨w.heap.size, 1, none⟩ (.slice p1 m c1) = WS at *
          clear hW
          have g0 : WS.cell? ⟨w.heap.size, 0, none⟩ = some (.slice p0 n c0) := RS.cell 0 (by omega)
          have g1 : WS.cell? ⟨w.heap.size, 1, none⟩ = some (.slice p1 m c1) := RS.cell 1 (by omega)
          refine wpAnyH_take (i := 12) (v := ?_) nth12 (by kernel_rfl) (by kernel_rfl) (by kernel_rfl) (fun _ _ _ h => h) (Or.inl ⟨by rfl, ?_⟩) (by assumption) ?_
          rotate_left
          · intro w hSw; (try dsimp only at hSw); go_simp; try with_reducible rfl
          try simp only [Act.put, List.setIfInBounds_toArray, List.set_cons_zero, List.set_cons_succ]
          refine wpAnyH_take (i := 13) (v := ?_) nth13 (by kernel_rfl) (by kernel_rfl) (by kernel_rfl) (fun _ _ _ h => h) (Or.inl ⟨by rfl, ?_⟩) (by assumption) ?_
          rotate_left
          · intro w hSw; (try dsimp only at hSw); go_simp; try with_reducible rfl
          try simp only [Act.put, List.setIfInBounds_toArray, List.set_cons_zero, List.set_cons_succ]
          refine wpAnyH_done (by kernel_rfl) ?_ _
          go_wp2_with fail
          refine bodyPost_ret (v := .tuple #[.agg #[.slice p0 n c0, .slice p1 m c1], .int .i64 x, .string y]) (by simp [results, Try.results29, go_sem, g0, g1]) rfl ⟨_, n, m, N, P, b1, b2, x, y, rfl, hn, hm, hnm, HOS.out, by omega, by omega, x0, x1, hys, HBS.out⟩
        · have RZ := R3.keep (UZ.block _ R3.lt (by omega))
          clear f0 f1 k0 k1
          have f0 := RZ.b0
          have f1 := RZ.b1
          have k0 := RZ.free 0
          have k1 := RZ.free 1
          have RS := (RZ.set 0 (.slice p0 n c0) (by omega)).set 1 (.slice p1 m c1) (by omega)
          have hO := ((mem.Only.refl w.heap.size WZ).setCell 0 (.slice p0 n c0)).setCell 1 (.slice p1 m c1)
          have HOS := Lib.hid ((O3.out.upd UZ (.inr (by omega)) (.inr (by omega))).upd (mem.Upd.of_only hO) (.inr (by omega)) (.inr (by omega)))
          have HBS := Lib.hid (mem.below_only (C3.out.trans (UZ.below (by omega) (by rintro q _ rfl; omega))) hO (by omega))
          have TS := And.intro ((hO.cell (a := ⟨w2.heap.size, 0, none⟩) hTR).trans (hAny _ UZ).1) ((hO.cell (a := ⟨w2.heap.size, 1, none⟩) hTR).trans (hAny _ UZ).2)
          have hyS := (hO.cell (a := ⟨wy.heap.size, jx, none⟩) (by show wy.heap.size ≠ w.heap.size; omega)).trans hy2
          clear RZ hO
          go_simp
          refine hK.out _ _ ?_ (fun hHeld => ?_)
          · exact TS
          clear hK K
          try simp only [Act.put, List.setIfInBounds_toArray, List.set_cons_zero, List.set_cons_succ]
          clear f0 f1 k0 k1
          generalize hW : (WZ.setCell ⟨w.heap.size, 0, none⟩ (.slice p0 n c0)).setCell ⟨w.heap.size, 1, none⟩ (.slice p1 m c1) = WS at *
          clear hW
          have g0 : WS.cell? ⟨w.heap.size, 0, none⟩ = some (.slice p0 n c0) := RS.cell 0 (by omega)
          have g1 : WS.cell? ⟨w.heap.size, 1, none⟩ = some (.slice p1 m c1) := RS.cell 1 (by omega)
          refine wpAnyH_take (i := 12) (v := ?_) nth12 (by kernel_rfl) (by kernel_rfl) (by kernel_rfl) (fun _ _ _ h => h) (Or.inl ⟨by rfl, ?_⟩) (by assumption) ?_
          rotate_left
          · intro w hSw; (try dsimp only at hSw); go_simp; try with_reducible rfl
          try simp only [Act.put, List.setIfInBounds_toArray, List.set_cons_zero, List.set_cons_succ]
          refine wpAnyH_ready (rs := [10]) (by kernel_rfl) (by simp) ?_
          refine (AllReadyH.cons nth10 (fun K hK => ?_) AllReadyH.nil)
          go_simp
          refine hK.out _ _ ?_ (fun hHeld => ?_)
          · exact TS
          clear hK K
          try simp only [Act.put, List.setIfInBounds_toArray, List.set_cons_zero, List.set_cons_succ]
          refine wpAnyH_take (i := 13) (v := ?_) nth13 (by kernel_rfl) (by kernel_rfl) (by kernel_rfl) (fun _ _ _ h => h) (Or.inl ⟨by rfl, ?_⟩) (by assumption) ?_
          rotate_left
          · intro w hSw; (try dsimp only at hSw); go_simp; try with_reducible rfl
          try simp only [Act.put, List.setIfInBounds_toArray, List.set_cons_zero, List.set_cons_succ]
          refine wpAnyH_done (by kernel_rfl) ?_ _
          go_wp2_with fail
          refine bodyPost_ret (v := .tuple #[.agg #[.slice p0 n c0, .slice p1 m c1], .int .i64 x, .string y]) (by simp [results, Try.results29, go_sem, g0, g1]) rfl ⟨_, n, m, N, P, b1, b2, x, y, rfl, hn, hm, hnm, HOS.out, by omega, by omega, x0, x1, hys, HBS.out⟩
      · have hyz := UY.size
        clear UZ
        have UZ := UY
        have RZ := R3.keep (UZ.block _ R3.lt (by omega))
        clear f0 f1 k0 k1
        have f0 := RZ.b0
        have f1 := RZ.b1
        have k0 := RZ.free 0
        have k1 := RZ.free 1
        have RS := (RZ.set 0 (.slice p0 n c0) (by omega)).set 1 (.slice p1 m c1) (by omega)
        have hO := ((mem.Only.refl w.heap.size wy).setCell 0 (.slice p0 n c0)).setCell 1 (.slice p1 m c1)
        have HOS := Lib.hid ((O3.out.upd UZ (.inr (by omega)) (.inr (by omega))).upd (mem.Upd.of_only hO) (.inr (by omega)) (.inr (by omega)))
        have HBS := Lib.hid (mem.below_only (C3.out.trans (UZ.below (by omega) (by rintro q _ rfl; omega))) hO (by omega))
        have TS := And.intro ((hO.cell (a := ⟨w2.heap.size, 0, none⟩) hTR).trans (hAny _ UZ).1) ((hO.cell (a := ⟨w2.heap.size, 1, none⟩) hTR).trans (hAny _ UZ).2)
        have hzS : wy.heap.size ≤ ((wy.setCell ⟨w.heap.size, 0, none⟩ (.slice p0 n c0)).setCell ⟨w.heap.size, 1, none⟩ (.slice p1 m c1)).heap.size ∧ ((wy.setCell ⟨w.heap.size, 0, none⟩ (.slice p0 n c0)).setCell ⟨w.heap.size, 1, none⟩ (.slice p1 m c1)).heap.size ≤ wy.heap.size := by rw [hO.size]; exact ⟨Nat.le_refl _, Nat.le_refl _⟩
        clear RZ hO
        go_simp
        refine hK.out _ _ ?_ (fun hHeld => ?_)
        · exact TS
        clear hK K
        try simp only [Act.put, List.setIfInBounds_toArray, List.set_cons_zero, List.set_cons_succ]
        clear f0 f1 k0 k1
        generalize hW : (wy.setCell ⟨w.heap.size, 0, none⟩ (.slice p0 n c0)).setCell ⟨w.heap.size, 1, none⟩ (.slice p1 m c1) = WS at *
        clear hW
        have g0 : WS.cell? ⟨w.heap.size, 0, none⟩ = some (.slice p0 n c0) := RS.cell 0 (by omega)
        have g1 : WS.cell? ⟨w.heap.size, 1, none⟩ = some (.slice p1 m c1) := RS.cell 1 (by omega)
        refine wpAnyH_take (i := 12) (v := ?_) nth12 (by kernel_rfl) (by kernel_rfl) (by kernel_rfl) (fun _ _ _ h => h) (Or.inl ⟨by rfl, ?_⟩) (by assumption) ?_
        rotate_left
        · intro w hSw; (try dsimp only at hSw); go_simp; try with_reducible rfl
        try simp only [Act.put, List.setIfInBounds_toArray, List.set_cons_zero, List.set_cons_succ]
        refine wpAnyH_ready (rs := [6]) (by kernel_rfl) (by simp) ?_
        refine (AllReadyH.cons nth6 (fun K hK => ?_) AllReadyH.nil)
        obtain ⟨y, hys, hy⟩ := tabS WS 9 _ hcs jx hjx
        have TA := And.intro ((World.cell?_of_block (mem.below_new WS (Obj.cells #[.string ⟨#[120]⟩, .string ⟨#[110, 48]⟩, .string ⟨#[110, 49]⟩, .string ⟨#[]⟩, .string ⟨#[65]⟩, .string ⟨#[101, 105, 103, 104, 116, 99, 104, 97]⟩, .string ⟨#[110, 105, 110, 101, 99, 104, 97, 114, 115]⟩] 9) |>.block w2.heap.size (by omega))).trans TS.1 : (WS.alloc (Obj.cells #[.string ⟨#[120]⟩, .string ⟨#[110, 48]⟩, .string ⟨#[110, 49]⟩, .string ⟨#[]⟩, .string ⟨#[65]⟩, .string ⟨#[101, 105, 103, 104, 116, 99, 104, 97]⟩, .string ⟨#[110, 105, 110, 101, 99, 104, 97, 114, 115]⟩] 9)).cell? ⟨w2.heap.size, 0, none⟩ = _) ((World.cell?_of_block (mem.below_new WS (Obj.cells #[.string ⟨#[120]⟩, .string ⟨#[110, 48]⟩, .string ⟨#[110, 49]⟩, .string ⟨#[]⟩, .string ⟨#[65]⟩, .string ⟨#[101, 105, 103, 104, 116, 99, 104, 97]⟩, .string ⟨#[110, 105, 110, 101, 99, 104, 97, 114, 115]⟩] 9) |>.block w2.heap.size (by omega))).trans TS.2 : (WS.alloc (Obj.cells #[.string ⟨#[120]⟩, .string ⟨#[110, 48]⟩, .string ⟨#[110, 49]⟩, .string ⟨#[]⟩, .string ⟨#[65]⟩, .string ⟨#[101, 105, 103, 104, 116, 99, 104, 97]⟩, .string ⟨#[110, 105, 110, 101, 99, 104, 97, 114, 115]⟩] 9)).cell? ⟨w2.heap.size, 1, none⟩ = _)
        have g0' := (World.cell?_of_block (mem.below_new WS (Obj.cells #[.string ⟨#[120]⟩, .string ⟨#[110, 48]⟩, .string ⟨#[110, 49]⟩, .string ⟨#[]⟩, .string ⟨#[65]⟩, .string ⟨#[101, 105, 103, 104, 116, 99, 104, 97]⟩, .string ⟨#[110, 105, 110, 101, 99, 104, 97, 114, 115]⟩] 9) |>.block w.heap.size (by omega)) : (WS.alloc (Obj.cells #[.string ⟨#[120]⟩, .string ⟨#[110, 48]⟩, .string ⟨#[110, 49]⟩, .string ⟨#[]⟩, .string ⟨#[65]⟩, .string ⟨#[101, 105, 103, 104, 116, 99, 104, 97]⟩, .string ⟨#[110, 105, 110, 101, 99, 104, 97, 114, 115]⟩] 9)).cell? ⟨w.heap.size, 0, none⟩ = _).trans g0
        have g1' := (World.cell?_of_block (mem.below_new WS (Obj.cells #[.string ⟨#[120]⟩, .string ⟨#[110, 48]⟩, .string ⟨#[110, 49]⟩, .string ⟨#[]⟩, .string ⟨#[65]⟩, .string ⟨#[101, 105, 103, 104, 116, 99, 104, 97]⟩, .string ⟨#[110, 105, 110, 101, 99, 104, 97, 114, 115]⟩] 9) |>.block w.heap.size (by omega)) : (WS.alloc (Obj.cells #[.string ⟨#[120]⟩, .string ⟨#[110, 48]⟩, .string ⟨#[110, 49]⟩, .string ⟨#[]⟩, .string ⟨#[65]⟩, .string ⟨#[101, 105, 103, 104, 116, 99, 104, 97]⟩, .string ⟨#[110, 105, 110, 101, 99, 104, 97, 114, 115]⟩] 9)).cell? ⟨w.heap.size, 1, none⟩ = _).trans g1
        have HOA := Lib.hid (HOS.out.next (mem.below_new WS (Obj.cells #[.string ⟨#[120]⟩, .string ⟨#[110, 48]⟩, .string ⟨#[110, 49]⟩, .string ⟨#[]⟩, .string ⟨#[65]⟩, .string ⟨#[101, 105, 103, 104, 116, 99, 104, 97]⟩, .string ⟨#[110, 105, 110, 101, 99, 104, 97, 114, 115]⟩] 9)))
        have HBA := Lib.hid (mem.belowNext HBS.out (mem.below_new WS (Obj.cells #[.string ⟨#[120]⟩, .string ⟨#[110, 48]⟩, .string ⟨#[110, 49]⟩, .string ⟨#[]⟩, .string ⟨#[65]⟩, .string ⟨#[101, 105, 103, 104, 116, 99, 104, 97]⟩, .string ⟨#[110, 105, 110, 101, 99, 104, 97, 114, 115]⟩] 9)))
        clear HOS HBS
        go_simp
        refine hK.out _ _ ?_ (fun hHeld => ?_)
        · exact TA
        clear hK K
        try simp only [Act.put, List.setIfInBounds_toArray, List.set_cons_zero, List.set_cons_succ]
        clear g0 g1
        generalize hWA : WS.alloc (Obj.cells #[.string ⟨#[120]⟩, .string ⟨#[110, 48]⟩, .string ⟨#[110, 49]⟩, .string ⟨#[]⟩, .string ⟨#[65]⟩, .string ⟨#[101, 105, 103, 104, 116, 99, 104, 97]⟩, .string ⟨#[110, 105, 110, 101, 99, 104, 97, 114, 115]⟩] 9) = WA at *
        clear hWA
        have g0 := g0'
        have g1 := g1'
        have HOS := HOA
        have HBS := HBA
        refine wpAnyH_take (i := 9) (v := ?_) nth9 (by kernel_rfl) (by kernel_rfl) (by kernel_rfl) (fun _ _ _ h => h) (Or.inl ⟨by rfl, ?_⟩) (by assumption) ?_
        rotate_left
        · intro w hSw; (try dsimp only at hSw); go_simp; try with_reducible rfl
        try simp only [Act.put, List.setIfInBounds_toArray, List.set_cons_zero, List.set_cons_succ]
        refine wpAnyH_ready (rs := [10]) (by kernel_rfl) (by simp) ?_
        refine (AllReadyH.cons nth10 (fun K hK => ?_) AllReadyH.nil)
        go_simp
        refine hK.out _ _ ?_ (fun hHeld => ?_)
        · exact TA
        clear hK K
        try simp only [Act.put, List.setIfInBounds_toArray, List.set_cons_zero, List.set_cons_succ]
        refine wpAnyH_take (i := 13) (v := ?_) nth13 (by kernel_rfl) (by kernel_rfl) (by kernel_rfl) (fun _ _ _ h => h) (Or.inl ⟨by rfl, ?_⟩) (by assumption) ?_
        rotate_left
        · intro w hSw; (try dsimp only at hSw); go_simp; try with_reducible rfl
        try simp only [Act.put, List.setIfInBounds_toArray, List.set_cons_zero, List.set_cons_succ]
        refine wpAnyH_done (by kernel_rfl) ?_ _
        go_wp2_with fail
        refine bodyPost_ret (v := .tuple #[.agg #[.slice p0 n c0, .slice p1 m c1], .int .i64 x, .string y]) (by simp [results, Try.results29, go_sem, g0, g1]) rfl ⟨_, n, m, N, P, b1, b2, x, y, rfl, hn, hm, hnm, HOS.out, by omega, by omega, x0, x1, hys, HBS.out⟩
  · go_simp
    refine hK.out _ _ ?_ (fun hHeld => ?_)
    · exact hAny _ UA
    clear hK K
    try simp only [Act.put, List.setIfInBounds_toArray, List.set_cons_zero, List.set_cons_succ]
    refine wpAnyH_ready (rs := [5]) (by kernel_rfl) (by simp) ?_
    refine (AllReadyH.cons nth5 (fun K hK => ?_) AllReadyH.nil)
    go_simp
    go_at_call 45
    refine (index_any _ b w.heap.size cv len i2 s2 n SA (hCode _ UA) hBb (by omega)).mono ?_
    rintro e wx ⟨x, ix, sx, rfl, x0, x1, SX, ox⟩
    have UX := hOn _ _ UA ox
    refine hK.out _ _ ?_ (fun hHeld => ?_)
    · exact hAny _ UX
    clear hK K
    try simp only [Act.put, List.setIfInBounds_toArray, List.set_cons_zero, List.set_cons_succ]
    refine wpAnyH_ready (rs := [8]) (by kernel_rfl) (by simp) ?_
    refine (AllReadyH.cons nth8 (fun K hK => ?_) AllReadyH.nil)
    go_simp
    go_at_call 52
    refine (next_any _ b w.heap.size cv len ix sx 7 SX (hCode _ UX) hBb h7).mono ?_
    rintro e wy ⟨y0, iy, sy, rfl, q0, q1, SY, oy⟩
    obtain ⟨jx, rfl⟩ := Int.eq_ofNat_of_zero_le q0
    have hjx : jx < 7 := by omega
    have hjI : (jx : Int) < 7 := by omega
    have UY := hOn _ _ UX oy
    obtain ⟨y, hys, hy⟩ := tabS W3 9 _ hcs jx hjx
    have hy2 : wy.cell? ⟨W3.heap.size, jx, none⟩ = some (.string y) := (World.cell?_of_block ((oy.block W3.heap.size hne).trans (ox.block W3.heap.size hne))).trans hy
    have UZ := UY
    refine hK.out _ _ ?_ (fun hHeld => ?_)
    · exact hAny _ UY
    clear hK K
    try simp only [Act.put, List.setIfInBounds_toArray, List.set_cons_zero, List.set_cons_succ]
    refine wpAnyH_take (i := 9) (v := ?_) nth9 (by kernel_rfl) (by kernel_rfl) (by kernel_rfl) (fun _ _ _ h => h) (Or.inl ⟨by rfl, ?_⟩) (by assumption) ?_
    rotate_left
    · intro w hSw; (try dsimp only at hSw); go_simp; try with_reducible rfl
    try simp only [Act.put, List.setIfInBounds_toArray, List.set_cons_zero, List.set_cons_succ]
    refine wpAnyH_ready (rs := [10, 11]) (by kernel_rfl) (by simp) ?_
    refine (AllReadyH.cons nth10 (fun K hK => ?_) (AllReadyH.cons nth11 (fun K hK => ?_) AllReadyH.nil))
    · go_simp
      refine hK.out _ _ ?_ (fun hHeld => ?_)
      · exact hAny _ UZ
      clear hK K
      try simp only [Act.put, List.setIfInBounds_toArray, List.set_cons_zero, List.set_cons_succ]
      refine wpAnyH_ready (rs := [11]) (by kernel_rfl) (by simp) ?_
      refine (AllReadyH.cons nth11 (fun K hK => ?_) AllReadyH.nil)
      have RZ := R3.keep (UZ.block _ R3.lt (by omega))
      clear f0 f1 k0 k1
      have f0 := RZ.b0
      have f1 := RZ.b1
      have k0 := RZ.free 0
      have k1 := RZ.free 1
      have RS := (RZ.set 0 (.slice p0 n c0) (by omega)).set 1 (.slice p1 m c1) (by omega)
      have hO := ((mem.Only.refl w.heap.size wy).setCell 0 (.slice p0 n c0)).setCell 1 (.slice p1 m c1)
      have HOS := Lib.hid ((O3.out.upd UZ (.inr (by omega)) (.inr (by omega))).upd (mem.Upd.of_only hO) (.inr (by omega)) (.inr (by omega)))
      have HBS := Lib.hid (mem.below_only (C3.out.trans (UZ.below (by omega) (by rintro q _ rfl; omega))) hO (by omega))
      have TS := And.intro ((hO.cell (a := ⟨w2.heap.size, 0, none⟩) hTR).trans (hAny _ UZ).1) ((hO.cell (a := ⟨w2.heap.size, 1, none⟩) hTR).trans (hAny _ UZ).2)
      have hyS := (hO.cell (a := ⟨W3.heap.size, jx, none⟩) (by show W3.heap.size ≠ w.heap.size; omega)).trans hy2
      clear RZ hO
      go_simp
      refine hK.out _ _ ?_ (fun hHeld => ?_)
      · exact TS
      clear hK K
      try simp only [Act.put, List.setIfInBounds_toArray, List.set_cons_zero, List.set_cons_succ]
      clear f0 f1 k0 k1
      generalize hW : (wy.setCell ⟨w.heap.size, 0, none⟩ (.slice p0 n c0)).setCell ⟨w.heap.size, 1, none⟩ (.slice p1 m c1) = WS at *
      clear hW
      have g0 : WS.cell? ⟨w.heap.size, 0, none⟩ = some (.slice p0 n c0) := RS.cell 0 (by omega)
      have g1 : WS.cell? ⟨w.heap.size, 1, none⟩ = some (.slice p1 m c1) := RS.cell 1 (by omega)
      refine wpAnyH_take (i := 12) (v := ?_) nth12 (by kernel_rfl) (by kernel_rfl) (by kernel_rfl) (fun _ _ _ h => h) (Or.inl ⟨by rfl, ?_⟩) (by assumption) ?_
      rotate_left
      · intro w hSw; (try dsimp only at hSw); go_simp; try with_reducible rfl
      try simp only [Act.put, List.setIfInBounds_toArray, List.set_cons_zero, List.set_cons_succ]
      refine wpAnyH_take (i := 13) (v := ?_) nth13 (by kernel_rfl) (by kernel_rfl) (by kernel_rfl) (fun _ _ _ h => h) (Or.inl ⟨by rfl, ?_⟩) (by assumption) ?_
      rotate_left
      · intro w hSw; (try dsimp only at hSw); go_simp; try with_reducible rfl
      try simp only [Act.put, List.setIfInBounds_toArray, List.set_cons_zero, List.set_cons_succ]
      refine wpAnyH_done (by kernel_rfl) ?_ _
      go_wp2_with fail
      refine bodyPost_ret (v := .tuple #[.agg #[.slice p0 n c0, .slice p1 m c1], .int .i64 x, .string y]) (by simp [results, Try.results29, go_sem, g0, g1]) rfl ⟨_, n, m, N, P, b1, b2, x, y, rfl, hn, hm, hnm, HOS.out, by omega, by omega, x0, x1, hys, HBS.out⟩
    · have RZ := R3.keep (UZ.block _ R3.lt (by omega))
      clear f0 f1 k0 k1
      have f0 := RZ.b0
      have f1 := RZ.b1
      have k0 := RZ.free 0
      have k1 := RZ.free 1
      have RS := (RZ.set 0 (.slice p0 n c0) (by omega)).set 1 (.slice p1 m c1) (by omega)
      have hO := ((mem.Only.refl w.heap.size wy).setCell 0 (.slice p0 n c0)).setCell 1 (.slice p1 m c1)
      have HOS := Lib.hid ((O3.out.upd UZ (.inr (by omega)) (.inr (by omega))).upd (mem.Upd.of_only hO) (.inr (by omega)) (.inr (by omega)))
      have HBS := Lib.hid (mem.below_only (C3.out.trans (UZ.below (by omega) (by rintro q _ rfl; omega))) hO (by omega))
      have TS := And.intro ((hO.cell (a := ⟨w2.heap.size, 0, none⟩) hTR).trans (hAny _ UZ).1) ((hO.cell (a := ⟨w2.heap.size, 1, none⟩) hTR).trans (hAny _ UZ).2)
      have hyS := (hO.cell (a := ⟨W3.heap.size, jx, none⟩) (by show W3.heap.size ≠ w.heap.size; omega)).trans hy2
      clear RZ hO
      go_simp
      refine hK.out _ _ ?_ (fun hHeld => ?_)
      · exact TS
      clear hK K
      try simp only [Act.put, List.setIfInBounds_toArray, List.set_cons_zero, List.set_cons_succ]
      clear f0 f1 k0 k1
      generalize hW : (wy.setCell ⟨w.heap.size, 0, none⟩ (.slice p0 n c0)).setCell ⟨w.heap.size, 1, none⟩ (.slice p1 m c1) = WS at *
      clear hW
      have g0 : WS.cell? ⟨w.heap.size, 0, none⟩ = some (.slice p0 n c0) := RS.cell 0 (by omega)
      have g1 : WS.cell? ⟨w.heap.size, 1, none⟩ = some (.slice p1 m c1) := RS.cell 1 (by omega)
      refine wpAnyH_take (i := 12) (v := ?_) nth12 (by kernel_rfl) (by kernel_rfl) (by kernel_rfl) (fun _ _ _ h => h) (Or.inl ⟨by rfl, ?_⟩) (by assumption) ?_
      rotate_left
      · intro w hSw; (try dsimp only at hSw); go_simp; try with_reducible rfl
      try simp only [Act.put, List.setIfInBounds_toArray, List.set_cons_zero, List.set_cons_succ]
      refine wpAnyH_ready (rs := [10]) (by kernel_rfl) (by simp) ?_
      refine (AllReadyH.cons nth10 (fun K hK => ?_) AllReadyH.nil)
      go_simp
      refine hK.out _ _ ?_ (fun hHeld => ?_)
      · exact TS
      clear hK K
      try simp only [Act.put, List.setIfInBounds_toArray, List.set_cons_zero, List.set_cons_succ]
      refine wpAnyH_take (i := 13) (v := ?_) nth13 (by kernel_rfl) (by kernel_rfl) (by kernel_rfl) (fun _ _ _ h => h) (Or.inl ⟨by rfl, ?_⟩) (by assumption) ?_
      rotate_left
      · intro w hSw; (try dsimp only at hSw); go_simp; try with_reducible rfl
      try simp only [Act.put, List.setIfInBounds_toArray, List.set_cons_zero, List.set_cons_succ]
      refine wpAnyH_done (by kernel_rfl) ?_ _
      go_wp2_with fail
      refine bodyPost_ret (v := .tuple #[.agg #[.slice p0 n c0, .slice p1 m c1], .int .i64 x, .string y]) (by simp [results, Try.results29, go_sem, g0, g1]) rfl ⟨_, n, m, N, P, b1, b2, x, y, rfl, hn, hm, hnm, HOS.out, by omega, by omega, x0, x1, hys, HBS.out⟩

end Go.Proofs.Ytdmcggnhnkaoeaa.draw
