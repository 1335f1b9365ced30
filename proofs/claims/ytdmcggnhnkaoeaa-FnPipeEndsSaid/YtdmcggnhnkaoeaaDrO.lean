/-
  The draw of a network, a pipe and a node. Conditions: as each states.
-/
import Derived.Test.YtdmcggnhnkaoeaaRows
import Derived.Test.YtdmcggnhnkaoeaaDrH
import Derived.WalkKit
import Derived.ProofKit
import Derived.Lib.Hide
import Derived.OwnWalk
import Derived.Outline
import Derived.Deep.RegionHeld3
import Derived.Deep.Cut
import Derived.Deep.RegionWith
import Derived.IntWalk
namespace Go.Proofs.Ytdmcggnhnkaoeaa.draw
open Go.RowKit
set_option linter.unusedVariables false

/-- a network and two numbers have been drawn -/
def NetIIPost (w : World) (e : Ending) (w' : World) : Prop :=
  ∃ (v : Value) (n m : Nat) (N : Nat → mem.Nod) (P : Nat → mem.Pip) (b1 b2 : Nat) (x y : Int), e = .returned (.tuple #[v, .int .i64 x, .int .i64 y]) ∧ n ≤ 1000 ∧ m ≤ 1000 ∧ (∀ i, i < n → (N i).s.size ≤ 9223372036854775807) ∧ mem.NetOwn w' v n N m P b1 b2 ∧ w.heap.size ≤ b1 ∧ w.heap.size ≤ b2 ∧ Below w.heap.size w w'

set_option maxRecDepth 100000 in
set_option maxHeartbeats 8000000 in
theorem otherDraw (w : World) (cv : Value) (len : Nat) (hc : CodeAt w cv len w.heap.size) : Calls Try.prog 16 #[cv] w (NetIIPost w) := by
  have HC := Lib.hid hc
  have R1 := mem.boxed w (.slice none 0 0) (.slice none 0 0) 27
  have C1 := mem.below_new w (.cells #[.slice none 0 0, .slice none 0 0] 27)
  have hsz : (w.alloc (.cells #[.slice none 0 0, .slice none 0 0] 27)).heap.size = w.heap.size + 1 := by simp
  go_enter Try.func16, Try.ntmps16
  go_wp2_with fail
  generalize hW : w.alloc (.cells #[.slice none 0 0, .slice none 0 0] 27) = Wa at *
  clear hW hc
  replace hsz := Nat.le_antisymm_iff.1 hsz
  refine (from_any Wa cv len (by have := codeAt_below HC.out C1; rcases this with h | ⟨cb, co, cap, h1, h2, h3⟩; exact .inl h; exact .inr ⟨cb, co, cap, h1, by omega, h3⟩)).mono ?_
  rintro e w1 ⟨s1, rfl, hS1, B1, z1⟩
  obtain ⟨b, hbe⟩ : ∃ b, b = Wa.heap.size := ⟨_, rfl⟩
  rw [← hbe] at hS1 z1 ⊢
  replace hbe := Nat.le_antisymm_iff.1 hbe
  replace z1 := Nat.le_antisymm_iff.1 z1
  have C2 := mem.belowNext C1 B1
  have R2 := R1.next B1
  clear B1 C1 R1
  go_wp2_with fail
  refine (any_ok w1 b w.heap.size cv len 0 s1 hS1 (codeAt_below HC.out C2) (by omega)).mono ?_
  rintro e w2 ⟨v, n, m, N, P, b1, b2, i2, s2, rfl, hn, hm, hnm, hO, l1, l2, hS2, U2⟩
  obtain ⟨p0, c0, p1, c1, rfl⟩ := hO.shape
  have C3 := Lib.hid ((C2.trans (U2.below (by omega) (by rintro x _ rfl; omega))).trans ((mem.below_new w2 (.cells #[.slice p0 n c0, .slice p1 m c1] 27)).mono (by have := U2.size; omega)))
  have R3 := (R2.keep (U2.block w.heap.size (by omega) (by omega))).next (mem.below_new w2 (.cells #[.slice p0 n c0, .slice p1 m c1] 27))
  have T3 := mem.boxed w2 (.slice p0 n c0) (.slice p1 m c1) 27
  have O3 := Lib.hid (hO.next (mem.below_new w2 (.cells #[.slice p0 n c0, .slice p1 m c1] 27)))
  have S3 := src_alloc hS2 (src_lt hS2) (.cells #[.slice p0 n c0, .slice p1 m c1] 27)
  have hb2 := src_lt hS2
  have hbT : b ≠ w2.heap.size := by omega
  have hbR : b ≠ w.heap.size := by omega
  have hTR : w2.heap.size ≠ w.heap.size := by omega
  have hl1 : b < b1 := by omega
  have hl2 : b < b2 := by omega
  clear C2 R2 hO hS2 hS1
  have hU := U2.size
  clear U2
  go_wp2_with fail
  generalize hW : w2.alloc (.cells #[.slice p0 n c0, .slice p1 m c1] 27) = W3 at *
  clear hW
  have hlt := src_lt S3
  have hBb : w.heap.size ≤ b := by omega
  have HC3 := Lib.hid (codeAt_below HC.out C3.out)
  have hAny : ∀ X : World, mem.Upd (· = b) W3 X → X.cell? ⟨w2.heap.size, 0, none⟩ = some (.slice p0 n c0) ∧ X.cell? ⟨w2.heap.size, 1, none⟩ = some (.slice p1 m c1) := fun X h => ⟨(T3.keep (h.block _ T3.lt (by omega))).b0, (T3.keep (h.block _ T3.lt (by omega))).b1⟩
  have hCode : ∀ X : World, mem.Upd (· = b) W3 X → CodeAt X cv len w.heap.size := fun X h => code_of HC3.out h hBb hlt
  have hDw : ∀ X : World, mem.Upd (· = b) W3 X → mem.Upd (· = b) W3 X.drew := fun X h => upd_dw' h
  have hAl : ∀ (X : World) (o : Obj), mem.Upd (· = b) W3 X → mem.Upd (· = b) W3 (X.alloc o) := fun X o h => h.trans (mem.Upd.of_below (mem.below_new X o))
  have hOn : ∀ (X Y : World), mem.Upd (· = b) W3 X → Only b X Y → mem.Upd (· = b) W3 Y := fun X Y h g => h.trans (upd_of g)
  have hSz : ∀ X : World, mem.Upd (· = b) W3 X → b < X.heap.size := fun X h => Nat.lt_of_lt_of_le hlt h.size
  have hT3 := T3.lt
  refine (index_any _ b w.heap.size cv len i2 s2 m S3 HC3.out hBb (by omega)).mono ?_
  rintro e w4 ⟨x, i4, s4, rfl, x0, x1, S4, o4⟩
  have U4 := hOn _ _ (mem.Upd.refl _ _) o4
  have t0 := (hAny _ U4).1
  have t1 := (hAny _ U4).2
  have hm1 : IntKind.i64.wrap ((m : Int) - 1) = (m : Int) - 1 := IntWalk.i64_in _ (by omega)
  by_cases hin : mem.inR x 0 ((m : Int) - 1) = true
  rotate_left 1
  · have hin' : mem.inR x 0 ((m : Int) - 1) = false := by simpa using hin
    go_wp2_with (go_at_call 51; refine (mem.l01In_any _ _ _ _).mono ?_; rintro e w' ⟨rfl, rfl⟩)
    clear t0 t1 hm1
    have U6 := hDw _ U4
    have C6 := hCode _ U6
    have S6' : Src w4.drew b cv len i4 s4 := src_upd S4 rfl
    go_region_held3 (fun w' => w'.cell? ⟨w2.heap.size, 0, none⟩ = some (.slice p0 n c0) ∧ w'.cell? ⟨w2.heap.size, 1, none⟩ = some (.slice p1 m c1)) (first | exact hAny _ U6 | exact hAny _ UZ | exact ⟨(hO.cell (a := ⟨w2.heap.size, 0, none⟩) hTR).trans (hAny _ UZ).1, (hO.cell (a := ⟨w2.heap.size, 1, none⟩) hTR).trans (hAny _ UZ).2⟩)
      (first | (go_at_call 45; refine (index_any _ b w.heap.size cv len i4 s4 n S6' C6 hBb (by omega)).mono ?_; rintro e wz ⟨y, iz, sz, rfl, y0, y1, SZ, oz⟩; have UZ := hOn _ _ U6 oz; have RZ := R3.keep (UZ.block _ R3.lt (by omega)); have f0 := RZ.b0; have f1 := RZ.b1; have k0 := RZ.free 0; have k1 := RZ.free 1; have hO := ((mem.Only.refl w.heap.size wz).setCell 0 (.slice p0 n c0)).setCell 1 (.slice p1 m c1)))
    have HOS := Lib.hid ((O3.out.upd UZ (.inr (by omega)) (.inr (by omega))).upd (mem.Upd.of_only hO) (.inr (by omega)) (.inr (by omega)))
    have HBS := Lib.hid (mem.below_only (C3.out.trans (UZ.below (by omega) (by rintro q _ rfl; omega))) hO (by omega))
    clear hO RZ UZ SZ oz
    go_wp2_with fail
    refine bodyPost_ret (v := .tuple #[.agg #[.slice p0 n c0, .slice p1 m c1], .int .i64 x, .int .i64 y]) (by simp [results, Try.results16, go_sem, f0, f1]) rfl ⟨_, n, m, N, P, b1, b2, x, y, rfl, hn, hm, hnm, HOS.out, by omega, by omega, HBS.out⟩
  go_wp2_with (first | (go_at_call 51; refine (mem.l01In_any _ _ _ _).mono ?_; rintro e w' ⟨rfl, rfl⟩))
  refine (next_any w4 b w.heap.size cv len i4 s4 3 S4 (hCode _ U4) hBb (by omega)).mono ?_
  rintro e w5 ⟨u, i5, s5, rfl, u0, u1, S5, o5⟩
  have U5 := hOn _ _ U4 o5
  by_cases hu : u = 0
  · subst hu
    go_wp2_with fail
    clear t0 t1 hm1
    have U6 := hDw _ U5
    have C6 := hCode _ U6
    have S6' : Src w5.drew b cv len i5 s5 := src_upd S5 rfl
    go_region_held3 (fun w' => w'.cell? ⟨w2.heap.size, 0, none⟩ = some (.slice p0 n c0) ∧ w'.cell? ⟨w2.heap.size, 1, none⟩ = some (.slice p1 m c1)) (first | exact hAny _ U6 | exact hAny _ UZ | exact ⟨(hO.cell (a := ⟨w2.heap.size, 0, none⟩) hTR).trans (hAny _ UZ).1, (hO.cell (a := ⟨w2.heap.size, 1, none⟩) hTR).trans (hAny _ UZ).2⟩)
      (first | (go_at_call 45; refine (index_any _ b w.heap.size cv len i5 s5 n S6' C6 hBb (by omega)).mono ?_; rintro e wz ⟨y, iz, sz, rfl, y0, y1, SZ, oz⟩; have UZ := hOn _ _ U6 oz; have RZ := R3.keep (UZ.block _ R3.lt (by omega)); have f0 := RZ.b0; have f1 := RZ.b1; have k0 := RZ.free 0; have k1 := RZ.free 1; have hO := ((mem.Only.refl w.heap.size wz).setCell 0 (.slice p0 n c0)).setCell 1 (.slice p1 m c1)))
    have HOS := Lib.hid ((O3.out.upd UZ (.inr (by omega)) (.inr (by omega))).upd (mem.Upd.of_only hO) (.inr (by omega)) (.inr (by omega)))
    have HBS := Lib.hid (mem.below_only (C3.out.trans (UZ.below (by omega) (by rintro q _ rfl; omega))) hO (by omega))
    clear hO RZ UZ SZ oz
    go_wp2_with fail
    refine bodyPost_ret (v := .tuple #[.agg #[.slice p0 n c0, .slice p1 m c1], .int .i64 x, .int .i64 y]) (by simp [results, Try.results16, go_sem, f0, f1]) rfl ⟨_, n, m, N, P, b1, b2, x, y, rfl, hn, hm, hnm, HOS.out, by omega, by omega, HBS.out⟩
  have hu' : (0 : Int) < u := by omega
  have hx := mem.inR_iff.1 hin
  obtain ⟨k, rfl⟩ := Int.eq_ofNat_of_zero_le hx.1
  have hkm : k < m := by omega
  have hkI : (k : Int) < m := by omega
  go_wp2_with fail
  obtain ⟨rfl, hR⟩ := pip_at O3.out (by omega)
  have hlb := hR.lt
  have HR := Lib.hid hR
  have hb2b : b2 ≠ b := by omega
  have hAn : ∀ X : World, mem.Upd (· = b) W3 X → (fun w' => w'.cell? ⟨w2.heap.size, 0, none⟩ = some (.slice p0 n c0) ∧ w'.cell? ⟨w2.heap.size, 1, none⟩ = some (.slice (some ⟨b2, 0, none⟩) m c1) ∧ w'.cell? ⟨b2, k * 5, none⟩ = some (.int .i64 (P k).f) ∧ w'.cell? ⟨b2, k * 5 + 1, none⟩ = some (.int .i64 (P k).t)) X := fun X h => ⟨(hAny X h).1, (hAny X h).2, (HR.out.keep (h.block b2 hlb hb2b)).cell k 0 hkm (by omega), (HR.out.keep (h.block b2 hlb hb2b)).cell k 1 hkm (by omega)⟩
  have h2 : (2 : Int) ≤ 9223372036854775807 := by omega
  have hcs : ∀ j, j < (#[.int .i64 (P k).f, .int .i64 (P k).t] : Array Value).size → ∃ y : Int, (#[.int .i64 (P k).f, .int .i64 (P k).t] : Array Value)[j]? = some (.int .i64 y) := by
    intro j hj
    rcases (by simp at hj; omega : j = 0 ∨ j = 1) with rfl | rfl
    all_goals exact ⟨_, rfl⟩
  clear t0 t1 hm1 hR o4 o5 S4 hx hin hu
  have S50 : Src w5.drew b cv len i5 s5 := src_upd S5 rfl
  have UA : mem.Upd (· = b) W3 (w5.alloc (Obj.cells #[.int .i64 (P k).f, .int .i64 (P k).t] 2)).drew := hDw _ (hAl w5 (Obj.cells #[.int .i64 (P k).f, .int .i64 (P k).t] 2) U5)
  have SA : Src (w5.alloc (Obj.cells #[.int .i64 (P k).f, .int .i64 (P k).t] 2)).drew b cv len i5 s5 := src_upd (src_alloc S5 (hSz _ U5) (Obj.cells #[.int .i64 (P k).f, .int .i64 (P k).t] 2)) rfl
  have hne : w5.heap.size ≠ b := by have := hSz _ U5; omega
  have h5z := U5.size
  refine wp_region_held_drew (S := fun w' => w'.cell? ⟨w2.heap.size, 0, none⟩ = some (.slice p0 n c0) ∧ w'.cell? ⟨w2.heap.size, 1, none⟩ = some (.slice (some ⟨b2, 0, none⟩) m c1) ∧ w'.cell? ⟨b2, k * 5, none⟩ = some (.int .i64 (P k).f) ∧ w'.cell? ⟨b2, k * 5 + 1, none⟩ = some (.int .i64 (P k).t)) (by kernel_rfl) (hAn _ (hDw _ U5)) (fun hHeld => ?_)
  refine wpAnyH_take (i := 0) (v := ?_) nth0 (by kernel_rfl) (by kernel_rfl) (by kernel_rfl) (fun _ _ _ h => h) (Or.inl ⟨by rfl, ?_⟩) (by assumption) ?_
  rotate_left
  · intro w hSw; (try dsimp only at hSw); go_simp; try with_reducible rfl
  try simp only [Act.put, List.setIfInBounds_toArray, List.set_cons_zero, List.set_cons_succ]
  refine wpAnyH_take (i := 1) (v := ?_) nth1 (by kernel_rfl) (by kernel_rfl) (by kernel_rfl) (fun _ _ _ h => h) (Or.inl ⟨by rfl, ?_⟩) (by assumption) ?_
  rotate_left
  · intro w hSw; (try dsimp only at hSw); go_simp; try with_reducible rfl
  try simp only [Act.put, List.setIfInBounds_toArray, List.set_cons_zero, List.set_cons_succ]
  refine wpAnyH_take (i := 2) (v := ?_) nth2 (by kernel_rfl) (by kernel_rfl) (by kernel_rfl) (fun _ _ _ h => h) (Or.inl ⟨by rfl, ?_⟩) (by assumption) ?_
  rotate_left
  · intro w hSw; (try dsimp only at hSw); go_simp; try with_reducible rfl
  try simp only [Act.put, List.setIfInBounds_toArray, List.set_cons_zero, List.set_cons_succ]
  refine wpAnyH_take (i := 3) (v := ?_) nth3 (by kernel_rfl) (by kernel_rfl) (by kernel_rfl) (fun _ _ _ h => h) (Or.inl ⟨by rfl, ?_⟩) (by assumption) ?_
  rotate_left
  · intro w hSw; (try dsimp only at hSw); go_simp; try with_reducible rfl
  try simp only [Act.put, List.setIfInBounds_toArray, List.set_cons_zero, List.set_cons_succ]
  refine wpAnyH_take (i := 4) (v := ?_) nth4 (by kernel_rfl) (by kernel_rfl) (by kernel_rfl) (fun _ _ _ h => h) (Or.inl ⟨by rfl, ?_⟩) (by assumption) ?_
  rotate_left
  · intro w hSw; (try dsimp only at hSw); go_simp; try with_reducible rfl
  try simp only [Act.put, List.setIfInBounds_toArray, List.set_cons_zero, List.set_cons_succ]
  refine wpAnyH_take (i := 5) (v := ?_) nth5 (by kernel_rfl) (by kernel_rfl) (by kernel_rfl) (fun _ _ _ h => h) (Or.inl ⟨by rfl, ?_⟩) (by assumption) ?_
  rotate_left
  · intro w hSw; (try dsimp only at hSw); go_simp; try with_reducible rfl
  try simp only [Act.put, List.setIfInBounds_toArray, List.set_cons_zero, List.set_cons_succ]
  refine wpAnyH_take (i := 6) (v := ?_) nth6 (by kernel_rfl) (by kernel_rfl) (by kernel_rfl) (fun _ _ _ h => h) (Or.inl ⟨by rfl, ?_⟩) (by assumption) ?_
  rotate_left
  · intro w hSw; (try dsimp only at hSw); go_simp; try with_reducible rfl
  try simp only [Act.put, List.setIfInBounds_toArray, List.set_cons_zero, List.set_cons_succ]
  refine wpAnyH_take (i := 7) (v := ?_) nth7 (by kernel_rfl) (by kernel_rfl) (by kernel_rfl) (fun _ _ _ h => h) (Or.inl ⟨by rfl, ?_⟩) (by assumption) ?_
  rotate_left
  · intro w hSw; (try dsimp only at hSw); go_simp; try with_reducible rfl
  try simp only [Act.put, List.setIfInBounds_toArray, List.set_cons_zero, List.set_cons_succ]
  refine wpAnyH_take (i := 8) (v := ?_) nth8 (by kernel_rfl) (by kernel_rfl) (by kernel_rfl) (fun _ _ _ h => h) (Or.inl ⟨by rfl, ?_⟩) (by assumption) ?_
  rotate_left
  · intro w hSw; (try dsimp only at hSw); go_simp; try with_reducible rfl
  try simp only [Act.put, List.setIfInBounds_toArray, List.set_cons_zero, List.set_cons_succ]
  refine wpAnyH_take (i := 9) (v := ?_) nth9 (by kernel_rfl) (by kernel_rfl) (by kernel_rfl) (fun _ _ _ h => h) (Or.inl ⟨by rfl, ?_⟩) (by assumption) ?_
  rotate_left
  · intro w hSw; (try dsimp only at hSw); go_simp; try with_reducible rfl
  try simp only [Act.put, List.setIfInBounds_toArray, List.set_cons_zero, List.set_cons_succ]
  refine wpAnyH_take (i := 10) (v := ?_) nth10 (by kernel_rfl) (by kernel_rfl) (by kernel_rfl) (fun _ _ _ h => h) (Or.inl ⟨by rfl, ?_⟩) (by assumption) ?_
  rotate_left
  · intro w hSw; (try dsimp only at hSw); go_simp; try with_reducible rfl
  try simp only [Act.put, List.setIfInBounds_toArray, List.set_cons_zero, List.set_cons_succ]
  refine wpAnyH_take (i := 11) (v := ?_) nth11 (by kernel_rfl) (by kernel_rfl) (by kernel_rfl) (fun _ _ _ h => h) (Or.inl ⟨by rfl, ?_⟩) (by assumption) ?_
  rotate_left
  · intro w hSw; (try dsimp only at hSw); go_simp; try with_reducible rfl
  try simp only [Act.put, List.setIfInBounds_toArray, List.set_cons_zero, List.set_cons_succ]
  refine wpAnyH_take (i := 12) (v := ?_) nth12 (by kernel_rfl) (by kernel_rfl) (by kernel_rfl) (fun _ _ _ h => h) (Or.inl ⟨by rfl, ?_⟩) (by assumption) ?_
  rotate_left
  · intro w hSw; (try dsimp only at hSw); go_simp; try with_reducible rfl
  try simp only [Act.put, List.setIfInBounds_toArray, List.set_cons_zero, List.set_cons_succ]
  refine wpAnyH_take (i := 13) (v := ?_) nth13 (by kernel_rfl) (by kernel_rfl) (by kernel_rfl) (fun _ _ _ h => h) (Or.inl ⟨by rfl, ?_⟩) (by assumption) ?_
  rotate_left
  · intro w hSw; (try dsimp only at hSw); go_simp; try with_reducible rfl
  try simp only [Act.put, List.setIfInBounds_toArray, List.set_cons_zero, List.set_cons_succ]
  refine wpAnyH_take (i := 15) (v := ?_) nth15 (by kernel_rfl) (by kernel_rfl) (by kernel_rfl) (fun _ _ _ h => h) (Or.inl ⟨by rfl, ?_⟩) (by assumption) ?_
  rotate_left
  · intro w hSw; (try dsimp only at hSw); go_simp; try with_reducible rfl
  try simp only [Act.put, List.setIfInBounds_toArray, List.set_cons_zero, List.set_cons_succ]
  refine wpAnyH_ready (rs := [14, 16]) (by kernel_rfl) (by simp) ?_
  refine (AllReadyH.cons nth14 (fun K hK => ?_) (AllReadyH.cons nth16 (fun K hK => ?_) AllReadyH.nil))
  · go_simp
    refine hK.out _ _ ?_ (fun hHeld => ?_)
    · exact hAn _ UA
    clear hK K
    try simp only [Act.put, List.setIfInBounds_toArray, List.set_cons_zero, List.set_cons_succ]
    refine wpAnyH_ready (rs := [16]) (by kernel_rfl) (by simp) ?_
    refine (AllReadyH.cons nth16 (fun K hK => ?_) AllReadyH.nil)
    go_simp
    go_at_call 52
    refine (next_any _ b w.heap.size cv len i5 s5 2 SA (hCode _ UA) hBb h2).mono ?_
    rintro e wx ⟨q, ix, sx, rfl, q0, q1, SX, ox⟩
    obtain ⟨jx, rfl⟩ := Int.eq_ofNat_of_zero_le q0
    have hjx : jx < 2 := by omega
    have hjI : (jx : Int) < 2 := by omega
    have UX := hOn _ _ UA ox
    obtain ⟨y, hy⟩ := tabI w5 2 _ hcs jx hjx
    have hy2 : wx.cell? ⟨w5.heap.size, jx, none⟩ = some (.int .i64 y) := (World.cell?_of_block (ox.block w5.heap.size hne)).trans hy
    have UZ := UX
    refine hK.out _ _ ?_ (fun hHeld => ?_)
    · exact hAn _ UX
    clear hK K
    try simp only [Act.put, List.setIfInBounds_toArray, List.set_cons_zero, List.set_cons_succ]
    refine wpAnyH_take (i := 17) (v := ?_) nth17 (by kernel_rfl) (by kernel_rfl) (by kernel_rfl) (fun _ _ _ h => h) (Or.inl ⟨by rfl, ?_⟩) (by assumption) ?_
    rotate_left
    · intro w hSw; (try dsimp only at hSw); go_simp; try with_reducible rfl
    try simp only [Act.put, List.setIfInBounds_toArray, List.set_cons_zero, List.set_cons_succ]
    refine wpAnyH_ready (rs := [18, 19]) (by kernel_rfl) (by simp) ?_
    refine (AllReadyH.cons nth18 (fun K hK => ?_) (AllReadyH.cons nth19 (fun K hK => ?_) AllReadyH.nil))
    · go_simp
      refine hK.out _ _ ?_ (fun hHeld => ?_)
      · exact hAn _ UZ
      clear hK K
      try simp only [Act.put, List.setIfInBounds_toArray, List.set_cons_zero, List.set_cons_succ]
      refine wpAnyH_ready (rs := [19]) (by kernel_rfl) (by simp) ?_
      refine (AllReadyH.cons nth19 (fun K hK => ?_) AllReadyH.nil)
      have RZ := R3.keep (UZ.block _ R3.lt (by omega))
      have f0 := RZ.b0
      have f1 := RZ.b1
      have k0 := RZ.free 0
      have k1 := RZ.free 1
      have RS := (RZ.set 0 (.slice p0 n c0) (by omega)).set 1 (.slice (some ⟨b2, 0, none⟩) m c1) (by omega)
      have hO := ((mem.Only.refl w.heap.size wx).setCell 0 (.slice p0 n c0)).setCell 1 (.slice (some ⟨b2, 0, none⟩) m c1)
      have HOS := Lib.hid ((O3.out.upd UZ (.inr (by omega)) (.inr (by omega))).upd (mem.Upd.of_only hO) (.inr (by omega)) (.inr (by omega)))
      have HBS := Lib.hid (mem.below_only (C3.out.trans (UZ.below (by omega) (by rintro q _ rfl; omega))) hO (by omega))
      have TS := And.intro ((hO.cell (a := ⟨w2.heap.size, 0, none⟩) hTR).trans (hAn _ UZ).1) (And.intro ((hO.cell (a := ⟨w2.heap.size, 1, none⟩) hTR).trans (hAn _ UZ).2.1) (And.intro ((hO.cell (a := ⟨b2, k * 5, none⟩) (by show b2 ≠ w.heap.size; omega)).trans (hAn _ UZ).2.2.1) ((hO.cell (a := ⟨b2, k * 5 + 1, none⟩) (by show b2 ≠ w.heap.size; omega)).trans (hAn _ UZ).2.2.2)))
      have hyS := (hO.cell (a := ⟨w5.heap.size, jx, none⟩) (by show w5.heap.size ≠ w.heap.size; omega)).trans hy2
      clear RZ hO
      go_simp
      refine hK.out _ _ ?_ (fun hHeld => ?_)
      · exact TS
      clear hK K
      try simp only [Act.put, List.setIfInBounds_toArray, List.set_cons_zero, List.set_cons_succ]
      clear f0 f1 k0 k1
      generalize hW : (wx.setCell ⟨w.heap.size, 0, none⟩ (.slice p0 n c0)).setCell ⟨w.heap.size, 1, none⟩ (.slice (some ⟨b2, 0, none⟩) m c1) = WS at *
      clear hW
      have g0 : WS.cell? ⟨w.heap.size, 0, none⟩ = some (.slice p0 n c0) := RS.cell 0 (by omega)
      have g1 : WS.cell? ⟨w.heap.size, 1, none⟩ = some (.slice (some ⟨b2, 0, none⟩) m c1) := RS.cell 1 (by omega)
      refine wpAnyH_take (i := 20) (v := ?_) nth20 (by kernel_rfl) (by kernel_rfl) (by kernel_rfl) (fun _ _ _ h => h) (Or.inl ⟨by rfl, ?_⟩) (by assumption) ?_
      rotate_left
      · intro w hSw; (try dsimp only at hSw); go_simp; try with_reducible rfl
      try simp only [Act.put, List.setIfInBounds_toArray, List.set_cons_zero, List.set_cons_succ]
      refine wpAnyH_take (i := 21) (v := ?_) nth21 (by kernel_rfl) (by kernel_rfl) (by kernel_rfl) (fun _ _ _ h => h) (Or.inl ⟨by rfl, ?_⟩) (by assumption) ?_
      rotate_left
      · intro w hSw; (try dsimp only at hSw); go_simp; try with_reducible rfl
      try simp only [Act.put, List.setIfInBounds_toArray, List.set_cons_zero, List.set_cons_succ]
      refine wpAnyH_done (by kernel_rfl) ?_ _
      go_wp2_with fail
      refine bodyPost_ret (v := .tuple #[.agg #[.slice p0 n c0, .slice (some ⟨b2, 0, none⟩) m c1], .int .i64 k, .int .i64 y]) (by simp [results, Try.results16, go_sem, g0, g1]) rfl ⟨_, n, m, N, P, b1, b2, k, y, rfl, hn, hm, hnm, HOS.out, by omega, by omega, HBS.out⟩
    · have RZ := R3.keep (UZ.block _ R3.lt (by omega))
      have f0 := RZ.b0
      have f1 := RZ.b1
      have k0 := RZ.free 0
      have k1 := RZ.free 1
      have RS := (RZ.set 0 (.slice p0 n c0) (by omega)).set 1 (.slice (some ⟨b2, 0, none⟩) m c1) (by omega)
      have hO := ((mem.Only.refl w.heap.size wx).setCell 0 (.slice p0 n c0)).setCell 1 (.slice (some ⟨b2, 0, none⟩) m c1)
      have HOS := Lib.hid ((O3.out.upd UZ (.inr (by omega)) (.inr (by omega))).upd (mem.Upd.of_only hO) (.inr (by omega)) (.inr (by omega)))
      have HBS := Lib.hid (mem.below_only (C3.out.trans (UZ.below (by omega) (by rintro q _ rfl; omega))) hO (by omega))
      have TS := And.intro ((hO.cell (a := ⟨w2.heap.size, 0, none⟩) hTR).trans (hAn _ UZ).1) (And.intro ((hO.cell (a := ⟨w2.heap.size, 1, none⟩) hTR).trans (hAn _ UZ).2.1) (And.intro ((hO.cell (a := ⟨b2, k * 5, none⟩) (by show b2 ≠ w.heap.size; omega)).trans (hAn _ UZ).2.2.1) ((hO.cell (a := ⟨b2, k * 5 + 1, none⟩) (by show b2 ≠ w.heap.size; omega)).trans (hAn _ UZ).2.2.2)))
      have hyS := (hO.cell (a := ⟨w5.heap.size, jx, none⟩) (by show w5.heap.size ≠ w.heap.size; omega)).trans hy2
      clear RZ hO
      go_simp
      refine hK.out _ _ ?_ (fun hHeld => ?_)
      · exact TS
      clear hK K
      try simp only [Act.put, List.setIfInBounds_toArray, List.set_cons_zero, List.set_cons_succ]
      clear f0 f1 k0 k1
      generalize hW : (wx.setCell ⟨w.heap.size, 0, none⟩ (.slice p0 n c0)).setCell ⟨w.heap.size, 1, none⟩ (.slice (some ⟨b2, 0, none⟩) m c1) = WS at *
      clear hW
      have g0 : WS.cell? ⟨w.heap.size, 0, none⟩ = some (.slice p0 n c0) := RS.cell 0 (by omega)
      have g1 : WS.cell? ⟨w.heap.size, 1, none⟩ = some (.slice (some ⟨b2, 0, none⟩) m c1) := RS.cell 1 (by omega)
      refine wpAnyH_take (i := 20) (v := ?_) nth20 (by kernel_rfl) (by kernel_rfl) (by kernel_rfl) (fun _ _ _ h => h) (Or.inl ⟨by rfl, ?_⟩) (by assumption) ?_
      rotate_left
      · intro w hSw; (try dsimp only at hSw); go_simp; try with_reducible rfl
      try simp only [Act.put, List.setIfInBounds_toArray, List.set_cons_zero, List.set_cons_succ]
      refine wpAnyH_ready (rs := [18]) (by kernel_rfl) (by simp) ?_
      refine (AllReadyH.cons nth18 (fun K hK => ?_) AllReadyH.nil)
      go_simp
      refine hK.out _ _ ?_ (fun hHeld => ?_)
      · exact TS
      clear hK K
      try simp only [Act.put, List.setIfInBounds_toArray, List.set_cons_zero, List.set_cons_succ]
      refine wpAnyH_take (i := 21) (v := ?_) nth21 (by kernel_rfl) (by kernel_rfl) (by kernel_rfl) (fun _ _ _ h => h) (Or.inl ⟨by rfl, ?_⟩) (by assumption) ?_
      rotate_left
      · intro w hSw; (try dsimp only at hSw); go_simp; try with_reducible rfl
      try simp only [Act.put, List.setIfInBounds_toArray, List.set_cons_zero, List.set_cons_succ]
      refine wpAnyH_done (by kernel_rfl) ?_ _
      go_wp2_with fail
      refine bodyPost_ret (v := .tuple #[.agg #[.slice p0 n c0, .slice (some ⟨b2, 0, none⟩) m c1], .int .i64 k, .int .i64 y]) (by simp [results, Try.results16, go_sem, g0, g1]) rfl ⟨_, n, m, N, P, b1, b2, k, y, rfl, hn, hm, hnm, HOS.out, by omega, by omega, HBS.out⟩
  · go_simp
    go_at_call 52
    refine (next_any _ b w.heap.size cv len i5 s5 2 S50 (hCode _ (hDw _ U5)) hBb h2).mono ?_
    rintro e wx ⟨q, ix, sx, rfl, q0, q1, SX, ox⟩
    obtain ⟨jx, rfl⟩ := Int.eq_ofNat_of_zero_le q0
    have hjx : jx < 2 := by omega
    have hjI : (jx : Int) < 2 := by omega
    have UX := hOn _ _ (hDw _ U5) ox
    refine hK.out _ _ ?_ (fun hHeld => ?_)
    · exact hAn _ UX
    clear hK K
    try simp only [Act.put, List.setIfInBounds_toArray, List.set_cons_zero, List.set_cons_succ]
    have UZ := hAl wx (Obj.cells #[.int .i64 (P k).f, .int .i64 (P k).t] 2) UX
    have hxz := UX.size
    refine wpAnyH_ready (rs := [14, 19]) (by kernel_rfl) (by simp) ?_
    refine (AllReadyH.cons nth14 (fun K hK => ?_) (AllReadyH.cons nth19 (fun K hK => ?_) AllReadyH.nil))
    · go_simp
      refine hK.out _ _ ?_ (fun hHeld => ?_)
      · exact hAn _ UZ
      clear hK K
      try simp only [Act.put, List.setIfInBounds_toArray, List.set_cons_zero, List.set_cons_succ]
      obtain ⟨y, hy⟩ := tabI wx 2 _ hcs jx hjx
      have hy2 := hy
      generalize hWZ : (wx.alloc (Obj.cells #[.int .i64 (P k).f, .int .i64 (P k).t] 2)) = WZ at *
      clear hWZ
      refine wpAnyH_take (i := 17) (v := ?_) nth17 (by kernel_rfl) (by kernel_rfl) (by kernel_rfl) (fun _ _ _ h => h) (Or.inl ⟨by rfl, ?_⟩) (by assumption) ?_
      rotate_left
      · intro w hSw; (try dsimp only at hSw); go_simp; try with_reducible rfl
      try simp only [Act.put, List.setIfInBounds_toArray, List.set_cons_zero, List.set_cons_succ]
      refine wpAnyH_ready (rs := [18, 19]) (by kernel_rfl) (by simp) ?_
      refine (AllReadyH.cons nth18 (fun K hK => ?_) (AllReadyH.cons nth19 (fun K hK => ?_) AllReadyH.nil))
      · go_simp
        refine hK.out _ _ ?_ (fun hHeld => ?_)
        · exact hAn _ UZ
        clear hK K
        try simp only [Act.put, List.setIfInBounds_toArray, List.set_cons_zero, List.set_cons_succ]
        refine wpAnyH_ready (rs := [19]) (by kernel_rfl) (by simp) ?_
        refine (AllReadyH.cons nth19 (fun K hK => ?_) AllReadyH.nil)
        have RZ := R3.keep (UZ.block _ R3.lt (by omega))
        have f0 := RZ.b0
        have f1 := RZ.b1
        have k0 := RZ.free 0
        have k1 := RZ.free 1
        have RS := (RZ.set 0 (.slice p0 n c0) (by omega)).set 1 (.slice (some ⟨b2, 0, none⟩) m c1) (by omega)
        have hO := ((mem.Only.refl w.heap.size WZ).setCell 0 (.slice p0 n c0)).setCell 1 (.slice (some ⟨b2, 0, none⟩) m c1)
        have HOS := Lib.hid ((O3.out.upd UZ (.inr (by omega)) (.inr (by omega))).upd (mem.Upd.of_only hO) (.inr (by omega)) (.inr (by omega)))
        have HBS := Lib.hid (mem.below_only (C3.out.trans (UZ.below (by omega) (by rintro q _ rfl; omega))) hO (by omega))
        have TS := And.intro ((hO.cell (a := ⟨w2.heap.size, 0, none⟩) hTR).trans (hAn _ UZ).1) (And.intro ((hO.cell (a := ⟨w2.heap.size, 1, none⟩) hTR).trans (hAn _ UZ).2.1) (And.intro ((hO.cell (a := ⟨b2, k * 5, none⟩) (by show b2 ≠ w.heap.size; omega)).trans (hAn _ UZ).2.2.1) ((hO.cell (a := ⟨b2, k * 5 + 1, none⟩) (by show b2 ≠ w.heap.size; omega)).trans (hAn _ UZ).2.2.2)))
        have hyS := (hO.cell (a := ⟨wx.heap.size, jx, none⟩) (by show wx.heap.size ≠ w.heap.size; omega)).trans hy2
        clear RZ hO
        go_simp
        refine hK.out _ _ ?_ (fun hHeld => ?_)
        · exact TS
        clear hK K
        try simp only [Act.put, List.setIfInBounds_toArray, List.set_cons_zero, List.set_cons_succ]
        clear f0 f1 k0 k1
        generalize hW : (WZ.setCell ⟨w.heap.size, 0, none⟩ (.slice p0 n c0)).setCell ⟨w.heap.size, 1, none⟩ (.slice (some ⟨b2, 0, none⟩) m c1) = WS at *
        clear hW
        have g0 : WS.cell? ⟨w.heap.size, 0, none⟩ = some (.slice p0 n c0) := RS.cell 0 (by omega)
        have g1 : WS.cell? ⟨w.heap.size, 1, none⟩ = some (.slice (some ⟨b2, 0, none⟩) m c1) := RS.cell 1 (by omega)
        refine wpAnyH_take (i := 20) (v := ?_) nth20 (by kernel_rfl) (by kernel_rfl) (by kernel_rfl) (fun _ _ _ h => h) (Or.inl ⟨by rfl, ?_⟩) (by assumption) ?_
        rotate_left
        · intro w hSw; (try dsimp only at hSw); go_simp; try with_reducible rfl
        try simp only [Act.put, List.setIfInBounds_toArray, List.set_cons_zero, List.set_cons_succ]
        refine wpAnyH_take (i := 21) (v := ?_) nth21 (by kernel_rfl) (by kernel_rfl) (by kernel_rfl) (fun _ _ _ h => h) (Or.inl ⟨by rfl, ?_⟩) (by assumption) ?_
        rotate_left
        · intro w hSw; (try dsimp only at hSw); go_simp; try with_reducible rfl
        try simp only [Act.put, List.setIfInBounds_toArray, List.set_cons_zero, List.set_cons_succ]
        refine wpAnyH_done (by kernel_rfl) ?_ _
        go_wp2_with fail
        refine bodyPost_ret (v := .tuple #[.agg #[.slice p0 n c0, .slice (some ⟨b2, 0, none⟩) m c1], .int .i64 k, .int .i64 y]) (by simp [results, Try.results16, go_sem, g0, g1]) rfl ⟨_, n, m, N, P, b1, b2, k, y, rfl, hn, hm, hnm, HOS.out, by omega, by omega, HBS.out⟩
      · have RZ := R3.keep (UZ.block _ R3.lt (by omega))
        have f0 := RZ.b0
        have f1 := RZ.b1
        have k0 := RZ.free 0
        have k1 := RZ.free 1
        have RS := (RZ.set 0 (.slice p0 n c0) (by omega)).set 1 (.slice (some ⟨b2, 0, none⟩) m c1) (by omega)
        have hO := ((mem.Only.refl w.heap.size WZ).setCell 0 (.slice p0 n c0)).setCell 1 (.slice (some ⟨b2, 0, none⟩) m c1)
        have HOS := Lib.hid ((O3.out.upd UZ (.inr (by omega)) (.inr (by omega))).upd (mem.Upd.of_only hO) (.inr (by omega)) (.inr (by omega)))
        have HBS := Lib.hid (mem.below_only (C3.out.trans (UZ.below (by omega) (by rintro q _ rfl; omega))) hO (by omega))
        have TS := And.intro ((hO.cell (a := ⟨w2.heap.size, 0, none⟩) hTR).trans (hAn _ UZ).1) (And.intro ((hO.cell (a := ⟨w2.heap.size, 1, none⟩) hTR).trans (hAn _ UZ).2.1) (And.intro ((hO.cell (a := ⟨b2, k * 5, none⟩) (by show b2 ≠ w.heap.size; omega)).trans (hAn _ UZ).2.2.1) ((hO.cell (a := ⟨b2, k * 5 + 1, none⟩) (by show b2 ≠ w.heap.size; omega)).trans (hAn _ UZ).2.2.2)))
        have hyS := (hO.cell (a := ⟨wx.heap.size, jx, none⟩) (by show wx.heap.size ≠ w.heap.size; omega)).trans hy2
        clear RZ hO
        go_simp
        refine hK.out _ _ ?_ (fun hHeld => ?_)
        · exact TS
        clear hK K
        try simp only [Act.put, List.setIfInBounds_toArray, List.set_cons_zero, List.set_cons_succ]
        clear f0 f1 k0 k1
        generalize hW : (WZ.setCell ⟨w.heap.size, 0, none⟩ (.slice p0 n c0)).setCell ⟨w.heap.size, 1, none⟩ (.slice (some ⟨b2, 0, none⟩) m c1) = WS at *
        clear hW
        have g0 : WS.cell? ⟨w.heap.size, 0, none⟩ = some (.slice p0 n c0) := RS.cell 0 (by omega)
        have g1 : WS.cell? ⟨w.heap.size, 1, none⟩ = some (.slice (some ⟨b2, 0, none⟩) m c1) := RS.cell 1 (by omega)
        refine wpAnyH_take (i := 20) (v := ?_) nth20 (by kernel_rfl) (by kernel_rfl) (by kernel_rfl) (fun _ _ _ h => h) (Or.inl ⟨by rfl, ?_⟩) (by assumption) ?_
        rotate_left
        · intro w hSw; (try dsimp only at hSw); go_simp; try with_reducible rfl
        try simp only [Act.put, List.setIfInBounds_toArray, List.set_cons_zero, List.set_cons_succ]
        refine wpAnyH_ready (rs := [18]) (by kernel_rfl) (by simp) ?_
        refine (AllReadyH.cons nth18 (fun K hK => ?_) AllReadyH.nil)
        go_simp
        refine hK.out _ _ ?_ (fun hHeld => ?_)
        · exact TS
        clear hK K
        try simp only [Act.put, List.setIfInBounds_toArray, List.set_cons_zero, List.set_cons_succ]
        refine wpAnyH_take (i := 21) (v := ?_) nth21 (by kernel_rfl) (by kernel_rfl) (by kernel_rfl) (fun _ _ _ h => h) (Or.inl ⟨by rfl, ?_⟩) (by assumption) ?_
        rotate_left
        · intro w hSw; (try dsimp only at hSw); go_simp; try with_reducible rfl
        try simp only [Act.put, List.setIfInBounds_toArray, List.set_cons_zero, List.set_cons_succ]
        refine wpAnyH_done (by kernel_rfl) ?_ _
        go_wp2_with fail
        refine bodyPost_ret (v := .tuple #[.agg #[.slice p0 n c0, .slice (some ⟨b2, 0, none⟩) m c1], .int .i64 k, .int .i64 y]) (by simp [results, Try.results16, go_sem, g0, g1]) rfl ⟨_, n, m, N, P, b1, b2, k, y, rfl, hn, hm, hnm, HOS.out, by omega, by omega, HBS.out⟩
    · clear UZ
      have UZ := UX
      have RZ := R3.keep (UZ.block _ R3.lt (by omega))
      have f0 := RZ.b0
      have f1 := RZ.b1
      have k0 := RZ.free 0
      have k1 := RZ.free 1
      have RS := (RZ.set 0 (.slice p0 n c0) (by omega)).set 1 (.slice (some ⟨b2, 0, none⟩) m c1) (by omega)
      have hO := ((mem.Only.refl w.heap.size wx).setCell 0 (.slice p0 n c0)).setCell 1 (.slice (some ⟨b2, 0, none⟩) m c1)
      have HOS := Lib.hid ((O3.out.upd UZ (.inr (by omega)) (.inr (by omega))).upd (mem.Upd.of_only hO) (.inr (by omega)) (.inr (by omega)))
      have HBS := Lib.hid (mem.below_only (C3.out.trans (UZ.below (by omega) (by rintro q _ rfl; omega))) hO (by omega))
      have TS := And.intro ((hO.cell (a := ⟨w2.heap.size, 0, none⟩) hTR).trans (hAn _ UZ).1) (And.intro ((hO.cell (a := ⟨w2.heap.size, 1, none⟩) hTR).trans (hAn _ UZ).2.1) (And.intro ((hO.cell (a := ⟨b2, k * 5, none⟩) (by show b2 ≠ w.heap.size; omega)).trans (hAn _ UZ).2.2.1) ((hO.cell (a := ⟨b2, k * 5 + 1, none⟩) (by show b2 ≠ w.heap.size; omega)).trans (hAn _ UZ).2.2.2)))
      have hzS : wx.heap.size ≤ ((wx.setCell ⟨w.heap.size, 0, none⟩ (.slice p0 n c0)).setCell ⟨w.heap.size, 1, none⟩ (.slice (some ⟨b2, 0, none⟩) m c1)).heap.size ∧ ((wx.setCell ⟨w.heap.size, 0, none⟩ (.slice p0 n c0)).setCell ⟨w.heap.size, 1, none⟩ (.slice (some ⟨b2, 0, none⟩) m c1)).heap.size ≤ wx.heap.size := by rw [hO.size]; exact ⟨Nat.le_refl _, Nat.le_refl _⟩
      clear RZ hO
      go_simp
      refine hK.out _ _ ?_ (fun hHeld => ?_)
      · exact TS
      clear hK K
      try simp only [Act.put, List.setIfInBounds_toArray, List.set_cons_zero, List.set_cons_succ]
      clear f0 f1 k0 k1
      generalize hW : (wx.setCell ⟨w.heap.size, 0, none⟩ (.slice p0 n c0)).setCell ⟨w.heap.size, 1, none⟩ (.slice (some ⟨b2, 0, none⟩) m c1) = WS at *
      clear hW
      have g0 : WS.cell? ⟨w.heap.size, 0, none⟩ = some (.slice p0 n c0) := RS.cell 0 (by omega)
      have g1 : WS.cell? ⟨w.heap.size, 1, none⟩ = some (.slice (some ⟨b2, 0, none⟩) m c1) := RS.cell 1 (by omega)
      refine wpAnyH_take (i := 20) (v := ?_) nth20 (by kernel_rfl) (by kernel_rfl) (by kernel_rfl) (fun _ _ _ h => h) (Or.inl ⟨by rfl, ?_⟩) (by assumption) ?_
      rotate_left
      · intro w hSw; (try dsimp only at hSw); go_simp; try with_reducible rfl
      try simp only [Act.put, List.setIfInBounds_toArray, List.set_cons_zero, List.set_cons_succ]
      refine wpAnyH_ready (rs := [14]) (by kernel_rfl) (by simp) ?_
      refine (AllReadyH.cons nth14 (fun K hK => ?_) AllReadyH.nil)
      obtain ⟨y, hy⟩ := tabI WS 2 _ hcs jx hjx
      have TA := And.intro ((World.cell?_of_block (mem.below_new WS (Obj.cells #[.int .i64 (P k).f, .int .i64 (P k).t] 2) |>.block w2.heap.size (by omega))).trans TS.1 : (WS.alloc (Obj.cells #[.int .i64 (P k).f, .int .i64 (P k).t] 2)).cell? ⟨w2.heap.size, 0, none⟩ = _) (And.intro ((World.cell?_of_block (mem.below_new WS (Obj.cells #[.int .i64 (P k).f, .int .i64 (P k).t] 2) |>.block w2.heap.size (by omega))).trans TS.2.1 : (WS.alloc (Obj.cells #[.int .i64 (P k).f, .int .i64 (P k).t] 2)).cell? ⟨w2.heap.size, 1, none⟩ = _) (And.intro ((World.cell?_of_block (mem.below_new WS (Obj.cells #[.int .i64 (P k).f, .int .i64 (P k).t] 2) |>.block b2 (by omega))).trans TS.2.2.1 : (WS.alloc (Obj.cells #[.int .i64 (P k).f, .int .i64 (P k).t] 2)).cell? ⟨b2, k * 5, none⟩ = _) ((World.cell?_of_block (mem.below_new WS (Obj.cells #[.int .i64 (P k).f, .int .i64 (P k).t] 2) |>.block b2 (by omega))).trans TS.2.2.2 : (WS.alloc (Obj.cells #[.int .i64 (P k).f, .int .i64 (P k).t] 2)).cell? ⟨b2, k * 5 + 1, none⟩ = _)))
      have g0' := (World.cell?_of_block (mem.below_new WS (Obj.cells #[.int .i64 (P k).f, .int .i64 (P k).t] 2) |>.block w.heap.size (by omega)) : (WS.alloc (Obj.cells #[.int .i64 (P k).f, .int .i64 (P k).t] 2)).cell? ⟨w.heap.size, 0, none⟩ = _).trans g0
      have g1' := (World.cell?_of_block (mem.below_new WS (Obj.cells #[.int .i64 (P k).f, .int .i64 (P k).t] 2) |>.block w.heap.size (by omega)) : (WS.alloc (Obj.cells #[.int .i64 (P k).f, .int .i64 (P k).t] 2)).cell? ⟨w.heap.size, 1, none⟩ = _).trans g1
      have HOA := Lib.hid (HOS.out.next (mem.below_new WS (Obj.cells #[.int .i64 (P k).f, .int .i64 (P k).t] 2)))
      have HBA := Lib.hid (mem.belowNext HBS.out (mem.below_new WS (Obj.cells #[.int .i64 (P k).f, .int .i64 (P k).t] 2)))
      clear HOS HBS
      go_simp
      refine hK.out _ _ ?_ (fun hHeld => ?_)
      · exact TA
      clear hK K
      try simp only [Act.put, List.setIfInBounds_toArray, List.set_cons_zero, List.set_cons_succ]
      clear g0 g1
      generalize hWA : WS.alloc (Obj.cells #[.int .i64 (P k).f, .int .i64 (P k).t] 2) = WA at *
      clear hWA
      have g0 := g0'
      have g1 := g1'
      have HOS := HOA
      have HBS := HBA
      refine wpAnyH_take (i := 17) (v := ?_) nth17 (by kernel_rfl) (by kernel_rfl) (by kernel_rfl) (fun _ _ _ h => h) (Or.inl ⟨by rfl, ?_⟩) (by assumption) ?_
      rotate_left
      · intro w hSw; (try dsimp only at hSw); go_simp; try with_reducible rfl
      try simp only [Act.put, List.setIfInBounds_toArray, List.set_cons_zero, List.set_cons_succ]
      refine wpAnyH_ready (rs := [18]) (by kernel_rfl) (by simp) ?_
      refine (AllReadyH.cons nth18 (fun K hK => ?_) AllReadyH.nil)
      go_simp
      refine hK.out _ _ ?_ (fun hHeld => ?_)
      · exact TA
      clear hK K
      try simp only [Act.put, List.setIfInBounds_toArray, List.set_cons_zero, List.set_cons_succ]
      refine wpAnyH_take (i := 21) (v := ?_) nth21 (by kernel_rfl) (by kernel_rfl) (by kernel_rfl) (fun _ _ _ h => h) (Or.inl ⟨by rfl, ?_⟩) (by assumption) ?_
      rotate_left
      · intro w hSw; (try dsimp only at hSw); go_simp; try with_reducible rfl
      try simp only [Act.put, List.setIfInBounds_toArray, List.set_cons_zero, List.set_cons_succ]
      refine wpAnyH_done (by kernel_rfl) ?_ _
      go_wp2_with fail
      refine bodyPost_ret (v := .tuple #[.agg #[.slice p0 n c0, .slice (some ⟨b2, 0, none⟩) m c1], .int .i64 k, .int .i64 y]) (by simp [results, Try.results16, go_sem, g0, g1]) rfl ⟨_, n, m, N, P, b1, b2, k, y, rfl, hn, hm, hnm, HOS.out, by omega, by omega, HBS.out⟩
end Go.Proofs.Ytdmcggnhnkaoeaa.draw
