/-
  Draws of a network and supplies that hand the common one on. Conditions: as each states.
-/
import Derived.Test.YtmjmamiokkkblaaRows
import Derived.Test.YtmjmamiokkkblaaDr6
import Derived.WalkKit
import Derived.ProofKit
import Derived.Lib.Hide
import Derived.OwnWalk
import Derived.Outline
namespace Go.Proofs.Ytmjmamiokkkblaa.draw
open Go.RowKit
set_option linter.unusedVariables false

def NLOnly (w : World) (e : Ending) (w' : World) : Prop :=
  ∃ (v : Value) (n m : Nat) (N : Nat → mem.Nod) (P : Nat → mem.Pip) (b1 b2 : Nat) (vl : Value) (K : Nat) (D : Nat → Int), e = .returned (.tuple #[v, vl]) ∧ n ≤ 1000 ∧ m ≤ 1000 ∧ K ≤ 2000 ∧ (∀ i, i < n → (N i).s.size ≤ 9223372036854775807) ∧ mem.NetOwn w' v n N m P b1 b2 ∧ w.heap.size ≤ b1 ∧ w.heap.size ≤ b2 ∧ mem.Sl w' vl K D w.heap.size w'.heap.size ∧ Below w.heap.size w w'
theorem sl_sh {w : World} {v : Value} {n : Nat} {d : Nat → Int} {lo hi : Nat} (h : mem.Sl w v n d lo hi) : ∃ p cap, v = .slice p n cap := by
  obtain ⟨p, cap, e, _⟩ := h.ex
  exact ⟨p, cap, e⟩
set_option maxRecDepth 100000 in
set_option maxHeartbeats 4000000 in
theorem drawThroughputOf (w : World) (cv : Value) (len : Nat) (hc : CodeAt w cv len w.heap.size) : Calls Try.prog 12 #[cv] w (NLOnly w) := by
  have HC := Lib.hid hc
  have R1 := mem.boxed w (.slice none 0 0) (.slice none 0 0) 27
  have C1 := mem.below_new w (.cells #[.slice none 0 0, .slice none 0 0] 27)
  have hsz : (w.alloc (.cells #[.slice none 0 0, .slice none 0 0] 27)).heap.size = w.heap.size + 1 := by simp
  go_enter Try.func12, Try.ntmps12
  go_wp2_with fail
  generalize hW : w.alloc (.cells #[.slice none 0 0, .slice none 0 0] 27) = Wa at *
  clear hW hc
  replace hsz := Nat.le_antisymm_iff.1 hsz
  refine (from_any Wa cv len (by have := codeAt_below HC.out C1; rcases this with h | ⟨cb, co, cap, h1, h2, h3⟩; exact .inl h; exact .inr ⟨cb, co, cap, h1, by omega, h3⟩)).mono ?_
  rintro e w1 ⟨s1, rfl, hS1, B1, z1⟩
  obtain ⟨b, hbe⟩ : ∃ b, b = Wa.heap.size := ⟨_, rfl⟩
  rw [← hbe] at hS1 z1 ⊢
  replace hbe := Nat.le_antisymm_iff.1 hbe
  replace z1 := Nat.le_antisymm_iff.1 z1
  have C2 := mem.belowNext C1 B1
  have R2 := R1.next B1
  clear B1 C1 R1
  go_wp2_with fail
  refine (six_any w1 b w.heap.size cv len 0 s1 hS1 (codeAt_below HC.out C2) (by omega)).mono ?_
  rintro e w2 ⟨v, n, m, N, P, b1, b2, vl, K, D, i2, s2, rfl, hn, hm, hK, hnm, hO, l1, l2, hL, hS2, U2⟩
  obtain ⟨p0, c0, p1, c1, rfl⟩ := hO.shape
  have C3 := C2.trans (U2.below (by omega) (by rintro x _ rfl; omega))
  have R3 := R2.keep (U2.block w.heap.size (by omega) (by omega))
  have f0 := R3.b0
  have f1 := R3.b1
  have k0 := R3.free 0
  have k1 := R3.free 1
  have hO2 := ((mem.Only.refl w.heap.size w2).setCell 0 (.slice p0 n c0)).setCell 1 (.slice p1 m c1)
  have HO := Lib.hid (hO.upd (mem.Upd.of_only hO2) (.inr (by omega)) (.inr (by omega)))
  have HB := Lib.hid (mem.below_only C3 hO2 (by omega))
  have HL := Lib.hid ((hL.only hO2 (.inl (by omega))).mono (show w.heap.size ≤ w1.heap.size by omega) (Nat.le_of_eq hO2.size))
  obtain ⟨pl, cl, rfl⟩ := sl_sh hL
  clear C2 R2 hO hS2 hS1 C3 R3 U2 hO2 hL
  go_wp2_with fail
  refine bodyPost_ret (v := .tuple #[.agg #[.slice p0 n c0, .slice p1 m c1], .slice pl K cl]) (by simp [results, Try.results12, go_sem, f0, f1]) rfl ⟨_, n, m, N, P, b1, b2, _, K, D, rfl, hn, hm, hK, hnm, HO.out, by omega, by omega, HL.out, HB.out⟩
set_option maxRecDepth 100000 in
set_option maxHeartbeats 4000000 in
theorem drawForestFlows (w : World) (cv : Value) (len : Nat) (hc : CodeAt w cv len w.heap.size) : Calls Try.prog 17 #[cv] w (NLOnly w) := by
  have HC := Lib.hid hc
  have R1 := mem.boxed w (.slice none 0 0) (.slice none 0 0) 27
  have C1 := mem.below_new w (.cells #[.slice none 0 0, .slice none 0 0] 27)
  have hsz : (w.alloc (.cells #[.slice none 0 0, .slice none 0 0] 27)).heap.size = w.heap.size + 1 := by simp
  go_enter Try.func17, Try.ntmps17
  go_wp2_with fail
  generalize hW : w.alloc (.cells #[.slice none 0 0, .slice none 0 0] 27) = Wa at *
  clear hW hc
  replace hsz := Nat.le_antisymm_iff.1 hsz
  refine (from_any Wa cv len (by have := codeAt_below HC.out C1; rcases this with h | ⟨cb, co, cap, h1, h2, h3⟩; exact .inl h; exact .inr ⟨cb, co, cap, h1, by omega, h3⟩)).mono ?_
  rintro e w1 ⟨s1, rfl, hS1, B1, z1⟩
  obtain ⟨b, hbe⟩ : ∃ b, b = Wa.heap.size := ⟨_, rfl⟩
  rw [← hbe] at hS1 z1 ⊢
  replace hbe := Nat.le_antisymm_iff.1 hbe
  replace z1 := Nat.le_antisymm_iff.1 z1
  have C2 := mem.belowNext C1 B1
  have R2 := R1.next B1
  clear B1 C1 R1
  go_wp2_with fail
  refine (six_any w1 b w.heap.size cv len 0 s1 hS1 (codeAt_below HC.out C2) (by omega)).mono ?_
  rintro e w2 ⟨v, n, m, N, P, b1, b2, vl, K, D, i2, s2, rfl, hn, hm, hK, hnm, hO, l1, l2, hL, hS2, U2⟩
  obtain ⟨p0, c0, p1, c1, rfl⟩ := hO.shape
  have C3 := C2.trans (U2.below (by omega) (by rintro x _ rfl; omega))
  have R3 := R2.keep (U2.block w.heap.size (by omega) (by omega))
  have f0 := R3.b0
  have f1 := R3.b1
  have k0 := R3.free 0
  have k1 := R3.free 1
  have hO2 := ((mem.Only.refl w.heap.size w2).setCell 0 (.slice p0 n c0)).setCell 1 (.slice p1 m c1)
  have HO := Lib.hid (hO.upd (mem.Upd.of_only hO2) (.inr (by omega)) (.inr (by omega)))
  have HB := Lib.hid (mem.below_only C3 hO2 (by omega))
  have HL := Lib.hid ((hL.only hO2 (.inl (by omega))).mono (show w.heap.size ≤ w1.heap.size by omega) (Nat.le_of_eq hO2.size))
  obtain ⟨pl, cl, rfl⟩ := sl_sh hL
  clear C2 R2 hO hS2 hS1 C3 R3 U2 hO2 hL
  go_wp2_with fail
  refine bodyPost_ret (v := .tuple #[.agg #[.slice p0 n c0, .slice p1 m c1], .slice pl K cl]) (by simp [results, Try.results17, go_sem, f0, f1]) rfl ⟨_, n, m, N, P, b1, b2, _, K, D, rfl, hn, hm, hK, hnm, HO.out, by omega, by omega, HL.out, HB.out⟩

end Go.Proofs.Ytmjmamiokkkblaa.draw
