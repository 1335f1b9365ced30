/-
  The draws of a network and of an index, over the contract of l02DrawAny (AnyOK, to be proved). Conditions: as each states.
-/
import Derived.Test.YtemjeoelglkhkaaGreatDoorRows
import Derived.Test.YtemjeoelglkhkaaGreatDoorDrE
import Derived.WalkKit
import Derived.ProofKit
import Derived.Lib.Hide
import Derived.OwnWalk
import Derived.Outline
import Derived.Deep.RegionHeld3
namespace Go.Proofs.YtemjeoelglkhkaaGreatDoor.draw
open Go.RowKit
set_option linter.unusedVariables false

/-- any network: its names are of bounded length -/
def AnyPost (w : World) (b : Nat) (cv : Value) (len : Nat) (e : Ending) (w' : World) : Prop :=
  ∃ (v : Value) (n m : Nat) (N : Nat → mem.Nod) (P : Nat → mem.Pip) (b1 b2 : Nat) (i s : Int), e = .returned v ∧ n ≤ 1000 ∧ m ≤ 1000 ∧ (∀ i, i < n → (N i).s.size ≤ 9223372036854775807) ∧ mem.NetOwn w' v n N m P b1 b2 ∧ w.heap.size ≤ b1 ∧ w.heap.size ≤ b2 ∧ Src w' b cv len i s ∧ mem.Upd (· = b) w w'
def AnyOK : Prop := ∀ (w : World) (b B : Nat) (cv : Value) (len : Nat) (i s : Int), Src w b cv len i s → CodeAt w cv len B → B ≤ b → Calls Tryz.prog 52 #[.pointer (some ⟨b, 0, none⟩)] w (AnyPost w b cv len)
/-- a network and an index have been drawn -/
def NetIdxPost (w : World) (e : Ending) (w' : World) : Prop :=
  ∃ (v : Value) (n m : Nat) (N : Nat → mem.Nod) (P : Nat → mem.Pip) (b1 b2 : Nat) (x : Int), e = .returned (.tuple #[v, .int .i64 x]) ∧ n ≤ 1000 ∧ m ≤ 1000 ∧ (∀ i, i < n → (N i).s.size ≤ 9223372036854775807) ∧ mem.NetOwn w' v n N m P b1 b2 ∧ w.heap.size ≤ b1 ∧ w.heap.size ≤ b2 ∧ -1 ≤ x ∧ x ≤ 4000000 ∧ Below w.heap.size w w'

set_option maxRecDepth 100000 in
set_option maxHeartbeats 4000000 in
theorem turnDraw (H : AnyOK) (w : World) (cv : Value) (len : Nat) (hc : CodeAt w cv len w.heap.size) : Calls Tryz.prog 42 #[cv] w (NetIdxPost w) := by
  have HC := Lib.hid hc
  have R1 := mem.boxed w (.slice none 0 0) (.slice none 0 0) 25
  have C1 := mem.below_new w (.cells #[.slice none 0 0, .slice none 0 0] 25)
  have hsz : (w.alloc (.cells #[.slice none 0 0, .slice none 0 0] 25)).heap.size = w.heap.size + 1 := by simp
  go_enter Tryz.func42, Tryz.ntmps42
  go_wp2_with fail
  generalize hW : w.alloc (.cells #[.slice none 0 0, .slice none 0 0] 25) = Wa at *
  clear hW hc
  replace hsz := Nat.le_antisymm_iff.1 hsz
  refine (from_any Wa cv len (by have := codeAt_below HC.out C1; rcases this with h | ⟨cb, co, cap, h1, h2, h3⟩; exact .inl h; exact .inr ⟨cb, co, cap, h1, by omega, h3⟩)).mono ?_
  rintro e w1 ⟨s1, rfl, hS1, B1, z1⟩
  obtain ⟨b, hbe⟩ : ∃ b, b = Wa.heap.size := ⟨_, rfl⟩
  rw [← hbe] at hS1 z1 ⊢
  replace hbe := Nat.le_antisymm_iff.1 hbe
  replace z1 := Nat.le_antisymm_iff.1 z1
  have C2 := mem.belowNext C1 B1
  have R2 := R1.next B1
  clear B1 C1 R1
  go_wp2_with fail
  refine (H w1 b w.heap.size cv len 0 s1 hS1 (codeAt_below HC.out C2) (by omega)).mono ?_
  rintro e w2 ⟨v, n, m, N, P, b1, b2, i2, s2, rfl, hn, hm, hnm, hO, l1, l2, hS2, U2⟩
  obtain ⟨p0, c0, p1, c1, rfl⟩ := hO.shape
  have C3 := Lib.hid ((C2.trans (U2.below (by omega) (by rintro x _ rfl; omega))).trans ((mem.below_new w2 (.cells #[.slice p0 n c0, .slice p1 m c1] 25)).mono (by have := U2.size; omega)))
  have R3 := (R2.keep (U2.block w.heap.size (by omega) (by omega))).next (mem.below_new w2 (.cells #[.slice p0 n c0, .slice p1 m c1] 25))
  have T3 := mem.boxed w2 (.slice p0 n c0) (.slice p1 m c1) 25
  have O3 := Lib.hid (hO.next (mem.below_new w2 (.cells #[.slice p0 n c0, .slice p1 m c1] 25)))
  have S3 := src_alloc hS2 (src_lt hS2) (.cells #[.slice p0 n c0, .slice p1 m c1] 25)
  have hb2 := src_lt hS2
  have hbT : b ≠ w2.heap.size := by omega
  have hbR : b ≠ w.heap.size := by omega
  have hTR : w2.heap.size ≠ w.heap.size := by omega
  have hl1 : b < b1 := by omega
  have hl2 : b < b2 := by omega
  clear C2 R2 hO hS2 hS1
  have hU := U2.size
  clear U2
  go_wp2_with fail
  generalize hW : w2.alloc (.cells #[.slice p0 n c0, .slice p1 m c1] 25) = W3 at *
  clear hW
  have t0 := T3.b0
  have t1 := T3.b1
  have f0 := R3.b0
  have f1 := R3.b1
  have k0 := R3.free 0
  have k1 := R3.free 1
  have HC3 := Lib.hid (code_of (b := b) (B := w.heap.size) (codeAt_below HC.out C3.out) ⟨rfl, rfl, rfl, Nat.le_refl _, fun _ _ _ => rfl⟩ (by omega) (src_lt S3) : CodeAt W3.drew cv len w.heap.size)
  go_region_held3 (fun w' => w'.cell? ⟨w2.heap.size, 0, none⟩ = some (.slice p0 n c0) ∧ w'.cell? ⟨w2.heap.size, 1, none⟩ = some (.slice p1 m c1)) (first | exact ⟨t0, t1⟩ | exact ⟨TX.b0, TX.b1⟩ | exact ⟨((((mem.Only.refl w.heap.size _).setCell _ _).setCell _ _).cell (a := ⟨w2.heap.size, 0, none⟩) hTR).trans TX.b0, ((((mem.Only.refl w.heap.size _).setCell _ _).setCell _ _).cell (a := ⟨w2.heap.size, 1, none⟩) hTR).trans TX.b1⟩ | go_keep)
    (first | (go_at_call 73; refine (index_any _ b w.heap.size cv len i2 s2 m (src_upd S3 rfl : Src W3.drew b cv len i2 s2) HC3.out (by omega) (by omega)).mono ?_; rintro e wx ⟨x, ix, sx, rfl, x0, x1, hSx, ox⟩; have TX := (T3.keep (ox.block w2.heap.size (by omega)) : mem.Ob wx w2.heap.size 2 _); have RX := (R3.keep (ox.block w.heap.size (by omega)) : mem.Ob wx w.heap.size 2 _); have fx0 := RX.b0; have fx1 := RX.b1; have kx0 := RX.free 0; have kx1 := RX.free 1))
  have hO := ((mem.Only.refl w.heap.size wx).setCell 0 (.slice p0 n c0)).setCell 1 (.slice p1 m c1)
  have HO := Lib.hid ((O3.out.drew.upd (upd_of ox) (.inr (by omega)) (.inr (by omega))).upd (mem.Upd.of_only hO) (.inr (by omega)) (.inr (by omega)))
  have HB := Lib.hid (mem.below_only ((mem.below_dw C3.out).trans (only_below ox (by omega))) hO (by omega))
  clear hO ox TX RX O3
  go_wp2_with fail
  refine bodyPost_ret (v := .tuple #[.agg #[.slice p0 n c0, .slice p1 m c1], .int .i64 x]) (by simp [results, Tryz.results42, go_sem, fx0, fx1]) rfl ⟨_, n, m, N, P, b1, b2, x, rfl, hn, hm, hnm, HO.out, by omega, by omega, x0, x1, HB.out⟩
end Go.Proofs.YtemjeoelglkhkaaGreatDoor.draw
