/-
  Several texts in one: DrH, DrX, Roll.
-/
import Derived.Test.YtlcegdamjbpfpaaRows
import Derived.Test.YtlcegdamjbpfpaaDrG
import Derived.WalkKit
import Derived.ProofKit
import Derived.Lib.Hide
import Derived.OwnWalk
import Derived.Outline
import Derived.Deep.RegionHeld3
import Derived.Deep.Cut
import Derived.Deep.RegionWith
import Derived.Test.YtlcegdamjbpfpaaDrawB
import Derived.Laws.BitsLemmas
namespace Go.Proofs.Ytlcegdamjbpfpaa.draw
open Go.RowKit
set_option linter.unusedVariables false

/-- a network, an index and a name have been drawn -/
def NetIdxStrPost (w : World) (e : Ending) (w' : World) : Prop :=
  ∃ (v : Value) (n m : Nat) (N : Nat → mem.Nod) (P : Nat → mem.Pip) (b1 b2 : Nat) (x : Int) (s : ByteArray), e = .returned (.tuple #[v, .int .i64 x, .string s]) ∧ n ≤ 1000 ∧ m ≤ 1000 ∧ (∀ i, i < n → (N i).s.size ≤ 9223372036854775807) ∧ mem.NetOwn w' v n N m P b1 b2 ∧ w.heap.size ≤ b1 ∧ w.heap.size ≤ b2 ∧ -1 ≤ x ∧ x ≤ 4000000 ∧ s.size ≤ 9223372036854775807 ∧ Below w.heap.size w w'

end Go.Proofs.Ytlcegdamjbpfpaa.draw

namespace Go.Proofs.Ytlcegdamjbpfpaa.draw
open Go.RowKit
set_option linter.unusedVariables false

/-- a network and two indices have been drawn -/
def NetTwoPost (w : World) (e : Ending) (w' : World) : Prop :=
  ∃ (v : Value) (n m : Nat) (N : Nat → mem.Nod) (P : Nat → mem.Pip) (b1 b2 : Nat) (x y : Int), e = .returned (.tuple #[v, .int .i64 x, .int .i64 y]) ∧ n ≤ 1000 ∧ m ≤ 1000 ∧ (∀ i, i < n → (N i).s.size ≤ 9223372036854775807) ∧ mem.NetOwn w' v n N m P b1 b2 ∧ w.heap.size ≤ b1 ∧ w.heap.size ≤ b2 ∧ Below w.heap.size w w'

/-- a network has been drawn -/
def NetOnlyPost (w : World) (e : Ending) (w' : World) : Prop :=
  ∃ (v : Value) (n m : Nat) (N : Nat → mem.Nod) (P : Nat → mem.Pip) (b1 b2 : Nat), e = .returned v ∧ n ≤ 1000 ∧ m ≤ 1000 ∧ (∀ i, i < n → (N i).s.size ≤ 9223372036854775807) ∧ mem.NetOwn w' v n N m P b1 b2 ∧ w.heap.size ≤ b1 ∧ w.heap.size ≤ b2 ∧ Below w.heap.size w w'

set_option maxRecDepth 100000 in
set_option maxHeartbeats 4000000 in
theorem drawSpanningForest (w : World) (cv : Value) (len : Nat) (hc : CodeAt w cv len w.heap.size) : Calls Try.prog 42 #[cv] w (NetOnlyPost w) := by
  have HC := Lib.hid hc
  have R1 := mem.boxed w (.slice none 0 0) (.slice none 0 0) 33
  have C1 := mem.below_new w (.cells #[.slice none 0 0, .slice none 0 0] 33)
  have hsz : (w.alloc (.cells #[.slice none 0 0, .slice none 0 0] 33)).heap.size = w.heap.size + 1 := by simp
  go_enter Try.func42, Try.ntmps42
  go_wp2_with fail
  generalize hW : w.alloc (.cells #[.slice none 0 0, .slice none 0 0] 33) = Wa at *
  clear hW hc
  replace hsz := Nat.le_antisymm_iff.1 hsz
  refine (from_any Wa cv len (by have := codeAt_below HC.out C1; rcases this with h | ⟨cb, co, cap, h1, h2, h3⟩; exact .inl h; exact .inr ⟨cb, co, cap, h1, by omega, h3⟩)).mono ?_
  rintro e w1 ⟨s1, rfl, hS1, B1, z1⟩
  obtain ⟨b, hbe⟩ : ∃ b, b = Wa.heap.size := ⟨_, rfl⟩
  rw [← hbe] at hS1 z1 ⊢
  replace hbe := Nat.le_antisymm_iff.1 hbe
  replace z1 := Nat.le_antisymm_iff.1 z1
  have C2 := mem.belowNext C1 B1
  have R2 := R1.next B1
  clear B1 C1 R1
  go_wp2_with fail
  refine (any_ok w1 b w.heap.size cv len 0 s1 hS1 (codeAt_below HC.out C2) (by omega)).mono ?_
  rintro e w2 ⟨v, n, m, N, P, b1, b2, i2, s2, rfl, hn, hm, hnm, hO, l1, l2, hS2, U2⟩
  obtain ⟨p0, c0, p1, c1, rfl⟩ := hO.shape
  have C3 := C2.trans (U2.below (by omega) (by rintro x _ rfl; omega))
  have R3 := R2.keep (U2.block w.heap.size (by omega) (by omega))
  have f0 := R3.b0
  have f1 := R3.b1
  have k0 := R3.free 0
  have k1 := R3.free 1
  have hO2 := ((mem.Only.refl w.heap.size w2).setCell 0 (.slice p0 n c0)).setCell 1 (.slice p1 m c1)
  have HO := Lib.hid (hO.upd (mem.Upd.of_only hO2) (.inr (by omega)) (.inr (by omega)))
  have HB := Lib.hid (mem.below_only C3 hO2 (by omega))
  clear C2 R2 hO hS2 hS1 C3 R3 U2 hO2
  go_wp2_with fail
  refine bodyPost_ret (v := .agg #[.slice p0 n c0, .slice p1 m c1]) (by simp [results, Try.results42, go_sem, f0, f1]) rfl ⟨_, n, m, N, P, b1, b2, rfl, hn, hm, hnm, HO.out, by omega, by omega, HB.out⟩
end Go.Proofs.Ytlcegdamjbpfpaa.draw

namespace Go.Proofs.Ytlcegdamjbpfpaa.draw
open Go.RowKit
set_option linter.unusedVariables false

/-- the laws' dice lie in block b -/
structure Dc (w : World) (b : Nat) (cv : Value) (len : Nat) (i h : Int) : Prop where
  c0 : w.cell? ⟨b, 0, none⟩ = some cv
  c1 : w.cell? ⟨b, 1, none⟩ = some (.int .i64 i)
  c2 : w.cell? ⟨b, 2, none⟩ = some (.int .u64 h)
  f1 : w.frozen? ⟨b, 1, none⟩ = false
  f2 : w.frozen? ⟨b, 2, none⟩ = false
  i0 : 0 ≤ i
  i1 : i ≤ len
theorem dc_new (w : World) (cv : Value) (len : Nat) (h : Int) : Dc (w.alloc (.cells #[cv, .int .i64 0, .int .u64 h] 96)) w.heap.size cv len 0 h := by
  have hn := heap_alloc_new w (.cells #[cv, .int .i64 0, .int .u64 h] 96)
  refine ⟨?_, ?_, ?_, ?_, ?_, Int.le_refl _, by omega⟩
  · unfold World.cell?; rw [hn]; rfl
  · unfold World.cell?; rw [hn]; rfl
  · unfold World.cell?; rw [hn]; rfl
  · unfold World.frozen?; rw [hn]; rfl
  · unfold World.frozen?; rw [hn]; rfl
theorem dc_set2 {w : World} {b : Nat} {cv : Value} {len : Nat} {i h : Int} (k : Dc w b cv len i h) (h' : Int) : Dc (w.setCell ⟨b, 2, none⟩ (.int .u64 h')) b cv len i h' := by
  obtain ⟨c0, c1, c2, f1, f2, i0, i1⟩ := k
  refine ⟨?_, ?_, ?_, ?_, ?_, i0, i1⟩
  · exact (World.cell?_setCell_other _ _ _ _ (by simp)).trans c0
  · exact (World.cell?_setCell_other _ _ _ _ (by simp)).trans c1
  · exact World.cell?_setCell_same _ _ _ c2
  · simpa using f1
  · simpa using f2
theorem dc_set1 {w : World} {b : Nat} {cv : Value} {len : Nat} {i h : Int} (k : Dc w b cv len i h) (i' : Int) (k0 : 0 ≤ i') (k1 : i' ≤ len) : Dc (w.setCell ⟨b, 1, none⟩ (.int .i64 i')) b cv len i' h := by
  obtain ⟨c0, c1, c2, f1, f2, i0, i1⟩ := k
  refine ⟨?_, ?_, ?_, ?_, ?_, k0, k1⟩
  · exact (World.cell?_setCell_other _ _ _ _ (by simp)).trans c0
  · exact World.cell?_setCell_same _ _ _ c1
  · exact (World.cell?_setCell_other _ _ _ _ (by simp)).trans c2
  · simpa using f1
  · simpa using f2
theorem dc_drawn {w : World} {b : Nat} {cv : Value} {len : Nat} {i h : Int} (k : Dc w b cv len i h) (n : Nat) : Dc (w.drewN n) b cv len i h := ⟨k.c0, k.c1, k.c2, k.f1, k.f2, k.i0, k.i1⟩
def RollRel (w : World) (cv : Value) (len : Nat) (i : Value) (wr : World) : Prop := ∃ (k : Nat) (h : Int), i = .int .i64 k ∧ k ≤ len ∧ Dc wr w.heap.size cv len 0 h ∧ Below w.heap.size w wr
set_option maxHeartbeats 1000000 in
theorem roll_any (w : World) (cv : Value) (len : Nat) (hc : CodeAt w cv len w.heap.size) (s : Int) :
    Calls Try.prog 40 #[cv, .int .u64 s] w fun e w' => ∃ h, e = .returned (.pointer (some ⟨w.heap.size, 0, none⟩)) ∧ Dc w' w.heap.size cv len 0 h ∧ Below w.heap.size w w' := by
  rcases hc with ⟨p0, cap0, rfl, rfl⟩ | ⟨cb, co, cap, rfl, hcb, hlen, hcells⟩
  · go_enter Try.func40, Try.ntmps40
    go_wp2
    go_loopw [6] (fun i wr => RollRel w (.slice p0 0 cap0) 0 i wr) (fun i _ => 0 - (intOf i).toNat)
    case atStart => exact ⟨0, _, rfl, Nat.le_refl _, dc_new w _ 0 _, below_new _ _⟩
    case round =>
      obtain ⟨k, h, rfl, hk, hd, hb⟩ := hrel
      obtain rfl : k = 0 := by omega
      go_wp2
      go_ret
      exact ⟨h, rfl, hd, hb⟩
  · have hC2 := Lib.hid hcells
    clear hcells
    go_enter Try.func40, Try.ntmps40
    go_wp2
    go_loopw [6] (fun i wr => RollRel w (.slice (some ⟨cb, co, none⟩) len cap) len i wr) (fun i _ => len - (intOf i).toNat)
    case atStart => exact ⟨0, _, rfl, Nat.zero_le _, dc_new w _ len _, below_new _ _⟩
    case round =>
      obtain ⟨k, h, rfl, hk, hd, hb⟩ := hrel
      have HD := Lib.hid hd
      obtain ⟨c0, c1, c2, f1, f2, i0, i1⟩ := hd
      have HB := Lib.hid hb
      by_cases hlt : k < len
      · obtain ⟨x, hx, hcell0⟩ := hC2.out k hlt
        have hcell := (hb.cell (p := ⟨cb, co + k, none⟩) hcb).trans hcell0
        clear hcell0 hb
        go_wp2
        go_region
        go_wp2
        go_roundw
        case rel => exact ⟨k + 1, _, by go_num, by omega, dc_drawn (dc_set2 HD.out _) 1, (HB.out.setCell (Nat.le_refl _) _).drew⟩
        case measure => simp [intOf]; omega
      · clear hb
        go_wp2
        go_ret
        exact ⟨h, rfl, HD.out, HB.out⟩
theorem dice_bits (a : Int) : 0 ≤ bits .and .u64 (IntKind.u64.wrap a / 8589934592) 16777215 ∧ bits .and .u64 (IntKind.u64.wrap a / 8589934592) 16777215 ≤ 16777215 := by
  have h0 : 0 ≤ IntKind.u64.wrap a ∧ IntKind.u64.wrap a < 18446744073709551616 := by
    have e : IntKind.u64.wrap a = a % 18446744073709551616 := by simp [IntKind.wrap, IntKind.bits, IntKind.signed]
    rw [e]
    exact ⟨Int.emod_nonneg _ (by omega), Int.emod_lt_of_pos _ (by omega)⟩
  have h := bits_mask .u64 63 (by decide) (fun n h0 h1 => by rw [IntKind.wrap_u64]; omega) 24 (by decide) (IntKind.u64.wrap a / 8589934592) (by omega) (by omega)
  rw [show ((2 : Int) ^ 24 - 1) = 16777215 by decide] at h
  rw [h]
  omega
theorem rem_ok {x n : Int} (h : 0 ≤ x) (hn : 1 ≤ n) : 0 ≤ x % n ∧ x % n < n := ⟨Int.emod_nonneg _ (by omega), Int.emod_lt_of_pos _ (by omega)⟩
def BelowPost (w : World) (b : Nat) (cv : Value) (len : Nat) (n : Int) (e : Ending) (w' : World) : Prop := ∃ r i h, e = .returned (.int .i64 r) ∧ 0 ≤ r ∧ r < n ∧ Dc w' b cv len i h ∧ Only b w w'
set_option maxHeartbeats 1000000 in
theorem dice_any (w : World) (b B : Nat) (cv : Value) (len : Nat) (i h n : Int) (hd : Dc w b cv len i h) (hc : CodeAt w cv len B) (hB : B ≤ b) (hn : 1 ≤ n) (hn2 : n ≤ 9223372036854775807) :
    Calls Try.prog 41 #[.pointer (some ⟨b, 0, none⟩), .int .i64 n] w (BelowPost w b cv len n) := by
  have HD := Lib.hid hd
  obtain ⟨c0, c1, c2, f1, f2, i0, i1⟩ := hd
  obtain ⟨q0, q1⟩ := dice_bits (IntKind.u64.wrap (h * 6364136223846793005) + 1442695040888963407)
  obtain ⟨q, hq⟩ : ∃ q, bits .and .u64 (IntKind.u64.wrap (IntKind.u64.wrap (h * 6364136223846793005) + 1442695040888963407) / 8589934592) 16777215 = q := ⟨_, rfl⟩
  rw [hq] at q0 q1
  rcases hc with ⟨p0, cap0, rfl, rfl⟩ | ⟨cb, co, cap, rfl, hcb, hlen, hcells⟩
  · go_enter Try.func41, Try.ntmps41
    go_wp2
    go_quiet (fail)
    go_wp2
    go_ret
    exact ⟨_, i, _, rfl, (rem_ok (by omega) hn).1, (rem_ok (by omega) hn).2, dc_drawn (dc_set2 HD.out _) _, ((Only.refl _ _).setCell _ _).drewN _⟩
  · by_cases hlt : i < len
    · obtain ⟨k, rfl⟩ := Int.eq_ofNat_of_zero_le i0
      obtain ⟨x, hx, hcell⟩ := hcells k (by omega)
      clear hcells
      have hne : cb ≠ b := by omega
      have hne' : b ≠ cb := by omega
      go_enter Try.func41, Try.ntmps41
      go_wp2
      go_quiet (fail)
      go_wp2
      go_quiet (fail)
      go_wp2
      go_ret
      exact ⟨_, _, _, rfl, (rem_ok (by omega) hn).1, (rem_ok (by omega) hn).2, dc_set1 (dc_drawn (dc_set2 HD.out _) _) _ (by omega) (by omega), (((Only.refl _ _).setCell _ _).drewN _).setCell _ _⟩
    · clear hcells
      go_enter Try.func41, Try.ntmps41
      go_wp2
      go_quiet (fail)
      go_wp2
      go_ret
      exact ⟨_, i, _, rfl, (rem_ok (by omega) hn).1, (rem_ok (by omega) hn).2, dc_drawn (dc_set2 HD.out _) _, ((Only.refl _ _).setCell _ _).drewN _⟩
end Go.Proofs.Ytlcegdamjbpfpaa.draw
