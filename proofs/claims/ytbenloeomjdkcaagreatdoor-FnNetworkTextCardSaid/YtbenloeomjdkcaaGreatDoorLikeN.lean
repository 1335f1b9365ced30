/-
  likeNet over two networks that read the same: true. Conditions: as it states.
-/
import Derived.Test.YtbenloeomjdkcaaGreatDoorRows
import Derived.Test.YtbenloeomjdkcaaGreatDoorNetX
import Derived.Test.YtbenloeomjdkcaaGreatDoorNetO
import Derived.WalkKit
import Derived.ProofKit
import Derived.Outline
import Derived.OwnWalk
import Derived.Lib.Hide
import Derived.Deep.QuietTactic
import Derived.BigQuiet
namespace Go.Proofs.YtbenloeomjdkcaaGreatDoor.mem
open Go.RowKit
set_option linter.unusedVariables false

theorem below_drN {B : Nat} {w w' : World} (h : Below B w w') (n : Nat) : Below B w (w'.drewN n) := ⟨h.os, h.tape, h.output, h.size, h.block⟩

set_option maxRecDepth 100000 in
set_option maxHeartbeats 4000000 in
theorem likeNet_any (w : World) (v u : Value) (n : Nat) (N : Nat → Nod) (m : Nat) (P : Nat → Pip) (lo hi lo' hi' : Nat) (h : NetAt w v n N m P lo hi) (g : NetAt w u n N m P lo' hi') (hhi : hi ≤ w.heap.size) (hhi' : hi' ≤ w.heap.size) (hn : n ≤ 2000000) (hm : m ≤ 2000000) :
    Calls Tryz.prog 16 #[v, u] w fun e w' => e = .returned (.bool true) ∧ Below w.heap.size w w' := by
  obtain ⟨v0, v1, rfl, g0, g1⟩ := h.ex
  obtain ⟨u0, u1, rfl, k0, k1⟩ := g.ex
  obtain ⟨p0, c0, rfl⟩ := g0.shape
  obtain ⟨p1, c1, rfl⟩ := g1.shape
  obtain ⟨r0, d0, rfl⟩ := k0.shape
  obtain ⟨r1, d1, rfl⟩ := k1.shape
  have HC0 : Hid (n = 0 ∨ ∃ b o, p0 = some ⟨b, o, none⟩ ∧ b < w.heap.size ∧ At w b o n 3 (nodC N)) := by
    obtain ⟨p, cap, hv, _, _, hc⟩ := g0.ex
    injection hv with e1 _ e2
    subst e1
    rcases hc with hc | ⟨b, o, h1, h2, h3, h4⟩
    · exact Lib.hid (.inl hc)
    · exact Lib.hid (.inr ⟨b, o, h1, by omega, h4⟩)
  have HC1 : Hid (m = 0 ∨ ∃ b o, p1 = some ⟨b, o, none⟩ ∧ b < w.heap.size ∧ At w b o m 5 (pipC P)) := by
    obtain ⟨p, cap, hv, _, _, hc⟩ := g1.ex
    injection hv with e1 _ e2
    subst e1
    rcases hc with hc | ⟨b, o, h1, h2, h3, h4⟩
    · exact Lib.hid (.inl hc)
    · exact Lib.hid (.inr ⟨b, o, h1, by omega, h4⟩)
  have HD0 : Hid (n = 0 ∨ ∃ b o, r0 = some ⟨b, o, none⟩ ∧ b < w.heap.size ∧ At w b o n 3 (nodC N)) := by
    obtain ⟨p, cap, hv, _, _, hc⟩ := k0.ex
    injection hv with e1 _ e2
    subst e1
    rcases hc with hc | ⟨b, o, h1, h2, h3, h4⟩
    · exact Lib.hid (.inl hc)
    · exact Lib.hid (.inr ⟨b, o, h1, by omega, h4⟩)
  have HD1 : Hid (m = 0 ∨ ∃ b o, r1 = some ⟨b, o, none⟩ ∧ b < w.heap.size ∧ At w b o m 5 (pipC P)) := by
    obtain ⟨p, cap, hv, _, _, hc⟩ := k1.ex
    injection hv with e1 _ e2
    subst e1
    rcases hc with hc | ⟨b, o, h1, h2, h3, h4⟩
    · exact Lib.hid (.inl hc)
    · exact Lib.hid (.inr ⟨b, o, h1, by omega, h4⟩)
  clear h g g0 g1 k0 k1
  have hbn : ((n : Int) != n) = false := by simp
  have hbm : ((m : Int) != m) = false := by simp
  have A1 := (boxed w (.slice p0 n c0) (.slice p1 m c1) 25).keep (Below.heap_alloc (w.alloc (Obj.cells #[Value.slice p0 n c0, Value.slice p1 m c1] 25)) (Obj.cells #[Value.slice r0 n d0, Value.slice r1 m d1] 25) _ (by simp))
  have R1 := boxed (w.alloc (Obj.cells #[Value.slice p0 n c0, Value.slice p1 m c1] 25)) (.slice r0 n d0) (.slice r1 m d1) 25
  rw [show (w.alloc (Obj.cells #[Value.slice p0 n c0, Value.slice p1 m c1] 25)).heap.size = w.heap.size + 1 by simp] at R1
  have C1 := bel2 w (Obj.cells #[Value.slice p0 n c0, Value.slice p1 m c1] 25) (Obj.cells #[Value.slice r0 n d0, Value.slice r1 m d1] 25)
  go_enter Tryz.func16, Tryz.ntmps16
  go_wp2_with fail
  generalize hW : (w.alloc (Obj.cells #[Value.slice p0 n c0, Value.slice p1 m c1] 25)).alloc (Obj.cells #[Value.slice r0 n d0, Value.slice r1 m d1] 25) = W1 at *
  clear hW
  have HA := Lib.hid A1
  have HR := Lib.hid R1
  have HC := Lib.hid C1
  clear A1 R1 C1
  go_loopw [5] (fun i wr => ∃ k : Nat, i = .int .i64 k ∧ k ≤ n ∧ Below W1.heap.size W1 wr) (fun i _ => n - (intOf i).toNat)
  case atStart => exact ⟨0, rfl, Nat.zero_le _, Below.refl _ _⟩
  case round =>
    obtain ⟨k, rfl, hk, hbel⟩ := hrel
    have HB := Lib.hid hbel
    have a0 := (HA.out.next hbel).b0
    have a1 := (HA.out.next hbel).b1
    have b0 := (HR.out.next hbel).b0
    have b1 := (HR.out.next hbel).b1
    clear hbel
    by_cases hlt : k < n
    · rcases HC0.out with h0 | ⟨b, o, rfl, g2, g3⟩
      · omega
      rcases HD0.out with h0 | ⟨b', o', rfl, g2', g3'⟩
      · omega
      have KB := HC.out.trans (HB.out.mono HC.out.size)
      have y0 : wr.cell? ⟨b, o + k * 3, none⟩ = some (.string (N k).s) := (KB.cell (p := ⟨b, o + k * 3, none⟩) g2).trans (g3.cell k 0 hlt (by omega))
      have y1 : wr.cell? ⟨b, o + k * 3 + 1, none⟩ = some (.int .i64 (N k).lo) := (KB.cell (p := ⟨b, o + k * 3 + 1, none⟩) g2).trans (g3.cell k 1 hlt (by omega))
      have y2 : wr.cell? ⟨b, o + k * 3 + 2, none⟩ = some (.int .i64 (N k).hi) := (KB.cell (p := ⟨b, o + k * 3 + 2, none⟩) g2).trans (g3.cell k 2 hlt (by omega))
      have z0 : wr.cell? ⟨b', o' + k * 3, none⟩ = some (.string (N k).s) := (KB.cell (p := ⟨b', o' + k * 3, none⟩) g2').trans (g3'.cell k 0 hlt (by omega))
      have z1 : wr.cell? ⟨b', o' + k * 3 + 1, none⟩ = some (.int .i64 (N k).lo) := (KB.cell (p := ⟨b', o' + k * 3 + 1, none⟩) g2').trans (g3'.cell k 1 hlt (by omega))
      have z2 : wr.cell? ⟨b', o' + k * 3 + 2, none⟩ = some (.int .i64 (N k).hi) := (KB.cell (p := ⟨b', o' + k * 3 + 2, none⟩) g2').trans (g3'.cell k 2 hlt (by omega))
      have i0 : (0 : Int) ≤ (k : Int) := Int.natCast_nonneg _
      have i1 : (k : Int) < (n : Int) := by omega
      have f1 : ((N k).s.toList != (N k).s.toList) = false := by simp
      have f2 : ((N k).lo != (N k).lo) = false := by simp
      have f3 : ((N k).hi != (N k).hi) = false := by simp
      clear g3 g3' KB
      go_wp2_with fail
      go_quiet (fail)
      go_wp2_with fail
      go_roundw
      case rel => exact ⟨k + 1, by go_num, hlt, below_drN HB.out _⟩
      case measure => simp [intOf]; omega
    · obtain rfl : k = n := by omega
      go_wp2_with fail
      clear a0 a1 b0 b1
      go_loopw [6] (fun i wr => ∃ k : Nat, i = .int .i64 k ∧ k ≤ m ∧ Below W1.heap.size W1 wr) (fun i _ => m - (intOf i).toNat)
      case atStart => exact ⟨0, rfl, Nat.zero_le _, HB.out⟩
      case round =>
        obtain ⟨k, rfl, hk, hbel⟩ := hrel
        have HB := Lib.hid hbel
        have a0 := (HA.out.next hbel).b0
        have a1 := (HA.out.next hbel).b1
        have b0 := (HR.out.next hbel).b0
        have b1 := (HR.out.next hbel).b1
        clear hbel
        by_cases hlt : k < m
        · rcases HC1.out with h0 | ⟨b, o, rfl, g2, g3⟩
          · omega
          rcases HD1.out with h0 | ⟨b', o', rfl, g2', g3'⟩
          · omega
          have KB := HC.out.trans (HB.out.mono HC.out.size)
          have y0 : wr.cell? ⟨b, o + k * 5, none⟩ = some (.int .i64 (P k).f) := (KB.cell (p := ⟨b, o + k * 5, none⟩) g2).trans (g3.cell k 0 hlt (by omega))
          have y1 : wr.cell? ⟨b, o + k * 5 + 1, none⟩ = some (.int .i64 (P k).t) := (KB.cell (p := ⟨b, o + k * 5 + 1, none⟩) g2).trans (g3.cell k 1 hlt (by omega))
          have y2 : wr.cell? ⟨b, o + k * 5 + 2, none⟩ = some (.int .i64 (P k).k) := (KB.cell (p := ⟨b, o + k * 5 + 2, none⟩) g2).trans (g3.cell k 2 hlt (by omega))
          have y3 : wr.cell? ⟨b, o + k * 5 + 3, none⟩ = some (.int .i64 (P k).v) := (KB.cell (p := ⟨b, o + k * 5 + 3, none⟩) g2).trans (g3.cell k 3 hlt (by omega))
          have y4 : wr.cell? ⟨b, o + k * 5 + 4, none⟩ = some (.int .i64 (P k).l) := (KB.cell (p := ⟨b, o + k * 5 + 4, none⟩) g2).trans (g3.cell k 4 hlt (by omega))
          have z0 : wr.cell? ⟨b', o' + k * 5, none⟩ = some (.int .i64 (P k).f) := (KB.cell (p := ⟨b', o' + k * 5, none⟩) g2').trans (g3'.cell k 0 hlt (by omega))
          have z1 : wr.cell? ⟨b', o' + k * 5 + 1, none⟩ = some (.int .i64 (P k).t) := (KB.cell (p := ⟨b', o' + k * 5 + 1, none⟩) g2').trans (g3'.cell k 1 hlt (by omega))
          have z2 : wr.cell? ⟨b', o' + k * 5 + 2, none⟩ = some (.int .i64 (P k).k) := (KB.cell (p := ⟨b', o' + k * 5 + 2, none⟩) g2').trans (g3'.cell k 2 hlt (by omega))
          have z3 : wr.cell? ⟨b', o' + k * 5 + 3, none⟩ = some (.int .i64 (P k).v) := (KB.cell (p := ⟨b', o' + k * 5 + 3, none⟩) g2').trans (g3'.cell k 3 hlt (by omega))
          have z4 : wr.cell? ⟨b', o' + k * 5 + 4, none⟩ = some (.int .i64 (P k).l) := (KB.cell (p := ⟨b', o' + k * 5 + 4, none⟩) g2').trans (g3'.cell k 4 hlt (by omega))
          have i0 : (0 : Int) ≤ (k : Int) := Int.natCast_nonneg _
          have i1 : (k : Int) < (m : Int) := by omega
          have f0 : ((P k).f != (P k).f) = false := by simp
          have f1 : ((P k).t != (P k).t) = false := by simp
          have f2 : ((P k).k != (P k).k) = false := by simp
          have f3 : ((P k).v != (P k).v) = false := by simp
          have f4 : ((P k).l != (P k).l) = false := by simp
          clear g3 g3' KB
          go_wp2_with fail
          go_quiet (fail)
          go_wp2_with fail
          go_roundw
          case rel => exact ⟨k + 1, by go_num, hlt, below_drN HB.out _⟩
          case measure => simp [intOf]; omega
        · obtain rfl : k = m := by omega
          go_wp2_with fail
          go_ret
          exact ⟨rfl, HC.out.trans (HB.out.mono HC.out.size)⟩
end Go.Proofs.YtbenloeomjdkcaaGreatDoor.mem
