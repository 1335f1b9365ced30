/-
  Contracts of the laws' own helpers on networks: size and equality. Conditions: as each states.
-/
import Derived.Test.YtdbgcbkmcbgdiaaDoorRows
import Derived.Test.YtdbgcbkmcbgdiaaDoorNetC
import Derived.WalkKit
import Derived.ProofKit
import Derived.Outline
import Derived.OwnWalk
import Derived.Lib.Hide
import Derived.Deep.RegionHeld3
namespace Go.Proofs.YtdbgcbkmcbgdiaaDoor.mem
open Go.RowKit
set_option linter.unusedVariables false

theorem bel2 (w : World) (a b : Obj) : Below w.heap.size w ((w.alloc a).alloc b) := ((Below.refl _ _).alloc (Nat.le_refl _) a).alloc (by simp) b
set_option maxHeartbeats 1000000 in
theorem szNetwork_any (w : World) (v : Value) (n : Nat) (N : Nat → Nod) (m : Nat) (P : Nat → Pip) (lo hi : Nat) (left : Int) (h : NetAt w v n N m P lo hi) (hhi : hi ≤ w.heap.size) (h0 : 0 ≤ left) (h1 : left ≤ 1048576)
    (hN : ∀ i, i < n → (N i).s.size ≤ 9223372036854775807) : Calls Tryd.prog 4 #[v, .int .i64 left] w (SzPost w left (max n m)) := by
  obtain ⟨v0, v1, rfl, g0, g1⟩ := h.ex
  obtain ⟨p0, c0, rfl⟩ := g0.shape
  obtain ⟨p1, c1, rfl⟩ := g1.shape
  have hn : n ≤ 9223372036854775807 := by
    obtain ⟨p, cap, he, q1, q2, _⟩ := g0.ex
    omega
  have hm : m ≤ 9223372036854775807 := by
    obtain ⟨p, cap, he, q1, q2, _⟩ := g1.ex
    omega
  have G0 := Lib.hid g0
  have HN := Lib.hid hN
  clear h g0 g1 hN
  go_enter Tryd.func4, Tryd.ntmps4
  go_wp2_with fail
  refine (szNodeS_any _ _ n N lo hi left (G0.out.below (below_new _ _) hhi) hn (by simp; omega) h0 h1 HN.out).mono ?_
  rintro e w2 ⟨r, rfl, hr, b2⟩
  have B2 := Lib.hid ((below_new w _).trans (b2.mono (by simp)))
  have f1 := b2.cell (p := ⟨w.heap.size, 1, none⟩) (by simp)
  have a0 : Ob (w.alloc (Obj.cells #[Value.slice p0 n c0, Value.slice p1 m c1] 25)) w.heap.size 2 (fun k => if k = 0 then .slice p0 n c0 else .slice p1 m c1) := Ob.new w _ _ 2 _ rfl (by intro k hk; rcases (by omega : k = 0 ∨ k = 1) with rfl | rfl <;> rfl)
  rw [a0.cell 1 (by omega)] at f1
  simp only [if_false, Nat.one_ne_zero] at f1
  have s2 := b2.size
  have s3 : w.heap.size ≤ w2.heap.size := by simp at s2; omega
  clear b2 a0 s2
  rcases hr with rfl | ⟨hr0, hr1, hr2⟩
  · go_wp2_with fail
    go_ret
    exact ⟨-1, rfl, .inl rfl, B2.out⟩
  · go_wp2_with fail
    refine (szPipeS_any _ p1 m c1 r hr0 (by omega) hm).mono ?_
    rintro e w3 ⟨q, rfl, hq, b3⟩
    have B3 := Lib.hid (B2.out.trans (b3.mono s3))
    clear b3
    rcases hq with rfl | ⟨hq0, hq1, hq2⟩
    · go_wp2_with fail
      go_ret
      exact ⟨-1, rfl, .inl rfl, B3.out⟩
    · go_wp2_with fail
      go_ret
      exact ⟨q, rfl, .inr ⟨hq0, by omega, by omega⟩, B3.out⟩

theorem eqNode_any (w : World) (s : ByteArray) (a b : Int) : Calls Tryd.prog 37 #[.agg #[.string s, .int .i64 a, .int .i64 b], .agg #[.string s, .int .i64 a, .int .i64 b]] w fun e w' => e = .returned (.bool true) ∧ Below w.heap.size w w' := by
  have h1 : (s.toList != s.toList) = false := by simp
  have h2 : (a != a) = false := by simp
  have h3 : (b != b) = false := by simp
  go_enter Tryd.func37, Tryd.ntmps37
  go_wp2_with fail
  go_ret
  exact ⟨rfl, bel2 _ _ _⟩
theorem eqPipe_any (w : World) (a b c d f : Int) : Calls Tryd.prog 38 #[.agg #[.int .i64 a, .int .i64 b, .int .i64 c, .int .i64 d, .int .i64 f], .agg #[.int .i64 a, .int .i64 b, .int .i64 c, .int .i64 d, .int .i64 f]] w fun e w' => e = .returned (.bool true) ∧ Below w.heap.size w w' := by
  have h1 : (a != a) = false := by simp
  have h2 : (b != b) = false := by simp
  have h3 : (c != c) = false := by simp
  have h4 : (d != d) = false := by simp
  have h5 : (f != f) = false := by simp
  go_enter Tryd.func38, Tryd.ntmps38
  go_wp2_with fail
  go_ret
  exact ⟨rfl, bel2 _ _ _⟩

theorem below_dr0 {w w1 : World} (hb : Below w.drew.heap.size w.drew w1) : Below w.heap.size w w1 := ⟨hb.os, hb.tape, hb.output, hb.size, hb.block⟩
theorem World.heap_drew (w : World) : w.drew.heap = w.heap := rfl

set_option maxHeartbeats 4000000 in
theorem eqNodeS_any (w : World) (v u : Value) (n : Nat) (N : Nat → Nod) (lo hi lo' hi' : Nat) (h : Cs w v n 3 (nodC N) lo hi) (g : Cs w u n 3 (nodC N) lo' hi') (hhi : hi ≤ w.heap.size) (hhi' : hi' ≤ w.heap.size) :
    Calls Tryd.prog 24 #[v, u] w fun e w' => e = .returned (.bool true) ∧ Below w.heap.size w w' := by
  obtain ⟨p, cap, rfl, q1, q2, hc⟩ := h
  obtain ⟨p', cap', rfl, q1', q2', hc'⟩ := g
  have HC := Lib.hid hc
  have HC' := Lib.hid hc'
  clear hc hc'
  have hbb : ((n : Int) != n) = false := by simp
  go_enter Tryd.func24, Tryd.ntmps24
  go_wp2_with fail
  go_loopw [5] (fun i wr => ∃ k : Nat, i = .int .i64 k ∧ k ≤ n ∧ Below w.heap.size w wr ∧ w.heap.size ≤ wr.heap.size) (fun i _ => n - (intOf i).toNat)
  case atStart => exact ⟨0, rfl, Nat.zero_le _, Below.refl _ _, Nat.le_refl _⟩
  case round =>
    obtain ⟨k, rfl, hk, hbel, hsz⟩ := hrel
    have HB := Lib.hid hbel
    clear hbel
    by_cases hlt : k < n
    · rcases HC.out with h0 | ⟨b, o, rfl, g1, g2, g3⟩
      · omega
      rcases HC'.out with h0 | ⟨b', o', rfl, g1', g2', g3'⟩
      · omega
      have c0 : wr.cell? ⟨b, o + k * 3, none⟩ = some (.string (N k).s) := (HB.out.cell (p := ⟨b, o + k * 3, none⟩) (by show b < _; omega)).trans (g3.cell k 0 hlt (by omega))
      have c1 : wr.cell? ⟨b, o + k * 3 + 1, none⟩ = some (.int .i64 (N k).lo) := (HB.out.cell (p := ⟨b, o + k * 3 + 1, none⟩) (by show b < _; omega)).trans (g3.cell k 1 hlt (by omega))
      have c2 : wr.cell? ⟨b, o + k * 3 + 2, none⟩ = some (.int .i64 (N k).hi) := (HB.out.cell (p := ⟨b, o + k * 3 + 2, none⟩) (by show b < _; omega)).trans (g3.cell k 2 hlt (by omega))
      have d0 : wr.cell? ⟨b', o' + k * 3, none⟩ = some (.string (N k).s) := (HB.out.cell (p := ⟨b', o' + k * 3, none⟩) (by show b' < _; omega)).trans (g3'.cell k 0 hlt (by omega))
      have d1 : wr.cell? ⟨b', o' + k * 3 + 1, none⟩ = some (.int .i64 (N k).lo) := (HB.out.cell (p := ⟨b', o' + k * 3 + 1, none⟩) (by show b' < _; omega)).trans (g3'.cell k 1 hlt (by omega))
      have d2 : wr.cell? ⟨b', o' + k * 3 + 2, none⟩ = some (.int .i64 (N k).hi) := (HB.out.cell (p := ⟨b', o' + k * 3 + 2, none⟩) (by show b' < _; omega)).trans (g3'.cell k 2 hlt (by omega))
      have i0 : (0 : Int) ≤ (k : Int) := Int.natCast_nonneg _
      have i1 : (k : Int) < (n : Int) := by omega
      have hb0 : b < wr.heap.size := by omega
      have hb1 : b' < wr.heap.size := by omega
      clear g3 g3'
      go_wp2_with fail
      go_region_held3 (fun w' => w'.cell? ⟨b, o + k * 3, none⟩ = some (.string (N k).s) ∧ w'.cell? ⟨b, o + k * 3 + 1, none⟩ = some (.int .i64 (N k).lo) ∧ w'.cell? ⟨b, o + k * 3 + 2, none⟩ = some (.int .i64 (N k).hi) ∧ w'.cell? ⟨b', o' + k * 3, none⟩ = some (.string (N k).s) ∧ w'.cell? ⟨b', o' + k * 3 + 1, none⟩ = some (.int .i64 (N k).lo) ∧ w'.cell? ⟨b', o' + k * 3 + 2, none⟩ = some (.int .i64 (N k).hi)) (first | go_keep | (refine ⟨?_, ?_, ?_, ?_, ?_, ?_⟩ <;> (rw [hb2.cell (by simp; omega)]; assumption)))
        (first | (go_at_call 37; refine (eqNode_any _ _ _ _).mono ?_; rintro e w2 ⟨rfl, hb2⟩))
      have HB2 := Lib.hid (HB.out.trans ((below_dr0 hb2).mono hsz))
      have hs2 := hb2.size
      simp only [World.heap_drew] at hs2
      clear hb2
      go_wp2_with fail
      go_roundw
      case rel => exact ⟨k + 1, by go_num, hlt, HB2.out, by omega⟩
      case measure => simp [intOf]; omega
    · go_wp2_with fail
      go_ret
      exact ⟨rfl, HB.out⟩

set_option maxHeartbeats 4000000 in
theorem eqPipeS_any (w : World) (v u : Value) (n : Nat) (N : Nat → Pip) (lo hi lo' hi' : Nat) (h : Cs w v n 5 (pipC N) lo hi) (g : Cs w u n 5 (pipC N) lo' hi') (hhi : hi ≤ w.heap.size) (hhi' : hi' ≤ w.heap.size) :
    Calls Tryd.prog 25 #[v, u] w fun e w' => e = .returned (.bool true) ∧ Below w.heap.size w w' := by
  obtain ⟨p, cap, rfl, q1, q2, hc⟩ := h
  obtain ⟨p', cap', rfl, q1', q2', hc'⟩ := g
  have HC := Lib.hid hc
  have HC' := Lib.hid hc'
  clear hc hc'
  have hbb : ((n : Int) != n) = false := by simp
  go_enter Tryd.func25, Tryd.ntmps25
  go_wp2_with fail
  go_loopw [5] (fun i wr => ∃ k : Nat, i = .int .i64 k ∧ k ≤ n ∧ Below w.heap.size w wr ∧ w.heap.size ≤ wr.heap.size) (fun i _ => n - (intOf i).toNat)
  case atStart => exact ⟨0, rfl, Nat.zero_le _, Below.refl _ _, Nat.le_refl _⟩
  case round =>
    obtain ⟨k, rfl, hk, hbel, hsz⟩ := hrel
    have HB := Lib.hid hbel
    clear hbel
    by_cases hlt : k < n
    · rcases HC.out with h0 | ⟨b, o, rfl, g1, g2, g3⟩
      · omega
      rcases HC'.out with h0 | ⟨b', o', rfl, g1', g2', g3'⟩
      · omega
      have c0 : wr.cell? ⟨b, o + k * 5, none⟩ = some (.int .i64 (N k).f) := (HB.out.cell (p := ⟨b, o + k * 5, none⟩) (by show b < _; omega)).trans (g3.cell k 0 hlt (by omega))
      have c1 : wr.cell? ⟨b, o + k * 5 + 1, none⟩ = some (.int .i64 (N k).t) := (HB.out.cell (p := ⟨b, o + k * 5 + 1, none⟩) (by show b < _; omega)).trans (g3.cell k 1 hlt (by omega))
      have c2 : wr.cell? ⟨b, o + k * 5 + 2, none⟩ = some (.int .i64 (N k).k) := (HB.out.cell (p := ⟨b, o + k * 5 + 2, none⟩) (by show b < _; omega)).trans (g3.cell k 2 hlt (by omega))
      have c3 : wr.cell? ⟨b, o + k * 5 + 3, none⟩ = some (.int .i64 (N k).v) := (HB.out.cell (p := ⟨b, o + k * 5 + 3, none⟩) (by show b < _; omega)).trans (g3.cell k 3 hlt (by omega))
      have c4 : wr.cell? ⟨b, o + k * 5 + 4, none⟩ = some (.int .i64 (N k).l) := (HB.out.cell (p := ⟨b, o + k * 5 + 4, none⟩) (by show b < _; omega)).trans (g3.cell k 4 hlt (by omega))
      have d0 : wr.cell? ⟨b', o' + k * 5, none⟩ = some (.int .i64 (N k).f) := (HB.out.cell (p := ⟨b', o' + k * 5, none⟩) (by show b' < _; omega)).trans (g3'.cell k 0 hlt (by omega))
      have d1 : wr.cell? ⟨b', o' + k * 5 + 1, none⟩ = some (.int .i64 (N k).t) := (HB.out.cell (p := ⟨b', o' + k * 5 + 1, none⟩) (by show b' < _; omega)).trans (g3'.cell k 1 hlt (by omega))
      have d2 : wr.cell? ⟨b', o' + k * 5 + 2, none⟩ = some (.int .i64 (N k).k) := (HB.out.cell (p := ⟨b', o' + k * 5 + 2, none⟩) (by show b' < _; omega)).trans (g3'.cell k 2 hlt (by omega))
      have d3 : wr.cell? ⟨b', o' + k * 5 + 3, none⟩ = some (.int .i64 (N k).v) := (HB.out.cell (p := ⟨b', o' + k * 5 + 3, none⟩) (by show b' < _; omega)).trans (g3'.cell k 3 hlt (by omega))
      have d4 : wr.cell? ⟨b', o' + k * 5 + 4, none⟩ = some (.int .i64 (N k).l) := (HB.out.cell (p := ⟨b', o' + k * 5 + 4, none⟩) (by show b' < _; omega)).trans (g3'.cell k 4 hlt (by omega))
      have i0 : (0 : Int) ≤ (k : Int) := Int.natCast_nonneg _
      have i1 : (k : Int) < (n : Int) := by omega
      have hb0 : b < wr.heap.size := by omega
      have hb1 : b' < wr.heap.size := by omega
      clear g3 g3'
      go_wp2_with fail
      go_region_held3 (fun w' => w'.cell? ⟨b, o + k * 5, none⟩ = some (.int .i64 (N k).f) ∧ w'.cell? ⟨b, o + k * 5 + 1, none⟩ = some (.int .i64 (N k).t) ∧ w'.cell? ⟨b, o + k * 5 + 2, none⟩ = some (.int .i64 (N k).k) ∧ w'.cell? ⟨b, o + k * 5 + 3, none⟩ = some (.int .i64 (N k).v) ∧ w'.cell? ⟨b, o + k * 5 + 4, none⟩ = some (.int .i64 (N k).l) ∧ w'.cell? ⟨b', o' + k * 5, none⟩ = some (.int .i64 (N k).f) ∧ w'.cell? ⟨b', o' + k * 5 + 1, none⟩ = some (.int .i64 (N k).t) ∧ w'.cell? ⟨b', o' + k * 5 + 2, none⟩ = some (.int .i64 (N k).k) ∧ w'.cell? ⟨b', o' + k * 5 + 3, none⟩ = some (.int .i64 (N k).v) ∧ w'.cell? ⟨b', o' + k * 5 + 4, none⟩ = some (.int .i64 (N k).l)) (first | go_keep | (refine ⟨?_, ?_, ?_, ?_, ?_, ?_, ?_, ?_, ?_, ?_⟩ <;> (rw [hb2.cell (by simp; omega)]; assumption)))
        (first | (go_at_call 38; refine (eqPipe_any _ _ _ _ _ _).mono ?_; rintro e w2 ⟨rfl, hb2⟩))
      have HB2 := Lib.hid (HB.out.trans ((below_dr0 hb2).mono hsz))
      have hs2 := hb2.size
      simp only [World.heap_drew] at hs2
      clear hb2
      go_wp2_with fail
      go_roundw
      case rel => exact ⟨k + 1, by go_num, hlt, HB2.out, by omega⟩
      case measure => simp [intOf]; omega
    · go_wp2_with fail
      go_ret
      exact ⟨rfl, HB.out⟩

set_option maxHeartbeats 1000000 in
theorem eqNetwork_any (w : World) (v u : Value) (n : Nat) (N : Nat → Nod) (m : Nat) (P : Nat → Pip) (lo hi lo' hi' : Nat) (h : NetAt w v n N m P lo hi) (g : NetAt w u n N m P lo' hi') (hhi : hi ≤ w.heap.size) (hhi' : hi' ≤ w.heap.size) :
    Calls Tryd.prog 10 #[v, u] w fun e w' => e = .returned (.bool true) ∧ Below w.heap.size w w' := by
  obtain ⟨v0, v1, rfl, g0, g1⟩ := h.ex
  obtain ⟨u0, u1, rfl, k0, k1⟩ := g.ex
  obtain ⟨p0, c0, rfl⟩ := g0.shape
  obtain ⟨p1, c1, rfl⟩ := g1.shape
  obtain ⟨r0, d0, rfl⟩ := k0.shape
  obtain ⟨r1, d1, rfl⟩ := k1.shape
  have G0 := Lib.hid g0
  have G1 := Lib.hid g1
  have K0 := Lib.hid k0
  have K1 := Lib.hid k1
  clear h g g0 g1 k0 k1
  go_enter Tryd.func10, Tryd.ntmps10
  go_wp2_with fail
  generalize hW : (w.alloc _).alloc _ = W1
  have a0 : Ob W1 w.heap.size 2 (fun k => if k = 0 then .slice p0 n c0 else .slice p1 m c1) := by
    rw [← hW]
    exact (Ob.new w _ _ 2 _ rfl (by intro k hk; rcases (by omega : k = 0 ∨ k = 1) with rfl | rfl <;> rfl)).keep (Below.heap_alloc _ _ _ (by simp))
  have a1 : Ob W1 (w.heap.size + 1) 2 (fun k => if k = 0 then .slice r0 n d0 else .slice r1 m d1) := by
    rw [← hW]
    have := Ob.new (w.alloc (Obj.cells #[Value.slice p0 n c0, Value.slice p1 m c1] 35)) #[.slice r0 n d0, .slice r1 m d1] 35 2 (fun k => if k = 0 then .slice r0 n d0 else .slice r1 m d1) rfl (by intro k hk; rcases (by omega : k = 0 ∨ k = 1) with rfl | rfl <;> rfl)
    simpa using this
  have b0 : Below w.heap.size w W1 := by rw [← hW]; exact bel2 _ _ _
  have z0 : W1.heap.size = w.heap.size + 2 := by rw [← hW]; simp
  clear hW
  replace z0 := Nat.le_antisymm_iff.1 z0
  have A0 := Lib.hid a0
  have A1 := Lib.hid a1
  have B0 := Lib.hid b0
  clear a0 a1 b0
  refine (eqNodeS_any _ _ _ n N lo hi lo' hi' (G0.out.below B0.out hhi) (K0.out.below B0.out hhi') (by omega) (by omega)).mono ?_
  rintro e w2 ⟨rfl, b1⟩
  have B1 := Lib.hid (B0.out.trans (b1.mono (by omega)))
  have f0 := (A0.out.below b1 (by omega)).cell 1 (by omega)
  have f1 := (A1.out.below b1 (by omega)).cell 1 (by omega)
  simp only [if_false, Nat.one_ne_zero] at f0 f1
  have z1 := b1.size
  clear b1
  go_wp2_with fail
  refine (eqPipeS_any _ _ _ m P lo hi lo' hi' (G1.out.below B1.out hhi) (K1.out.below B1.out hhi') (by omega) (by omega)).mono ?_
  rintro e w3 ⟨rfl, b2⟩
  have B2 := Lib.hid (B1.out.trans (b2.mono (by omega)))
  clear b2
  go_wp2_with fail
  go_ret
  exact ⟨rfl, B2.out⟩
end Go.Proofs.YtdbgcbkmcbgdiaaDoor.mem
