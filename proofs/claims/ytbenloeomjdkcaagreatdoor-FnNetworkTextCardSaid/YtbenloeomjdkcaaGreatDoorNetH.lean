/-
  Contracts of the laws' own helpers on networks: holding, and a whole network marked and held. Conditions: as each states.
-/
import Derived.Test.YtbenloeomjdkcaaGreatDoorRows
import Derived.Test.YtbenloeomjdkcaaGreatDoorNetM
import Derived.WalkKit
import Derived.ProofKit
import Derived.Outline
import Derived.OwnWalk
import Derived.Lib.Hide
import Derived.Deep.RegionHeld3
namespace Go.Proofs.YtbenloeomjdkcaaGreatDoor.mem
open Go.RowKit
set_option linter.unusedVariables false

set_option maxHeartbeats 4000000 in
theorem heldNodeS_any (w : World) (v : Value) (n : Nat) (k : Nat) (lo hi : Nat) (h : Cs w v n 3 (nodC (mkNod k)) lo hi) (hhi : hi ≤ w.heap.size) (hn : n ≤ 2000000) (k1 : k ≤ 1000000000) :
    Calls Tryz.prog 26 #[v, .int .i64 k] w fun e w' => e = .returned (.int .i64 (k + 3 * n : Nat)) ∧ Below w.heap.size w w' := by
  obtain ⟨p, cap, rfl, q1, q2, hc⟩ := h
  have HC := Lib.hid hc
  clear hc
  go_enter Tryz.func26, Tryz.ntmps26
  go_wp2_with fail
  go_loopw [1, 5] (fun kk i wr => ∃ (i' : Nat) (q : Nat), q = k + 3 * i' ∧ kk = .int .i64 q ∧ i = .int .i64 i' ∧ i' ≤ n ∧ Below w.heap.size w wr ∧ w.heap.size ≤ wr.heap.size) (fun _ i _ => n - (intOf i).toNat)
  case atStart => exact ⟨0, k, by omega, rfl, rfl, Nat.zero_le _, Below.refl _ _, Nat.le_refl _⟩
  case round =>
    obtain ⟨i, q, hq, rfl, rfl, hi, hbel, hsz⟩ := hrel
    have HQ := Lib.hid hq
    have HB := Lib.hid hbel
    have hq2 : q ≤ 2000000000 := by omega
    clear hbel hq
    by_cases hlt : i < n
    · rcases HC.out with h0 | ⟨b, o, rfl, g1, g2, g3⟩
      · omega
      have c0 : wr.cell? ⟨b, o + i * 3, none⟩ = some (.string (mtx (q : Int))) := ((HB.out.cell (p := ⟨b, o + i * 3, none⟩) (by show b < _; omega)).trans (g3.cell i 0 hlt (by omega))).trans (by have := HQ.out; subst this; rfl)
      have c1 : wr.cell? ⟨b, o + i * 3 + 1, none⟩ = some (.int .i64 ((q : Int) + 1)) := ((HB.out.cell (p := ⟨b, o + i * 3 + 1, none⟩) (by show b < _; omega)).trans (g3.cell i 1 hlt (by omega))).trans (by have := HQ.out; subst this; rfl)
      have c2 : wr.cell? ⟨b, o + i * 3 + 2, none⟩ = some (.int .i64 ((q : Int) + 1 + 1)) := ((HB.out.cell (p := ⟨b, o + i * 3 + 2, none⟩) (by show b < _; omega)).trans (g3.cell i 2 hlt (by omega))).trans (by have := HQ.out; subst this; rfl)
      have b0 : ((mtx (q : Int)).toList != (mtx (q : Int)).toList) = false := by simp
      have b1 : (((q : Int) + 1) != ((q : Int) + 1)) = false := by simp
      have b2 : (((q : Int) + 1 + 1) != ((q : Int) + 1 + 1)) = false := by simp
      have i0 : (0 : Int) ≤ (i : Int) := Int.natCast_nonneg _
      have i1 : (i : Int) < (n : Int) := by omega
      have hb0 : b < wr.heap.size := by omega
      clear g3
      go_wp2_with fail
      go_region_held3 (fun w' => w'.cell? ⟨b, o + i * 3, none⟩ = some (.string (mtx (q : Int)))) (first | go_keep | (rw [hb2.cell (by simp; omega)]; assumption))
        (first | (go_at_call 50; refine (markText_any _ q (by omega)).mono ?_; rintro e w2 ⟨rfl, hb2⟩))
      have HB2 := Lib.hid (HB.out.trans ((below_dr0 hb2).mono hsz))
      have e1 := (below_dr0 hb2).cell (p := ⟨b, o + i * 3 + 1, none⟩) (by show b < _; omega)
      have e2 := (below_dr0 hb2).cell (p := ⟨b, o + i * 3 + 2, none⟩) (by show b < _; omega)
      rw [c1] at e1
      rw [c2] at e2
      have hs2 := hb2.size
      simp only [World.heap_drew] at hs2
      clear hb2 c0 c1 c2
      go_wp2_with fail
      go_roundw
      case rel => exact ⟨i + 1, q + 3, by have := HQ.out; omega, by go_num, by go_num, hlt, HB2.out, by omega⟩
      case measure => simp [intOf]; omega
    · obtain rfl : i = n := by omega
      go_wp2_with fail
      go_ret
      exact ⟨ret_i (by have := HQ.out; omega), HB.out⟩

set_option maxHeartbeats 4000000 in
theorem heldPipeS_any (w : World) (v : Value) (n : Nat) (k : Nat) (lo hi : Nat) (h : Cs w v n 5 (pipC (mkPip k)) lo hi) (hhi : hi ≤ w.heap.size) (hn : n ≤ 2000000) (k1 : k ≤ 1000000000) :
    Calls Tryz.prog 27 #[v, .int .i64 k] w fun e w' => e = .returned (.int .i64 (k + 5 * n : Nat)) ∧ Below w.heap.size w w' := by
  obtain ⟨p, cap, rfl, q1, q2, hc⟩ := h
  have HC := Lib.hid hc
  clear hc
  go_enter Tryz.func27, Tryz.ntmps27
  go_wp2_with fail
  go_loopw [1, 5] (fun kk i wr => ∃ (i' : Nat) (q : Nat), q = k + 5 * i' ∧ kk = .int .i64 q ∧ i = .int .i64 i' ∧ i' ≤ n ∧ Below w.heap.size w wr ∧ w.heap.size ≤ wr.heap.size) (fun _ i _ => n - (intOf i).toNat)
  case atStart => exact ⟨0, k, by omega, rfl, rfl, Nat.zero_le _, Below.refl _ _, Nat.le_refl _⟩
  case round =>
    obtain ⟨i, q, hq, rfl, rfl, hi, hbel, hsz⟩ := hrel
    have HQ := Lib.hid hq
    have HB := Lib.hid hbel
    have hq2 : q ≤ 2000000000 := by omega
    clear hbel hq
    by_cases hlt : i < n
    · rcases HC.out with h0 | ⟨b, o, rfl, g1, g2, g3⟩
      · omega
      have c0 : wr.cell? ⟨b, o + i * 5, none⟩ = some (.int .i64 (q : Int)) := ((HB.out.cell (p := ⟨b, o + i * 5, none⟩) (by show b < _; omega)).trans (g3.cell i 0 hlt (by omega))).trans (by have := HQ.out; subst this; rfl)
      have c1 : wr.cell? ⟨b, o + i * 5 + 1, none⟩ = some (.int .i64 ((q : Int) + 1)) := ((HB.out.cell (p := ⟨b, o + i * 5 + 1, none⟩) (by show b < _; omega)).trans (g3.cell i 1 hlt (by omega))).trans (by have := HQ.out; subst this; rfl)
      have c2 : wr.cell? ⟨b, o + i * 5 + 2, none⟩ = some (.int .i64 ((q : Int) + 1 + 1)) := ((HB.out.cell (p := ⟨b, o + i * 5 + 2, none⟩) (by show b < _; omega)).trans (g3.cell i 2 hlt (by omega))).trans (by have := HQ.out; subst this; rfl)
      have c3 : wr.cell? ⟨b, o + i * 5 + 3, none⟩ = some (.int .i64 ((q : Int) + 1 + 1 + 1)) := ((HB.out.cell (p := ⟨b, o + i * 5 + 3, none⟩) (by show b < _; omega)).trans (g3.cell i 3 hlt (by omega))).trans (by have := HQ.out; subst this; rfl)
      have c4 : wr.cell? ⟨b, o + i * 5 + 4, none⟩ = some (.int .i64 ((q : Int) + 1 + 1 + 1 + 1)) := ((HB.out.cell (p := ⟨b, o + i * 5 + 4, none⟩) (by show b < _; omega)).trans (g3.cell i 4 hlt (by omega))).trans (by have := HQ.out; subst this; rfl)
      have b0 : ((q : Int) != (q : Int)) = false := by simp
      have b1 : (((q : Int) + 1) != ((q : Int) + 1)) = false := by simp
      have b2 : (((q : Int) + 1 + 1) != ((q : Int) + 1 + 1)) = false := by simp
      have b3 : (((q : Int) + 1 + 1 + 1) != ((q : Int) + 1 + 1 + 1)) = false := by simp
      have b4 : (((q : Int) + 1 + 1 + 1 + 1) != ((q : Int) + 1 + 1 + 1 + 1)) = false := by simp
      have i0 : (0 : Int) ≤ (i : Int) := Int.natCast_nonneg _
      have i1 : (i : Int) < (n : Int) := by omega
      have hb0 : b < wr.heap.size := by omega
      clear g3
      have HB2 := HB
      have hs2 : wr.heap.size ≤ wr.heap.size := Nat.le_refl _
      go_wp2_with fail
      go_roundw
      case rel => exact ⟨i + 1, q + 5, by have := HQ.out; omega, by go_num, by go_num, hlt, HB2.out, by omega⟩
      case measure => simp [intOf]; omega
    · obtain rfl : i = n := by omega
      go_wp2_with fail
      go_ret
      exact ⟨ret_i (by have := HQ.out; omega), HB.out⟩

set_option maxHeartbeats 1000000 in
theorem heldNetwork_any (w : World) (v : Value) (n m : Nat) (k : Nat) (lo hi : Nat) (h : NetAt w v n (mkNod k) m (mkPip (k + 3 * n)) lo hi) (hhi : hi ≤ w.heap.size) (hn : n ≤ 2000000) (hm : m ≤ 2000000) (k1 : k ≤ 100000000) :
    Calls Tryz.prog 10 #[v, .int .i64 k] w fun e w' => e = .returned (.int .i64 (k + 3 * n + 5 * m : Nat)) ∧ Below w.heap.size w w' := by
  obtain ⟨v0, v1, rfl, g0, g1⟩ := h.ex
  obtain ⟨p0, c0, rfl⟩ := g0.shape
  obtain ⟨p1, c1, rfl⟩ := g1.shape
  have G0 := Lib.hid g0
  have G1 := Lib.hid g1
  clear h g0 g1
  obtain ⟨k', hk'⟩ : ∃ k', k' = k + 3 * n := ⟨_, rfl⟩
  have hk2 : ¬ ((k' : Int) < 0) := by omega
  go_enter Tryz.func10, Tryz.ntmps10
  go_wp2_with fail
  have a0 : Ob (w.alloc (Obj.cells #[Value.slice p0 n c0, Value.slice p1 m c1] 25)) w.heap.size 2 (fun k => if k = 0 then .slice p0 n c0 else .slice p1 m c1) := Ob.new w _ _ 2 _ rfl (by intro k hk; rcases (by omega : k = 0 ∨ k = 1) with rfl | rfl <;> rfl)
  have A0 := Lib.hid a0
  clear a0
  refine (heldNodeS_any _ _ n k lo hi (G0.out.below (below_new _ _) hhi) (by simp; omega) hn (by omega)).mono ?_
  rintro e w2 ⟨rfl, b1⟩
  rw [← hk']
  rw [← hk'] at G1
  have HK := Lib.hid hk'
  have hk3 : k' ≤ 200000000 := by omega
  have B1 := Lib.hid ((below_new w _).trans (b1.mono (by simp)))
  have f0 := (A0.out.below b1 (by simp)).cell 1 (by omega)
  simp only [if_false, Nat.one_ne_zero] at f0
  have z1 := b1.size
  have z2 : w.heap.size ≤ w2.heap.size := by simp at z1; omega
  clear b1 A0 z1 hk'
  go_wp2_with fail
  refine (heldPipeS_any _ _ m k' lo hi (G1.out.below B1.out hhi) (by omega) hm (by omega)).mono ?_
  rintro e w3 ⟨rfl, b2⟩
  have B2 := Lib.hid (B1.out.trans (b2.mono z2))
  have hk4 : ¬ (((k' + 5 * m : Nat) : Int) < 0) := by omega
  clear b2
  generalize hk5 : k' + 5 * m = k5 at *
  have HK5 := Lib.hid hk5
  clear hk5
  go_wp2_with fail
  go_ret
  exact ⟨ret_i (by have := HK.out; have := HK5.out; omega), B2.out⟩

set_option maxHeartbeats 1000000 in
theorem markNetwork_any (w : World) (v : Value) (n m : Nat) (N : Nat → Nod) (P : Nat → Pip) (b1 b2 : Nat) (k : Nat) (h : NetOwn w v n N m P b1 b2) (hn : n ≤ 2000000) (hm : m ≤ 2000000) (k1 : k ≤ 100000000) :
    Calls Tryz.prog 9 #[v, .int .i64 k] w fun e w' => e = .returned (.int .i64 (k + 3 * n + 5 * m : Nat)) ∧ NetOwn w' v n (mkNod k) m (mkPip (k + 3 * n)) b1 b2 ∧ Upd (fun x => (n ≠ 0 ∧ x = b1) ∨ (m ≠ 0 ∧ x = b2)) w w' := by
  obtain ⟨v0, v1, rfl, g0, g1, gne⟩ := h.ex
  obtain ⟨p0, c0, rfl⟩ : ∃ p c, v0 = .slice p n c := by
    obtain ⟨p, c, e, _⟩ := g0.ex
    exact ⟨p, c, e⟩
  obtain ⟨p1, c1, rfl⟩ : ∃ p c, v1 = .slice p m c := by
    obtain ⟨p, c, e, _⟩ := g1.ex
    exact ⟨p, c, e⟩
  have G0 := Lib.hid g0
  have G1 := Lib.hid g1
  have GN := Lib.hid gne
  clear h g0 g1 gne
  obtain ⟨k', hk'⟩ : ∃ k', k' = k + 3 * n := ⟨_, rfl⟩
  go_enter Tryz.func9, Tryz.ntmps9
  go_wp2_with fail
  have a0 : Ob (w.alloc (Obj.cells #[Value.slice p0 n c0, Value.slice p1 m c1] 25)) w.heap.size 2 (fun k => if k = 0 then .slice p0 n c0 else .slice p1 m c1) := Ob.new w _ _ 2 _ rfl (by intro k hk; rcases (by omega : k = 0 ∨ k = 1) with rfl | rfl <;> rfl)
  have A0 := Lib.hid a0
  clear a0
  have l0 := Lib.hid G0.out.lt
  have l1 := Lib.hid G1.out.lt
  refine (markNodeS_any _ _ n b1 N k (G0.out.below (below_new _ _) (Nat.le_refl _)) hn (by omega)).mono ?_
  rintro e w2 ⟨rfl, r1, u1⟩
  rw [← hk']
  have HK := Lib.hid hk'
  have hk3 : k' ≤ 200000000 := by omega
  have f0 := (A0.out.keep (u1.block w.heap.size (by simp) (by have := l0.out; omega))).cell 1 (by omega)
  simp only [if_false, Nat.one_ne_zero] at f0
  have z1 := u1.size
  have z2 : w.heap.size ≤ w2.heap.size := by simp at z1; omega
  have U0 : Upd (fun x => (n ≠ 0 ∧ x = b1) ∨ (m ≠ 0 ∧ x = b2)) w (w.alloc (Obj.cells #[Value.slice p0 n c0, Value.slice p1 m c1] 25)) := Upd.of_below (below_new _ _)
  have U1 := Lib.hid (U0.trans (u1.mono (fun k _ e => .inl e)))
  have g1' := Lib.hid ((G1.out.below (below_new _ (Obj.cells #[Value.slice p0 n c0, Value.slice p1 m c1] 25)) (Nat.le_refl _)).upd u1 (by have := GN.out; have := l0.out; have := l1.out; omega))
  have R1 := Lib.hid r1
  clear u1 U0 r1 z1 hk' A0
  go_wp2_with fail
  refine (markPipeS_any _ _ m b2 P k' g1'.out hm (by omega)).mono ?_
  rintro e w3 ⟨rfl, r2, u2⟩
  have U2 := Lib.hid (U1.out.trans (u2.mono (fun k _ e => .inr e)))
  have R2 := Lib.hid r2
  have R1' := Lib.hid (R1.out.upd u2 (by have := GN.out; omega))
  clear r2 u2
  go_wp2_with fail
  go_ret
  refine ⟨ret_i (by have := HK.out; omega), ⟨_, _, rfl, R1'.out, ?_, GN.out⟩, U2.out⟩
  have := R2.out
  rw [HK.out] at this
  exact this
end Go.Proofs.YtbenloeomjdkcaaGreatDoor.mem
