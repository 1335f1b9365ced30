/-
  Contracts of the laws' own helpers on networks: holding, and a whole network marked and held. Conditions: as each states.
-/
import Derived.Test.YtdbgcbkmcbgdiaaGreatRows
import Derived.Test.YtdbgcbkmcbgdiaaGreatNetM
import Derived.WalkKit
import Derived.ProofKit
import Derived.Outline
import Derived.OwnWalk
import Derived.Lib.Hide
import Derived.Deep.RegionHeld3
namespace Go.Proofs.YtdbgcbkmcbgdiaaGreat.mem
open Go.RowKit
set_option linter.unusedVariables false

set_option maxHeartbeats 1000000 in
theorem markNetwork_any (w : World) (v : Value) (n m : Nat) (N : Nat → Nod) (P : Nat → Pip) (b1 b2 : Nat) (k : Nat) (h : NetOwn w v n N m P b1 b2) (hn : n ≤ 2000000) (hm : m ≤ 2000000) (k1 : k ≤ 100000000) :
    Calls Tryz.prog 30 #[v, .int .i64 k] w fun e w' => e = .returned (.int .i64 (k + 3 * n + 5 * m : Nat)) ∧ NetOwn w' v n (mkNod k) m (mkPip (k + 3 * n)) b1 b2 ∧ Upd (fun x => (n ≠ 0 ∧ x = b1) ∨ (m ≠ 0 ∧ x = b2)) w w' := by
  obtain ⟨v0, v1, rfl, g0, g1, gne⟩ := h.ex
  obtain ⟨p0, c0, rfl⟩ : ∃ p c, v0 = .slice p n c := by
    obtain ⟨p, c, e, _⟩ := g0.ex
    exact ⟨p, c, e⟩
  obtain ⟨p1, c1, rfl⟩ : ∃ p c, v1 = .slice p m c := by
    obtain ⟨p, c, e, _⟩ := g1.ex
    exact ⟨p, c, e⟩
  have G0 := Lib.hid g0
  have G1 := Lib.hid g1
  have GN := Lib.hid gne
  clear h g0 g1 gne
  obtain ⟨k', hk'⟩ : ∃ k', k' = k + 3 * n := ⟨_, rfl⟩
  go_enter Tryz.func30, Tryz.ntmps30
  go_wp2_with fail
  have a0 : Ob (w.alloc (Obj.cells #[Value.slice p0 n c0, Value.slice p1 m c1] 27)) w.heap.size 2 (fun k => if k = 0 then .slice p0 n c0 else .slice p1 m c1) := Ob.new w _ _ 2 _ rfl (by intro k hk; rcases (by omega : k = 0 ∨ k = 1) with rfl | rfl <;> rfl)
  have A0 := Lib.hid a0
  clear a0
  have l0 := Lib.hid G0.out.lt
  have l1 := Lib.hid G1.out.lt
  refine (markNodeS_any _ _ n b1 N k (G0.out.below (below_new _ _) (Nat.le_refl _)) hn (by omega)).mono ?_
  rintro e w2 ⟨rfl, r1, u1⟩
  rw [← hk']
  have HK := Lib.hid hk'
  have hk3 : k' ≤ 200000000 := by omega
  have f0 := (A0.out.keep (u1.block w.heap.size (by simp) (by have := l0.out; omega))).cell 1 (by omega)
  simp only [if_false, Nat.one_ne_zero] at f0
  have z1 := u1.size
  have z2 : w.heap.size ≤ w2.heap.size := by simp at z1; omega
  have U0 : Upd (fun x => (n ≠ 0 ∧ x = b1) ∨ (m ≠ 0 ∧ x = b2)) w (w.alloc (Obj.cells #[Value.slice p0 n c0, Value.slice p1 m c1] 27)) := Upd.of_below (below_new _ _)
  have U1 := Lib.hid (U0.trans (u1.mono (fun k _ e => .inl e)))
  have g1' := Lib.hid ((G1.out.below (below_new _ (Obj.cells #[Value.slice p0 n c0, Value.slice p1 m c1] 27)) (Nat.le_refl _)).upd u1 (by have := GN.out; have := l0.out; have := l1.out; omega))
  have R1 := Lib.hid r1
  clear u1 U0 r1 z1 hk' A0
  go_wp2_with fail
  refine (markPipeS_any _ _ m b2 P k' g1'.out hm (by omega)).mono ?_
  rintro e w3 ⟨rfl, r2, u2⟩
  have U2 := Lib.hid (U1.out.trans (u2.mono (fun k _ e => .inr e)))
  have R2 := Lib.hid r2
  have R1' := Lib.hid (R1.out.upd u2 (by have := GN.out; omega))
  clear r2 u2
  go_wp2_with fail
  go_ret
  refine ⟨ret_i (by have := HK.out; omega), ⟨_, _, rfl, R1'.out, ?_, GN.out⟩, U2.out⟩
  have := R2.out
  rw [HK.out] at this
  exact this
end Go.Proofs.YtdbgcbkmcbgdiaaGreat.mem
