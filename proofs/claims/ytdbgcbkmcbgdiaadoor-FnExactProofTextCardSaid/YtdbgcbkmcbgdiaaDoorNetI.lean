/-
  Validity of networks, in the program: the map of names, the nodes, the pipes, the whole. Conditions: as each states.
-/
import Derived.Test.YtdbgcbkmcbgdiaaDoorRows
import Derived.Test.YtdbgcbkmcbgdiaaDoorNetV
import Derived.WalkKit
import Derived.ProofKit
import Derived.Outline
import Derived.OwnWalk
import Derived.Lib.Hide
import Derived.Maps.OwnSet
import Derived.Maps.OwnOps
import Derived.Deep.RegionHeld3
namespace Go.Proofs.YtdbgcbkmcbgdiaaDoor.mem
open Go.RowKit Go.WideMaps Go.Maps
set_option linter.unusedVariables false

theorem mlaw : Keyed Tryd.prog 9 := string_keyed Tryd.underlying9
theorem mzero (w : World) : (zeroValue 2).run Tryd.prog w = .ok (.int .i64 0) w := by kernel_rfl
theorem mmake (w : World) (n : Int) : (Instr.makeMap 100 (some (.int .i64 n))).run Tryd.prog w = .ok (.map (some w.heap.size)) (w.alloc (.map #[] 0)) := by
  simp [Instr.makeMap, run_underlying Tryd.underlying100, asInt, asIntOf, newObj]
  rfl
def nkey (s : ByteArray) : Lit := .string s.data.toList
theorem nkey_ok {s : ByteArray} (h : s.size ≤ 9223372036854775807) : keyOf Tryd.prog 9 (.string s) = some (nkey s) := keyOf_string_mk Tryd.underlying9 (by unfold maxLen; exact h)
/-- the map of the first k names -/
def CM (N : Nat → Nod) : Nat → DataW Unit
  | 0 => .map []
  | k + 1 => (CM N k).put (nkey (N k).s) (.lit (.int .i64 k))

set_option maxRecDepth 100000 in
set_option maxHeartbeats 4000000 in
theorem indices_any (p0 p1 : Option Addr) (n c0 m c1 : Nat) (N : Nat → Nod) (lo hi : Nat) (w : World) (h : Cs w (.slice p0 n c0) n 3 (nodC N) lo hi) (hn : n ≤ 2000000) (hhi : hi ≤ w.heap.size) (hN : ∀ i, i < n → (N i).s.size ≤ 9223372036854775807) :
    Calls Tryd.prog 61 #[.agg #[.slice p0 n c0, .slice p1 m c1]] w fun e w' => e = .returned (.map (some (w.heap.size + 1))) ∧ w'.ownsMap Tryd.prog 9 (plainElem Tryd.prog 2) (w.heap.size + 1) n (CM N n) ∧ Below w.heap.size w w' := by
  obtain ⟨p, cap, hv, q1, q2, hc⟩ := h
  obtain ⟨rfl, rfl⟩ : p0 = p ∧ c0 = cap := by
    injection hv with e1 _ e2
    exact ⟨e1, e2⟩
  have HC := Lib.hid hc
  have HN := Lib.hid hN
  clear hc hv hN
  have hmm := mmake
  go_enter Tryd.func61, Tryd.ntmps61
  go_wp2_with fail
  generalize hW : (w.alloc (Obj.cells #[Value.slice p0 n c0, Value.slice p1 m c1] 35)).alloc (Obj.map #[] 0) = W1
  have a0 : Ob W1 w.heap.size 2 (bx (.slice p0 n c0) (.slice p1 m c1)) := by rw [← hW]; exact (boxed w _ _ _).keep (Below.heap_alloc _ _ _ (by simp))
  have b0 : Below w.heap.size w W1 := by rw [← hW]; exact bel2 _ _ _
  have z0 : W1.heap.size = w.heap.size + 2 := by rw [← hW]; simp
  have m0 : W1.ownsMap Tryd.prog 9 (plainElem (H := Unit) Tryd.prog 2) (w.heap.size + 1) 0 (.map []) := by
    rw [← hW]
    have := World.ownsMap_made (w.alloc (Obj.cells #[Value.slice p0 n c0, Value.slice p1 m c1] 35)) Tryd.prog 9 (plainElem (H := Unit) Tryd.prog 2)
    simpa using this
  clear hW hmm
  replace z0 := Nat.le_antisymm_iff.1 z0
  have A0 := Lib.hid a0
  have B0 := Lib.hid b0
  have M0 := Lib.hid m0
  clear a0 b0 m0
  go_loopw [13] (fun i wr => ∃ k : Nat, i = .int .i64 k ∧ k ≤ n ∧ wr.ownsMap Tryd.prog 9 (plainElem Tryd.prog 2) (w.heap.size + 1) k (CM N k) ∧ Below w.heap.size w wr ∧ W1.heap.size ≤ wr.heap.size) (fun i _ => n - (intOf i).toNat)
  case atStart => exact ⟨0, rfl, Nat.zero_le _, M0.out, B0.out, Nat.le_refl _⟩
  case round =>
    obtain ⟨k, rfl, hk, hown, hbel, hsz⟩ := hrel
    have HB := Lib.hid hbel
    have HM := Lib.hid hown
    clear hbel hown
    by_cases hlt : k < n
    · rcases HC.out with h0 | ⟨b, o, rfl, g1, g2, g3⟩
      · omega
      have hx0 : wr.cell? ⟨b, o + k * 3, none⟩ = some (.string (N k).s) := (HB.out.cell (p := ⟨b, o + k * 3, none⟩) (by show b < _; omega)).trans (g3.cell k 0 hlt (by omega))
      have hx1 : wr.cell? ⟨b, o + k * 3 + 1, none⟩ = some (.int .i64 (N k).lo) := (HB.out.cell (p := ⟨b, o + k * 3 + 1, none⟩) (by show b < _; omega)).trans (g3.cell k 1 hlt (by omega))
      have hx2 : wr.cell? ⟨b, o + k * 3 + 2, none⟩ = some (.int .i64 (N k).hi) := (HB.out.cell (p := ⟨b, o + k * 3 + 2, none⟩) (by show b < _; omega)).trans (g3.cell k 2 hlt (by omega))
      have HK := Lib.hid (nkey_ok (HN.out k hlt))
      have HW := Lib.hid (WalkArith.wf_i64 (n := (k : Int)) (by omega))
      have HML := Lib.hid (show k < maxLen by unfold maxLen; omega)
      clear g3
      go_wp2_with (at_mapUpdate; refine wpList_mapUpdate_own _ rfl _ _ _ 100 rfl 9 2 mlaw Tryd.underlying100 _ (w.heap.size + 1) k _ rfl ((HM.out.alloc _)) HML.out _ _ _ rfl rfl HK.out _ [] (plainElem_int Tryd.underlying2 HW.out) ?_)
      intro w1 hown1 hgrow1
      have HM1 := Lib.hid hown1
      have HB1 := Lib.hid ((below_alloc HB.out (by omega) _).grown hgrow1 (by simp; omega) (fun j hj => by cases hj; omega))
      have hs1 := hgrow1.size
      simp at hs1
      clear hown1 hgrow1 hx0 hx1 hx2
      go_wp2_with fail
      go_roundw
      case rel => exact ⟨k + 1, by go_num, hlt, HM1.out, HB1.out, by omega⟩
      case measure => simp [intOf]; omega
    · obtain rfl : k = n := by omega
      go_wp2_with fail
      go_ret
      exact ⟨rfl, HM.out, HB.out⟩
end Go.Proofs.YtdbgcbkmcbgdiaaDoor.mem
