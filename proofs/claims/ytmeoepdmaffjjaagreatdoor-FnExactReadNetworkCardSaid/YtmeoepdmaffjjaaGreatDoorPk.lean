/-
  The parser of networks: whether it accepts a text. Conditions: as each states.
-/
import Derived.Test.YtmeoepdmaffjjaaGreatDoorRows
import Derived.Test.YtmeoepdmaffjjaaGreatDoorPe
import Derived.Test.YtmeoepdmaffjjaaGreatDoorPj
import Derived.WalkKit
import Derived.ProofKit
import Derived.Lib.Hide
import Derived.OwnWalk
import Derived.Tactics2
import Derived.Defers
import Derived.Recover
namespace Go.Proofs.YtmeoepdmaffjjaaGreatDoor.text
open Go.RowKit Go.Proofs.YtmeoepdmaffjjaaGreatDoor.mem
set_option linter.unusedVariables false
set_option maxRecDepth 100000

def AccT (w : World) (b : Nat) (s : ByteArray) (e : Ending) (w' : World) : Prop :=
  (e = .returned (.bool false) ∧ Upd (· = b) w w' ∧ ∃ n N m P ls rest, Chain n N m P ls ∧ s.data.toList = glue ls ++ rest ∧ w'.cell? ⟨b, 2, none⟩ = some (.int .i64 (ls.length : Nat)) ∧ NoStep n N m P ls rest) ∨
  ∃ n N m P ls p1 c1 p2 c2 vW', ls ≠ [] ∧ Chain n N m P ls ∧ s.data.toList = glue ls ∧ e = .returned (.bool true) ∧ Ob w' b 4 (parC (.slice p1 n c1) (.slice p2 m c2) (ls.length : Nat) vW') ∧ RN (w.heap.size + 1) w' (.slice p1 n c1) n (nodC N) ∧ RP (w.heap.size + 1) w' (.slice p2 m c2) m (pipC P) ∧ Upd (· = b) w w'
set_option maxHeartbeats 4000000 in
theorem acceptsText_any (w0 w : World) (b : Nat) (vW : Value) (s : ByteArray) (h : Ob w b 4 (parC (.slice none 0 0) (.slice none 0 0) 0 vW)) (hE : Env w0) (h0 : Below w0.heap.size w0 w) (hb : w0.heap.size ≤ b) (hs : s.size ≤ 1048576) :
    Calls Tryz.prog 17 #[.pointer (some ⟨b, 0, none⟩), .func (Fn.func 18) #[.pointer (some ⟨b, 0, none⟩)] #[], .string s] w (AccT w b s) := by
  have hmf : ∀ (fn : Fn) (first cap : Array Value) (w : World), (Instr.makeFunc fn first cap).run Tryz.prog w = .ok (.func fn first cap) w := fun _ _ _ _ => rfl
  go_enter_defers Tryz.func17, Tryz.ntmps17
  have A1 := Ob.new w #[.bool false] 4 1 (fun _ => .bool false) rfl (fun k hk => by
    obtain rfl : k = 0 := by omega
    rfl)
  have C1 := below_new w (.cells #[.bool false] 4)
  have hz : (w.alloc (.cells #[.bool false] 4)).heap.size = w.heap.size + 1 := by simp
  go_wp2_with fail
  generalize hW : w.alloc (Obj.cells #[.bool false] 4) = w1 at *
  clear hW
  replace hz := Nat.le_antisymm_iff.1 hz
  have hbl := h.lt
  have O1 := h.below C1 hbl
  have UW : ∀ X : World, Upd (fun x => x = b ∨ w.heap.size + 1 ≤ x) w1 X → Upd (· = b) w X := fun X u =>
    ⟨u.os.trans C1.os, u.tape.trans C1.tape, u.output.trans C1.output, Nat.le_trans C1.size u.size, fun k hk hx => (u.block k (by omega) (by rintro (e | e); exact hx e; omega)).trans (C1.block k hk)⟩
  have U3 : ∀ (X : World) (v : Value), Upd (fun x => x = b ∨ w.heap.size + 1 ≤ x) w1 X → Upd (· = b) w (X.setCell ⟨w.heap.size, 0, none⟩ v) := fun X v u => by
    have hO := (Only.refl w.heap.size X).setCell 0 v
    have a := UW X u
    exact ⟨hO.os.trans a.os, hO.tape.trans a.tape, hO.output.trans a.output, Nat.le_trans a.size (Nat.le_of_eq hO.size), fun k hk hx => (hO.block k (by omega)).trans (a.block k hk hx)⟩
  have HU3 := Lib.hid U3
  have C1H := Lib.hid C1
  clear UW U3
  refine (readText_any w0 w1 b (w.heap.size + 1) vW s O1 (by omega) (by omega) hE (h0.trans (C1.mono h0.size)) hb hs).mono ?_
  rintro e w2 (⟨rfl, U2, n, N, m, P, ls, rest, d1, d2, d3, d4⟩ | ⟨n, N, m, P, ls, p1, c1, p2, c2', vW2, d0, d1, d2, rfl, O2, R2, R3, U2⟩)
  · have A2 := A1.keep (U2.block w.heap.size A1.lt (by rintro (e | e) <;> omega))
    have c2 : w2.cell? ⟨w.heap.size, 0, none⟩ = some (.bool false) := A2.cell 0 (by omega)
    have f2 : w2.frozen? ⟨w.heap.size, 0, none⟩ = false := A2.free 0
    have g2 : (w2.setCell ⟨w.heap.size, 0, none⟩ (.bool false)).cell? ⟨w.heap.size, 0, none⟩ = some (.bool false) := (A2.set 0 (.bool false) (by omega)).cell 0 (by omega)
    have fin : AccT w b s (.returned (.bool false)) (w2.setCell ⟨w.heap.size, 0, none⟩ (.bool false)) := .inl ⟨rfl, HU3.out w2 _ U2, n, N, m, P, ls, rest, d1, d2, (((Only.refl w.heap.size w2).setCell 0 (.bool false)).cell (a := ⟨b, 2, none⟩) (by show b ≠ w.heap.size; omega)).trans d3, d4⟩
    have FIN := Lib.hid fin
    clear fin
    refine leaves_cons (f := 39) (args := #[.pointer (some ⟨w.heap.size, 0, none⟩)]) (by simp) (by simp [go_sem]) ?_
    refine (catch_panicking ⟨w.heap.size, 0, none⟩ false _ _ [] _ c2 f2).mono ?_
    rintro e u' w'' ⟨rfl, rfl, rfl⟩
    simp [Leaves, settle, results, Tryz.results17, go_sem, g2]
    exact FIN.out
  · have A2 := A1.keep (U2.block w.heap.size A1.lt (by rintro (e | e) <;> omega))
    have c2 : w2.cell? ⟨w.heap.size, 0, none⟩ = some (.bool false) := A2.cell 0 (by omega)
    have f2 : w2.frozen? ⟨w.heap.size, 0, none⟩ = false := A2.free 0
    have g2 : (w2.setCell ⟨w.heap.size, 0, none⟩ (.bool true)).cell? ⟨w.heap.size, 0, none⟩ = some (.bool true) := (A2.set 0 (.bool true) (by omega)).cell 0 (by omega)
    have hO := (Only.refl w.heap.size w2).setCell 0 (.bool true)
    have fin : AccT w b s (.returned (.bool true)) (w2.setCell ⟨w.heap.size, 0, none⟩ (.bool true)) := .inr ⟨n, N, m, P, ls, p1, c1, p2, c2', vW2, d0, d1, d2, rfl, O2.keep (hO.block b (by omega)), R2.low (Upd.of_only hO) (by omega), R3.low (Upd.of_only hO) (by omega), HU3.out w2 _ U2⟩
    have FIN := Lib.hid fin
    clear fin O2 R2 R3 U2 A2 hO
    go_wp2_with fail
    refine leaves_cons (f := 39) (args := #[.pointer (some ⟨w.heap.size, 0, none⟩)]) (by simp) (by simp [go_sem]) ?_
    refine (catch_idle ⟨w.heap.size, 0, none⟩ _).mono ?_
    rintro e u' w'' ⟨rfl, rfl, rfl⟩
    simp [Leaves, settle, results, Tryz.results17, go_sem, g2]
    exact FIN.out
end Go.Proofs.YtmeoepdmaffjjaaGreatDoor.text
