/-
  The parser of networks: its panics are recovered; reading the line of a node. Conditions: as each states.
-/
import Derived.Test.YtmeoepdmaffjjaaGreatDoorRows
import Derived.Test.YtmeoepdmaffjjaaGreatDoorPd
import Derived.WalkKit
import Derived.ProofKit
import Derived.Lib.Hide
import Derived.OwnWalk
import Derived.Tactics2
import Derived.Defers
import Derived.Recover
namespace Go.Proofs.YtmeoepdmaffjjaaGreatDoor.text
open Go.RowKit Go.Proofs.YtmeoepdmaffjjaaGreatDoor.mem
set_option linter.unusedVariables false
set_option maxRecDepth 100000

theorem catch_panicking (p : Addr) (x : Bool) (u : TypeId) (pv : Value) (older : List PanicEntry) (w : World) (hc : w.cell? p = some (.bool x)) (hz : w.frozen? p = false) :
    CallsD Tryz.prog 39 #[.pointer (some p)] (.panicking ({ v := .iface u pv, recovered := false } :: older)) w fun e u' w' =>
      e = .returned (.tuple #[]) ∧ u' = .panicking ({ v := .iface u pv, recovered := true } :: older) ∧ w' = w.setCell p (.bool false) := by
  refine callsD_of_wpS Tryz.func39 rfl fun c₀ cs hu => ?_
  apply wpS_seq
  apply wpS_region
  simp [wpOpsS, go_sem, recoverD, hu, Tryz.ntmps39, Exit.thenS]
  refine wpS_cond (t := true) (by simp [Act.eval, Array.replicate]) ?_
  simp only [if_true]
  apply wpS_region
  simp [wpOpsS, go_sem, hc, hz, bodyPostS, results, Tryz.results39]
theorem catch_idle (p : Addr) (w : World) :
    CallsD Tryz.prog 39 #[.pointer (some p)] .returning w fun e u' w' => e = .returned (.tuple #[]) ∧ u' = .returning ∧ w' = w := by
  refine callsD_of_wpS Tryz.func39 rfl fun c₀ cs hu => ?_
  apply wpS_seq
  apply wpS_region
  simp [wpOpsS, go_sem, recoverD, hu, Tryz.ntmps39, Exit.thenS]
  refine wpS_cond (t := false) (by simp [Act.eval, Array.replicate]) ?_
  simp only [Bool.false_eq_true, if_false]
  refine wpS_of_wp (wp_skip ?_)
  cases c₀
  simp_all [bodyPostS, results, Tryz.results39]

def AccPost (w : World) (b : Nat) (s : ByteArray) (e : Ending) (w' : World) : Prop :=
  (e = .returned (.bool false) ∧ Upd (· = b) w w' ∧ ∀ q, nodB q = true → nodeL q ≠ s.data.toList) ∨
  ∃ q vN vW, nodB q = true ∧ nodeL q = s.data.toList ∧ e = .returned (.bool true) ∧ Ob w' b 4 (parC vN (.slice none 0 0) 0 vW) ∧ RN (w.heap.size + 1) w' vN 1 (nodC fun _ => q) ∧ Upd (· = b) w w'
set_option maxHeartbeats 4000000 in
theorem accepts_any (w0 w : World) (b : Nat) (vW : Value) (s : ByteArray) (h : Ob w b 4 (parC (.slice none 0 0) (.slice none 0 0) 0 vW)) (hE : Env w0) (h0 : Below w0.heap.size w0 w) (hb : w0.heap.size ≤ b) (hs : s.size ≤ 1048576) :
    Calls Tryz.prog 17 #[.pointer (some ⟨b, 0, none⟩), .func (Fn.func 42) #[.pointer (some ⟨b, 0, none⟩)] #[], .string s] w (AccPost w b s) := by
  have hmf : ∀ (fn : Fn) (first cap : Array Value) (w : World), (Instr.makeFunc fn first cap).run Tryz.prog w = .ok (.func fn first cap) w := fun _ _ _ _ => rfl
  go_enter_defers Tryz.func17, Tryz.ntmps17
  have A1 := Ob.new w #[.bool false] 4 1 (fun _ => .bool false) rfl (fun k hk => by
    obtain rfl : k = 0 := by omega
    rfl)
  have C1 := below_new w (.cells #[.bool false] 4)
  have hz : (w.alloc (.cells #[.bool false] 4)).heap.size = w.heap.size + 1 := by simp
  go_wp2_with fail
  generalize hW : w.alloc (Obj.cells #[.bool false] 4) = w1 at *
  clear hW
  replace hz := Nat.le_antisymm_iff.1 hz
  have hbl := h.lt
  have O1 := h.below C1 hbl
  have UW : ∀ X : World, Upd (fun x => x = b ∨ w.heap.size + 1 ≤ x) w1 X → Upd (· = b) w X := fun X u =>
    ⟨u.os.trans C1.os, u.tape.trans C1.tape, u.output.trans C1.output, Nat.le_trans C1.size u.size, fun k hk hx => (u.block k (by omega) (by rintro (e | e); exact hx e; omega)).trans (C1.block k hk)⟩
  have U3 : ∀ (X : World) (v : Value), Upd (fun x => x = b ∨ w.heap.size + 1 ≤ x) w1 X → Upd (· = b) w (X.setCell ⟨w.heap.size, 0, none⟩ v) := fun X v u => by
    have hO := (Only.refl w.heap.size X).setCell 0 v
    have a := UW X u
    exact ⟨hO.os.trans a.os, hO.tape.trans a.tape, hO.output.trans a.output, Nat.le_trans a.size (Nat.le_of_eq hO.size), fun k hk hx => (hO.block k (by omega)).trans (a.block k hk hx)⟩
  have HU3 := Lib.hid U3
  have C1H := Lib.hid C1
  clear UW U3
  refine (readLine_any w0 w1 b (w.heap.size + 1) vW s O1 (by omega) (by omega) hE (h0.trans (C1.mono h0.size)) hb hs).mono ?_
  rintro e w2 (⟨rfl, U2, hno⟩ | ⟨q, vN, vW2, hq, hl, rfl, O2, R2, U2⟩)
  · have A2 := A1.keep (U2.block w.heap.size A1.lt (by rintro (e | e) <;> omega))
    have c2 : w2.cell? ⟨w.heap.size, 0, none⟩ = some (.bool false) := A2.cell 0 (by omega)
    have f2 : w2.frozen? ⟨w.heap.size, 0, none⟩ = false := A2.free 0
    have g2 : (w2.setCell ⟨w.heap.size, 0, none⟩ (.bool false)).cell? ⟨w.heap.size, 0, none⟩ = some (.bool false) := (A2.set 0 (.bool false) (by omega)).cell 0 (by omega)
    have fin : AccPost w b s (.returned (.bool false)) (w2.setCell ⟨w.heap.size, 0, none⟩ (.bool false)) := .inl ⟨rfl, HU3.out w2 _ U2, hno⟩
    have FIN := Lib.hid fin
    clear fin
    refine leaves_cons (f := 39) (args := #[.pointer (some ⟨w.heap.size, 0, none⟩)]) (by simp) (by simp [go_sem]) ?_
    refine (catch_panicking ⟨w.heap.size, 0, none⟩ false _ _ [] _ c2 f2).mono ?_
    rintro e u' w'' ⟨rfl, rfl, rfl⟩
    simp [Leaves, settle, results, Tryz.results17, go_sem, g2]
    exact FIN.out
  · have A2 := A1.keep (U2.block w.heap.size A1.lt (by rintro (e | e) <;> omega))
    have c2 : w2.cell? ⟨w.heap.size, 0, none⟩ = some (.bool false) := A2.cell 0 (by omega)
    have f2 : w2.frozen? ⟨w.heap.size, 0, none⟩ = false := A2.free 0
    have g2 : (w2.setCell ⟨w.heap.size, 0, none⟩ (.bool true)).cell? ⟨w.heap.size, 0, none⟩ = some (.bool true) := (A2.set 0 (.bool true) (by omega)).cell 0 (by omega)
    have hO := (Only.refl w.heap.size w2).setCell 0 (.bool true)
    have fin : AccPost w b s (.returned (.bool true)) (w2.setCell ⟨w.heap.size, 0, none⟩ (.bool true)) := .inr ⟨q, vN, vW2, hq, hl, rfl, O2.keep (hO.block b (by omega)), R2.low (Upd.of_only hO) (by omega), HU3.out w2 _ U2⟩
    have FIN := Lib.hid fin
    clear fin O2 R2 U2 A2 hO
    go_wp2_with fail
    refine leaves_cons (f := 39) (args := #[.pointer (some ⟨w.heap.size, 0, none⟩)]) (by simp) (by simp [go_sem]) ?_
    refine (catch_idle ⟨w.heap.size, 0, none⟩ _).mono ?_
    rintro e u' w'' ⟨rfl, rfl, rfl⟩
    simp [Leaves, settle, results, Tryz.results17, go_sem, g2]
    exact FIN.out
end Go.Proofs.YtmeoepdmaffjjaaGreatDoor.text
