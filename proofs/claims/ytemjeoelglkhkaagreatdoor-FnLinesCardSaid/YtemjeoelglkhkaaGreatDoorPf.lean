/-
  The program's ReadNodeLine: it answers with the one valid node whose line the string is, if there is one. Conditions: the string has at most 2^20 bytes; the library's listed variables are as its text lays them.
-/
import Derived.Test.YtemjeoelglkhkaaGreatDoorRows
import Derived.Test.YtemjeoelglkhkaaGreatDoorPe
import Derived.WalkKit
import Derived.ProofKit
import Derived.Lib.Hide
import Derived.OwnWalk
namespace Go.Proofs.YtemjeoelglkhkaaGreatDoor.text
open Go.RowKit Go.Proofs.YtemjeoelglkhkaaGreatDoor.mem
set_option linter.unusedVariables false
set_option maxRecDepth 100000

def nodeV (q : Nod) : Value := .agg #[.string q.s, .int .i64 q.lo, .int .i64 q.hi]
def zeroN : Nod := ⟨⟨#[]⟩, 0, 0⟩
def NLAns (s : ByteArray) (e : Ending) : Prop :=
  (∃ q, nodB q = true ∧ nodeL q = s.data.toList ∧ e = .returned (.tuple #[nodeV q, .bool true])) ∨ ((∀ q, nodB q = true → nodeL q ≠ s.data.toList) ∧ e = .returned (.tuple #[nodeV zeroN, .bool false]))
def NLPost (w : World) (s : ByteArray) (e : Ending) (w' : World) : Prop := NLAns s e ∧ Below w.heap.size w w'
set_option maxHeartbeats 4000000 in
theorem readNodeLine_any (w : World) (s : ByteArray) (hE : Env w) (hs : s.size ≤ 1048576) :
    Calls Tryz.prog 14 #[.string s] w (NLPost w s) := by
  have hmf : ∀ (fn : Fn) (first cap : Array Value) (w : World), (Instr.makeFunc fn first cap).run Tryz.prog w = .ok (.func fn first cap) w := fun _ _ _ _ => rfl
  have R1 := boxedN w zeroN 34
  have C1 := below_new w (.cells #[.string ⟨#[]⟩, .int .i64 0, .int .i64 0] 34)
  have hz1 : (w.alloc (.cells #[.string ⟨#[]⟩, .int .i64 0, .int .i64 0] 34)).heap.size = w.heap.size + 1 := by simp
  have P2 := Ob.new (w.alloc (.cells #[.string ⟨#[]⟩, .int .i64 0, .int .i64 0] 34)) #[.slice none 0 0, .slice none 0 0, .int .i64 0, .slice none 0 0] 51 4 (parC (.slice none 0 0) (.slice none 0 0) 0 (.slice none 0 0)) rfl (fun k hk => by
    rcases (by omega : k = 0 ∨ k = 1 ∨ k = 2 ∨ k = 3) with rfl | rfl | rfl | rfl <;> rfl)
  have C2 := below_new (w.alloc (.cells #[.string ⟨#[]⟩, .int .i64 0, .int .i64 0] 34)) (.cells #[.slice none 0 0, .slice none 0 0, .int .i64 0, .slice none 0 0] 51)
  have hz2 : ((w.alloc (.cells #[.string ⟨#[]⟩, .int .i64 0, .int .i64 0] 34)).alloc (.cells #[.slice none 0 0, .slice none 0 0, .int .i64 0, .slice none 0 0] 51)).heap.size = w.heap.size + 2 := by simp
  have R2 := R1.below C2 (by rw [hz1]; omega)
  have CC := C1.trans (C2.mono (by rw [hz1]; omega))
  rw [hz1] at P2
  have HE := Lib.hid hE
  clear hE
  go_enter Tryz.func14, Tryz.ntmps14
  go_wp2_with fail
  generalize hW : (w.alloc (Obj.cells #[.string ⟨#[]⟩, .int .i64 0, .int .i64 0] 34)).alloc (Obj.cells #[.slice none 0 0, .slice none 0 0, .int .i64 0, .slice none 0 0] 51) = w2 at *
  clear hW C1 C2 R1 hz1
  replace hz2 := Nat.le_antisymm_iff.1 hz2
  refine (accepts_any w w2 (w.heap.size + 1) (.slice none 0 0) s P2 HE.out CC (by omega) hs).mono ?_
  have HCC := Lib.hid CC
  have fin : ∀ (X : World) (v0 v1 v2 : Value), Upd (· = w.heap.size + 1) w2 X → Below w.heap.size w (((X.setCell ⟨w.heap.size, 0, none⟩ v0).setCell ⟨w.heap.size, 1, none⟩ v1).setCell ⟨w.heap.size, 2, none⟩ v2) := fun X v0 v1 v2 u => by
    have hO := (((Only.refl w.heap.size X).setCell 0 v0).setCell 1 v1).setCell 2 v2
    exact (HCC.out.trans (u.below (by omega) (by rintro q _ rfl; omega))).trans (hO.below (Nat.le_refl _))
  have FIN := Lib.hid fin
  clear CC P2 fin
  have hl2 := R2.lt
  rintro e w3 (⟨rfl, U3, hno⟩ | ⟨q, vN, vW, hq, hl, rfl, O3, N3, U3⟩)
  · have R3 := R2.keep (U3.block w.heap.size hl2 (by omega))
    have r0 := R3.cell 0 (by omega)
    have r1 := R3.cell 1 (by omega)
    have r2 := R3.cell 2 (by omega)
    have f0 := R3.free 0
    have f1 := R3.free 1
    have f2 := R3.free 2
    have HNO := Lib.hid hno
    have HF := Lib.hid (FIN.out w3 (.string ⟨#[]⟩) (.int .i64 0) (.int .i64 0) U3)
    clear R2 hno U3
    go_wp2_with fail
    refine bodyPost_ret (v := .tuple #[.agg #[.string ⟨#[]⟩, .int .i64 0, .int .i64 0], .bool false]) (by simp [results, Tryz.results14, go_sem, r0, r1, r2]) rfl ⟨.inr ⟨HNO.out, rfl⟩, HF.out⟩
  · have R3 := R2.keep (U3.block w.heap.size hl2 (by omega))
    have r0 := R3.cell 0 (by omega)
    have r1 := R3.cell 1 (by omega)
    have r2 := R3.cell 2 (by omega)
    have f0 := R3.free 0
    have f1 := R3.free 1
    have f2 := R3.free 2
    have HQ := Lib.hid hq
    have HL := Lib.hid hl
    have HF := Lib.hid (FIN.out w3 (.string q.s) (.int .i64 q.lo) (.int .i64 q.hi) U3)
    obtain ⟨g, S3, _⟩ := RowE.ownS N3
    obtain ⟨p3, c3, hv3, hc1, hc2, hc3⟩ := S3.ex
    subst hv3
    rcases hc3 with hc3 | ⟨rfl, hR⟩
    · omega
    have y0 : w3.cell? ⟨g, 0, none⟩ = some (.string q.s) := hR.cell 0 0 (by omega) (by omega)
    have y1 : w3.cell? ⟨g, 1, none⟩ = some (.int .i64 q.lo) := hR.cell 0 1 (by omega) (by omega)
    have y2 : w3.cell? ⟨g, 2, none⟩ = some (.int .i64 q.hi) := hR.cell 0 2 (by omega) (by omega)
    have a0 : w3.cell? ⟨w.heap.size + 1, 0, none⟩ = some (.slice (some ⟨g, 0, none⟩) 1 c3) := O3.cell 0 (by omega)
    clear R2 hq hl U3 S3 hR N3
    go_wp2_with fail
    refine bodyPost_ret (v := .tuple #[.agg #[.string q.s, .int .i64 q.lo, .int .i64 q.hi], .bool true]) (by simp [results, Tryz.results14, go_sem, r0, r1, r2]) rfl ⟨.inl ⟨q, HQ.out, HL.out, rfl⟩, HF.out⟩
end Go.Proofs.YtemjeoelglkhkaaGreatDoor.text
