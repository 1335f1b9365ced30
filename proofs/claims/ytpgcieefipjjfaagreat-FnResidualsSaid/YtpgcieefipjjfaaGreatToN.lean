/-
  Contracts of the laws' own conversions of nodes and pipes. Conditions: as each states.
-/
import Derived.Test.YtpgcieefipjjfaaGreatRows
import Derived.Test.YtpgcieefipjjfaaGreatCs
import Derived.WalkKit
import Derived.ProofKit
import Derived.Outline
import Derived.OwnWalk
import Derived.Lib.Hide
namespace Go.Proofs.YtpgcieefipjjfaaGreat.mem
open Go.RowKit
set_option linter.unusedVariables false

theorem bel3 (w : World) (a b c : Obj) : Below w.heap.size w (((w.alloc a).alloc b).alloc c) := (((Below.refl _ _).alloc (Nat.le_refl _) a).alloc (by simp) b).alloc (by simp; omega) c
structure Nod where
  s : ByteArray
  lo : Int
  hi : Int
structure Pip where
  f : Int
  t : Int
  k : Int
  v : Int
  l : Int
/-- the cells of nodes, of pipes -/
def nodC (N : Nat → Nod) (i j : Nat) : Value := match j with
  | 0 => .string (N i).s
  | 1 => .int .i64 (N i).lo
  | _ => .int .i64 (N i).hi
def pipC (P : Nat → Pip) (i j : Nat) : Value := match j with
  | 0 => .int .i64 (P i).f
  | 1 => .int .i64 (P i).t
  | 2 => .int .i64 (P i).k
  | 3 => .int .i64 (P i).v
  | _ => .int .i64 (P i).l

def zeroNodes (n : Nat) : Array Value := madeCells #[.string ⟨#[]⟩, .int .i64 0, .int .i64 0] (n * 3)
theorem info_make_node : (Tryz.prog.info? 78).map (fun i => (i.zero, i.size, i.bytes)) = some (some (.agg #[.string ⟨#[]⟩, .int .i64 0, .int .i64 0]), 3, 32) := by kernel_rfl
theorem make_node (W : World) (n : Nat) (hn : n ≤ 2000000) : Sem.run Tryz.prog (Instr.makeSlice 24 (.int .i64 n) (.int .i64 n)) W = .ok (.slice (some ⟨W.heap.size, 0, none⟩) n n) (W.alloc (.cells (zeroNodes n) 78)) := by
  obtain ⟨i0, hi, hz0, hz1, hz2⟩ := info_parts info_make_node
  have h := run_make (P := Tryz.prog) W 24 78 i0 (.agg #[.string ⟨#[]⟩, .int .i64 0, .int .i64 0]) Tryz.underlying24 hi hz0 .i64 .i64 (n : Int) (n : Int) (by omega) (Int.le_refl _) (by rw [hz2]; omega) (by omega)
  rw [hz1] at h
  simpa [zeroNodes, Value.cells] using h

theorem rw_made (W : World) (z : Array Value) (n s : Nat) (t : TypeId) (hs : z.size = s) : Rw (W.alloc (.cells (madeCells z (n * s)) t)) W.heap.size n s (fun _ j => z[j]!) := by
  refine Rw.new W _ t n s _ (Nat.le_of_eq (size_madeCells _ _).symm) fun i j hi hj => ?_
  have h1 := ij_lt hi hj
  unfold madeCells
  simp [h1, hs, Nat.mod_eq_of_lt hj]
/-- what a conversion of n elements leaves: a new row -/
def NewPost (w : World) (n z : Nat) (c : Nat → Nat → Value) (e : Ending) (w' : World) : Prop :=
  e = .returned (.slice (some ⟨w.heap.size, 0, none⟩) n n) ∧ Rw w' w.heap.size n z c ∧ Below w.heap.size w w'
theorem bcell {W w1 : World} {B : Nat} (hb : Below B W w1) : (∀ b o, b < B → w1.cell? ⟨b, o, none⟩ = W.cell? ⟨b, o, none⟩) ∧ (∀ b o, b < B → w1.frozen? ⟨b, o, none⟩ = W.frozen? ⟨b, o, none⟩) :=
  ⟨fun b o h => hb.cell (p := ⟨b, o, none⟩) h, fun b o h => hb.frozen (p := ⟨b, o, none⟩) h⟩

theorem ret_sl' {a b n m : Nat} (h : a = b) : Ending.returned (.slice (some ⟨a, 0, none⟩) n m) = .returned (.slice (some ⟨b, 0, none⟩) n m) := by rw [h]
def zeroPipes (n : Nat) : Array Value := madeCells #[.int .i64 0, .int .i64 0, .int .i64 0, .int .i64 0, .int .i64 0] (n * 5)
theorem info_make_pipe : (Tryz.prog.info? 81).map (fun i => (i.zero, i.size, i.bytes)) = some (some (.agg #[.int .i64 0, .int .i64 0, .int .i64 0, .int .i64 0, .int .i64 0]), 5, 40) := by kernel_rfl
theorem make_pipe (W : World) (n : Nat) (hn : n ≤ 2000000) : Sem.run Tryz.prog (Instr.makeSlice 25 (.int .i64 n) (.int .i64 n)) W = .ok (.slice (some ⟨W.heap.size, 0, none⟩) n n) (W.alloc (.cells (zeroPipes n) 81)) := by
  obtain ⟨i0, hi, hz0, hz1, hz2⟩ := info_parts info_make_pipe
  have h := run_make (P := Tryz.prog) W 25 81 i0 (.agg #[.int .i64 0, .int .i64 0, .int .i64 0, .int .i64 0, .int .i64 0]) Tryz.underlying25 hi hz0 .i64 .i64 (n : Int) (n : Int) (by omega) (Int.le_refl _) (by rw [hz2]; omega) (by omega)
  rw [hz1] at h
  simpa [zeroPipes, Value.cells] using h

end Go.Proofs.YtpgcieefipjjfaaGreat.mem
