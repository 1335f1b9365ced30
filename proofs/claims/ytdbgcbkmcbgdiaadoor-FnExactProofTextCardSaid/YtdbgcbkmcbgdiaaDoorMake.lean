/-
  Making a slice of n integers: where it lies and that it reads as zeros. Condition: n is at most a million.
-/
import Derived.Test.YtdbgcbkmcbgdiaaDoorRows
import Derived.Test.YtdbgcbkmcbgdiaaDoorMem
import Derived.WalkKit
import Derived.ProofKit
import Derived.OwnWalk
namespace Go.Proofs.YtdbgcbkmcbgdiaaDoor.mem
open Go.RowKit
set_option linter.unusedVariables false

/-- n zeros -/
def zeros (n : Nat) : Array Value := madeCells #[.int .i64 0] n
theorem info_make_int64 : (Tryd.prog.info? 2).map (fun i => (i.zero, i.size, i.bytes)) = some (some (.int .i64 0), 1, 8) := by kernel_rfl
theorem make_int64 (W : World) (n : Nat) (hn : n ≤ 2000000) : Sem.run Tryd.prog (Instr.makeSlice 26 (.int .i64 n) (.int .i64 n)) W = .ok (.slice (some ⟨W.heap.size, 0, none⟩) n n) (W.alloc (.cells (zeros n) 2)) := by
  obtain ⟨i0, hi, hz0, hz1, hz2⟩ := info_parts info_make_int64
  have h := run_make (P := Tryd.prog) W 26 2 i0 (.int .i64 0) Tryd.underlying26 hi hz0 .i64 .i64 (n : Int) (n : Int) (by omega) (Int.le_refl _) (by rw [hz2]; omega) (by omega)
  rw [hz1] at h
  simpa [zeros, Value.cells] using h
theorem zeros_get (n k : Nat) (h : k < n) : (zeros n)[k]? = some (.int .i64 0) := by
  unfold zeros madeCells
  have : k % 1 = 0 := Nat.mod_one k
  simp [h, this]
theorem row_made (W : World) (n : Nat) (t : TypeId) : Row (W.alloc (.cells (zeros n) t)) W.heap.size n (fun _ => 0) := by
  constructor
  · intro k hk
    have e := heap_alloc_new W (.cells (zeros n) t)
    simp only [World.cell?, e]
    simpa using zeros_get n k hk
  · intro k hk
    rw [frozen?_alloc_cells]
    simp [World.frozen?]
end Go.Proofs.YtdbgcbkmcbgdiaaDoor.mem
