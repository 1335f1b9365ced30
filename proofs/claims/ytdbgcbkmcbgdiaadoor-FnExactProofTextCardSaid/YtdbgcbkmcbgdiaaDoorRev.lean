/-
  slices.Reverse at numbers, laid from the shelf. Conditions: as it states.
-/
import Derived.Shelf.SlicesE.Reverse
import Derived.Test.YtdbgcbkmcbgdiaaDoorRows
import Derived.Test.YtdbgcbkmcbgdiaaDoorOwn
namespace Go.Proofs
open Go.Shelf
end Go.Proofs
namespace Go.Proofs.YtdbgcbkmcbgdiaaDoor.mem
open Go.RowKit
set_option linter.unusedVariables false

/-- the numbers of an own slice, as a list -/
def dl (n : Nat) (d : Nat → Int) : List Int := (List.range n).map d
theorem dl_len (n : Nat) (d : Nat → Int) : (dl n d).length = n := by simp [dl]
theorem dl_get {n k : Nat} (d : Nat → Int) (h : k < n) : (dl n d)[k]? = some (d k) := by simp [dl, h]
/-- an own slice holds its numbers, in the sort's words -/
theorem Own.holds {w : World} {v : Value} {n g : Nat} {d : Nat → Int} (h : Own w v n d g) : Go.Sort.Holds (Value.int .i64) w g 0 (dl n d).toArray := by
  intro j hj
  simp only [List.size_toArray, dl_len] at hj
  refine ⟨?_, ?_⟩
  · rw [Nat.zero_add]
    have e : (dl n d).toArray[j]! = d j := by
      have := dl_get d hj
      rw [← List.getElem?_toArray] at this
      rw [getElem!_pos _ j (by simpa [dl_len] using hj)]
      rw [Array.getElem?_eq_getElem (by simpa [dl_len] using hj)] at this
      injection this
    rw [e]
    exact h.row.cell j hj
  · obtain ⟨cap, cur, _, h1, _⟩ := h.ex
    simp [World.frozen?, h1]
/-- other numbers in the same cells -/
theorem Own.put {w : World} {v : Value} {n g : Nat} {d : Nat → Int} (h : Own w v n d g) (q : Nat) (xs : List Int) (hx : xs.length = n) :
    Own (Go.Sort.putRow (Value.int .i64) (Go.Sort.ahead w q) g 0 xs.toArray) v n (fun k => (xs[k]?).getD 0) g ∧ Only g w (Go.Sort.putRow (Value.int .i64) (Go.Sort.ahead w q) g 0 xs.toArray) := by
  obtain ⟨cap, cur, rfl, h1, h2, h3, h4, h5⟩ := h.ex
  refine ⟨⟨cap, Go.Sort.putCells (Value.int .i64) 0 xs.toArray cur, rfl, ?_, h2, h3, ?_, fun k hk => ?_⟩, ⟨rfl, rfl, rfl, ?_, fun k hk => ?_⟩⟩
  · show ((Go.Sort.ahead w q).heap.modify g (Go.Sort.onCells _))[g]? = _
    rw [Array.getElem?_modify, if_pos rfl]
    show Option.map _ (w.heap[g]?) = _
    rw [h1]
    rfl
  · simp [Go.Sort.putCells, h4]
  · have hk2 : k < xs.length := by omega
    have hkc : k < cur.size := by omega
    simp only [Go.Sort.putCells, Array.getElem?_mapIdx, Array.getElem?_eq_getElem hkc, Option.map_some, List.size_toArray]
    rw [if_pos ⟨Nat.zero_le _, by omega⟩, Nat.sub_zero, getElem!_pos _ k (by simpa using hk2), List.getElem?_eq_getElem hk2]
    rfl
  · show w.heap.size = ((Go.Sort.ahead w q).heap.modify g (Go.Sort.onCells _)).size
    rw [Array.size_modify]
    rfl
  · show ((Go.Sort.ahead w q).heap.modify g (Go.Sort.onCells _))[k]? = _
    rw [Array.getElem?_modify, if_neg (fun e => hk e.symm)]
    rfl
end Go.Proofs.YtdbgcbkmcbgdiaaDoor.mem
