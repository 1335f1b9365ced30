/-
  slices.Sort at an own slice of numbers. Conditions: as it states.
-/
import Derived.Test.YtjjjdahegcjmaaaRows
import Derived.Test.YtjjjdahegcjmaaaLsr
import Derived.Test.YtjjjdahegcjmaaaRev
import Derived.Test.YtjjjdahegcjmaaaCs
namespace Go.Proofs.Ytjjjdahegcjmaaa.mem
open Go.RowKit
set_option linter.unusedVariables false
theorem grow_below (w : World) (os : Array Obj) : Below w.heap.size w (Go.Sort.grow w os) := by
  refine ⟨rfl, rfl, rfl, ?_, fun k hk => ?_⟩
  · show w.heap.size ≤ (w.heap ++ os).size
    simp
  · show (w.heap ++ os)[k]? = _
    rw [Array.getElem?_append_left hk]
/-- the numbers of an own slice are sorted; what was made beside is new -/
theorem sort_any (w : World) (v : Value) (n : Nat) (d : Nat → Int) (g : Nat) (h : Own w v n d g) (hn : n ≤ 1000000) :
    Calls Try.prog 81 #[v] w fun e w' => e = .returned (.tuple #[]) ∧ Own w' v n (fun k => (((dl n d).mergeSort fun x y => decide (x ≤ y))[k]?).getD 0) g ∧ Upd (fun b => b = g) w w' := by
  obtain ⟨cap, rfl⟩ := h.shape
  have hc := AnyM.slices_Sort_int Try.srt g 0 cap (dl n d) w h.holds h.lt (by rw [dl_len]; omega)
  rw [dl_len] at hc
  refine hc.mono ?_
  rintro e w' ⟨he, q, os, rfl⟩
  obtain ⟨h1, h2⟩ := h.put q ((dl n d).mergeSort fun x y => decide (x ≤ y)) (by rw [List.length_mergeSort, dl_len])
  have hb := grow_below (Go.Sort.putRow (Value.int .i64) (Go.Sort.ahead w q) g 0 ((dl n d).mergeSort fun x y => decide (x ≤ y)).toArray) os
  exact ⟨he, h1.keep (hb.block g h1.lt), (Upd.of_only h2).trans (Upd.of_below hb)⟩
end Go.Proofs.Ytjjjdahegcjmaaa.mem
