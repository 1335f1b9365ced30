/-
  slices.Reverse at numbers, laid from the shelf. Conditions: as it states.
-/
import Derived.Shelf.SlicesE.Reverse
import Derived.Test.YtjjjdahegcjmaaaRows
import Derived.Test.YtjjjdahegcjmaaaOwn
namespace Go.Proofs
open Go.Shelf
def Try.rev_ren : Go.Shelf.Ren := ⟨fun | 35 => 73 | n => n, fun | 22 => 37 | 23 => 2 | 3 => 3 | 4 => 4 | 0 => 0 | n => n, fun | n => n⟩
theorem Try.rev : Go.Proofs.SlLaysE.n35 Try.prog Try.rev_ren := {
  mixed := by kernel_rfl
  f35 := ⟨Try.f73.name, by decide, Try.func73.trans (congrArg some (by kernel_rfl))⟩
  t0 := Try.underlying0
  a0 := Try.isAgg0
  z0 := Try.sizeOf0
  v0 := Try.zeroValue0
  t3 := Try.underlying3
  a3 := Try.isAgg3
  z3 := Try.sizeOf3
  v3 := Try.zeroValue3
  t4 := Try.underlying4
  a4 := Try.isAgg4
  z4 := Try.sizeOf4
  v4 := Try.zeroValue4
  t22 := Try.underlying37
  a22 := Try.isAgg37
  z22 := Try.sizeOf37
  v22 := Try.zeroValue37
  a23 := Try.isAgg2
  z23 := Try.sizeOf2 }
end Go.Proofs
namespace Go.Proofs.Ytjjjdahegcjmaaa.mem
open Go.RowKit
set_option linter.unusedVariables false

/-- the numbers of an own slice, as a list -/
def dl (n : Nat) (d : Nat → Int) : List Int := (List.range n).map d
theorem dl_len (n : Nat) (d : Nat → Int) : (dl n d).length = n := by simp [dl]
theorem dl_get {n k : Nat} (d : Nat → Int) (h : k < n) : (dl n d)[k]? = some (d k) := by simp [dl, h]
/-- an own slice holds its numbers, in the sort's words -/
theorem Own.holds {w : World} {v : Value} {n g : Nat} {d : Nat → Int} (h : Own w v n d g) : Go.Sort.Holds (Value.int .i64) w g 0 (dl n d).toArray := by
  intro j hj
  simp only [List.size_toArray, dl_len] at hj
  refine ⟨?_, ?_⟩
  · rw [Nat.zero_add]
    have e : (dl n d).toArray[j]! = d j := by
      have := dl_get d hj
      rw [← List.getElem?_toArray] at this
      rw [getElem!_pos _ j (by simpa [dl_len] using hj)]
      rw [Array.getElem?_eq_getElem (by simpa [dl_len] using hj)] at this
      injection this
    rw [e]
    exact h.row.cell j hj
  · obtain ⟨cap, cur, _, h1, _⟩ := h.ex
    simp [World.frozen?, h1]
/-- other numbers in the same cells -/
theorem Own.put {w : World} {v : Value} {n g : Nat} {d : Nat → Int} (h : Own w v n d g) (q : Nat) (xs : List Int) (hx : xs.length = n) :
    Own (Go.Sort.putRow (Value.int .i64) (Go.Sort.ahead w q) g 0 xs.toArray) v n (fun k => (xs[k]?).getD 0) g ∧ Only g w (Go.Sort.putRow (Value.int .i64) (Go.Sort.ahead w q) g 0 xs.toArray) := by
  obtain ⟨cap, cur, rfl, h1, h2, h3, h4, h5⟩ := h.ex
  refine ⟨⟨cap, Go.Sort.putCells (Value.int .i64) 0 xs.toArray cur, rfl, ?_, h2, h3, ?_, fun k hk => ?_⟩, ⟨rfl, rfl, rfl, ?_, fun k hk => ?_⟩⟩
  · show ((Go.Sort.ahead w q).heap.modify g (Go.Sort.onCells _))[g]? = _
    rw [Array.getElem?_modify, if_pos rfl]
    show Option.map _ (w.heap[g]?) = _
    rw [h1]
    rfl
  · simp [Go.Sort.putCells, h4]
  · have hk2 : k < xs.length := by omega
    have hkc : k < cur.size := by omega
    simp only [Go.Sort.putCells, Array.getElem?_mapIdx, Array.getElem?_eq_getElem hkc, Option.map_some, List.size_toArray]
    rw [if_pos ⟨Nat.zero_le _, by omega⟩, Nat.sub_zero, getElem!_pos _ k (by simpa using hk2), List.getElem?_eq_getElem hk2]
    rfl
  · show w.heap.size = ((Go.Sort.ahead w q).heap.modify g (Go.Sort.onCells _)).size
    rw [Array.size_modify]
    rfl
  · show ((Go.Sort.ahead w q).heap.modify g (Go.Sort.onCells _))[k]? = _
    rw [Array.getElem?_modify, if_neg (fun e => hk e.symm)]
    rfl
/-- slices.Reverse at an own slice -/
theorem reverse_any (w : World) (v : Value) (n : Nat) (d : Nat → Int) (g : Nat) (h : Own w v n d g) (hn : n ≤ 1000000) :
    Calls Try.prog 73 #[v] w fun e w' => e = .returned (.tuple #[]) ∧ Own w' v n (fun k => d (n - 1 - k)) g ∧ Only g w w' := by
  obtain ⟨cap, rfl⟩ := h.shape
  have hc := AnyE.slices_Reverse Try.rev (Value.int .i64) (fun _ => rfl) g 0 cap (dl n d) w h.holds (by rw [dl_len]; omega)
  rw [dl_len] at hc
  refine hc.mono ?_
  rintro e w' ⟨he, q, rfl⟩
  obtain ⟨h1, h2⟩ := h.put q (dl n d).reverse (by rw [List.length_reverse, dl_len])
  refine ⟨he, h1.congr fun k hk => ?_, h2⟩
  rw [List.getElem?_reverse (by rw [dl_len]; exact hk), dl_len, dl_get d (by omega)]
  rfl
end Go.Proofs.Ytjjjdahegcjmaaa.mem
