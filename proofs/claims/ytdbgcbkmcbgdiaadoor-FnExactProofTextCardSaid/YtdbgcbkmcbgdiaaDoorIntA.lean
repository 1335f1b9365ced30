/-
  Lists of numbers as arguments of a law: what they read as, and their copies through a call. Conditions: as each states.
-/
import Derived.Test.YtdbgcbkmcbgdiaaDoorRows
import Derived.Test.YtdbgcbkmcbgdiaaDoorInts
import Derived.Test.YtdbgcbkmcbgdiaaDoorCs
import Derived.WideShapes
import Derived.OpenShut
namespace Go.Proofs.YtdbgcbkmcbgdiaaDoor.mem
open Go.RowKit Go.ChangeShapes Go.WideShapes Go.ChangeAt
set_option linter.unusedVariables false
set_option maxRecDepth 100000

theorem Row.next_upd {X : Nat → Prop} {w w' : World} {b n : Nat} {d : Nat → Int} (h : Row w b n d) (g : Upd X w w') (hb : b < w.heap.size) (hx : ¬ X b) : Row w' b n d :=
  ⟨fun k hk => (World.cell?_of_block (a := ⟨b, k, none⟩) (g.block b hb hx)).trans (h.cell k hk), fun k hk => (World.frozen?_of_block (a := ⟨b, k, none⟩) (g.block b hb hx)).trans (h.free k hk)⟩
theorem Row.next {w w' : World} {b n : Nat} {d : Nat → Int} (h : Row w b n d) (g : Below w.heap.size w w') (hb : b < w.heap.size) : Row w' b n d := h.below g hb
theorem Row.all {w : World} {b n cap : Nat} {d : Nat → Int} (h : Row w b n d) (hb : b < w.heap.size) : Sl w (.slice (some ⟨b, 0, none⟩) n cap) n d 0 w.heap.size := h.sl (Nat.zero_le _) hb
theorem below_drNN {B : Nat} {w w' : World} (h : Below B w w') (n : Nat) : Below B w (w'.drewN n) := ⟨h.os, h.tape, h.output, h.size, h.block⟩
/-- what a []int64 reads as -/
def IntsArg (W : World) (v : Value) : Prop := ∃ n d, n ≤ 9223372036854775807 ∧ Sl W v n d 0 W.heap.size
theorem cells_i64 : Tryd.prog.cellsOf 2 = 1 := by kernel_rfl
theorem open_ints64 {H : Type} {enc : TypeId × Value → H} {W : World} {v : Value} {d : DataW H} {p : List MemPlace} {b0 : Nat}
    (hval : Value.okWide Tryd.prog W .any b0 26 v) (h : DataW.Trod enc Tryd.prog W 0 (fun _ => true) true 26 v d p) : IntsArg W v := by
  obtain ⟨a0, len, cap, rfl⟩ := okWide_slice Tryd.underlying26 hval
  obtain ⟨fuel, hf⟩ := h
  rcases open_ints Tryd.underlying26 Tryd.underlying2 cells_i64 hf with ⟨hcs, hx⟩ | ⟨a, len', cap', zs, hcs, _, hl, hm, hz, hx, hcell, hwz⟩
  · simp [Value.cells] at hcs
    obtain ⟨rfl, rfl, rfl⟩ := hcs
    exact ⟨0, fun _ => 0, by omega, ⟨_, _, rfl, .inl rfl⟩⟩
  · simp [Value.cells] at hcs
    obtain ⟨rfl, rfl, rfl⟩ := hcs
    simp only [if_true] at hz
    have hm' : cap ≤ 9223372036854775807 := by simpa [maxLen] using hm
    refine ⟨len, fun k => zs.getD k 0, by omega, ?_⟩
    rcases Nat.eq_zero_or_pos len with rfl | hpos
    · exact ⟨_, _, rfl, .inl rfl⟩
    · have h0 := hcell 0 (by omega)
      have hsp : a.spot = none := by
        cases hs : a.spot with
        | none => rfl
        | some s =>
          simp only [World.cell?, Addr.add, hs, if_true, Option.isSome_some] at h0
          split at h0 <;> simp_all
      obtain ⟨cb, co, sp⟩ := a
      simp only at hsp
      subst hsp
      refine ⟨_, _, rfl, .inr ⟨cb, co, rfl, Nat.zero_le _, World.block_lt_of_cell? W _ h0, fun k hk => ?_⟩⟩
      have hk' := hcell k (by omega)
      have hadd : (⟨cb, co, none⟩ : Addr).add k = ⟨cb, co + k, none⟩ := by unfold Addr.add; split <;> simp_all
      rw [hadd] at hk'
      exact hk'
end Go.Proofs.YtdbgcbkmcbgdiaaDoor.mem
