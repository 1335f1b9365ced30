/-
  A law's code: what a slice of bytes reads as; the contracts of the laws' own helpers big and size. Conditions: none beyond what each states.
-/
import Derived.Test.YtdbgcbkmcbgdiaaGreatRows
import Derived.Test.YtdbgcbkmcbgdiaaGreatDraw
import Derived.Test.YtdbgcbkmcbgdiaaGreatLaw
namespace Go.Proofs.YtdbgcbkmcbgdiaaGreat.draw
open Go.ChangeShapes Go.WideShapes Go.ChangeAt Go.RowKit
set_option linter.unusedVariables false
set_option maxRecDepth 100000

theorem cells5 : Tryz.prog.cellsOf 5 = 1 := by kernel_rfl

/-- what a []byte reads as -/
def CodeArg (W : World) (v : Value) : Prop := ∃ p len cap, v = .slice p len cap ∧ len ≤ 9223372036854775807 ∧ (len ≤ 4096 → CodeAt W v len W.heap.size)

theorem open_code {H : Type} {enc : TypeId × Value → H} {W : World} {v : Value} {d : DataW H} {p : List MemPlace} {b0 : Nat}
    (hval : Value.okWide Tryz.prog W .any b0 22 v) (h : DataW.Trod enc Tryz.prog W 0 (fun _ => true) true 22 v d p) : CodeArg W v := by
  obtain ⟨a0, len, cap, rfl⟩ := okWide_slice Tryz.underlying22 hval
  obtain ⟨fuel, hf⟩ := h
  rcases open_ints Tryz.underlying22 Tryz.underlying5 cells5 hf with ⟨hcs, hx⟩ | ⟨a, len', cap', zs, hcs, _, hl, hm, hz, hx, hcell, hwz⟩
  · simp [Value.cells] at hcs
    obtain ⟨rfl, rfl, rfl⟩ := hcs
    exact ⟨_, _, _, rfl, by omega, fun _ => .inl ⟨_, _, rfl, rfl⟩⟩
  · simp [Value.cells] at hcs
    obtain ⟨rfl, rfl, rfl⟩ := hcs
    simp only [if_true] at hz
    have hm' : cap ≤ 9223372036854775807 := by simpa [maxLen] using hm
    refine ⟨_, _, _, rfl, by omega, fun h4 => ?_⟩
    rcases Nat.eq_zero_or_pos len with rfl | hpos
    · exact .inl ⟨_, _, rfl, rfl⟩
    · have h0 := hcell 0 (by omega)
      have hsp : a.spot = none := by
        cases hs : a.spot with
        | none => rfl
        | some s =>
          simp only [World.cell?, Addr.add, hs, if_true, Option.isSome_some] at h0
          split at h0 <;> simp_all
      obtain ⟨cb, co, sp⟩ := a
      simp only at hsp
      subst hsp
      refine .inr ⟨cb, co, cap, rfl, World.block_lt_of_cell? W _ h0, by omega, fun k hk => ?_⟩
      have hk' := hcell k (by omega)
      rw [add_plain] at hk'
      have hmem : zs.getD k 0 ∈ zs := by
        have hkl : k < zs.length := by omega
        simp only [List.getD, List.getElem?_eq_getElem hkl, Option.getD_some]
        exact List.getElem_mem hkl
      have hwf := hwz _ hmem
      have hx : 0 ≤ zs.getD k 0 ∧ zs.getD k 0 ≤ 255 := by simpa [Lit.wf, IntKind.min, IntKind.max, IntKind.signed, IntKind.bits] using hwf
      refine ⟨(zs.getD k 0).toNat, by omega, ?_⟩
      rw [hk']
      congr 2
      omega

theorem big_any (w : World) (p : Option Addr) (len cap : Nat) : Calls Tryz.prog 9 #[.slice p len cap] w fun e w' => e = .returned (.bool (decide ((4096 : Int) < len))) ∧ w = w' := by
  go_enter Tryz.func9, Tryz.ntmps9
  go_wp2
  go_ret
  exact ⟨by simp, rfl⟩
end Go.Proofs.YtdbgcbkmcbgdiaaGreat.draw
