/-
  Copies of networks: slices.Clone at nodes and pipes, and the program's and the specification's copy of a network. Conditions: as each states.
-/
import Derived.Test.YtdbgcbkmcbgdiaaDoorRows
import Derived.Test.YtdbgcbkmcbgdiaaDoorAppS
import Derived.Test.YtdbgcbkmcbgdiaaDoorNetX
import Derived.WalkKit
import Derived.ProofKit
import Derived.Outline
import Derived.OwnWalk
import Derived.Lib.Hide
import Derived.WalkSpells
import Derived.Deep.RegionHeld3
namespace Go.Proofs.YtdbgcbkmcbgdiaaDoor.mem
open Go.RowKit
set_option linter.unusedVariables false

theorem below_dw {B : Nat} {w w' : World} (h : Below B w w') : Below B w w'.drew := ⟨h.os, h.tape, h.output, h.size, h.block⟩
theorem OwnS.shape {w : World} {v : Value} {n z b : Nat} {c : Nat → Nat → Value} (h : OwnS w v n z c b) : ∃ p cap, v = .slice p n cap := by
  obtain ⟨p, cap, e, _⟩ := h.ex
  exact ⟨p, cap, e⟩
theorem OwnS.set2 {w : World} {v : Value} {n z b g o0 o1 : Nat} {c : Nat → Nat → Value} {u0 u1 : Value} (h : OwnS w v n z c b) (hne : b ≠ g) : OwnS ((w.setCell ⟨g, o0, none⟩ u0).setCell ⟨g, o1, none⟩ u1) v n z c b :=
  h.upd (Upd.of_only (((Only.refl g w).setCell o0 u0).setCell o1 u1)) (.inr hne)
end Go.Proofs.YtdbgcbkmcbgdiaaDoor.mem
