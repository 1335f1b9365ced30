/-
  No cell of these rows narrows 'for every input' (looked for: loops, veiled, ifaces, maps, wideKeys, modest, calm, conditions, laid).
  DERIVED. THE GIVEN ROWS OF THIS SEAT. 10 by the template 'for every input the law returns true; each argument reads behind the call as it read before'; 0 by the template 'total and deterministic' (their statements: YtcpglmiboikfmaaTotals.lean).
  GIVEN WITH THE SEED: the statements are not yours to turn. If you find one false, say at which input.
  Laid BY PROGRAM, IN A SANDBOX (cutbox-rows.mjs): the forced cells as the released guide's own fill.sh prints them over the translation 3957316c34be3f42… (all of the seat's roots in one cut). By AI agents, Wed Nov 11 2026. No macro, syntax, notation, axiom, sorry.
-/
import Derived.Test.YtcpglmiboikfmaaChecked
import GoSem.Claim
import GoSem.ClaimJoined
import GoSem.ClaimMapViews
import Derived.JoinedTies
import Derived.KernelRfl
namespace Go.Proofs.Ytcpglmiboikfmaa
/- THE CELL 'sum', in the pinned program and in every row, IS THE sha256 OF THE DUMP (.gsa) THAT YtcpglmiboikfmaaProg.lean LOADS. Nothing in Lean hashes anything: it is a label: what it is worth is what the hold of that sum in a sandbox is worth. -/
noncomputable def Try.pinned : Pinned := { name := "ytcpglmiboikfmaa", sum := "3957316c34be3f4292c81cddfe0acbc922f56773d2ff8f2539a84ce79808a3c6", checked := Try.checked }
namespace Rows
def none {H : Type} : Left H := { results := [], args := [] }

/-- 'laws.FnAddedCycles': WHATEVER THE INPUT: true; the input reads as it did. -/
def fnAddedCyclesSpec : ChangeSpec := { name := "fnAddedCycles", fn := fun _ => fun
  | [d] => { results := [.lit (.bool true)], args := [d] }
  | _ => none }
def fnAddedCyclesRow : OpenClaim := { program := "ytcpglmiboikfmaa", sum := "3957316c34be3f4292c81cddfe0acbc922f56773d2ff8f2539a84ce79808a3c6", func := "loop.example/g00852/laws.FnAddedCycles", spec := "fnAddedCycles", unfollowed := true, recurses := true, apart := false }
def FnAddedCyclesSaid : Prop := fnAddedCyclesRow.holds Try.pinned (OpenSpec.ofChange fnAddedCyclesSpec)

/-- ITS FALSE NEIGHBOUR: 'it returns false'. Refute it at one input. -/
def fnAddedCyclesWrong : ChangeSpec := { name := "fnAddedCycles", fn := fun _ => fun
  | [d] => { results := [.lit (.bool false)], args := [d] }
  | _ => none }
def FnAddedCyclesWrongFalsely : Prop := fnAddedCyclesRow.holds Try.pinned (OpenSpec.ofChange fnAddedCyclesWrong)

/-- 'laws.FnEnergy': WHATEVER THE INPUT: true; the input reads as it did. -/
def fnEnergySpec : ChangeSpec := { name := "fnEnergy", fn := fun _ => fun
  | [d] => { results := [.lit (.bool true)], args := [d] }
  | _ => none }
def fnEnergyRow : OpenClaim := { program := "ytcpglmiboikfmaa", sum := "3957316c34be3f4292c81cddfe0acbc922f56773d2ff8f2539a84ce79808a3c6", func := "loop.example/g00852/laws.FnEnergy", spec := "fnEnergy", unfollowed := true, recurses := true, apart := false }
def FnEnergySaid : Prop := fnEnergyRow.holds Try.pinned (OpenSpec.ofChange fnEnergySpec)

/-- ITS FALSE NEIGHBOUR: 'it returns false'. Refute it at one input. -/
def fnEnergyWrong : ChangeSpec := { name := "fnEnergy", fn := fun _ => fun
  | [d] => { results := [.lit (.bool false)], args := [d] }
  | _ => none }
def FnEnergyWrongFalsely : Prop := fnEnergyRow.holds Try.pinned (OpenSpec.ofChange fnEnergyWrong)

/-- 'laws.FnExactAddCycle': WHATEVER THE INPUT: true; the input reads as it did. -/
def fnExactAddCycleSpec : ChangeSpec := { name := "fnExactAddCycle", fn := fun _ => fun
  | [d1, d2, d3, d4] => { results := [.lit (.bool true)], args := [d1, d2, d3, d4] }
  | _ => none }
def fnExactAddCycleRow : OpenClaim := { program := "ytcpglmiboikfmaa", sum := "3957316c34be3f4292c81cddfe0acbc922f56773d2ff8f2539a84ce79808a3c6", func := "loop.example/g00852/laws.FnExactAddCycle", spec := "fnExactAddCycle", unfollowed := true, recurses := true, apart := false }
def FnExactAddCycleSaid : Prop := fnExactAddCycleRow.holds Try.pinned (OpenSpec.ofChange fnExactAddCycleSpec)

/-- ITS FALSE NEIGHBOUR: 'it returns false'. Refute it at one input. -/
def fnExactAddCycleWrong : ChangeSpec := { name := "fnExactAddCycle", fn := fun _ => fun
  | [d1, d2, d3, d4] => { results := [.lit (.bool false)], args := [d1, d2, d3, d4] }
  | _ => none }
def FnExactAddCycleWrongFalsely : Prop := fnExactAddCycleRow.holds Try.pinned (OpenSpec.ofChange fnExactAddCycleWrong)

/-- 'laws.FnExactEnergyOf': WHATEVER THE INPUT: true; the input reads as it did. -/
def fnExactEnergyOfSpec : ChangeSpec := { name := "fnExactEnergyOf", fn := fun _ => fun
  | [d1, d2] => { results := [.lit (.bool true)], args := [d1, d2] }
  | _ => none }
def fnExactEnergyOfRow : OpenClaim := { program := "ytcpglmiboikfmaa", sum := "3957316c34be3f4292c81cddfe0acbc922f56773d2ff8f2539a84ce79808a3c6", func := "loop.example/g00852/laws.FnExactEnergyOf", spec := "fnExactEnergyOf", apart := false }
def FnExactEnergyOfSaid : Prop := fnExactEnergyOfRow.holds Try.pinned (OpenSpec.ofChange fnExactEnergyOfSpec)

/-- ITS FALSE NEIGHBOUR: 'it returns false'. Refute it at one input. -/
def fnExactEnergyOfWrong : ChangeSpec := { name := "fnExactEnergyOf", fn := fun _ => fun
  | [d1, d2] => { results := [.lit (.bool false)], args := [d1, d2] }
  | _ => none }
def FnExactEnergyOfWrongFalsely : Prop := fnExactEnergyOfRow.holds Try.pinned (OpenSpec.ofChange fnExactEnergyOfWrong)

/-- 'laws.FnExactEnergyChange': WHATEVER THE INPUT: true; the input reads as it did. -/
def fnExactEnergyChangeSpec : ChangeSpec := { name := "fnExactEnergyChange", fn := fun _ => fun
  | [d1, d2, d3, d4] => { results := [.lit (.bool true)], args := [d1, d2, d3, d4] }
  | _ => none }
def fnExactEnergyChangeRow : OpenClaim := { program := "ytcpglmiboikfmaa", sum := "3957316c34be3f4292c81cddfe0acbc922f56773d2ff8f2539a84ce79808a3c6", func := "loop.example/g00852/laws.FnExactEnergyChange", spec := "fnExactEnergyChange", unfollowed := true, recurses := true, apart := false }
def FnExactEnergyChangeSaid : Prop := fnExactEnergyChangeRow.holds Try.pinned (OpenSpec.ofChange fnExactEnergyChangeSpec)

/-- ITS FALSE NEIGHBOUR: 'it returns false'. Refute it at one input. -/
def fnExactEnergyChangeWrong : ChangeSpec := { name := "fnExactEnergyChange", fn := fun _ => fun
  | [d1, d2, d3, d4] => { results := [.lit (.bool false)], args := [d1, d2, d3, d4] }
  | _ => none }
def FnExactEnergyChangeWrongFalsely : Prop := fnExactEnergyChangeRow.holds Try.pinned (OpenSpec.ofChange fnExactEnergyChangeWrong)

/-- 'laws.FnExactResidualOf': WHATEVER THE INPUT: true; the input reads as it did. -/
def fnExactResidualOfSpec : ChangeSpec := { name := "fnExactResidualOf", fn := fun _ => fun
  | [d1, d2, d3] => { results := [.lit (.bool true)], args := [d1, d2, d3] }
  | _ => none }
def fnExactResidualOfRow : OpenClaim := { program := "ytcpglmiboikfmaa", sum := "3957316c34be3f4292c81cddfe0acbc922f56773d2ff8f2539a84ce79808a3c6", func := "loop.example/g00852/laws.FnExactResidualOf", spec := "fnExactResidualOf", unfollowed := true, recurses := true, apart := false }
def FnExactResidualOfSaid : Prop := fnExactResidualOfRow.holds Try.pinned (OpenSpec.ofChange fnExactResidualOfSpec)

/-- ITS FALSE NEIGHBOUR: 'it returns false'. Refute it at one input. -/
def fnExactResidualOfWrong : ChangeSpec := { name := "fnExactResidualOf", fn := fun _ => fun
  | [d1, d2, d3] => { results := [.lit (.bool false)], args := [d1, d2, d3] }
  | _ => none }
def FnExactResidualOfWrongFalsely : Prop := fnExactResidualOfRow.holds Try.pinned (OpenSpec.ofChange fnExactResidualOfWrong)

/-- 'laws.FnExactResidualsOf': WHATEVER THE INPUT: true; the input reads as it did. -/
def fnExactResidualsOfSpec : ChangeSpec := { name := "fnExactResidualsOf", fn := fun _ => fun
  | [d1, d2] => { results := [.lit (.bool true)], args := [d1, d2] }
  | _ => none }
def fnExactResidualsOfRow : OpenClaim := { program := "ytcpglmiboikfmaa", sum := "3957316c34be3f4292c81cddfe0acbc922f56773d2ff8f2539a84ce79808a3c6", func := "loop.example/g00852/laws.FnExactResidualsOf", spec := "fnExactResidualsOf", unfollowed := true, recurses := true, apart := false }
def FnExactResidualsOfSaid : Prop := fnExactResidualsOfRow.holds Try.pinned (OpenSpec.ofChange fnExactResidualsOfSpec)

/-- ITS FALSE NEIGHBOUR: 'it returns false'. Refute it at one input. -/
def fnExactResidualsOfWrong : ChangeSpec := { name := "fnExactResidualsOf", fn := fun _ => fun
  | [d1, d2] => { results := [.lit (.bool false)], args := [d1, d2] }
  | _ => none }
def FnExactResidualsOfWrongFalsely : Prop := fnExactResidualsOfRow.holds Try.pinned (OpenSpec.ofChange fnExactResidualsOfWrong)

/-- 'laws.FnExactResidualBound': WHATEVER THE INPUT: true; the input reads as it did. -/
def fnExactResidualBoundSpec : ChangeSpec := { name := "fnExactResidualBound", fn := fun _ => fun
  | [d1, d2, d3] => { results := [.lit (.bool true)], args := [d1, d2, d3] }
  | _ => none }
def fnExactResidualBoundRow : OpenClaim := { program := "ytcpglmiboikfmaa", sum := "3957316c34be3f4292c81cddfe0acbc922f56773d2ff8f2539a84ce79808a3c6", func := "loop.example/g00852/laws.FnExactResidualBound", spec := "fnExactResidualBound", unfollowed := true, recurses := true, apart := false }
def FnExactResidualBoundSaid : Prop := fnExactResidualBoundRow.holds Try.pinned (OpenSpec.ofChange fnExactResidualBoundSpec)

/-- ITS FALSE NEIGHBOUR: 'it returns false'. Refute it at one input. -/
def fnExactResidualBoundWrong : ChangeSpec := { name := "fnExactResidualBound", fn := fun _ => fun
  | [d1, d2, d3] => { results := [.lit (.bool false)], args := [d1, d2, d3] }
  | _ => none }
def FnExactResidualBoundWrongFalsely : Prop := fnExactResidualBoundRow.holds Try.pinned (OpenSpec.ofChange fnExactResidualBoundWrong)

/-- 'laws.FnExactIsRelaxed': WHATEVER THE INPUT: true; the input reads as it did. -/
def fnExactIsRelaxedSpec : ChangeSpec := { name := "fnExactIsRelaxed", fn := fun _ => fun
  | [d1, d2] => { results := [.lit (.bool true)], args := [d1, d2] }
  | _ => none }
def fnExactIsRelaxedRow : OpenClaim := { program := "ytcpglmiboikfmaa", sum := "3957316c34be3f4292c81cddfe0acbc922f56773d2ff8f2539a84ce79808a3c6", func := "loop.example/g00852/laws.FnExactIsRelaxed", spec := "fnExactIsRelaxed", unfollowed := true, recurses := true, apart := false }
def FnExactIsRelaxedSaid : Prop := fnExactIsRelaxedRow.holds Try.pinned (OpenSpec.ofChange fnExactIsRelaxedSpec)

/-- ITS FALSE NEIGHBOUR: 'it returns false'. Refute it at one input. -/
def fnExactIsRelaxedWrong : ChangeSpec := { name := "fnExactIsRelaxed", fn := fun _ => fun
  | [d1, d2] => { results := [.lit (.bool false)], args := [d1, d2] }
  | _ => none }
def FnExactIsRelaxedWrongFalsely : Prop := fnExactIsRelaxedRow.holds Try.pinned (OpenSpec.ofChange fnExactIsRelaxedWrong)

/-- 'laws.FnExactWorstResidual': WHATEVER THE INPUT: true; the input reads as it did. -/
def fnExactWorstResidualSpec : ChangeSpec := { name := "fnExactWorstResidual", fn := fun _ => fun
  | [d1, d2] => { results := [.lit (.bool true)], args := [d1, d2] }
  | _ => none }
def fnExactWorstResidualRow : OpenClaim := { program := "ytcpglmiboikfmaa", sum := "3957316c34be3f4292c81cddfe0acbc922f56773d2ff8f2539a84ce79808a3c6", func := "loop.example/g00852/laws.FnExactWorstResidual", spec := "fnExactWorstResidual", unfollowed := true, recurses := true, apart := false }
def FnExactWorstResidualSaid : Prop := fnExactWorstResidualRow.holds Try.pinned (OpenSpec.ofChange fnExactWorstResidualSpec)

/-- ITS FALSE NEIGHBOUR: 'it returns false'. Refute it at one input. -/
def fnExactWorstResidualWrong : ChangeSpec := { name := "fnExactWorstResidual", fn := fun _ => fun
  | [d1, d2] => { results := [.lit (.bool false)], args := [d1, d2] }
  | _ => none }
def FnExactWorstResidualWrongFalsely : Prop := fnExactWorstResidualRow.holds Try.pinned (OpenSpec.ofChange fnExactWorstResidualWrong)

/- THE SECOND FORM. 'bulk': how many values and letters a reading holds, each counted each time it is reached (what is shared counts as often as it is met; a slice's spare places count too). A statement '..UptoSaid' is the law's where the arguments, and the package variables that the reading takes, are together of bulk at most 1048576: NARROWER than '..Said'. Prove '..Said' where nothing that the law and all that it calls make is longer than what came in: it says more and counts as full. Else prove '..UptoSaid'. A law counts once. -/
mutual
def uptoBulk {H : Type} : DataW H → Nat
  | .lit (.string bytes) => bytes.length + 1
  | .lit _ => 1
  | .nil => 1
  | .ptr d => uptoBulk d + 1
  | .slice elems spare => uptoBulkAll elems + uptoBulkAll spare + 1
  | .agg parts => uptoBulkAll parts + 1
  | .iface _ d => uptoBulk d + 1
  | .map entries => uptoBulkEntries entries + 1
  | .held _ => 1
def uptoBulkAll {H : Type} : List (DataW H) → Nat
  | [] => 0
  | d :: r => uptoBulk d + uptoBulkAll r
def uptoBulkEntries {H : Type} : List (Lit × DataW H) → Nat
  | [] => 0
  | x :: r => uptoBulkEntry x + uptoBulkEntries r
def uptoBulkEntry {H : Type} : Lit × DataW H → Nat
  | (.string bytes, d) => bytes.length + uptoBulk d + 1
  | (_, d) => uptoBulk d + 1
 end
def uptoSmall : (H : Type) → List (DataW H) → Bool := fun _ ds => decide (uptoBulkAll ds ≤ 1048576)
def OpenSpec.upto (s : _root_.Go.ChangeSpec) : _root_.Go.OpenSpec := { _root_.Go.OpenSpec.ofChange s with cond := some uptoSmall }

/-- 'laws.FnAddedCycles', WHERE WHAT IT READS IS OF BULK AT MOST 1048576: true; the input reads as it did. -/
def fnAddedCyclesUptoRow : OpenClaim := { program := "ytcpglmiboikfmaa", sum := "3957316c34be3f4292c81cddfe0acbc922f56773d2ff8f2539a84ce79808a3c6", func := "loop.example/g00852/laws.FnAddedCycles", spec := "fnAddedCycles", unfollowed := true, recurses := true, apart := false, narrowed := true }
def FnAddedCyclesUptoSaid : Prop := fnAddedCyclesUptoRow.holds Try.pinned (OpenSpec.upto fnAddedCyclesSpec)

/-- 'laws.FnEnergy', WHERE WHAT IT READS IS OF BULK AT MOST 1048576: true; the input reads as it did. -/
def fnEnergyUptoRow : OpenClaim := { program := "ytcpglmiboikfmaa", sum := "3957316c34be3f4292c81cddfe0acbc922f56773d2ff8f2539a84ce79808a3c6", func := "loop.example/g00852/laws.FnEnergy", spec := "fnEnergy", unfollowed := true, recurses := true, apart := false, narrowed := true }
def FnEnergyUptoSaid : Prop := fnEnergyUptoRow.holds Try.pinned (OpenSpec.upto fnEnergySpec)

/-- 'laws.FnExactAddCycle', WHERE WHAT IT READS IS OF BULK AT MOST 1048576: true; the input reads as it did. -/
def fnExactAddCycleUptoRow : OpenClaim := { program := "ytcpglmiboikfmaa", sum := "3957316c34be3f4292c81cddfe0acbc922f56773d2ff8f2539a84ce79808a3c6", func := "loop.example/g00852/laws.FnExactAddCycle", spec := "fnExactAddCycle", unfollowed := true, recurses := true, apart := false, narrowed := true }
def FnExactAddCycleUptoSaid : Prop := fnExactAddCycleUptoRow.holds Try.pinned (OpenSpec.upto fnExactAddCycleSpec)

/-- 'laws.FnExactEnergyOf', WHERE WHAT IT READS IS OF BULK AT MOST 1048576: true; the input reads as it did. -/
def fnExactEnergyOfUptoRow : OpenClaim := { program := "ytcpglmiboikfmaa", sum := "3957316c34be3f4292c81cddfe0acbc922f56773d2ff8f2539a84ce79808a3c6", func := "loop.example/g00852/laws.FnExactEnergyOf", spec := "fnExactEnergyOf", apart := false, narrowed := true }
def FnExactEnergyOfUptoSaid : Prop := fnExactEnergyOfUptoRow.holds Try.pinned (OpenSpec.upto fnExactEnergyOfSpec)

/-- 'laws.FnExactEnergyChange', WHERE WHAT IT READS IS OF BULK AT MOST 1048576: true; the input reads as it did. -/
def fnExactEnergyChangeUptoRow : OpenClaim := { program := "ytcpglmiboikfmaa", sum := "3957316c34be3f4292c81cddfe0acbc922f56773d2ff8f2539a84ce79808a3c6", func := "loop.example/g00852/laws.FnExactEnergyChange", spec := "fnExactEnergyChange", unfollowed := true, recurses := true, apart := false, narrowed := true }
def FnExactEnergyChangeUptoSaid : Prop := fnExactEnergyChangeUptoRow.holds Try.pinned (OpenSpec.upto fnExactEnergyChangeSpec)

/-- 'laws.FnExactResidualOf', WHERE WHAT IT READS IS OF BULK AT MOST 1048576: true; the input reads as it did. -/
def fnExactResidualOfUptoRow : OpenClaim := { program := "ytcpglmiboikfmaa", sum := "3957316c34be3f4292c81cddfe0acbc922f56773d2ff8f2539a84ce79808a3c6", func := "loop.example/g00852/laws.FnExactResidualOf", spec := "fnExactResidualOf", unfollowed := true, recurses := true, apart := false, narrowed := true }
def FnExactResidualOfUptoSaid : Prop := fnExactResidualOfUptoRow.holds Try.pinned (OpenSpec.upto fnExactResidualOfSpec)

/-- 'laws.FnExactResidualsOf', WHERE WHAT IT READS IS OF BULK AT MOST 1048576: true; the input reads as it did. -/
def fnExactResidualsOfUptoRow : OpenClaim := { program := "ytcpglmiboikfmaa", sum := "3957316c34be3f4292c81cddfe0acbc922f56773d2ff8f2539a84ce79808a3c6", func := "loop.example/g00852/laws.FnExactResidualsOf", spec := "fnExactResidualsOf", unfollowed := true, recurses := true, apart := false, narrowed := true }
def FnExactResidualsOfUptoSaid : Prop := fnExactResidualsOfUptoRow.holds Try.pinned (OpenSpec.upto fnExactResidualsOfSpec)

/-- 'laws.FnExactResidualBound', WHERE WHAT IT READS IS OF BULK AT MOST 1048576: true; the input reads as it did. -/
def fnExactResidualBoundUptoRow : OpenClaim := { program := "ytcpglmiboikfmaa", sum := "3957316c34be3f4292c81cddfe0acbc922f56773d2ff8f2539a84ce79808a3c6", func := "loop.example/g00852/laws.FnExactResidualBound", spec := "fnExactResidualBound", unfollowed := true, recurses := true, apart := false, narrowed := true }
def FnExactResidualBoundUptoSaid : Prop := fnExactResidualBoundUptoRow.holds Try.pinned (OpenSpec.upto fnExactResidualBoundSpec)

/-- 'laws.FnExactIsRelaxed', WHERE WHAT IT READS IS OF BULK AT MOST 1048576: true; the input reads as it did. -/
def fnExactIsRelaxedUptoRow : OpenClaim := { program := "ytcpglmiboikfmaa", sum := "3957316c34be3f4292c81cddfe0acbc922f56773d2ff8f2539a84ce79808a3c6", func := "loop.example/g00852/laws.FnExactIsRelaxed", spec := "fnExactIsRelaxed", unfollowed := true, recurses := true, apart := false, narrowed := true }
def FnExactIsRelaxedUptoSaid : Prop := fnExactIsRelaxedUptoRow.holds Try.pinned (OpenSpec.upto fnExactIsRelaxedSpec)

/-- 'laws.FnExactWorstResidual', WHERE WHAT IT READS IS OF BULK AT MOST 1048576: true; the input reads as it did. -/
def fnExactWorstResidualUptoRow : OpenClaim := { program := "ytcpglmiboikfmaa", sum := "3957316c34be3f4292c81cddfe0acbc922f56773d2ff8f2539a84ce79808a3c6", func := "loop.example/g00852/laws.FnExactWorstResidual", spec := "fnExactWorstResidual", unfollowed := true, recurses := true, apart := false, narrowed := true }
def FnExactWorstResidualUptoSaid : Prop := fnExactWorstResidualUptoRow.holds Try.pinned (OpenSpec.upto fnExactWorstResidualSpec)

end Rows
end Go.Proofs.Ytcpglmiboikfmaa
