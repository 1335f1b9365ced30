/-
  No cell of these rows narrows 'for every input' (looked for: loops, veiled, ifaces, maps, wideKeys, modest, calm, conditions, laid).
  DERIVED. THE GIVEN ROWS OF THIS SEAT. 13 by the template 'for every input the law returns true; each argument reads behind the call as it read before'; 0 by the template 'total and deterministic' (their statements: YtcnhlagkaggioaaTotals.lean).
  GIVEN WITH THE SEED: the statements are not yours to turn. If you find one false, say at which input.
  Laid BY PROGRAM, IN A SANDBOX (cutbox-rows.mjs): the forced cells as the released guide's own fill.sh prints them over the translation b9efbc3a979e817a… (all of the seat's roots in one cut). By AI agents, Wed Nov 11 2026. No macro, syntax, notation, axiom, sorry.
-/
import Derived.Test.YtcnhlagkaggioaaChecked
import GoSem.Claim
import GoSem.ClaimJoined
import GoSem.ClaimMapViews
import Derived.JoinedTies
import Derived.KernelRfl
namespace Go.Proofs.Ytcnhlagkaggioaa
/- THE CELL 'sum', in the pinned program and in every row, IS THE sha256 OF THE DUMP (.gsa) THAT YtcnhlagkaggioaaProg.lean LOADS. Nothing in Lean hashes anything: it is a label: what it is worth is what the hold of that sum in a sandbox is worth. -/
noncomputable def Try.pinned : Pinned := { name := "ytcnhlagkaggioaa", sum := "b9efbc3a979e817a081a4385aeb2a8cd6fc9623fd689e1644fcc37d0b0e15c47", checked := Try.checked }
namespace Rows
def none {H : Type} : Left H := { results := [], args := [] }

/-- 'laws.FnExactChordsOf': WHATEVER THE INPUT: true; the input reads as it did. -/
def fnExactChordsOfSpec : ChangeSpec := { name := "fnExactChordsOf", fn := fun _ => fun
  | [d] => { results := [.lit (.bool true)], args := [d] }
  | _ => none }
def fnExactChordsOfRow : OpenClaim := { program := "ytcnhlagkaggioaa", sum := "b9efbc3a979e817a081a4385aeb2a8cd6fc9623fd689e1644fcc37d0b0e15c47", func := "loop.example/g00852/laws.FnExactChordsOf", spec := "fnExactChordsOf", unfollowed := true, recurses := true, apart := false }
def FnExactChordsOfSaid : Prop := fnExactChordsOfRow.holds Try.pinned (OpenSpec.ofChange fnExactChordsOfSpec)

/-- ITS FALSE NEIGHBOUR: 'it returns false'. Refute it at one input. -/
def fnExactChordsOfWrong : ChangeSpec := { name := "fnExactChordsOf", fn := fun _ => fun
  | [d] => { results := [.lit (.bool false)], args := [d] }
  | _ => none }
def FnExactChordsOfWrongFalsely : Prop := fnExactChordsOfRow.holds Try.pinned (OpenSpec.ofChange fnExactChordsOfWrong)

/-- 'laws.FnExactCycleOf': WHATEVER THE INPUT: true; the input reads as it did. -/
def fnExactCycleOfSpec : ChangeSpec := { name := "fnExactCycleOf", fn := fun _ => fun
  | [d1, d2] => { results := [.lit (.bool true)], args := [d1, d2] }
  | _ => none }
def fnExactCycleOfRow : OpenClaim := { program := "ytcnhlagkaggioaa", sum := "b9efbc3a979e817a081a4385aeb2a8cd6fc9623fd689e1644fcc37d0b0e15c47", func := "loop.example/g00852/laws.FnExactCycleOf", spec := "fnExactCycleOf", unfollowed := true, recurses := true, apart := false }
def FnExactCycleOfSaid : Prop := fnExactCycleOfRow.holds Try.pinned (OpenSpec.ofChange fnExactCycleOfSpec)

/-- ITS FALSE NEIGHBOUR: 'it returns false'. Refute it at one input. -/
def fnExactCycleOfWrong : ChangeSpec := { name := "fnExactCycleOf", fn := fun _ => fun
  | [d1, d2] => { results := [.lit (.bool false)], args := [d1, d2] }
  | _ => none }
def FnExactCycleOfWrongFalsely : Prop := fnExactCycleOfRow.holds Try.pinned (OpenSpec.ofChange fnExactCycleOfWrong)

/-- 'laws.FnExactCycleBasis': WHATEVER THE INPUT: true; the input reads as it did. -/
def fnExactCycleBasisSpec : ChangeSpec := { name := "fnExactCycleBasis", fn := fun _ => fun
  | [d] => { results := [.lit (.bool true)], args := [d] }
  | _ => none }
def fnExactCycleBasisRow : OpenClaim := { program := "ytcnhlagkaggioaa", sum := "b9efbc3a979e817a081a4385aeb2a8cd6fc9623fd689e1644fcc37d0b0e15c47", func := "loop.example/g00852/laws.FnExactCycleBasis", spec := "fnExactCycleBasis", unfollowed := true, recurses := true, apart := false }
def FnExactCycleBasisSaid : Prop := fnExactCycleBasisRow.holds Try.pinned (OpenSpec.ofChange fnExactCycleBasisSpec)

/-- ITS FALSE NEIGHBOUR: 'it returns false'. Refute it at one input. -/
def fnExactCycleBasisWrong : ChangeSpec := { name := "fnExactCycleBasis", fn := fun _ => fun
  | [d] => { results := [.lit (.bool false)], args := [d] }
  | _ => none }
def FnExactCycleBasisWrongFalsely : Prop := fnExactCycleBasisRow.holds Try.pinned (OpenSpec.ofChange fnExactCycleBasisWrong)

/-- 'laws.FnExactIsCirculation': WHATEVER THE INPUT: true; the input reads as it did. -/
def fnExactIsCirculationSpec : ChangeSpec := { name := "fnExactIsCirculation", fn := fun _ => fun
  | [d1, d2] => { results := [.lit (.bool true)], args := [d1, d2] }
  | _ => none }
def fnExactIsCirculationRow : OpenClaim := { program := "ytcnhlagkaggioaa", sum := "b9efbc3a979e817a081a4385aeb2a8cd6fc9623fd689e1644fcc37d0b0e15c47", func := "loop.example/g00852/laws.FnExactIsCirculation", spec := "fnExactIsCirculation", unfollowed := true, recurses := true, apart := false }
def FnExactIsCirculationSaid : Prop := fnExactIsCirculationRow.holds Try.pinned (OpenSpec.ofChange fnExactIsCirculationSpec)

/-- ITS FALSE NEIGHBOUR: 'it returns false'. Refute it at one input. -/
def fnExactIsCirculationWrong : ChangeSpec := { name := "fnExactIsCirculation", fn := fun _ => fun
  | [d1, d2] => { results := [.lit (.bool false)], args := [d1, d2] }
  | _ => none }
def FnExactIsCirculationWrongFalsely : Prop := fnExactIsCirculationRow.holds Try.pinned (OpenSpec.ofChange fnExactIsCirculationWrong)

/-- 'laws.FnExactAddCycle': WHATEVER THE INPUT: true; the input reads as it did. -/
def fnExactAddCycleSpec : ChangeSpec := { name := "fnExactAddCycle", fn := fun _ => fun
  | [d1, d2, d3, d4] => { results := [.lit (.bool true)], args := [d1, d2, d3, d4] }
  | _ => none }
def fnExactAddCycleRow : OpenClaim := { program := "ytcnhlagkaggioaa", sum := "b9efbc3a979e817a081a4385aeb2a8cd6fc9623fd689e1644fcc37d0b0e15c47", func := "loop.example/g00852/laws.FnExactAddCycle", spec := "fnExactAddCycle", unfollowed := true, recurses := true, apart := false }
def FnExactAddCycleSaid : Prop := fnExactAddCycleRow.holds Try.pinned (OpenSpec.ofChange fnExactAddCycleSpec)

/-- ITS FALSE NEIGHBOUR: 'it returns false'. Refute it at one input. -/
def fnExactAddCycleWrong : ChangeSpec := { name := "fnExactAddCycle", fn := fun _ => fun
  | [d1, d2, d3, d4] => { results := [.lit (.bool false)], args := [d1, d2, d3, d4] }
  | _ => none }
def FnExactAddCycleWrongFalsely : Prop := fnExactAddCycleRow.holds Try.pinned (OpenSpec.ofChange fnExactAddCycleWrong)

/-- 'laws.FnExactChordFlows': WHATEVER THE INPUT: true; the input reads as it did. -/
def fnExactChordFlowsSpec : ChangeSpec := { name := "fnExactChordFlows", fn := fun _ => fun
  | [d1, d2] => { results := [.lit (.bool true)], args := [d1, d2] }
  | _ => none }
def fnExactChordFlowsRow : OpenClaim := { program := "ytcnhlagkaggioaa", sum := "b9efbc3a979e817a081a4385aeb2a8cd6fc9623fd689e1644fcc37d0b0e15c47", func := "loop.example/g00852/laws.FnExactChordFlows", spec := "fnExactChordFlows", unfollowed := true, recurses := true, apart := false }
def FnExactChordFlowsSaid : Prop := fnExactChordFlowsRow.holds Try.pinned (OpenSpec.ofChange fnExactChordFlowsSpec)

/-- ITS FALSE NEIGHBOUR: 'it returns false'. Refute it at one input. -/
def fnExactChordFlowsWrong : ChangeSpec := { name := "fnExactChordFlows", fn := fun _ => fun
  | [d1, d2] => { results := [.lit (.bool false)], args := [d1, d2] }
  | _ => none }
def FnExactChordFlowsWrongFalsely : Prop := fnExactChordFlowsRow.holds Try.pinned (OpenSpec.ofChange fnExactChordFlowsWrong)

/-- 'laws.FnExactFromChords': WHATEVER THE INPUT: true; the input reads as it did. -/
def fnExactFromChordsSpec : ChangeSpec := { name := "fnExactFromChords", fn := fun _ => fun
  | [d1, d2] => { results := [.lit (.bool true)], args := [d1, d2] }
  | _ => none }
def fnExactFromChordsRow : OpenClaim := { program := "ytcnhlagkaggioaa", sum := "b9efbc3a979e817a081a4385aeb2a8cd6fc9623fd689e1644fcc37d0b0e15c47", func := "loop.example/g00852/laws.FnExactFromChords", spec := "fnExactFromChords", unfollowed := true, recurses := true, apart := false }
def FnExactFromChordsSaid : Prop := fnExactFromChordsRow.holds Try.pinned (OpenSpec.ofChange fnExactFromChordsSpec)

/-- ITS FALSE NEIGHBOUR: 'it returns false'. Refute it at one input. -/
def fnExactFromChordsWrong : ChangeSpec := { name := "fnExactFromChords", fn := fun _ => fun
  | [d1, d2] => { results := [.lit (.bool false)], args := [d1, d2] }
  | _ => none }
def FnExactFromChordsWrongFalsely : Prop := fnExactFromChordsRow.holds Try.pinned (OpenSpec.ofChange fnExactFromChordsWrong)

/-- 'laws.FnExactSpanningForest': WHATEVER THE INPUT: true; the input reads as it did. -/
def fnExactSpanningForestSpec : ChangeSpec := { name := "fnExactSpanningForest", fn := fun _ => fun
  | [d] => { results := [.lit (.bool true)], args := [d] }
  | _ => none }
def fnExactSpanningForestRow : OpenClaim := { program := "ytcnhlagkaggioaa", sum := "b9efbc3a979e817a081a4385aeb2a8cd6fc9623fd689e1644fcc37d0b0e15c47", func := "loop.example/g00852/laws.FnExactSpanningForest", spec := "fnExactSpanningForest", unfollowed := true, recurses := true, apart := false }
def FnExactSpanningForestSaid : Prop := fnExactSpanningForestRow.holds Try.pinned (OpenSpec.ofChange fnExactSpanningForestSpec)

/-- ITS FALSE NEIGHBOUR: 'it returns false'. Refute it at one input. -/
def fnExactSpanningForestWrong : ChangeSpec := { name := "fnExactSpanningForest", fn := fun _ => fun
  | [d] => { results := [.lit (.bool false)], args := [d] }
  | _ => none }
def FnExactSpanningForestWrongFalsely : Prop := fnExactSpanningForestRow.holds Try.pinned (OpenSpec.ofChange fnExactSpanningForestWrong)

/-- 'laws.FnCycles': WHATEVER THE INPUT: true; the input reads as it did. -/
def fnCyclesSpec : ChangeSpec := { name := "fnCycles", fn := fun _ => fun
  | [d] => { results := [.lit (.bool true)], args := [d] }
  | _ => none }
def fnCyclesRow : OpenClaim := { program := "ytcnhlagkaggioaa", sum := "b9efbc3a979e817a081a4385aeb2a8cd6fc9623fd689e1644fcc37d0b0e15c47", func := "loop.example/g00852/laws.FnCycles", spec := "fnCycles", unfollowed := true, recurses := true, apart := false }
def FnCyclesSaid : Prop := fnCyclesRow.holds Try.pinned (OpenSpec.ofChange fnCyclesSpec)

/-- ITS FALSE NEIGHBOUR: 'it returns false'. Refute it at one input. -/
def fnCyclesWrong : ChangeSpec := { name := "fnCycles", fn := fun _ => fun
  | [d] => { results := [.lit (.bool false)], args := [d] }
  | _ => none }
def FnCyclesWrongFalsely : Prop := fnCyclesRow.holds Try.pinned (OpenSpec.ofChange fnCyclesWrong)

/-- 'laws.FnCirculations': WHATEVER THE INPUT: true; the input reads as it did. -/
def fnCirculationsSpec : ChangeSpec := { name := "fnCirculations", fn := fun _ => fun
  | [d] => { results := [.lit (.bool true)], args := [d] }
  | _ => none }
def fnCirculationsRow : OpenClaim := { program := "ytcnhlagkaggioaa", sum := "b9efbc3a979e817a081a4385aeb2a8cd6fc9623fd689e1644fcc37d0b0e15c47", func := "loop.example/g00852/laws.FnCirculations", spec := "fnCirculations", unfollowed := true, recurses := true, apart := false }
def FnCirculationsSaid : Prop := fnCirculationsRow.holds Try.pinned (OpenSpec.ofChange fnCirculationsSpec)

/-- ITS FALSE NEIGHBOUR: 'it returns false'. Refute it at one input. -/
def fnCirculationsWrong : ChangeSpec := { name := "fnCirculations", fn := fun _ => fun
  | [d] => { results := [.lit (.bool false)], args := [d] }
  | _ => none }
def FnCirculationsWrongFalsely : Prop := fnCirculationsRow.holds Try.pinned (OpenSpec.ofChange fnCirculationsWrong)

/-- 'laws.FnFromChords': WHATEVER THE INPUT: true; the input reads as it did. -/
def fnFromChordsSpec : ChangeSpec := { name := "fnFromChords", fn := fun _ => fun
  | [d] => { results := [.lit (.bool true)], args := [d] }
  | _ => none }
def fnFromChordsRow : OpenClaim := { program := "ytcnhlagkaggioaa", sum := "b9efbc3a979e817a081a4385aeb2a8cd6fc9623fd689e1644fcc37d0b0e15c47", func := "loop.example/g00852/laws.FnFromChords", spec := "fnFromChords", unfollowed := true, recurses := true, apart := false }
def FnFromChordsSaid : Prop := fnFromChordsRow.holds Try.pinned (OpenSpec.ofChange fnFromChordsSpec)

/-- ITS FALSE NEIGHBOUR: 'it returns false'. Refute it at one input. -/
def fnFromChordsWrong : ChangeSpec := { name := "fnFromChords", fn := fun _ => fun
  | [d] => { results := [.lit (.bool false)], args := [d] }
  | _ => none }
def FnFromChordsWrongFalsely : Prop := fnFromChordsRow.holds Try.pinned (OpenSpec.ofChange fnFromChordsWrong)

/-- 'laws.FnBridges': WHATEVER THE INPUT: true; the input reads as it did. -/
def fnBridgesSpec : ChangeSpec := { name := "fnBridges", fn := fun _ => fun
  | [d] => { results := [.lit (.bool true)], args := [d] }
  | _ => none }
def fnBridgesRow : OpenClaim := { program := "ytcnhlagkaggioaa", sum := "b9efbc3a979e817a081a4385aeb2a8cd6fc9623fd689e1644fcc37d0b0e15c47", func := "loop.example/g00852/laws.FnBridges", spec := "fnBridges", unfollowed := true, recurses := true, apart := false }
def FnBridgesSaid : Prop := fnBridgesRow.holds Try.pinned (OpenSpec.ofChange fnBridgesSpec)

/-- ITS FALSE NEIGHBOUR: 'it returns false'. Refute it at one input. -/
def fnBridgesWrong : ChangeSpec := { name := "fnBridges", fn := fun _ => fun
  | [d] => { results := [.lit (.bool false)], args := [d] }
  | _ => none }
def FnBridgesWrongFalsely : Prop := fnBridgesRow.holds Try.pinned (OpenSpec.ofChange fnBridgesWrong)

/-- 'laws.FnForests': WHATEVER THE INPUT: true; the input reads as it did. -/
def fnForestsSpec : ChangeSpec := { name := "fnForests", fn := fun _ => fun
  | [d] => { results := [.lit (.bool true)], args := [d] }
  | _ => none }
def fnForestsRow : OpenClaim := { program := "ytcnhlagkaggioaa", sum := "b9efbc3a979e817a081a4385aeb2a8cd6fc9623fd689e1644fcc37d0b0e15c47", func := "loop.example/g00852/laws.FnForests", spec := "fnForests", unfollowed := true, recurses := true, apart := false }
def FnForestsSaid : Prop := fnForestsRow.holds Try.pinned (OpenSpec.ofChange fnForestsSpec)

/-- ITS FALSE NEIGHBOUR: 'it returns false'. Refute it at one input. -/
def fnForestsWrong : ChangeSpec := { name := "fnForests", fn := fun _ => fun
  | [d] => { results := [.lit (.bool false)], args := [d] }
  | _ => none }
def FnForestsWrongFalsely : Prop := fnForestsRow.holds Try.pinned (OpenSpec.ofChange fnForestsWrong)

/- THE SECOND FORM. 'bulk': how many values and letters a reading holds, each counted each time it is reached (what is shared counts as often as it is met; a slice's spare places count too). A statement '..UptoSaid' is the law's where the arguments, and the package variables that the reading takes, are together of bulk at most 1048576: NARROWER than '..Said'. Prove '..Said' where nothing that the law and all that it calls make is longer than what came in: it says more and counts as full. Else prove '..UptoSaid'. A law counts once. -/
mutual
def uptoBulk {H : Type} : DataW H → Nat
  | .lit (.string bytes) => bytes.length + 1
  | .lit _ => 1
  | .nil => 1
  | .ptr d => uptoBulk d + 1
  | .slice elems spare => uptoBulkAll elems + uptoBulkAll spare + 1
  | .agg parts => uptoBulkAll parts + 1
  | .iface _ d => uptoBulk d + 1
  | .map entries => uptoBulkEntries entries + 1
  | .held _ => 1
def uptoBulkAll {H : Type} : List (DataW H) → Nat
  | [] => 0
  | d :: r => uptoBulk d + uptoBulkAll r
def uptoBulkEntries {H : Type} : List (Lit × DataW H) → Nat
  | [] => 0
  | x :: r => uptoBulkEntry x + uptoBulkEntries r
def uptoBulkEntry {H : Type} : Lit × DataW H → Nat
  | (.string bytes, d) => bytes.length + uptoBulk d + 1
  | (_, d) => uptoBulk d + 1
 end
def uptoSmall : (H : Type) → List (DataW H) → Bool := fun _ ds => decide (uptoBulkAll ds ≤ 1048576)
def OpenSpec.upto (s : _root_.Go.ChangeSpec) : _root_.Go.OpenSpec := { _root_.Go.OpenSpec.ofChange s with cond := some uptoSmall }

/-- 'laws.FnExactChordsOf', WHERE WHAT IT READS IS OF BULK AT MOST 1048576: true; the input reads as it did. -/
def fnExactChordsOfUptoRow : OpenClaim := { program := "ytcnhlagkaggioaa", sum := "b9efbc3a979e817a081a4385aeb2a8cd6fc9623fd689e1644fcc37d0b0e15c47", func := "loop.example/g00852/laws.FnExactChordsOf", spec := "fnExactChordsOf", unfollowed := true, recurses := true, apart := false, narrowed := true }
def FnExactChordsOfUptoSaid : Prop := fnExactChordsOfUptoRow.holds Try.pinned (OpenSpec.upto fnExactChordsOfSpec)

/-- 'laws.FnExactCycleOf', WHERE WHAT IT READS IS OF BULK AT MOST 1048576: true; the input reads as it did. -/
def fnExactCycleOfUptoRow : OpenClaim := { program := "ytcnhlagkaggioaa", sum := "b9efbc3a979e817a081a4385aeb2a8cd6fc9623fd689e1644fcc37d0b0e15c47", func := "loop.example/g00852/laws.FnExactCycleOf", spec := "fnExactCycleOf", unfollowed := true, recurses := true, apart := false, narrowed := true }
def FnExactCycleOfUptoSaid : Prop := fnExactCycleOfUptoRow.holds Try.pinned (OpenSpec.upto fnExactCycleOfSpec)

/-- 'laws.FnExactCycleBasis', WHERE WHAT IT READS IS OF BULK AT MOST 1048576: true; the input reads as it did. -/
def fnExactCycleBasisUptoRow : OpenClaim := { program := "ytcnhlagkaggioaa", sum := "b9efbc3a979e817a081a4385aeb2a8cd6fc9623fd689e1644fcc37d0b0e15c47", func := "loop.example/g00852/laws.FnExactCycleBasis", spec := "fnExactCycleBasis", unfollowed := true, recurses := true, apart := false, narrowed := true }
def FnExactCycleBasisUptoSaid : Prop := fnExactCycleBasisUptoRow.holds Try.pinned (OpenSpec.upto fnExactCycleBasisSpec)

/-- 'laws.FnExactIsCirculation', WHERE WHAT IT READS IS OF BULK AT MOST 1048576: true; the input reads as it did. -/
def fnExactIsCirculationUptoRow : OpenClaim := { program := "ytcnhlagkaggioaa", sum := "b9efbc3a979e817a081a4385aeb2a8cd6fc9623fd689e1644fcc37d0b0e15c47", func := "loop.example/g00852/laws.FnExactIsCirculation", spec := "fnExactIsCirculation", unfollowed := true, recurses := true, apart := false, narrowed := true }
def FnExactIsCirculationUptoSaid : Prop := fnExactIsCirculationUptoRow.holds Try.pinned (OpenSpec.upto fnExactIsCirculationSpec)

/-- 'laws.FnExactAddCycle', WHERE WHAT IT READS IS OF BULK AT MOST 1048576: true; the input reads as it did. -/
def fnExactAddCycleUptoRow : OpenClaim := { program := "ytcnhlagkaggioaa", sum := "b9efbc3a979e817a081a4385aeb2a8cd6fc9623fd689e1644fcc37d0b0e15c47", func := "loop.example/g00852/laws.FnExactAddCycle", spec := "fnExactAddCycle", unfollowed := true, recurses := true, apart := false, narrowed := true }
def FnExactAddCycleUptoSaid : Prop := fnExactAddCycleUptoRow.holds Try.pinned (OpenSpec.upto fnExactAddCycleSpec)

/-- 'laws.FnExactChordFlows', WHERE WHAT IT READS IS OF BULK AT MOST 1048576: true; the input reads as it did. -/
def fnExactChordFlowsUptoRow : OpenClaim := { program := "ytcnhlagkaggioaa", sum := "b9efbc3a979e817a081a4385aeb2a8cd6fc9623fd689e1644fcc37d0b0e15c47", func := "loop.example/g00852/laws.FnExactChordFlows", spec := "fnExactChordFlows", unfollowed := true, recurses := true, apart := false, narrowed := true }
def FnExactChordFlowsUptoSaid : Prop := fnExactChordFlowsUptoRow.holds Try.pinned (OpenSpec.upto fnExactChordFlowsSpec)

/-- 'laws.FnExactFromChords', WHERE WHAT IT READS IS OF BULK AT MOST 1048576: true; the input reads as it did. -/
def fnExactFromChordsUptoRow : OpenClaim := { program := "ytcnhlagkaggioaa", sum := "b9efbc3a979e817a081a4385aeb2a8cd6fc9623fd689e1644fcc37d0b0e15c47", func := "loop.example/g00852/laws.FnExactFromChords", spec := "fnExactFromChords", unfollowed := true, recurses := true, apart := false, narrowed := true }
def FnExactFromChordsUptoSaid : Prop := fnExactFromChordsUptoRow.holds Try.pinned (OpenSpec.upto fnExactFromChordsSpec)

/-- 'laws.FnExactSpanningForest', WHERE WHAT IT READS IS OF BULK AT MOST 1048576: true; the input reads as it did. -/
def fnExactSpanningForestUptoRow : OpenClaim := { program := "ytcnhlagkaggioaa", sum := "b9efbc3a979e817a081a4385aeb2a8cd6fc9623fd689e1644fcc37d0b0e15c47", func := "loop.example/g00852/laws.FnExactSpanningForest", spec := "fnExactSpanningForest", unfollowed := true, recurses := true, apart := false, narrowed := true }
def FnExactSpanningForestUptoSaid : Prop := fnExactSpanningForestUptoRow.holds Try.pinned (OpenSpec.upto fnExactSpanningForestSpec)

/-- 'laws.FnCycles', WHERE WHAT IT READS IS OF BULK AT MOST 1048576: true; the input reads as it did. -/
def fnCyclesUptoRow : OpenClaim := { program := "ytcnhlagkaggioaa", sum := "b9efbc3a979e817a081a4385aeb2a8cd6fc9623fd689e1644fcc37d0b0e15c47", func := "loop.example/g00852/laws.FnCycles", spec := "fnCycles", unfollowed := true, recurses := true, apart := false, narrowed := true }
def FnCyclesUptoSaid : Prop := fnCyclesUptoRow.holds Try.pinned (OpenSpec.upto fnCyclesSpec)

/-- 'laws.FnCirculations', WHERE WHAT IT READS IS OF BULK AT MOST 1048576: true; the input reads as it did. -/
def fnCirculationsUptoRow : OpenClaim := { program := "ytcnhlagkaggioaa", sum := "b9efbc3a979e817a081a4385aeb2a8cd6fc9623fd689e1644fcc37d0b0e15c47", func := "loop.example/g00852/laws.FnCirculations", spec := "fnCirculations", unfollowed := true, recurses := true, apart := false, narrowed := true }
def FnCirculationsUptoSaid : Prop := fnCirculationsUptoRow.holds Try.pinned (OpenSpec.upto fnCirculationsSpec)

/-- 'laws.FnFromChords', WHERE WHAT IT READS IS OF BULK AT MOST 1048576: true; the input reads as it did. -/
def fnFromChordsUptoRow : OpenClaim := { program := "ytcnhlagkaggioaa", sum := "b9efbc3a979e817a081a4385aeb2a8cd6fc9623fd689e1644fcc37d0b0e15c47", func := "loop.example/g00852/laws.FnFromChords", spec := "fnFromChords", unfollowed := true, recurses := true, apart := false, narrowed := true }
def FnFromChordsUptoSaid : Prop := fnFromChordsUptoRow.holds Try.pinned (OpenSpec.upto fnFromChordsSpec)

/-- 'laws.FnBridges', WHERE WHAT IT READS IS OF BULK AT MOST 1048576: true; the input reads as it did. -/
def fnBridgesUptoRow : OpenClaim := { program := "ytcnhlagkaggioaa", sum := "b9efbc3a979e817a081a4385aeb2a8cd6fc9623fd689e1644fcc37d0b0e15c47", func := "loop.example/g00852/laws.FnBridges", spec := "fnBridges", unfollowed := true, recurses := true, apart := false, narrowed := true }
def FnBridgesUptoSaid : Prop := fnBridgesUptoRow.holds Try.pinned (OpenSpec.upto fnBridgesSpec)

/-- 'laws.FnForests', WHERE WHAT IT READS IS OF BULK AT MOST 1048576: true; the input reads as it did. -/
def fnForestsUptoRow : OpenClaim := { program := "ytcnhlagkaggioaa", sum := "b9efbc3a979e817a081a4385aeb2a8cd6fc9623fd689e1644fcc37d0b0e15c47", func := "loop.example/g00852/laws.FnForests", spec := "fnForests", unfollowed := true, recurses := true, apart := false, narrowed := true }
def FnForestsUptoSaid : Prop := fnForestsUptoRow.holds Try.pinned (OpenSpec.upto fnForestsSpec)

end Rows
end Go.Proofs.Ytcnhlagkaggioaa
