/-
  No cell of these rows narrows 'for every input' (looked for: loops, veiled, ifaces, maps, wideKeys, modest, calm, conditions, laid).
  DERIVED. THE GIVEN ROWS OF THIS SEAT. 8 by the template 'for every input the law returns true; each argument reads behind the call as it read before'; 0 by the template 'total and deterministic' (their statements: YtmjmamiokkkblaaTotals.lean).
  GIVEN WITH THE SEED: the statements are not yours to turn. If you find one false, say at which input.
  Laid BY PROGRAM, IN A SANDBOX (cutbox-rows.mjs): the forced cells as the released guide's own fill.sh prints them over the translation 15606707b20d57d3… (all of the seat's roots in one cut). By AI agents, Wed Nov 11 2026. No macro, syntax, notation, axiom, sorry.
-/
import Derived.Test.YtmjmamiokkkblaaChecked
import GoSem.Claim
import GoSem.ClaimJoined
import GoSem.ClaimMapViews
import Derived.JoinedTies
import Derived.KernelRfl
namespace Go.Proofs.Ytmjmamiokkkblaa
/- THE CELL 'sum', in the pinned program and in every row, IS THE sha256 OF THE DUMP (.gsa) THAT YtmjmamiokkkblaaProg.lean LOADS. Nothing in Lean hashes anything: it is a label: what it is worth is what the hold of that sum in a sandbox is worth. -/
noncomputable def Try.pinned : Pinned := { name := "ytmjmamiokkkblaa", sum := "15606707b20d57d3df3a699439ddfbb08aaa72e9aab7a750094e221c4e75ffc1", checked := Try.checked }
namespace Rows
def none {H : Type} : Left H := { results := [], args := [] }

/-- 'laws.FnThroughput': WHATEVER THE INPUT: true; the input reads as it did. -/
def fnThroughputSpec : ChangeSpec := { name := "fnThroughput", fn := fun _ => fun
  | [d] => { results := [.lit (.bool true)], args := [d] }
  | _ => none }
def fnThroughputRow : OpenClaim := { program := "ytmjmamiokkkblaa", sum := "15606707b20d57d3df3a699439ddfbb08aaa72e9aab7a750094e221c4e75ffc1", func := "loop.example/g00852/laws.FnThroughput", spec := "fnThroughput", recurses := true, apart := false }
def FnThroughputSaid : Prop := fnThroughputRow.holds Try.pinned (OpenSpec.ofChange fnThroughputSpec)

/-- ITS FALSE NEIGHBOUR: 'it returns false'. Refute it at one input. -/
def fnThroughputWrong : ChangeSpec := { name := "fnThroughput", fn := fun _ => fun
  | [d] => { results := [.lit (.bool false)], args := [d] }
  | _ => none }
def FnThroughputWrongFalsely : Prop := fnThroughputRow.holds Try.pinned (OpenSpec.ofChange fnThroughputWrong)

/-- 'laws.FnForestFlows': WHATEVER THE INPUT: true; the input reads as it did. -/
def fnForestFlowsSpec : ChangeSpec := { name := "fnForestFlows", fn := fun _ => fun
  | [d] => { results := [.lit (.bool true)], args := [d] }
  | _ => none }
def fnForestFlowsRow : OpenClaim := { program := "ytmjmamiokkkblaa", sum := "15606707b20d57d3df3a699439ddfbb08aaa72e9aab7a750094e221c4e75ffc1", func := "loop.example/g00852/laws.FnForestFlows", spec := "fnForestFlows", unfollowed := true, recurses := true, apart := false }
def FnForestFlowsSaid : Prop := fnForestFlowsRow.holds Try.pinned (OpenSpec.ofChange fnForestFlowsSpec)

/-- ITS FALSE NEIGHBOUR: 'it returns false'. Refute it at one input. -/
def fnForestFlowsWrong : ChangeSpec := { name := "fnForestFlows", fn := fun _ => fun
  | [d] => { results := [.lit (.bool false)], args := [d] }
  | _ => none }
def FnForestFlowsWrongFalsely : Prop := fnForestFlowsRow.holds Try.pinned (OpenSpec.ofChange fnForestFlowsWrong)

/-- 'laws.FnCycles': WHATEVER THE INPUT: true; the input reads as it did. -/
def fnCyclesSpec : ChangeSpec := { name := "fnCycles", fn := fun _ => fun
  | [d] => { results := [.lit (.bool true)], args := [d] }
  | _ => none }
def fnCyclesRow : OpenClaim := { program := "ytmjmamiokkkblaa", sum := "15606707b20d57d3df3a699439ddfbb08aaa72e9aab7a750094e221c4e75ffc1", func := "loop.example/g00852/laws.FnCycles", spec := "fnCycles", unfollowed := true, recurses := true, apart := false }
def FnCyclesSaid : Prop := fnCyclesRow.holds Try.pinned (OpenSpec.ofChange fnCyclesSpec)

/-- ITS FALSE NEIGHBOUR: 'it returns false'. Refute it at one input. -/
def fnCyclesWrong : ChangeSpec := { name := "fnCycles", fn := fun _ => fun
  | [d] => { results := [.lit (.bool false)], args := [d] }
  | _ => none }
def FnCyclesWrongFalsely : Prop := fnCyclesRow.holds Try.pinned (OpenSpec.ofChange fnCyclesWrong)

/-- 'laws.FnAddedCycles': WHATEVER THE INPUT: true; the input reads as it did. -/
def fnAddedCyclesSpec : ChangeSpec := { name := "fnAddedCycles", fn := fun _ => fun
  | [d] => { results := [.lit (.bool true)], args := [d] }
  | _ => none }
def fnAddedCyclesRow : OpenClaim := { program := "ytmjmamiokkkblaa", sum := "15606707b20d57d3df3a699439ddfbb08aaa72e9aab7a750094e221c4e75ffc1", func := "loop.example/g00852/laws.FnAddedCycles", spec := "fnAddedCycles", unfollowed := true, recurses := true, apart := false }
def FnAddedCyclesSaid : Prop := fnAddedCyclesRow.holds Try.pinned (OpenSpec.ofChange fnAddedCyclesSpec)

/-- ITS FALSE NEIGHBOUR: 'it returns false'. Refute it at one input. -/
def fnAddedCyclesWrong : ChangeSpec := { name := "fnAddedCycles", fn := fun _ => fun
  | [d] => { results := [.lit (.bool false)], args := [d] }
  | _ => none }
def FnAddedCyclesWrongFalsely : Prop := fnAddedCyclesRow.holds Try.pinned (OpenSpec.ofChange fnAddedCyclesWrong)

/-- 'laws.FnCirculations': WHATEVER THE INPUT: true; the input reads as it did. -/
def fnCirculationsSpec : ChangeSpec := { name := "fnCirculations", fn := fun _ => fun
  | [d] => { results := [.lit (.bool true)], args := [d] }
  | _ => none }
def fnCirculationsRow : OpenClaim := { program := "ytmjmamiokkkblaa", sum := "15606707b20d57d3df3a699439ddfbb08aaa72e9aab7a750094e221c4e75ffc1", func := "loop.example/g00852/laws.FnCirculations", spec := "fnCirculations", unfollowed := true, recurses := true, apart := false }
def FnCirculationsSaid : Prop := fnCirculationsRow.holds Try.pinned (OpenSpec.ofChange fnCirculationsSpec)

/-- ITS FALSE NEIGHBOUR: 'it returns false'. Refute it at one input. -/
def fnCirculationsWrong : ChangeSpec := { name := "fnCirculations", fn := fun _ => fun
  | [d] => { results := [.lit (.bool false)], args := [d] }
  | _ => none }
def FnCirculationsWrongFalsely : Prop := fnCirculationsRow.holds Try.pinned (OpenSpec.ofChange fnCirculationsWrong)

/-- 'laws.FnFromChords': WHATEVER THE INPUT: true; the input reads as it did. -/
def fnFromChordsSpec : ChangeSpec := { name := "fnFromChords", fn := fun _ => fun
  | [d] => { results := [.lit (.bool true)], args := [d] }
  | _ => none }
def fnFromChordsRow : OpenClaim := { program := "ytmjmamiokkkblaa", sum := "15606707b20d57d3df3a699439ddfbb08aaa72e9aab7a750094e221c4e75ffc1", func := "loop.example/g00852/laws.FnFromChords", spec := "fnFromChords", unfollowed := true, recurses := true, apart := false }
def FnFromChordsSaid : Prop := fnFromChordsRow.holds Try.pinned (OpenSpec.ofChange fnFromChordsSpec)

/-- ITS FALSE NEIGHBOUR: 'it returns false'. Refute it at one input. -/
def fnFromChordsWrong : ChangeSpec := { name := "fnFromChords", fn := fun _ => fun
  | [d] => { results := [.lit (.bool false)], args := [d] }
  | _ => none }
def FnFromChordsWrongFalsely : Prop := fnFromChordsRow.holds Try.pinned (OpenSpec.ofChange fnFromChordsWrong)

/-- 'laws.FnBalance': WHATEVER THE INPUT: true; the input reads as it did. -/
def fnBalanceSpec : ChangeSpec := { name := "fnBalance", fn := fun _ => fun
  | [d] => { results := [.lit (.bool true)], args := [d] }
  | _ => none }
def fnBalanceRow : OpenClaim := { program := "ytmjmamiokkkblaa", sum := "15606707b20d57d3df3a699439ddfbb08aaa72e9aab7a750094e221c4e75ffc1", func := "loop.example/g00852/laws.FnBalance", spec := "fnBalance", unfollowed := true, recurses := true, apart := false }
def FnBalanceSaid : Prop := fnBalanceRow.holds Try.pinned (OpenSpec.ofChange fnBalanceSpec)

/-- ITS FALSE NEIGHBOUR: 'it returns false'. Refute it at one input. -/
def fnBalanceWrong : ChangeSpec := { name := "fnBalance", fn := fun _ => fun
  | [d] => { results := [.lit (.bool false)], args := [d] }
  | _ => none }
def FnBalanceWrongFalsely : Prop := fnBalanceRow.holds Try.pinned (OpenSpec.ofChange fnBalanceWrong)

/-- 'laws.FnBridges': WHATEVER THE INPUT: true; the input reads as it did. -/
def fnBridgesSpec : ChangeSpec := { name := "fnBridges", fn := fun _ => fun
  | [d] => { results := [.lit (.bool true)], args := [d] }
  | _ => none }
def fnBridgesRow : OpenClaim := { program := "ytmjmamiokkkblaa", sum := "15606707b20d57d3df3a699439ddfbb08aaa72e9aab7a750094e221c4e75ffc1", func := "loop.example/g00852/laws.FnBridges", spec := "fnBridges", unfollowed := true, recurses := true, apart := false }
def FnBridgesSaid : Prop := fnBridgesRow.holds Try.pinned (OpenSpec.ofChange fnBridgesSpec)

/-- ITS FALSE NEIGHBOUR: 'it returns false'. Refute it at one input. -/
def fnBridgesWrong : ChangeSpec := { name := "fnBridges", fn := fun _ => fun
  | [d] => { results := [.lit (.bool false)], args := [d] }
  | _ => none }
def FnBridgesWrongFalsely : Prop := fnBridgesRow.holds Try.pinned (OpenSpec.ofChange fnBridgesWrong)

/- THE SECOND FORM. 'bulk': how many values and letters a reading holds, each counted each time it is reached (what is shared counts as often as it is met; a slice's spare places count too). A statement '..UptoSaid' is the law's where the arguments, and the package variables that the reading takes, are together of bulk at most 1048576: NARROWER than '..Said'. Prove '..Said' where nothing that the law and all that it calls make is longer than what came in: it says more and counts as full. Else prove '..UptoSaid'. A law counts once. -/
mutual
def uptoBulk {H : Type} : DataW H → Nat
  | .lit (.string bytes) => bytes.length + 1
  | .lit _ => 1
  | .nil => 1
  | .ptr d => uptoBulk d + 1
  | .slice elems spare => uptoBulkAll elems + uptoBulkAll spare + 1
  | .agg parts => uptoBulkAll parts + 1
  | .iface _ d => uptoBulk d + 1
  | .map entries => uptoBulkEntries entries + 1
  | .held _ => 1
def uptoBulkAll {H : Type} : List (DataW H) → Nat
  | [] => 0
  | d :: r => uptoBulk d + uptoBulkAll r
def uptoBulkEntries {H : Type} : List (Lit × DataW H) → Nat
  | [] => 0
  | x :: r => uptoBulkEntry x + uptoBulkEntries r
def uptoBulkEntry {H : Type} : Lit × DataW H → Nat
  | (.string bytes, d) => bytes.length + uptoBulk d + 1
  | (_, d) => uptoBulk d + 1
 end
def uptoSmall : (H : Type) → List (DataW H) → Bool := fun _ ds => decide (uptoBulkAll ds ≤ 1048576)
def OpenSpec.upto (s : _root_.Go.ChangeSpec) : _root_.Go.OpenSpec := { _root_.Go.OpenSpec.ofChange s with cond := some uptoSmall }

/-- 'laws.FnThroughput', WHERE WHAT IT READS IS OF BULK AT MOST 1048576: true; the input reads as it did. -/
def fnThroughputUptoRow : OpenClaim := { program := "ytmjmamiokkkblaa", sum := "15606707b20d57d3df3a699439ddfbb08aaa72e9aab7a750094e221c4e75ffc1", func := "loop.example/g00852/laws.FnThroughput", spec := "fnThroughput", recurses := true, apart := false, narrowed := true }
def FnThroughputUptoSaid : Prop := fnThroughputUptoRow.holds Try.pinned (OpenSpec.upto fnThroughputSpec)

/-- 'laws.FnForestFlows', WHERE WHAT IT READS IS OF BULK AT MOST 1048576: true; the input reads as it did. -/
def fnForestFlowsUptoRow : OpenClaim := { program := "ytmjmamiokkkblaa", sum := "15606707b20d57d3df3a699439ddfbb08aaa72e9aab7a750094e221c4e75ffc1", func := "loop.example/g00852/laws.FnForestFlows", spec := "fnForestFlows", unfollowed := true, recurses := true, apart := false, narrowed := true }
def FnForestFlowsUptoSaid : Prop := fnForestFlowsUptoRow.holds Try.pinned (OpenSpec.upto fnForestFlowsSpec)

/-- 'laws.FnCycles', WHERE WHAT IT READS IS OF BULK AT MOST 1048576: true; the input reads as it did. -/
def fnCyclesUptoRow : OpenClaim := { program := "ytmjmamiokkkblaa", sum := "15606707b20d57d3df3a699439ddfbb08aaa72e9aab7a750094e221c4e75ffc1", func := "loop.example/g00852/laws.FnCycles", spec := "fnCycles", unfollowed := true, recurses := true, apart := false, narrowed := true }
def FnCyclesUptoSaid : Prop := fnCyclesUptoRow.holds Try.pinned (OpenSpec.upto fnCyclesSpec)

/-- 'laws.FnAddedCycles', WHERE WHAT IT READS IS OF BULK AT MOST 1048576: true; the input reads as it did. -/
def fnAddedCyclesUptoRow : OpenClaim := { program := "ytmjmamiokkkblaa", sum := "15606707b20d57d3df3a699439ddfbb08aaa72e9aab7a750094e221c4e75ffc1", func := "loop.example/g00852/laws.FnAddedCycles", spec := "fnAddedCycles", unfollowed := true, recurses := true, apart := false, narrowed := true }
def FnAddedCyclesUptoSaid : Prop := fnAddedCyclesUptoRow.holds Try.pinned (OpenSpec.upto fnAddedCyclesSpec)

/-- 'laws.FnCirculations', WHERE WHAT IT READS IS OF BULK AT MOST 1048576: true; the input reads as it did. -/
def fnCirculationsUptoRow : OpenClaim := { program := "ytmjmamiokkkblaa", sum := "15606707b20d57d3df3a699439ddfbb08aaa72e9aab7a750094e221c4e75ffc1", func := "loop.example/g00852/laws.FnCirculations", spec := "fnCirculations", unfollowed := true, recurses := true, apart := false, narrowed := true }
def FnCirculationsUptoSaid : Prop := fnCirculationsUptoRow.holds Try.pinned (OpenSpec.upto fnCirculationsSpec)

/-- 'laws.FnFromChords', WHERE WHAT IT READS IS OF BULK AT MOST 1048576: true; the input reads as it did. -/
def fnFromChordsUptoRow : OpenClaim := { program := "ytmjmamiokkkblaa", sum := "15606707b20d57d3df3a699439ddfbb08aaa72e9aab7a750094e221c4e75ffc1", func := "loop.example/g00852/laws.FnFromChords", spec := "fnFromChords", unfollowed := true, recurses := true, apart := false, narrowed := true }
def FnFromChordsUptoSaid : Prop := fnFromChordsUptoRow.holds Try.pinned (OpenSpec.upto fnFromChordsSpec)

/-- 'laws.FnBalance', WHERE WHAT IT READS IS OF BULK AT MOST 1048576: true; the input reads as it did. -/
def fnBalanceUptoRow : OpenClaim := { program := "ytmjmamiokkkblaa", sum := "15606707b20d57d3df3a699439ddfbb08aaa72e9aab7a750094e221c4e75ffc1", func := "loop.example/g00852/laws.FnBalance", spec := "fnBalance", unfollowed := true, recurses := true, apart := false, narrowed := true }
def FnBalanceUptoSaid : Prop := fnBalanceUptoRow.holds Try.pinned (OpenSpec.upto fnBalanceSpec)

/-- 'laws.FnBridges', WHERE WHAT IT READS IS OF BULK AT MOST 1048576: true; the input reads as it did. -/
def fnBridgesUptoRow : OpenClaim := { program := "ytmjmamiokkkblaa", sum := "15606707b20d57d3df3a699439ddfbb08aaa72e9aab7a750094e221c4e75ffc1", func := "loop.example/g00852/laws.FnBridges", spec := "fnBridges", unfollowed := true, recurses := true, apart := false, narrowed := true }
def FnBridgesUptoSaid : Prop := fnBridgesUptoRow.holds Try.pinned (OpenSpec.upto fnBridgesSpec)

end Rows
end Go.Proofs.Ytmjmamiokkkblaa
