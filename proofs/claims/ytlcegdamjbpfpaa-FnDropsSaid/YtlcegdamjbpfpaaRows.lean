/-
  No cell of these rows narrows 'for every input' (looked for: loops, veiled, ifaces, maps, wideKeys, modest, calm, conditions, laid).
  DERIVED. THE GIVEN ROWS OF THIS SEAT. 10 by the template 'for every input the law returns true; each argument reads behind the call as it read before'; 0 by the template 'total and deterministic' (their statements: YtlcegdamjbpfpaaTotals.lean).
  GIVEN WITH THE SEED: the statements are not yours to turn. If you find one false, say at which input.
  Laid BY PROGRAM, IN A SANDBOX (cutbox-rows.mjs): the forced cells as the released guide's own fill.sh prints them over the translation 0c50805c0f667a8f… (all of the seat's roots in one cut). By AI agents, Wed Nov 11 2026. No macro, syntax, notation, axiom, sorry.
-/
import Derived.Test.YtlcegdamjbpfpaaChecked
import GoSem.Claim
import GoSem.ClaimJoined
import GoSem.ClaimMapViews
import Derived.JoinedTies
import Derived.KernelRfl
namespace Go.Proofs.Ytlcegdamjbpfpaa
/- THE CELL 'sum', in the pinned program and in every row, IS THE sha256 OF THE DUMP (.gsa) THAT YtlcegdamjbpfpaaProg.lean LOADS. Nothing in Lean hashes anything: it is a label: what it is worth is what the hold of that sum in a sandbox is worth. -/
noncomputable def Try.pinned : Pinned := { name := "ytlcegdamjbpfpaa", sum := "0c50805c0f667a8feb5c4c7d02e0e7c182b0f52846b37ac6072cbf58f8cb5030", checked := Try.checked }
namespace Rows
def none {H : Type} : Left H := { results := [], args := [] }

/-- 'laws.FnExactSpanningForest': WHATEVER THE INPUT: true; the input reads as it did. -/
def fnExactSpanningForestSpec : ChangeSpec := { name := "fnExactSpanningForest", fn := fun _ => fun
  | [d] => { results := [.lit (.bool true)], args := [d] }
  | _ => none }
def fnExactSpanningForestRow : OpenClaim := { program := "ytlcegdamjbpfpaa", sum := "0c50805c0f667a8feb5c4c7d02e0e7c182b0f52846b37ac6072cbf58f8cb5030", func := "loop.example/g00852/laws.FnExactSpanningForest", spec := "fnExactSpanningForest", unfollowed := true, recurses := true, apart := false }
def FnExactSpanningForestSaid : Prop := fnExactSpanningForestRow.holds Try.pinned (OpenSpec.ofChange fnExactSpanningForestSpec)

/-- ITS FALSE NEIGHBOUR: 'it returns false'. Refute it at one input. -/
def fnExactSpanningForestWrong : ChangeSpec := { name := "fnExactSpanningForest", fn := fun _ => fun
  | [d] => { results := [.lit (.bool false)], args := [d] }
  | _ => none }
def FnExactSpanningForestWrongFalsely : Prop := fnExactSpanningForestRow.holds Try.pinned (OpenSpec.ofChange fnExactSpanningForestWrong)

/-- 'laws.FnExactDropOf': WHATEVER THE INPUT: true; the input reads as it did. -/
def fnExactDropOfSpec : ChangeSpec := { name := "fnExactDropOf", fn := fun _ => fun
  | [d1, d2, d3] => { results := [.lit (.bool true)], args := [d1, d2, d3] }
  | _ => none }
def fnExactDropOfRow : OpenClaim := { program := "ytlcegdamjbpfpaa", sum := "0c50805c0f667a8feb5c4c7d02e0e7c182b0f52846b37ac6072cbf58f8cb5030", func := "loop.example/g00852/laws.FnExactDropOf", spec := "fnExactDropOf", apart := false }
def FnExactDropOfSaid : Prop := fnExactDropOfRow.holds Try.pinned (OpenSpec.ofChange fnExactDropOfSpec)

/-- ITS FALSE NEIGHBOUR: 'it returns false'. Refute it at one input. -/
def fnExactDropOfWrong : ChangeSpec := { name := "fnExactDropOf", fn := fun _ => fun
  | [d1, d2, d3] => { results := [.lit (.bool false)], args := [d1, d2, d3] }
  | _ => none }
def FnExactDropOfWrongFalsely : Prop := fnExactDropOfRow.holds Try.pinned (OpenSpec.ofChange fnExactDropOfWrong)

/-- 'laws.FnExactDropsOf': WHATEVER THE INPUT: true; the input reads as it did. -/
def fnExactDropsOfSpec : ChangeSpec := { name := "fnExactDropsOf", fn := fun _ => fun
  | [d1, d2] => { results := [.lit (.bool true)], args := [d1, d2] }
  | _ => none }
def fnExactDropsOfRow : OpenClaim := { program := "ytlcegdamjbpfpaa", sum := "0c50805c0f667a8feb5c4c7d02e0e7c182b0f52846b37ac6072cbf58f8cb5030", func := "loop.example/g00852/laws.FnExactDropsOf", spec := "fnExactDropsOf", apart := false }
def FnExactDropsOfSaid : Prop := fnExactDropsOfRow.holds Try.pinned (OpenSpec.ofChange fnExactDropsOfSpec)

/-- ITS FALSE NEIGHBOUR: 'it returns false'. Refute it at one input. -/
def fnExactDropsOfWrong : ChangeSpec := { name := "fnExactDropsOf", fn := fun _ => fun
  | [d1, d2] => { results := [.lit (.bool false)], args := [d1, d2] }
  | _ => none }
def FnExactDropsOfWrongFalsely : Prop := fnExactDropsOfRow.holds Try.pinned (OpenSpec.ofChange fnExactDropsOfWrong)

/-- 'laws.FnExactForestLevels': WHATEVER THE INPUT: true; the input reads as it did. -/
def fnExactForestLevelsSpec : ChangeSpec := { name := "fnExactForestLevels", fn := fun _ => fun
  | [d1, d2, d3, d4] => { results := [.lit (.bool true)], args := [d1, d2, d3, d4] }
  | _ => none }
def fnExactForestLevelsRow : OpenClaim := { program := "ytlcegdamjbpfpaa", sum := "0c50805c0f667a8feb5c4c7d02e0e7c182b0f52846b37ac6072cbf58f8cb5030", func := "loop.example/g00852/laws.FnExactForestLevels", spec := "fnExactForestLevels", unfollowed := true, recurses := true, apart := false }
def FnExactForestLevelsSaid : Prop := fnExactForestLevelsRow.holds Try.pinned (OpenSpec.ofChange fnExactForestLevelsSpec)

/-- ITS FALSE NEIGHBOUR: 'it returns false'. Refute it at one input. -/
def fnExactForestLevelsWrong : ChangeSpec := { name := "fnExactForestLevels", fn := fun _ => fun
  | [d1, d2, d3, d4] => { results := [.lit (.bool false)], args := [d1, d2, d3, d4] }
  | _ => none }
def FnExactForestLevelsWrongFalsely : Prop := fnExactForestLevelsRow.holds Try.pinned (OpenSpec.ofChange fnExactForestLevelsWrong)

/-- 'laws.FnExactTreeFlows': WHATEVER THE INPUT: true; the input reads as it did. -/
def fnExactTreeFlowsSpec : ChangeSpec := { name := "fnExactTreeFlows", fn := fun _ => fun
  | [d1, d2] => { results := [.lit (.bool true)], args := [d1, d2] }
  | _ => none }
def fnExactTreeFlowsRow : OpenClaim := { program := "ytlcegdamjbpfpaa", sum := "0c50805c0f667a8feb5c4c7d02e0e7c182b0f52846b37ac6072cbf58f8cb5030", func := "loop.example/g00852/laws.FnExactTreeFlows", spec := "fnExactTreeFlows", unfollowed := true, recurses := true, apart := false }
def FnExactTreeFlowsSaid : Prop := fnExactTreeFlowsRow.holds Try.pinned (OpenSpec.ofChange fnExactTreeFlowsSpec)

/-- ITS FALSE NEIGHBOUR: 'it returns false'. Refute it at one input. -/
def fnExactTreeFlowsWrong : ChangeSpec := { name := "fnExactTreeFlows", fn := fun _ => fun
  | [d1, d2] => { results := [.lit (.bool false)], args := [d1, d2] }
  | _ => none }
def FnExactTreeFlowsWrongFalsely : Prop := fnExactTreeFlowsRow.holds Try.pinned (OpenSpec.ofChange fnExactTreeFlowsWrong)

/-- 'laws.FnExactGapBetween': WHATEVER THE INPUT: true; the input reads as it did. -/
def fnExactGapBetweenSpec : ChangeSpec := { name := "fnExactGapBetween", fn := fun _ => fun
  | [d1, d2, d3, d4] => { results := [.lit (.bool true)], args := [d1, d2, d3, d4] }
  | _ => none }
def fnExactGapBetweenRow : OpenClaim := { program := "ytlcegdamjbpfpaa", sum := "0c50805c0f667a8feb5c4c7d02e0e7c182b0f52846b37ac6072cbf58f8cb5030", func := "loop.example/g00852/laws.FnExactGapBetween", spec := "fnExactGapBetween", unfollowed := true, recurses := true, apart := false }
def FnExactGapBetweenSaid : Prop := fnExactGapBetweenRow.holds Try.pinned (OpenSpec.ofChange fnExactGapBetweenSpec)

/-- ITS FALSE NEIGHBOUR: 'it returns false'. Refute it at one input. -/
def fnExactGapBetweenWrong : ChangeSpec := { name := "fnExactGapBetween", fn := fun _ => fun
  | [d1, d2, d3, d4] => { results := [.lit (.bool false)], args := [d1, d2, d3, d4] }
  | _ => none }
def FnExactGapBetweenWrongFalsely : Prop := fnExactGapBetweenRow.holds Try.pinned (OpenSpec.ofChange fnExactGapBetweenWrong)

/-- 'laws.FnExactLowestNode': WHATEVER THE INPUT: true; the input reads as it did. -/
def fnExactLowestNodeSpec : ChangeSpec := { name := "fnExactLowestNode", fn := fun _ => fun
  | [d1, d2] => { results := [.lit (.bool true)], args := [d1, d2] }
  | _ => none }
def fnExactLowestNodeRow : OpenClaim := { program := "ytlcegdamjbpfpaa", sum := "0c50805c0f667a8feb5c4c7d02e0e7c182b0f52846b37ac6072cbf58f8cb5030", func := "loop.example/g00852/laws.FnExactLowestNode", spec := "fnExactLowestNode", unfollowed := true, recurses := true, apart := false }
def FnExactLowestNodeSaid : Prop := fnExactLowestNodeRow.holds Try.pinned (OpenSpec.ofChange fnExactLowestNodeSpec)

/-- ITS FALSE NEIGHBOUR: 'it returns false'. Refute it at one input. -/
def fnExactLowestNodeWrong : ChangeSpec := { name := "fnExactLowestNode", fn := fun _ => fun
  | [d1, d2] => { results := [.lit (.bool false)], args := [d1, d2] }
  | _ => none }
def FnExactLowestNodeWrongFalsely : Prop := fnExactLowestNodeRow.holds Try.pinned (OpenSpec.ofChange fnExactLowestNodeWrong)

/-- 'laws.FnDrops': WHATEVER THE INPUT: true; the input reads as it did. -/
def fnDropsSpec : ChangeSpec := { name := "fnDrops", fn := fun _ => fun
  | [d] => { results := [.lit (.bool true)], args := [d] }
  | _ => none }
def fnDropsRow : OpenClaim := { program := "ytlcegdamjbpfpaa", sum := "0c50805c0f667a8feb5c4c7d02e0e7c182b0f52846b37ac6072cbf58f8cb5030", func := "loop.example/g00852/laws.FnDrops", spec := "fnDrops", recurses := true, apart := false }
def FnDropsSaid : Prop := fnDropsRow.holds Try.pinned (OpenSpec.ofChange fnDropsSpec)

/-- ITS FALSE NEIGHBOUR: 'it returns false'. Refute it at one input. -/
def fnDropsWrong : ChangeSpec := { name := "fnDrops", fn := fun _ => fun
  | [d] => { results := [.lit (.bool false)], args := [d] }
  | _ => none }
def FnDropsWrongFalsely : Prop := fnDropsRow.holds Try.pinned (OpenSpec.ofChange fnDropsWrong)

/-- 'laws.FnGaps': WHATEVER THE INPUT: true; the input reads as it did. -/
def fnGapsSpec : ChangeSpec := { name := "fnGaps", fn := fun _ => fun
  | [d] => { results := [.lit (.bool true)], args := [d] }
  | _ => none }
def fnGapsRow : OpenClaim := { program := "ytlcegdamjbpfpaa", sum := "0c50805c0f667a8feb5c4c7d02e0e7c182b0f52846b37ac6072cbf58f8cb5030", func := "loop.example/g00852/laws.FnGaps", spec := "fnGaps", unfollowed := true, recurses := true, apart := false }
def FnGapsSaid : Prop := fnGapsRow.holds Try.pinned (OpenSpec.ofChange fnGapsSpec)

/-- ITS FALSE NEIGHBOUR: 'it returns false'. Refute it at one input. -/
def fnGapsWrong : ChangeSpec := { name := "fnGaps", fn := fun _ => fun
  | [d] => { results := [.lit (.bool false)], args := [d] }
  | _ => none }
def FnGapsWrongFalsely : Prop := fnGapsRow.holds Try.pinned (OpenSpec.ofChange fnGapsWrong)

/-- 'laws.FnForests': WHATEVER THE INPUT: true; the input reads as it did. -/
def fnForestsSpec : ChangeSpec := { name := "fnForests", fn := fun _ => fun
  | [d] => { results := [.lit (.bool true)], args := [d] }
  | _ => none }
def fnForestsRow : OpenClaim := { program := "ytlcegdamjbpfpaa", sum := "0c50805c0f667a8feb5c4c7d02e0e7c182b0f52846b37ac6072cbf58f8cb5030", func := "loop.example/g00852/laws.FnForests", spec := "fnForests", unfollowed := true, recurses := true, apart := false }
def FnForestsSaid : Prop := fnForestsRow.holds Try.pinned (OpenSpec.ofChange fnForestsSpec)

/-- ITS FALSE NEIGHBOUR: 'it returns false'. Refute it at one input. -/
def fnForestsWrong : ChangeSpec := { name := "fnForests", fn := fun _ => fun
  | [d] => { results := [.lit (.bool false)], args := [d] }
  | _ => none }
def FnForestsWrongFalsely : Prop := fnForestsRow.holds Try.pinned (OpenSpec.ofChange fnForestsWrong)

/- THE SECOND FORM. 'bulk': how many values and letters a reading holds, each counted each time it is reached (what is shared counts as often as it is met; a slice's spare places count too). A statement '..UptoSaid' is the law's where the arguments, and the package variables that the reading takes, are together of bulk at most 1048576: NARROWER than '..Said'. Prove '..Said' where nothing that the law and all that it calls make is longer than what came in: it says more and counts as full. Else prove '..UptoSaid'. A law counts once. -/
mutual
def uptoBulk {H : Type} : DataW H → Nat
  | .lit (.string bytes) => bytes.length + 1
  | .lit _ => 1
  | .nil => 1
  | .ptr d => uptoBulk d + 1
  | .slice elems spare => uptoBulkAll elems + uptoBulkAll spare + 1
  | .agg parts => uptoBulkAll parts + 1
  | .iface _ d => uptoBulk d + 1
  | .map entries => uptoBulkEntries entries + 1
  | .held _ => 1
def uptoBulkAll {H : Type} : List (DataW H) → Nat
  | [] => 0
  | d :: r => uptoBulk d + uptoBulkAll r
def uptoBulkEntries {H : Type} : List (Lit × DataW H) → Nat
  | [] => 0
  | x :: r => uptoBulkEntry x + uptoBulkEntries r
def uptoBulkEntry {H : Type} : Lit × DataW H → Nat
  | (.string bytes, d) => bytes.length + uptoBulk d + 1
  | (_, d) => uptoBulk d + 1
 end
def uptoSmall : (H : Type) → List (DataW H) → Bool := fun _ ds => decide (uptoBulkAll ds ≤ 1048576)
def OpenSpec.upto (s : _root_.Go.ChangeSpec) : _root_.Go.OpenSpec := { _root_.Go.OpenSpec.ofChange s with cond := some uptoSmall }

/-- 'laws.FnExactSpanningForest', WHERE WHAT IT READS IS OF BULK AT MOST 1048576: true; the input reads as it did. -/
def fnExactSpanningForestUptoRow : OpenClaim := { program := "ytlcegdamjbpfpaa", sum := "0c50805c0f667a8feb5c4c7d02e0e7c182b0f52846b37ac6072cbf58f8cb5030", func := "loop.example/g00852/laws.FnExactSpanningForest", spec := "fnExactSpanningForest", unfollowed := true, recurses := true, apart := false, narrowed := true }
def FnExactSpanningForestUptoSaid : Prop := fnExactSpanningForestUptoRow.holds Try.pinned (OpenSpec.upto fnExactSpanningForestSpec)

/-- 'laws.FnExactDropOf', WHERE WHAT IT READS IS OF BULK AT MOST 1048576: true; the input reads as it did. -/
def fnExactDropOfUptoRow : OpenClaim := { program := "ytlcegdamjbpfpaa", sum := "0c50805c0f667a8feb5c4c7d02e0e7c182b0f52846b37ac6072cbf58f8cb5030", func := "loop.example/g00852/laws.FnExactDropOf", spec := "fnExactDropOf", apart := false, narrowed := true }
def FnExactDropOfUptoSaid : Prop := fnExactDropOfUptoRow.holds Try.pinned (OpenSpec.upto fnExactDropOfSpec)

/-- 'laws.FnExactDropsOf', WHERE WHAT IT READS IS OF BULK AT MOST 1048576: true; the input reads as it did. -/
def fnExactDropsOfUptoRow : OpenClaim := { program := "ytlcegdamjbpfpaa", sum := "0c50805c0f667a8feb5c4c7d02e0e7c182b0f52846b37ac6072cbf58f8cb5030", func := "loop.example/g00852/laws.FnExactDropsOf", spec := "fnExactDropsOf", apart := false, narrowed := true }
def FnExactDropsOfUptoSaid : Prop := fnExactDropsOfUptoRow.holds Try.pinned (OpenSpec.upto fnExactDropsOfSpec)

/-- 'laws.FnExactForestLevels', WHERE WHAT IT READS IS OF BULK AT MOST 1048576: true; the input reads as it did. -/
def fnExactForestLevelsUptoRow : OpenClaim := { program := "ytlcegdamjbpfpaa", sum := "0c50805c0f667a8feb5c4c7d02e0e7c182b0f52846b37ac6072cbf58f8cb5030", func := "loop.example/g00852/laws.FnExactForestLevels", spec := "fnExactForestLevels", unfollowed := true, recurses := true, apart := false, narrowed := true }
def FnExactForestLevelsUptoSaid : Prop := fnExactForestLevelsUptoRow.holds Try.pinned (OpenSpec.upto fnExactForestLevelsSpec)

/-- 'laws.FnExactTreeFlows', WHERE WHAT IT READS IS OF BULK AT MOST 1048576: true; the input reads as it did. -/
def fnExactTreeFlowsUptoRow : OpenClaim := { program := "ytlcegdamjbpfpaa", sum := "0c50805c0f667a8feb5c4c7d02e0e7c182b0f52846b37ac6072cbf58f8cb5030", func := "loop.example/g00852/laws.FnExactTreeFlows", spec := "fnExactTreeFlows", unfollowed := true, recurses := true, apart := false, narrowed := true }
def FnExactTreeFlowsUptoSaid : Prop := fnExactTreeFlowsUptoRow.holds Try.pinned (OpenSpec.upto fnExactTreeFlowsSpec)

/-- 'laws.FnExactGapBetween', WHERE WHAT IT READS IS OF BULK AT MOST 1048576: true; the input reads as it did. -/
def fnExactGapBetweenUptoRow : OpenClaim := { program := "ytlcegdamjbpfpaa", sum := "0c50805c0f667a8feb5c4c7d02e0e7c182b0f52846b37ac6072cbf58f8cb5030", func := "loop.example/g00852/laws.FnExactGapBetween", spec := "fnExactGapBetween", unfollowed := true, recurses := true, apart := false, narrowed := true }
def FnExactGapBetweenUptoSaid : Prop := fnExactGapBetweenUptoRow.holds Try.pinned (OpenSpec.upto fnExactGapBetweenSpec)

/-- 'laws.FnExactLowestNode', WHERE WHAT IT READS IS OF BULK AT MOST 1048576: true; the input reads as it did. -/
def fnExactLowestNodeUptoRow : OpenClaim := { program := "ytlcegdamjbpfpaa", sum := "0c50805c0f667a8feb5c4c7d02e0e7c182b0f52846b37ac6072cbf58f8cb5030", func := "loop.example/g00852/laws.FnExactLowestNode", spec := "fnExactLowestNode", unfollowed := true, recurses := true, apart := false, narrowed := true }
def FnExactLowestNodeUptoSaid : Prop := fnExactLowestNodeUptoRow.holds Try.pinned (OpenSpec.upto fnExactLowestNodeSpec)

/-- 'laws.FnDrops', WHERE WHAT IT READS IS OF BULK AT MOST 1048576: true; the input reads as it did. -/
def fnDropsUptoRow : OpenClaim := { program := "ytlcegdamjbpfpaa", sum := "0c50805c0f667a8feb5c4c7d02e0e7c182b0f52846b37ac6072cbf58f8cb5030", func := "loop.example/g00852/laws.FnDrops", spec := "fnDrops", recurses := true, apart := false, narrowed := true }
def FnDropsUptoSaid : Prop := fnDropsUptoRow.holds Try.pinned (OpenSpec.upto fnDropsSpec)

/-- 'laws.FnGaps', WHERE WHAT IT READS IS OF BULK AT MOST 1048576: true; the input reads as it did. -/
def fnGapsUptoRow : OpenClaim := { program := "ytlcegdamjbpfpaa", sum := "0c50805c0f667a8feb5c4c7d02e0e7c182b0f52846b37ac6072cbf58f8cb5030", func := "loop.example/g00852/laws.FnGaps", spec := "fnGaps", unfollowed := true, recurses := true, apart := false, narrowed := true }
def FnGapsUptoSaid : Prop := fnGapsUptoRow.holds Try.pinned (OpenSpec.upto fnGapsSpec)

/-- 'laws.FnForests', WHERE WHAT IT READS IS OF BULK AT MOST 1048576: true; the input reads as it did. -/
def fnForestsUptoRow : OpenClaim := { program := "ytlcegdamjbpfpaa", sum := "0c50805c0f667a8feb5c4c7d02e0e7c182b0f52846b37ac6072cbf58f8cb5030", func := "loop.example/g00852/laws.FnForests", spec := "fnForests", unfollowed := true, recurses := true, apart := false, narrowed := true }
def FnForestsUptoSaid : Prop := fnForestsUptoRow.holds Try.pinned (OpenSpec.upto fnForestsSpec)

end Rows
end Go.Proofs.Ytlcegdamjbpfpaa
