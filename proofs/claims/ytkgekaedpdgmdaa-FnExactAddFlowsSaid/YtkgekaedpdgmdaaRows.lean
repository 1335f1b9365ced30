/-
  No cell of these rows narrows 'for every input' (looked for: loops, veiled, ifaces, maps, wideKeys, modest, calm, conditions, laid).
  DERIVED. THE GIVEN ROWS OF THIS SEAT. 12 by the template 'for every input the law returns true; each argument reads behind the call as it read before'; 0 by the template 'total and deterministic' (their statements: YtkgekaedpdgmdaaTotals.lean).
  GIVEN WITH THE SEED: the statements are not yours to turn. If you find one false, say at which input.
  Laid BY PROGRAM, IN A SANDBOX (cutbox-rows.mjs): the forced cells as the released guide's own fill.sh prints them over the translation a758264448377035… (all of the seat's roots in one cut). By AI agents, Wed Nov 11 2026. No macro, syntax, notation, axiom, sorry.
-/
import Derived.Test.YtkgekaedpdgmdaaChecked
import GoSem.Claim
import GoSem.ClaimJoined
import GoSem.ClaimMapViews
import Derived.JoinedTies
import Derived.KernelRfl
namespace Go.Proofs.Ytkgekaedpdgmdaa
/- THE CELL 'sum', in the pinned program and in every row, IS THE sha256 OF THE DUMP (.gsa) THAT YtkgekaedpdgmdaaProg.lean LOADS. Nothing in Lean hashes anything: it is a label: what it is worth is what the hold of that sum in a sandbox is worth. -/
noncomputable def Try.pinned : Pinned := { name := "ytkgekaedpdgmdaa", sum := "a7582644483770352ff13a8d8924468102d5dd195a654b477c426bfe4e654cf3", checked := Try.checked }
namespace Rows
def none {H : Type} : Left H := { results := [], args := [] }

/-- 'laws.FnExactSuppliesOf': WHATEVER THE INPUT: true; the input reads as it did. -/
def fnExactSuppliesOfSpec : ChangeSpec := { name := "fnExactSuppliesOf", fn := fun _ => fun
  | [d1, d2] => { results := [.lit (.bool true)], args := [d1, d2] }
  | _ => none }
def fnExactSuppliesOfRow : OpenClaim := { program := "ytkgekaedpdgmdaa", sum := "a7582644483770352ff13a8d8924468102d5dd195a654b477c426bfe4e654cf3", func := "loop.example/g00852/laws.FnExactSuppliesOf", spec := "fnExactSuppliesOf", apart := false }
def FnExactSuppliesOfSaid : Prop := fnExactSuppliesOfRow.holds Try.pinned (OpenSpec.ofChange fnExactSuppliesOfSpec)

/-- ITS FALSE NEIGHBOUR: 'it returns false'. Refute it at one input. -/
def fnExactSuppliesOfWrong : ChangeSpec := { name := "fnExactSuppliesOf", fn := fun _ => fun
  | [d1, d2] => { results := [.lit (.bool false)], args := [d1, d2] }
  | _ => none }
def FnExactSuppliesOfWrongFalsely : Prop := fnExactSuppliesOfRow.holds Try.pinned (OpenSpec.ofChange fnExactSuppliesOfWrong)

/-- 'laws.FnExactIsBalanced': WHATEVER THE INPUT: true; the input reads as it did. -/
def fnExactIsBalancedSpec : ChangeSpec := { name := "fnExactIsBalanced", fn := fun _ => fun
  | [d1, d2, d3] => { results := [.lit (.bool true)], args := [d1, d2, d3] }
  | _ => none }
def fnExactIsBalancedRow : OpenClaim := { program := "ytkgekaedpdgmdaa", sum := "a7582644483770352ff13a8d8924468102d5dd195a654b477c426bfe4e654cf3", func := "loop.example/g00852/laws.FnExactIsBalanced", spec := "fnExactIsBalanced", apart := false }
def FnExactIsBalancedSaid : Prop := fnExactIsBalancedRow.holds Try.pinned (OpenSpec.ofChange fnExactIsBalancedSpec)

/-- ITS FALSE NEIGHBOUR: 'it returns false'. Refute it at one input. -/
def fnExactIsBalancedWrong : ChangeSpec := { name := "fnExactIsBalanced", fn := fun _ => fun
  | [d1, d2, d3] => { results := [.lit (.bool false)], args := [d1, d2, d3] }
  | _ => none }
def FnExactIsBalancedWrongFalsely : Prop := fnExactIsBalancedRow.holds Try.pinned (OpenSpec.ofChange fnExactIsBalancedWrong)

/-- 'laws.FnExactIsEven': WHATEVER THE INPUT: true; the input reads as it did. -/
def fnExactIsEvenSpec : ChangeSpec := { name := "fnExactIsEven", fn := fun _ => fun
  | [d1, d2] => { results := [.lit (.bool true)], args := [d1, d2] }
  | _ => none }
def fnExactIsEvenRow : OpenClaim := { program := "ytkgekaedpdgmdaa", sum := "a7582644483770352ff13a8d8924468102d5dd195a654b477c426bfe4e654cf3", func := "loop.example/g00852/laws.FnExactIsEven", spec := "fnExactIsEven", unfollowed := true, recurses := true, apart := false }
def FnExactIsEvenSaid : Prop := fnExactIsEvenRow.holds Try.pinned (OpenSpec.ofChange fnExactIsEvenSpec)

/-- ITS FALSE NEIGHBOUR: 'it returns false'. Refute it at one input. -/
def fnExactIsEvenWrong : ChangeSpec := { name := "fnExactIsEven", fn := fun _ => fun
  | [d1, d2] => { results := [.lit (.bool false)], args := [d1, d2] }
  | _ => none }
def FnExactIsEvenWrongFalsely : Prop := fnExactIsEvenRow.holds Try.pinned (OpenSpec.ofChange fnExactIsEvenWrong)

/-- 'laws.FnExactThroughputOf': WHATEVER THE INPUT: true; the input reads as it did. -/
def fnExactThroughputOfSpec : ChangeSpec := { name := "fnExactThroughputOf", fn := fun _ => fun
  | [d1, d2] => { results := [.lit (.bool true)], args := [d1, d2] }
  | _ => none }
def fnExactThroughputOfRow : OpenClaim := { program := "ytkgekaedpdgmdaa", sum := "a7582644483770352ff13a8d8924468102d5dd195a654b477c426bfe4e654cf3", func := "loop.example/g00852/laws.FnExactThroughputOf", spec := "fnExactThroughputOf", apart := false }
def FnExactThroughputOfSaid : Prop := fnExactThroughputOfRow.holds Try.pinned (OpenSpec.ofChange fnExactThroughputOfSpec)

/-- ITS FALSE NEIGHBOUR: 'it returns false'. Refute it at one input. -/
def fnExactThroughputOfWrong : ChangeSpec := { name := "fnExactThroughputOf", fn := fun _ => fun
  | [d1, d2] => { results := [.lit (.bool false)], args := [d1, d2] }
  | _ => none }
def FnExactThroughputOfWrongFalsely : Prop := fnExactThroughputOfRow.holds Try.pinned (OpenSpec.ofChange fnExactThroughputOfWrong)

/-- 'laws.FnExactOverLimit': WHATEVER THE INPUT: true; the input reads as it did. -/
def fnExactOverLimitSpec : ChangeSpec := { name := "fnExactOverLimit", fn := fun _ => fun
  | [d1, d2] => { results := [.lit (.bool true)], args := [d1, d2] }
  | _ => none }
def fnExactOverLimitRow : OpenClaim := { program := "ytkgekaedpdgmdaa", sum := "a7582644483770352ff13a8d8924468102d5dd195a654b477c426bfe4e654cf3", func := "loop.example/g00852/laws.FnExactOverLimit", spec := "fnExactOverLimit", apart := false }
def FnExactOverLimitSaid : Prop := fnExactOverLimitRow.holds Try.pinned (OpenSpec.ofChange fnExactOverLimitSpec)

/-- ITS FALSE NEIGHBOUR: 'it returns false'. Refute it at one input. -/
def fnExactOverLimitWrong : ChangeSpec := { name := "fnExactOverLimit", fn := fun _ => fun
  | [d1, d2] => { results := [.lit (.bool false)], args := [d1, d2] }
  | _ => none }
def FnExactOverLimitWrongFalsely : Prop := fnExactOverLimitRow.holds Try.pinned (OpenSpec.ofChange fnExactOverLimitWrong)

/-- 'laws.FnExactAddFlows': WHATEVER THE INPUT: true; the input reads as it did. -/
def fnExactAddFlowsSpec : ChangeSpec := { name := "fnExactAddFlows", fn := fun _ => fun
  | [d1, d2, d3] => { results := [.lit (.bool true)], args := [d1, d2, d3] }
  | _ => none }
def fnExactAddFlowsRow : OpenClaim := { program := "ytkgekaedpdgmdaa", sum := "a7582644483770352ff13a8d8924468102d5dd195a654b477c426bfe4e654cf3", func := "loop.example/g00852/laws.FnExactAddFlows", spec := "fnExactAddFlows", apart := false }
def FnExactAddFlowsSaid : Prop := fnExactAddFlowsRow.holds Try.pinned (OpenSpec.ofChange fnExactAddFlowsSpec)

/-- ITS FALSE NEIGHBOUR: 'it returns false'. Refute it at one input. -/
def fnExactAddFlowsWrong : ChangeSpec := { name := "fnExactAddFlows", fn := fun _ => fun
  | [d1, d2, d3] => { results := [.lit (.bool false)], args := [d1, d2, d3] }
  | _ => none }
def FnExactAddFlowsWrongFalsely : Prop := fnExactAddFlowsRow.holds Try.pinned (OpenSpec.ofChange fnExactAddFlowsWrong)

/-- 'laws.FnExactForestFlows': WHATEVER THE INPUT: true; the input reads as it did. -/
def fnExactForestFlowsSpec : ChangeSpec := { name := "fnExactForestFlows", fn := fun _ => fun
  | [d1, d2] => { results := [.lit (.bool true)], args := [d1, d2] }
  | _ => none }
def fnExactForestFlowsRow : OpenClaim := { program := "ytkgekaedpdgmdaa", sum := "a7582644483770352ff13a8d8924468102d5dd195a654b477c426bfe4e654cf3", func := "loop.example/g00852/laws.FnExactForestFlows", spec := "fnExactForestFlows", unfollowed := true, recurses := true, apart := false }
def FnExactForestFlowsSaid : Prop := fnExactForestFlowsRow.holds Try.pinned (OpenSpec.ofChange fnExactForestFlowsSpec)

/-- ITS FALSE NEIGHBOUR: 'it returns false'. Refute it at one input. -/
def fnExactForestFlowsWrong : ChangeSpec := { name := "fnExactForestFlows", fn := fun _ => fun
  | [d1, d2] => { results := [.lit (.bool false)], args := [d1, d2] }
  | _ => none }
def FnExactForestFlowsWrongFalsely : Prop := fnExactForestFlowsRow.holds Try.pinned (OpenSpec.ofChange fnExactForestFlowsWrong)

/-- 'laws.FnExactTransitOf': WHATEVER THE INPUT: true; the input reads as it did. -/
def fnExactTransitOfSpec : ChangeSpec := { name := "fnExactTransitOf", fn := fun _ => fun
  | [d1, d2, d3] => { results := [.lit (.bool true)], args := [d1, d2, d3] }
  | _ => none }
def fnExactTransitOfRow : OpenClaim := { program := "ytkgekaedpdgmdaa", sum := "a7582644483770352ff13a8d8924468102d5dd195a654b477c426bfe4e654cf3", func := "loop.example/g00852/laws.FnExactTransitOf", spec := "fnExactTransitOf", apart := false }
def FnExactTransitOfSaid : Prop := fnExactTransitOfRow.holds Try.pinned (OpenSpec.ofChange fnExactTransitOfSpec)

/-- ITS FALSE NEIGHBOUR: 'it returns false'. Refute it at one input. -/
def fnExactTransitOfWrong : ChangeSpec := { name := "fnExactTransitOf", fn := fun _ => fun
  | [d1, d2, d3] => { results := [.lit (.bool false)], args := [d1, d2, d3] }
  | _ => none }
def FnExactTransitOfWrongFalsely : Prop := fnExactTransitOfRow.holds Try.pinned (OpenSpec.ofChange fnExactTransitOfWrong)

/-- 'laws.FnExactIsCirculation': WHATEVER THE INPUT: true; the input reads as it did. -/
def fnExactIsCirculationSpec : ChangeSpec := { name := "fnExactIsCirculation", fn := fun _ => fun
  | [d1, d2] => { results := [.lit (.bool true)], args := [d1, d2] }
  | _ => none }
def fnExactIsCirculationRow : OpenClaim := { program := "ytkgekaedpdgmdaa", sum := "a7582644483770352ff13a8d8924468102d5dd195a654b477c426bfe4e654cf3", func := "loop.example/g00852/laws.FnExactIsCirculation", spec := "fnExactIsCirculation", unfollowed := true, recurses := true, apart := false }
def FnExactIsCirculationSaid : Prop := fnExactIsCirculationRow.holds Try.pinned (OpenSpec.ofChange fnExactIsCirculationSpec)

/-- ITS FALSE NEIGHBOUR: 'it returns false'. Refute it at one input. -/
def fnExactIsCirculationWrong : ChangeSpec := { name := "fnExactIsCirculation", fn := fun _ => fun
  | [d1, d2] => { results := [.lit (.bool false)], args := [d1, d2] }
  | _ => none }
def FnExactIsCirculationWrongFalsely : Prop := fnExactIsCirculationRow.holds Try.pinned (OpenSpec.ofChange fnExactIsCirculationWrong)

/-- 'laws.FnExactAddCycle': WHATEVER THE INPUT: true; the input reads as it did. -/
def fnExactAddCycleSpec : ChangeSpec := { name := "fnExactAddCycle", fn := fun _ => fun
  | [d1, d2, d3, d4] => { results := [.lit (.bool true)], args := [d1, d2, d3, d4] }
  | _ => none }
def fnExactAddCycleRow : OpenClaim := { program := "ytkgekaedpdgmdaa", sum := "a7582644483770352ff13a8d8924468102d5dd195a654b477c426bfe4e654cf3", func := "loop.example/g00852/laws.FnExactAddCycle", spec := "fnExactAddCycle", unfollowed := true, recurses := true, apart := false }
def FnExactAddCycleSaid : Prop := fnExactAddCycleRow.holds Try.pinned (OpenSpec.ofChange fnExactAddCycleSpec)

/-- ITS FALSE NEIGHBOUR: 'it returns false'. Refute it at one input. -/
def fnExactAddCycleWrong : ChangeSpec := { name := "fnExactAddCycle", fn := fun _ => fun
  | [d1, d2, d3, d4] => { results := [.lit (.bool false)], args := [d1, d2, d3, d4] }
  | _ => none }
def FnExactAddCycleWrongFalsely : Prop := fnExactAddCycleRow.holds Try.pinned (OpenSpec.ofChange fnExactAddCycleWrong)

/-- 'laws.FnExactChordFlows': WHATEVER THE INPUT: true; the input reads as it did. -/
def fnExactChordFlowsSpec : ChangeSpec := { name := "fnExactChordFlows", fn := fun _ => fun
  | [d1, d2] => { results := [.lit (.bool true)], args := [d1, d2] }
  | _ => none }
def fnExactChordFlowsRow : OpenClaim := { program := "ytkgekaedpdgmdaa", sum := "a7582644483770352ff13a8d8924468102d5dd195a654b477c426bfe4e654cf3", func := "loop.example/g00852/laws.FnExactChordFlows", spec := "fnExactChordFlows", unfollowed := true, recurses := true, apart := false }
def FnExactChordFlowsSaid : Prop := fnExactChordFlowsRow.holds Try.pinned (OpenSpec.ofChange fnExactChordFlowsSpec)

/-- ITS FALSE NEIGHBOUR: 'it returns false'. Refute it at one input. -/
def fnExactChordFlowsWrong : ChangeSpec := { name := "fnExactChordFlows", fn := fun _ => fun
  | [d1, d2] => { results := [.lit (.bool false)], args := [d1, d2] }
  | _ => none }
def FnExactChordFlowsWrongFalsely : Prop := fnExactChordFlowsRow.holds Try.pinned (OpenSpec.ofChange fnExactChordFlowsWrong)

/-- 'laws.FnExactFromChords': WHATEVER THE INPUT: true; the input reads as it did. -/
def fnExactFromChordsSpec : ChangeSpec := { name := "fnExactFromChords", fn := fun _ => fun
  | [d1, d2] => { results := [.lit (.bool true)], args := [d1, d2] }
  | _ => none }
def fnExactFromChordsRow : OpenClaim := { program := "ytkgekaedpdgmdaa", sum := "a7582644483770352ff13a8d8924468102d5dd195a654b477c426bfe4e654cf3", func := "loop.example/g00852/laws.FnExactFromChords", spec := "fnExactFromChords", unfollowed := true, recurses := true, apart := false }
def FnExactFromChordsSaid : Prop := fnExactFromChordsRow.holds Try.pinned (OpenSpec.ofChange fnExactFromChordsSpec)

/-- ITS FALSE NEIGHBOUR: 'it returns false'. Refute it at one input. -/
def fnExactFromChordsWrong : ChangeSpec := { name := "fnExactFromChords", fn := fun _ => fun
  | [d1, d2] => { results := [.lit (.bool false)], args := [d1, d2] }
  | _ => none }
def FnExactFromChordsWrongFalsely : Prop := fnExactFromChordsRow.holds Try.pinned (OpenSpec.ofChange fnExactFromChordsWrong)

/- THE SECOND FORM. 'bulk': how many values and letters a reading holds, each counted each time it is reached (what is shared counts as often as it is met; a slice's spare places count too). A statement '..UptoSaid' is the law's where the arguments, and the package variables that the reading takes, are together of bulk at most 1048576: NARROWER than '..Said'. Prove '..Said' where nothing that the law and all that it calls make is longer than what came in: it says more and counts as full. Else prove '..UptoSaid'. A law counts once. -/
mutual
def uptoBulk {H : Type} : DataW H → Nat
  | .lit (.string bytes) => bytes.length + 1
  | .lit _ => 1
  | .nil => 1
  | .ptr d => uptoBulk d + 1
  | .slice elems spare => uptoBulkAll elems + uptoBulkAll spare + 1
  | .agg parts => uptoBulkAll parts + 1
  | .iface _ d => uptoBulk d + 1
  | .map entries => uptoBulkEntries entries + 1
  | .held _ => 1
def uptoBulkAll {H : Type} : List (DataW H) → Nat
  | [] => 0
  | d :: r => uptoBulk d + uptoBulkAll r
def uptoBulkEntries {H : Type} : List (Lit × DataW H) → Nat
  | [] => 0
  | x :: r => uptoBulkEntry x + uptoBulkEntries r
def uptoBulkEntry {H : Type} : Lit × DataW H → Nat
  | (.string bytes, d) => bytes.length + uptoBulk d + 1
  | (_, d) => uptoBulk d + 1
 end
def uptoSmall : (H : Type) → List (DataW H) → Bool := fun _ ds => decide (uptoBulkAll ds ≤ 1048576)
def OpenSpec.upto (s : _root_.Go.ChangeSpec) : _root_.Go.OpenSpec := { _root_.Go.OpenSpec.ofChange s with cond := some uptoSmall }

/-- 'laws.FnExactSuppliesOf', WHERE WHAT IT READS IS OF BULK AT MOST 1048576: true; the input reads as it did. -/
def fnExactSuppliesOfUptoRow : OpenClaim := { program := "ytkgekaedpdgmdaa", sum := "a7582644483770352ff13a8d8924468102d5dd195a654b477c426bfe4e654cf3", func := "loop.example/g00852/laws.FnExactSuppliesOf", spec := "fnExactSuppliesOf", apart := false, narrowed := true }
def FnExactSuppliesOfUptoSaid : Prop := fnExactSuppliesOfUptoRow.holds Try.pinned (OpenSpec.upto fnExactSuppliesOfSpec)

/-- 'laws.FnExactIsBalanced', WHERE WHAT IT READS IS OF BULK AT MOST 1048576: true; the input reads as it did. -/
def fnExactIsBalancedUptoRow : OpenClaim := { program := "ytkgekaedpdgmdaa", sum := "a7582644483770352ff13a8d8924468102d5dd195a654b477c426bfe4e654cf3", func := "loop.example/g00852/laws.FnExactIsBalanced", spec := "fnExactIsBalanced", apart := false, narrowed := true }
def FnExactIsBalancedUptoSaid : Prop := fnExactIsBalancedUptoRow.holds Try.pinned (OpenSpec.upto fnExactIsBalancedSpec)

/-- 'laws.FnExactIsEven', WHERE WHAT IT READS IS OF BULK AT MOST 1048576: true; the input reads as it did. -/
def fnExactIsEvenUptoRow : OpenClaim := { program := "ytkgekaedpdgmdaa", sum := "a7582644483770352ff13a8d8924468102d5dd195a654b477c426bfe4e654cf3", func := "loop.example/g00852/laws.FnExactIsEven", spec := "fnExactIsEven", unfollowed := true, recurses := true, apart := false, narrowed := true }
def FnExactIsEvenUptoSaid : Prop := fnExactIsEvenUptoRow.holds Try.pinned (OpenSpec.upto fnExactIsEvenSpec)

/-- 'laws.FnExactThroughputOf', WHERE WHAT IT READS IS OF BULK AT MOST 1048576: true; the input reads as it did. -/
def fnExactThroughputOfUptoRow : OpenClaim := { program := "ytkgekaedpdgmdaa", sum := "a7582644483770352ff13a8d8924468102d5dd195a654b477c426bfe4e654cf3", func := "loop.example/g00852/laws.FnExactThroughputOf", spec := "fnExactThroughputOf", apart := false, narrowed := true }
def FnExactThroughputOfUptoSaid : Prop := fnExactThroughputOfUptoRow.holds Try.pinned (OpenSpec.upto fnExactThroughputOfSpec)

/-- 'laws.FnExactOverLimit', WHERE WHAT IT READS IS OF BULK AT MOST 1048576: true; the input reads as it did. -/
def fnExactOverLimitUptoRow : OpenClaim := { program := "ytkgekaedpdgmdaa", sum := "a7582644483770352ff13a8d8924468102d5dd195a654b477c426bfe4e654cf3", func := "loop.example/g00852/laws.FnExactOverLimit", spec := "fnExactOverLimit", apart := false, narrowed := true }
def FnExactOverLimitUptoSaid : Prop := fnExactOverLimitUptoRow.holds Try.pinned (OpenSpec.upto fnExactOverLimitSpec)

/-- 'laws.FnExactAddFlows', WHERE WHAT IT READS IS OF BULK AT MOST 1048576: true; the input reads as it did. -/
def fnExactAddFlowsUptoRow : OpenClaim := { program := "ytkgekaedpdgmdaa", sum := "a7582644483770352ff13a8d8924468102d5dd195a654b477c426bfe4e654cf3", func := "loop.example/g00852/laws.FnExactAddFlows", spec := "fnExactAddFlows", apart := false, narrowed := true }
def FnExactAddFlowsUptoSaid : Prop := fnExactAddFlowsUptoRow.holds Try.pinned (OpenSpec.upto fnExactAddFlowsSpec)

/-- 'laws.FnExactForestFlows', WHERE WHAT IT READS IS OF BULK AT MOST 1048576: true; the input reads as it did. -/
def fnExactForestFlowsUptoRow : OpenClaim := { program := "ytkgekaedpdgmdaa", sum := "a7582644483770352ff13a8d8924468102d5dd195a654b477c426bfe4e654cf3", func := "loop.example/g00852/laws.FnExactForestFlows", spec := "fnExactForestFlows", unfollowed := true, recurses := true, apart := false, narrowed := true }
def FnExactForestFlowsUptoSaid : Prop := fnExactForestFlowsUptoRow.holds Try.pinned (OpenSpec.upto fnExactForestFlowsSpec)

/-- 'laws.FnExactTransitOf', WHERE WHAT IT READS IS OF BULK AT MOST 1048576: true; the input reads as it did. -/
def fnExactTransitOfUptoRow : OpenClaim := { program := "ytkgekaedpdgmdaa", sum := "a7582644483770352ff13a8d8924468102d5dd195a654b477c426bfe4e654cf3", func := "loop.example/g00852/laws.FnExactTransitOf", spec := "fnExactTransitOf", apart := false, narrowed := true }
def FnExactTransitOfUptoSaid : Prop := fnExactTransitOfUptoRow.holds Try.pinned (OpenSpec.upto fnExactTransitOfSpec)

/-- 'laws.FnExactIsCirculation', WHERE WHAT IT READS IS OF BULK AT MOST 1048576: true; the input reads as it did. -/
def fnExactIsCirculationUptoRow : OpenClaim := { program := "ytkgekaedpdgmdaa", sum := "a7582644483770352ff13a8d8924468102d5dd195a654b477c426bfe4e654cf3", func := "loop.example/g00852/laws.FnExactIsCirculation", spec := "fnExactIsCirculation", unfollowed := true, recurses := true, apart := false, narrowed := true }
def FnExactIsCirculationUptoSaid : Prop := fnExactIsCirculationUptoRow.holds Try.pinned (OpenSpec.upto fnExactIsCirculationSpec)

/-- 'laws.FnExactAddCycle', WHERE WHAT IT READS IS OF BULK AT MOST 1048576: true; the input reads as it did. -/
def fnExactAddCycleUptoRow : OpenClaim := { program := "ytkgekaedpdgmdaa", sum := "a7582644483770352ff13a8d8924468102d5dd195a654b477c426bfe4e654cf3", func := "loop.example/g00852/laws.FnExactAddCycle", spec := "fnExactAddCycle", unfollowed := true, recurses := true, apart := false, narrowed := true }
def FnExactAddCycleUptoSaid : Prop := fnExactAddCycleUptoRow.holds Try.pinned (OpenSpec.upto fnExactAddCycleSpec)

/-- 'laws.FnExactChordFlows', WHERE WHAT IT READS IS OF BULK AT MOST 1048576: true; the input reads as it did. -/
def fnExactChordFlowsUptoRow : OpenClaim := { program := "ytkgekaedpdgmdaa", sum := "a7582644483770352ff13a8d8924468102d5dd195a654b477c426bfe4e654cf3", func := "loop.example/g00852/laws.FnExactChordFlows", spec := "fnExactChordFlows", unfollowed := true, recurses := true, apart := false, narrowed := true }
def FnExactChordFlowsUptoSaid : Prop := fnExactChordFlowsUptoRow.holds Try.pinned (OpenSpec.upto fnExactChordFlowsSpec)

/-- 'laws.FnExactFromChords', WHERE WHAT IT READS IS OF BULK AT MOST 1048576: true; the input reads as it did. -/
def fnExactFromChordsUptoRow : OpenClaim := { program := "ytkgekaedpdgmdaa", sum := "a7582644483770352ff13a8d8924468102d5dd195a654b477c426bfe4e654cf3", func := "loop.example/g00852/laws.FnExactFromChords", spec := "fnExactFromChords", unfollowed := true, recurses := true, apart := false, narrowed := true }
def FnExactFromChordsUptoSaid : Prop := fnExactFromChordsUptoRow.holds Try.pinned (OpenSpec.upto fnExactFromChordsSpec)

end Rows
end Go.Proofs.Ytkgekaedpdgmdaa
