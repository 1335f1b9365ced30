/-
  No cell of these rows narrows 'for every input' (looked for: loops, veiled, ifaces, maps, wideKeys, modest, calm, conditions, laid).
  DERIVED. THE GIVEN ROWS OF THIS SEAT. 6 by the template 'for every input the law returns true; each argument reads behind the call as it read before'; 0 by the template 'total and deterministic' (their statements: YtebbnhnggjmbiaaGreatTotals.lean).
  GIVEN WITH THE SEED: the statements are not yours to turn. If you find one false, say at which input.
  Laid BY PROGRAM, IN A SANDBOX (cutbox-rows.mjs): the forced cells as the released guide's own fill.sh prints them over the translation 96b4ea49d4647eb1… (all of the seat's roots in one cut). By AI agents, Wed Nov 11 2026. No macro, syntax, notation, axiom, sorry.
-/
import Derived.Test.YtebbnhnggjmbiaaGreatChecked
import GoSem.Claim
import GoSem.ClaimJoined
import GoSem.ClaimMapViews
import Derived.JoinedTies
import Derived.KernelRfl
namespace Go.Proofs.YtebbnhnggjmbiaaGreat
/- THE CELL 'sum', in the pinned program and in every row, IS THE sha256 OF THE DUMP (.gsa) THAT YtebbnhnggjmbiaaGreatProg.lean LOADS. Nothing in Lean hashes anything: it is a label: what it is worth is what the hold of that sum in a sandbox is worth. -/
noncomputable def Tryz.pinned : Pinned := { name := "ytebbnhnggjmbiaagreat", sum := "96b4ea49d4647eb1a56ed92be47ed417ab5657fadaddb398156acc8838dfda0d", checked := Tryz.checked }
namespace Rows
def none {H : Type} : Left H := { results := [], args := [] }

/-- 'laws.FnExactRootRange': WHATEVER THE INPUT: true; the input reads as it did. -/
def fnExactRootRangeSpec : ChangeSpec := { name := "fnExactRootRange", fn := fun _ => fun
  | [d1, d2, d3] => { results := [.lit (.bool true)], args := [d1, d2, d3] }
  | _ => none }
def fnExactRootRangeRow : OpenClaim := { program := "ytebbnhnggjmbiaagreat", sum := "96b4ea49d4647eb1a56ed92be47ed417ab5657fadaddb398156acc8838dfda0d", func := "loop.example/g00852/laws.FnExactRootRange", spec := "fnExactRootRange", unfollowed := true, recurses := true, apart := false }
def FnExactRootRangeSaid : Prop := fnExactRootRangeRow.holds Tryz.pinned (OpenSpec.ofChange fnExactRootRangeSpec)

/-- ITS FALSE NEIGHBOUR: 'it returns false'. Refute it at one input. -/
def fnExactRootRangeWrong : ChangeSpec := { name := "fnExactRootRange", fn := fun _ => fun
  | [d1, d2, d3] => { results := [.lit (.bool false)], args := [d1, d2, d3] }
  | _ => none }
def FnExactRootRangeWrongFalsely : Prop := fnExactRootRangeRow.holds Tryz.pinned (OpenSpec.ofChange fnExactRootRangeWrong)

/-- 'laws.FnExactTightNodes': WHATEVER THE INPUT: true; the input reads as it did. -/
def fnExactTightNodesSpec : ChangeSpec := { name := "fnExactTightNodes", fn := fun _ => fun
  | [d1, d2, d3, d4] => { results := [.lit (.bool true)], args := [d1, d2, d3, d4] }
  | _ => none }
def fnExactTightNodesRow : OpenClaim := { program := "ytebbnhnggjmbiaagreat", sum := "96b4ea49d4647eb1a56ed92be47ed417ab5657fadaddb398156acc8838dfda0d", func := "loop.example/g00852/laws.FnExactTightNodes", spec := "fnExactTightNodes", unfollowed := true, recurses := true, apart := false }
def FnExactTightNodesSaid : Prop := fnExactTightNodesRow.holds Tryz.pinned (OpenSpec.ofChange fnExactTightNodesSpec)

/-- ITS FALSE NEIGHBOUR: 'it returns false'. Refute it at one input. -/
def fnExactTightNodesWrong : ChangeSpec := { name := "fnExactTightNodes", fn := fun _ => fun
  | [d1, d2, d3, d4] => { results := [.lit (.bool false)], args := [d1, d2, d3, d4] }
  | _ => none }
def FnExactTightNodesWrongFalsely : Prop := fnExactTightNodesRow.holds Tryz.pinned (OpenSpec.ofChange fnExactTightNodesWrong)

/-- 'laws.FnExactMiddleLevel': WHATEVER THE INPUT: true; the input reads as it did. -/
def fnExactMiddleLevelSpec : ChangeSpec := { name := "fnExactMiddleLevel", fn := fun _ => fun
  | [d1, d2, d3] => { results := [.lit (.bool true)], args := [d1, d2, d3] }
  | _ => none }
def fnExactMiddleLevelRow : OpenClaim := { program := "ytebbnhnggjmbiaagreat", sum := "96b4ea49d4647eb1a56ed92be47ed417ab5657fadaddb398156acc8838dfda0d", func := "loop.example/g00852/laws.FnExactMiddleLevel", spec := "fnExactMiddleLevel", unfollowed := true, recurses := true, apart := false }
def FnExactMiddleLevelSaid : Prop := fnExactMiddleLevelRow.holds Tryz.pinned (OpenSpec.ofChange fnExactMiddleLevelSpec)

/-- ITS FALSE NEIGHBOUR: 'it returns false'. Refute it at one input. -/
def fnExactMiddleLevelWrong : ChangeSpec := { name := "fnExactMiddleLevel", fn := fun _ => fun
  | [d1, d2, d3] => { results := [.lit (.bool false)], args := [d1, d2, d3] }
  | _ => none }
def FnExactMiddleLevelWrongFalsely : Prop := fnExactMiddleLevelRow.holds Tryz.pinned (OpenSpec.ofChange fnExactMiddleLevelWrong)

/-- 'laws.FnRootRange': WHATEVER THE INPUT: true; the input reads as it did. -/
def fnRootRangeSpec : ChangeSpec := { name := "fnRootRange", fn := fun _ => fun
  | [d] => { results := [.lit (.bool true)], args := [d] }
  | _ => none }
def fnRootRangeRow : OpenClaim := { program := "ytebbnhnggjmbiaagreat", sum := "96b4ea49d4647eb1a56ed92be47ed417ab5657fadaddb398156acc8838dfda0d", func := "loop.example/g00852/laws.FnRootRange", spec := "fnRootRange", unfollowed := true, recurses := true, apart := false }
def FnRootRangeSaid : Prop := fnRootRangeRow.holds Tryz.pinned (OpenSpec.ofChange fnRootRangeSpec)

/-- ITS FALSE NEIGHBOUR: 'it returns false'. Refute it at one input. -/
def fnRootRangeWrong : ChangeSpec := { name := "fnRootRange", fn := fun _ => fun
  | [d] => { results := [.lit (.bool false)], args := [d] }
  | _ => none }
def FnRootRangeWrongFalsely : Prop := fnRootRangeRow.holds Tryz.pinned (OpenSpec.ofChange fnRootRangeWrong)

/-- 'laws.FnTightNodes': WHATEVER THE INPUT: true; the input reads as it did. -/
def fnTightNodesSpec : ChangeSpec := { name := "fnTightNodes", fn := fun _ => fun
  | [d] => { results := [.lit (.bool true)], args := [d] }
  | _ => none }
def fnTightNodesRow : OpenClaim := { program := "ytebbnhnggjmbiaagreat", sum := "96b4ea49d4647eb1a56ed92be47ed417ab5657fadaddb398156acc8838dfda0d", func := "loop.example/g00852/laws.FnTightNodes", spec := "fnTightNodes", unfollowed := true, recurses := true, apart := false }
def FnTightNodesSaid : Prop := fnTightNodesRow.holds Tryz.pinned (OpenSpec.ofChange fnTightNodesSpec)

/-- ITS FALSE NEIGHBOUR: 'it returns false'. Refute it at one input. -/
def fnTightNodesWrong : ChangeSpec := { name := "fnTightNodes", fn := fun _ => fun
  | [d] => { results := [.lit (.bool false)], args := [d] }
  | _ => none }
def FnTightNodesWrongFalsely : Prop := fnTightNodesRow.holds Tryz.pinned (OpenSpec.ofChange fnTightNodesWrong)

/-- 'laws.FnBlockingPairs': WHATEVER THE INPUT: true; the input reads as it did. -/
def fnBlockingPairsSpec : ChangeSpec := { name := "fnBlockingPairs", fn := fun _ => fun
  | [d] => { results := [.lit (.bool true)], args := [d] }
  | _ => none }
def fnBlockingPairsRow : OpenClaim := { program := "ytebbnhnggjmbiaagreat", sum := "96b4ea49d4647eb1a56ed92be47ed417ab5657fadaddb398156acc8838dfda0d", func := "loop.example/g00852/laws.FnBlockingPairs", spec := "fnBlockingPairs", unfollowed := true, recurses := true, apart := false }
def FnBlockingPairsSaid : Prop := fnBlockingPairsRow.holds Tryz.pinned (OpenSpec.ofChange fnBlockingPairsSpec)

/-- ITS FALSE NEIGHBOUR: 'it returns false'. Refute it at one input. -/
def fnBlockingPairsWrong : ChangeSpec := { name := "fnBlockingPairs", fn := fun _ => fun
  | [d] => { results := [.lit (.bool false)], args := [d] }
  | _ => none }
def FnBlockingPairsWrongFalsely : Prop := fnBlockingPairsRow.holds Tryz.pinned (OpenSpec.ofChange fnBlockingPairsWrong)

/- THE SECOND FORM. 'bulk': how many values and letters a reading holds, each counted each time it is reached (what is shared counts as often as it is met; a slice's spare places count too). A statement '..UptoSaid' is the law's where the arguments, and the package variables that the reading takes, are together of bulk at most 1048576: NARROWER than '..Said'. Prove '..Said' where nothing that the law and all that it calls make is longer than what came in: it says more and counts as full. Else prove '..UptoSaid'. A law counts once. -/
mutual
def uptoBulk {H : Type} : DataW H → Nat
  | .lit (.string bytes) => bytes.length + 1
  | .lit _ => 1
  | .nil => 1
  | .ptr d => uptoBulk d + 1
  | .slice elems spare => uptoBulkAll elems + uptoBulkAll spare + 1
  | .agg parts => uptoBulkAll parts + 1
  | .iface _ d => uptoBulk d + 1
  | .map entries => uptoBulkEntries entries + 1
  | .held _ => 1
def uptoBulkAll {H : Type} : List (DataW H) → Nat
  | [] => 0
  | d :: r => uptoBulk d + uptoBulkAll r
def uptoBulkEntries {H : Type} : List (Lit × DataW H) → Nat
  | [] => 0
  | x :: r => uptoBulkEntry x + uptoBulkEntries r
def uptoBulkEntry {H : Type} : Lit × DataW H → Nat
  | (.string bytes, d) => bytes.length + uptoBulk d + 1
  | (_, d) => uptoBulk d + 1
 end
def uptoSmall : (H : Type) → List (DataW H) → Bool := fun _ ds => decide (uptoBulkAll ds ≤ 1048576)
def OpenSpec.upto (s : _root_.Go.ChangeSpec) : _root_.Go.OpenSpec := { _root_.Go.OpenSpec.ofChange s with cond := some uptoSmall }

/-- 'laws.FnExactRootRange', WHERE WHAT IT READS IS OF BULK AT MOST 1048576: true; the input reads as it did. -/
def fnExactRootRangeUptoRow : OpenClaim := { program := "ytebbnhnggjmbiaagreat", sum := "96b4ea49d4647eb1a56ed92be47ed417ab5657fadaddb398156acc8838dfda0d", func := "loop.example/g00852/laws.FnExactRootRange", spec := "fnExactRootRange", unfollowed := true, recurses := true, apart := false, narrowed := true }
def FnExactRootRangeUptoSaid : Prop := fnExactRootRangeUptoRow.holds Tryz.pinned (OpenSpec.upto fnExactRootRangeSpec)

/-- 'laws.FnExactTightNodes', WHERE WHAT IT READS IS OF BULK AT MOST 1048576: true; the input reads as it did. -/
def fnExactTightNodesUptoRow : OpenClaim := { program := "ytebbnhnggjmbiaagreat", sum := "96b4ea49d4647eb1a56ed92be47ed417ab5657fadaddb398156acc8838dfda0d", func := "loop.example/g00852/laws.FnExactTightNodes", spec := "fnExactTightNodes", unfollowed := true, recurses := true, apart := false, narrowed := true }
def FnExactTightNodesUptoSaid : Prop := fnExactTightNodesUptoRow.holds Tryz.pinned (OpenSpec.upto fnExactTightNodesSpec)

/-- 'laws.FnExactMiddleLevel', WHERE WHAT IT READS IS OF BULK AT MOST 1048576: true; the input reads as it did. -/
def fnExactMiddleLevelUptoRow : OpenClaim := { program := "ytebbnhnggjmbiaagreat", sum := "96b4ea49d4647eb1a56ed92be47ed417ab5657fadaddb398156acc8838dfda0d", func := "loop.example/g00852/laws.FnExactMiddleLevel", spec := "fnExactMiddleLevel", unfollowed := true, recurses := true, apart := false, narrowed := true }
def FnExactMiddleLevelUptoSaid : Prop := fnExactMiddleLevelUptoRow.holds Tryz.pinned (OpenSpec.upto fnExactMiddleLevelSpec)

/-- 'laws.FnRootRange', WHERE WHAT IT READS IS OF BULK AT MOST 1048576: true; the input reads as it did. -/
def fnRootRangeUptoRow : OpenClaim := { program := "ytebbnhnggjmbiaagreat", sum := "96b4ea49d4647eb1a56ed92be47ed417ab5657fadaddb398156acc8838dfda0d", func := "loop.example/g00852/laws.FnRootRange", spec := "fnRootRange", unfollowed := true, recurses := true, apart := false, narrowed := true }
def FnRootRangeUptoSaid : Prop := fnRootRangeUptoRow.holds Tryz.pinned (OpenSpec.upto fnRootRangeSpec)

/-- 'laws.FnTightNodes', WHERE WHAT IT READS IS OF BULK AT MOST 1048576: true; the input reads as it did. -/
def fnTightNodesUptoRow : OpenClaim := { program := "ytebbnhnggjmbiaagreat", sum := "96b4ea49d4647eb1a56ed92be47ed417ab5657fadaddb398156acc8838dfda0d", func := "loop.example/g00852/laws.FnTightNodes", spec := "fnTightNodes", unfollowed := true, recurses := true, apart := false, narrowed := true }
def FnTightNodesUptoSaid : Prop := fnTightNodesUptoRow.holds Tryz.pinned (OpenSpec.upto fnTightNodesSpec)

/-- 'laws.FnBlockingPairs', WHERE WHAT IT READS IS OF BULK AT MOST 1048576: true; the input reads as it did. -/
def fnBlockingPairsUptoRow : OpenClaim := { program := "ytebbnhnggjmbiaagreat", sum := "96b4ea49d4647eb1a56ed92be47ed417ab5657fadaddb398156acc8838dfda0d", func := "loop.example/g00852/laws.FnBlockingPairs", spec := "fnBlockingPairs", unfollowed := true, recurses := true, apart := false, narrowed := true }
def FnBlockingPairsUptoSaid : Prop := fnBlockingPairsUptoRow.holds Tryz.pinned (OpenSpec.upto fnBlockingPairsSpec)

end Rows
end Go.Proofs.YtebbnhnggjmbiaaGreat
