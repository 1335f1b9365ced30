/-
  No cell of these rows narrows 'for every input' (looked for: loops, veiled, ifaces, maps, wideKeys, modest, calm, conditions, laid).
  DERIVED. THE GIVEN ROWS OF THIS SEAT. 3 by the template 'for every input the law returns true; each argument reads behind the call as it read before'; 0 by the template 'total and deterministic' (their statements: YtlcegdamjbpfpaaGreatTotals.lean).
  GIVEN WITH THE SEED: the statements are not yours to turn. If you find one false, say at which input.
  Laid BY PROGRAM, IN A SANDBOX (cutbox-rows.mjs): the forced cells as the released guide's own fill.sh prints them over the translation 47332fb60e1d9c14… (all of the seat's roots in one cut). By AI agents, Wed Nov 11 2026. No macro, syntax, notation, axiom, sorry.
-/
import Derived.Test.YtlcegdamjbpfpaaGreatChecked
import GoSem.Claim
import GoSem.ClaimJoined
import GoSem.ClaimMapViews
import Derived.JoinedTies
import Derived.KernelRfl
namespace Go.Proofs.YtlcegdamjbpfpaaGreat
/- THE CELL 'sum', in the pinned program and in every row, IS THE sha256 OF THE DUMP (.gsa) THAT YtlcegdamjbpfpaaGreatProg.lean LOADS. Nothing in Lean hashes anything: it is a label: what it is worth is what the hold of that sum in a sandbox is worth. -/
noncomputable def Tryz.pinned : Pinned := { name := "ytlcegdamjbpfpaagreat", sum := "47332fb60e1d9c14172a1728d117d68e0379e7b3e67d856999a255bf13fcd316", checked := Tryz.checked }
namespace Rows
def none {H : Type} : Left H := { results := [], args := [] }

/-- 'laws.FnExactTreeLevels': WHATEVER THE INPUT: true; the input reads as it did. -/
def fnExactTreeLevelsSpec : ChangeSpec := { name := "fnExactTreeLevels", fn := fun _ => fun
  | [d1, d2, d3, d4] => { results := [.lit (.bool true)], args := [d1, d2, d3, d4] }
  | _ => none }
def fnExactTreeLevelsRow : OpenClaim := { program := "ytlcegdamjbpfpaagreat", sum := "47332fb60e1d9c14172a1728d117d68e0379e7b3e67d856999a255bf13fcd316", func := "loop.example/g00852/laws.FnExactTreeLevels", spec := "fnExactTreeLevels", unfollowed := true, recurses := true, apart := false }
def FnExactTreeLevelsSaid : Prop := fnExactTreeLevelsRow.holds Tryz.pinned (OpenSpec.ofChange fnExactTreeLevelsSpec)

/-- ITS FALSE NEIGHBOUR: 'it returns false'. Refute it at one input. -/
def fnExactTreeLevelsWrong : ChangeSpec := { name := "fnExactTreeLevels", fn := fun _ => fun
  | [d1, d2, d3, d4] => { results := [.lit (.bool false)], args := [d1, d2, d3, d4] }
  | _ => none }
def FnExactTreeLevelsWrongFalsely : Prop := fnExactTreeLevelsRow.holds Tryz.pinned (OpenSpec.ofChange fnExactTreeLevelsWrong)

/-- 'laws.FnForestLevels': WHATEVER THE INPUT: true; the input reads as it did. -/
def fnForestLevelsSpec : ChangeSpec := { name := "fnForestLevels", fn := fun _ => fun
  | [d] => { results := [.lit (.bool true)], args := [d] }
  | _ => none }
def fnForestLevelsRow : OpenClaim := { program := "ytlcegdamjbpfpaagreat", sum := "47332fb60e1d9c14172a1728d117d68e0379e7b3e67d856999a255bf13fcd316", func := "loop.example/g00852/laws.FnForestLevels", spec := "fnForestLevels", unfollowed := true, recurses := true, apart := false }
def FnForestLevelsSaid : Prop := fnForestLevelsRow.holds Tryz.pinned (OpenSpec.ofChange fnForestLevelsSpec)

/-- ITS FALSE NEIGHBOUR: 'it returns false'. Refute it at one input. -/
def fnForestLevelsWrong : ChangeSpec := { name := "fnForestLevels", fn := fun _ => fun
  | [d] => { results := [.lit (.bool false)], args := [d] }
  | _ => none }
def FnForestLevelsWrongFalsely : Prop := fnForestLevelsRow.holds Tryz.pinned (OpenSpec.ofChange fnForestLevelsWrong)

/-- 'laws.FnTrees': WHATEVER THE INPUT: true; the input reads as it did. -/
def fnTreesSpec : ChangeSpec := { name := "fnTrees", fn := fun _ => fun
  | [d] => { results := [.lit (.bool true)], args := [d] }
  | _ => none }
def fnTreesRow : OpenClaim := { program := "ytlcegdamjbpfpaagreat", sum := "47332fb60e1d9c14172a1728d117d68e0379e7b3e67d856999a255bf13fcd316", func := "loop.example/g00852/laws.FnTrees", spec := "fnTrees", unfollowed := true, recurses := true, apart := false }
def FnTreesSaid : Prop := fnTreesRow.holds Tryz.pinned (OpenSpec.ofChange fnTreesSpec)

/-- ITS FALSE NEIGHBOUR: 'it returns false'. Refute it at one input. -/
def fnTreesWrong : ChangeSpec := { name := "fnTrees", fn := fun _ => fun
  | [d] => { results := [.lit (.bool false)], args := [d] }
  | _ => none }
def FnTreesWrongFalsely : Prop := fnTreesRow.holds Tryz.pinned (OpenSpec.ofChange fnTreesWrong)

/- THE SECOND FORM. 'bulk': how many values and letters a reading holds, each counted each time it is reached (what is shared counts as often as it is met; a slice's spare places count too). A statement '..UptoSaid' is the law's where the arguments, and the package variables that the reading takes, are together of bulk at most 1048576: NARROWER than '..Said'. Prove '..Said' where nothing that the law and all that it calls make is longer than what came in: it says more and counts as full. Else prove '..UptoSaid'. A law counts once. -/
mutual
def uptoBulk {H : Type} : DataW H → Nat
  | .lit (.string bytes) => bytes.length + 1
  | .lit _ => 1
  | .nil => 1
  | .ptr d => uptoBulk d + 1
  | .slice elems spare => uptoBulkAll elems + uptoBulkAll spare + 1
  | .agg parts => uptoBulkAll parts + 1
  | .iface _ d => uptoBulk d + 1
  | .map entries => uptoBulkEntries entries + 1
  | .held _ => 1
def uptoBulkAll {H : Type} : List (DataW H) → Nat
  | [] => 0
  | d :: r => uptoBulk d + uptoBulkAll r
def uptoBulkEntries {H : Type} : List (Lit × DataW H) → Nat
  | [] => 0
  | x :: r => uptoBulkEntry x + uptoBulkEntries r
def uptoBulkEntry {H : Type} : Lit × DataW H → Nat
  | (.string bytes, d) => bytes.length + uptoBulk d + 1
  | (_, d) => uptoBulk d + 1
 end
def uptoSmall : (H : Type) → List (DataW H) → Bool := fun _ ds => decide (uptoBulkAll ds ≤ 1048576)
def OpenSpec.upto (s : _root_.Go.ChangeSpec) : _root_.Go.OpenSpec := { _root_.Go.OpenSpec.ofChange s with cond := some uptoSmall }

/-- 'laws.FnExactTreeLevels', WHERE WHAT IT READS IS OF BULK AT MOST 1048576: true; the input reads as it did. -/
def fnExactTreeLevelsUptoRow : OpenClaim := { program := "ytlcegdamjbpfpaagreat", sum := "47332fb60e1d9c14172a1728d117d68e0379e7b3e67d856999a255bf13fcd316", func := "loop.example/g00852/laws.FnExactTreeLevels", spec := "fnExactTreeLevels", unfollowed := true, recurses := true, apart := false, narrowed := true }
def FnExactTreeLevelsUptoSaid : Prop := fnExactTreeLevelsUptoRow.holds Tryz.pinned (OpenSpec.upto fnExactTreeLevelsSpec)

/-- 'laws.FnForestLevels', WHERE WHAT IT READS IS OF BULK AT MOST 1048576: true; the input reads as it did. -/
def fnForestLevelsUptoRow : OpenClaim := { program := "ytlcegdamjbpfpaagreat", sum := "47332fb60e1d9c14172a1728d117d68e0379e7b3e67d856999a255bf13fcd316", func := "loop.example/g00852/laws.FnForestLevels", spec := "fnForestLevels", unfollowed := true, recurses := true, apart := false, narrowed := true }
def FnForestLevelsUptoSaid : Prop := fnForestLevelsUptoRow.holds Tryz.pinned (OpenSpec.upto fnForestLevelsSpec)

/-- 'laws.FnTrees', WHERE WHAT IT READS IS OF BULK AT MOST 1048576: true; the input reads as it did. -/
def fnTreesUptoRow : OpenClaim := { program := "ytlcegdamjbpfpaagreat", sum := "47332fb60e1d9c14172a1728d117d68e0379e7b3e67d856999a255bf13fcd316", func := "loop.example/g00852/laws.FnTrees", spec := "fnTrees", unfollowed := true, recurses := true, apart := false, narrowed := true }
def FnTreesUptoSaid : Prop := fnTreesUptoRow.holds Tryz.pinned (OpenSpec.upto fnTreesSpec)

end Rows
end Go.Proofs.YtlcegdamjbpfpaaGreat
