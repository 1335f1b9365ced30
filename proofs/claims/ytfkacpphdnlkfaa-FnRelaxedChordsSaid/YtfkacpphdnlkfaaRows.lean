/-
  No cell of these rows narrows 'for every input' (looked for: loops, veiled, ifaces, maps, wideKeys, modest, calm, conditions, laid).
  DERIVED. THE GIVEN ROWS OF THIS SEAT. 6 by the template 'for every input the law returns true; each argument reads behind the call as it read before'; 0 by the template 'total and deterministic' (their statements: YtfkacpphdnlkfaaTotals.lean).
  GIVEN WITH THE SEED: the statements are not yours to turn. If you find one false, say at which input.
  Laid BY PROGRAM, IN A SANDBOX (cutbox-rows.mjs): the forced cells as the released guide's own fill.sh prints them over the translation 1116a76cc5af5c3f… (all of the seat's roots in one cut). By AI agents, Wed Nov 11 2026. No macro, syntax, notation, axiom, sorry.
-/
import Derived.Test.YtfkacpphdnlkfaaChecked
import GoSem.Claim
import GoSem.ClaimJoined
import GoSem.ClaimMapViews
import Derived.JoinedTies
import Derived.KernelRfl
namespace Go.Proofs.Ytfkacpphdnlkfaa
/- THE CELL 'sum', in the pinned program and in every row, IS THE sha256 OF THE DUMP (.gsa) THAT YtfkacpphdnlkfaaProg.lean LOADS. Nothing in Lean hashes anything: it is a label: what it is worth is what the hold of that sum in a sandbox is worth. -/
noncomputable def Try.pinned : Pinned := { name := "ytfkacpphdnlkfaa", sum := "1116a76cc5af5c3fa61b48a2f319d36cfead7caba3bb702fd3b69fdbb1b6780e", checked := Try.checked }
namespace Rows
def none {H : Type} : Left H := { results := [], args := [] }

/-- 'laws.FnExactRelaxFlows': WHATEVER THE INPUT: true; the input reads as it did. -/
def fnExactRelaxFlowsSpec : ChangeSpec := { name := "fnExactRelaxFlows", fn := fun _ => fun
  | [d1, d2, d3] => { results := [.lit (.bool true)], args := [d1, d2, d3] }
  | _ => none }
def fnExactRelaxFlowsRow : OpenClaim := { program := "ytfkacpphdnlkfaa", sum := "1116a76cc5af5c3fa61b48a2f319d36cfead7caba3bb702fd3b69fdbb1b6780e", func := "loop.example/g00852/laws.FnExactRelaxFlows", spec := "fnExactRelaxFlows", unfollowed := true, recurses := true, apart := false }
def FnExactRelaxFlowsSaid : Prop := fnExactRelaxFlowsRow.holds Try.pinned (OpenSpec.ofChange fnExactRelaxFlowsSpec)

/-- ITS FALSE NEIGHBOUR: 'it returns false'. Refute it at one input. -/
def fnExactRelaxFlowsWrong : ChangeSpec := { name := "fnExactRelaxFlows", fn := fun _ => fun
  | [d1, d2, d3] => { results := [.lit (.bool false)], args := [d1, d2, d3] }
  | _ => none }
def FnExactRelaxFlowsWrongFalsely : Prop := fnExactRelaxFlowsRow.holds Try.pinned (OpenSpec.ofChange fnExactRelaxFlowsWrong)

/-- 'laws.FnExactRelaxChord': WHATEVER THE INPUT: true; the input reads as it did. -/
def fnExactRelaxChordSpec : ChangeSpec := { name := "fnExactRelaxChord", fn := fun _ => fun
  | [d1, d2, d3] => { results := [.lit (.bool true)], args := [d1, d2, d3] }
  | _ => none }
def fnExactRelaxChordRow : OpenClaim := { program := "ytfkacpphdnlkfaa", sum := "1116a76cc5af5c3fa61b48a2f319d36cfead7caba3bb702fd3b69fdbb1b6780e", func := "loop.example/g00852/laws.FnExactRelaxChord", spec := "fnExactRelaxChord", unfollowed := true, recurses := true, apart := false }
def FnExactRelaxChordSaid : Prop := fnExactRelaxChordRow.holds Try.pinned (OpenSpec.ofChange fnExactRelaxChordSpec)

/-- ITS FALSE NEIGHBOUR: 'it returns false'. Refute it at one input. -/
def fnExactRelaxChordWrong : ChangeSpec := { name := "fnExactRelaxChord", fn := fun _ => fun
  | [d1, d2, d3] => { results := [.lit (.bool false)], args := [d1, d2, d3] }
  | _ => none }
def FnExactRelaxChordWrongFalsely : Prop := fnExactRelaxChordRow.holds Try.pinned (OpenSpec.ofChange fnExactRelaxChordWrong)

/-- 'laws.FnExactLoopError': WHATEVER THE INPUT: true; the input reads as it did. -/
def fnExactLoopErrorSpec : ChangeSpec := { name := "fnExactLoopError", fn := fun _ => fun
  | [d1, d2] => { results := [.lit (.bool true)], args := [d1, d2] }
  | _ => none }
def fnExactLoopErrorRow : OpenClaim := { program := "ytfkacpphdnlkfaa", sum := "1116a76cc5af5c3fa61b48a2f319d36cfead7caba3bb702fd3b69fdbb1b6780e", func := "loop.example/g00852/laws.FnExactLoopError", spec := "fnExactLoopError", unfollowed := true, recurses := true, apart := false }
def FnExactLoopErrorSaid : Prop := fnExactLoopErrorRow.holds Try.pinned (OpenSpec.ofChange fnExactLoopErrorSpec)

/-- ITS FALSE NEIGHBOUR: 'it returns false'. Refute it at one input. -/
def fnExactLoopErrorWrong : ChangeSpec := { name := "fnExactLoopError", fn := fun _ => fun
  | [d1, d2] => { results := [.lit (.bool false)], args := [d1, d2] }
  | _ => none }
def FnExactLoopErrorWrongFalsely : Prop := fnExactLoopErrorRow.holds Try.pinned (OpenSpec.ofChange fnExactLoopErrorWrong)

/-- 'laws.FnWorstResiduals': WHATEVER THE INPUT: true; the input reads as it did. -/
def fnWorstResidualsSpec : ChangeSpec := { name := "fnWorstResiduals", fn := fun _ => fun
  | [d] => { results := [.lit (.bool true)], args := [d] }
  | _ => none }
def fnWorstResidualsRow : OpenClaim := { program := "ytfkacpphdnlkfaa", sum := "1116a76cc5af5c3fa61b48a2f319d36cfead7caba3bb702fd3b69fdbb1b6780e", func := "loop.example/g00852/laws.FnWorstResiduals", spec := "fnWorstResiduals", unfollowed := true, recurses := true, apart := false }
def FnWorstResidualsSaid : Prop := fnWorstResidualsRow.holds Try.pinned (OpenSpec.ofChange fnWorstResidualsSpec)

/-- ITS FALSE NEIGHBOUR: 'it returns false'. Refute it at one input. -/
def fnWorstResidualsWrong : ChangeSpec := { name := "fnWorstResiduals", fn := fun _ => fun
  | [d] => { results := [.lit (.bool false)], args := [d] }
  | _ => none }
def FnWorstResidualsWrongFalsely : Prop := fnWorstResidualsRow.holds Try.pinned (OpenSpec.ofChange fnWorstResidualsWrong)

/-- 'laws.FnRelaxed': WHATEVER THE INPUT: true; the input reads as it did. -/
def fnRelaxedSpec : ChangeSpec := { name := "fnRelaxed", fn := fun _ => fun
  | [d] => { results := [.lit (.bool true)], args := [d] }
  | _ => none }
def fnRelaxedRow : OpenClaim := { program := "ytfkacpphdnlkfaa", sum := "1116a76cc5af5c3fa61b48a2f319d36cfead7caba3bb702fd3b69fdbb1b6780e", func := "loop.example/g00852/laws.FnRelaxed", spec := "fnRelaxed", unfollowed := true, recurses := true, apart := false }
def FnRelaxedSaid : Prop := fnRelaxedRow.holds Try.pinned (OpenSpec.ofChange fnRelaxedSpec)

/-- ITS FALSE NEIGHBOUR: 'it returns false'. Refute it at one input. -/
def fnRelaxedWrong : ChangeSpec := { name := "fnRelaxed", fn := fun _ => fun
  | [d] => { results := [.lit (.bool false)], args := [d] }
  | _ => none }
def FnRelaxedWrongFalsely : Prop := fnRelaxedRow.holds Try.pinned (OpenSpec.ofChange fnRelaxedWrong)

/-- 'laws.FnRelaxedChords': WHATEVER THE INPUT: true; the input reads as it did. -/
def fnRelaxedChordsSpec : ChangeSpec := { name := "fnRelaxedChords", fn := fun _ => fun
  | [d] => { results := [.lit (.bool true)], args := [d] }
  | _ => none }
def fnRelaxedChordsRow : OpenClaim := { program := "ytfkacpphdnlkfaa", sum := "1116a76cc5af5c3fa61b48a2f319d36cfead7caba3bb702fd3b69fdbb1b6780e", func := "loop.example/g00852/laws.FnRelaxedChords", spec := "fnRelaxedChords", unfollowed := true, recurses := true, apart := false }
def FnRelaxedChordsSaid : Prop := fnRelaxedChordsRow.holds Try.pinned (OpenSpec.ofChange fnRelaxedChordsSpec)

/-- ITS FALSE NEIGHBOUR: 'it returns false'. Refute it at one input. -/
def fnRelaxedChordsWrong : ChangeSpec := { name := "fnRelaxedChords", fn := fun _ => fun
  | [d] => { results := [.lit (.bool false)], args := [d] }
  | _ => none }
def FnRelaxedChordsWrongFalsely : Prop := fnRelaxedChordsRow.holds Try.pinned (OpenSpec.ofChange fnRelaxedChordsWrong)

/- THE SECOND FORM. 'bulk': how many values and letters a reading holds, each counted each time it is reached (what is shared counts as often as it is met; a slice's spare places count too). A statement '..UptoSaid' is the law's where the arguments, and the package variables that the reading takes, are together of bulk at most 1048576: NARROWER than '..Said'. Prove '..Said' where nothing that the law and all that it calls make is longer than what came in: it says more and counts as full. Else prove '..UptoSaid'. A law counts once. -/
mutual
def uptoBulk {H : Type} : DataW H → Nat
  | .lit (.string bytes) => bytes.length + 1
  | .lit _ => 1
  | .nil => 1
  | .ptr d => uptoBulk d + 1
  | .slice elems spare => uptoBulkAll elems + uptoBulkAll spare + 1
  | .agg parts => uptoBulkAll parts + 1
  | .iface _ d => uptoBulk d + 1
  | .map entries => uptoBulkEntries entries + 1
  | .held _ => 1
def uptoBulkAll {H : Type} : List (DataW H) → Nat
  | [] => 0
  | d :: r => uptoBulk d + uptoBulkAll r
def uptoBulkEntries {H : Type} : List (Lit × DataW H) → Nat
  | [] => 0
  | x :: r => uptoBulkEntry x + uptoBulkEntries r
def uptoBulkEntry {H : Type} : Lit × DataW H → Nat
  | (.string bytes, d) => bytes.length + uptoBulk d + 1
  | (_, d) => uptoBulk d + 1
 end
def uptoSmall : (H : Type) → List (DataW H) → Bool := fun _ ds => decide (uptoBulkAll ds ≤ 1048576)
def OpenSpec.upto (s : _root_.Go.ChangeSpec) : _root_.Go.OpenSpec := { _root_.Go.OpenSpec.ofChange s with cond := some uptoSmall }

/-- 'laws.FnExactRelaxFlows', WHERE WHAT IT READS IS OF BULK AT MOST 1048576: true; the input reads as it did. -/
def fnExactRelaxFlowsUptoRow : OpenClaim := { program := "ytfkacpphdnlkfaa", sum := "1116a76cc5af5c3fa61b48a2f319d36cfead7caba3bb702fd3b69fdbb1b6780e", func := "loop.example/g00852/laws.FnExactRelaxFlows", spec := "fnExactRelaxFlows", unfollowed := true, recurses := true, apart := false, narrowed := true }
def FnExactRelaxFlowsUptoSaid : Prop := fnExactRelaxFlowsUptoRow.holds Try.pinned (OpenSpec.upto fnExactRelaxFlowsSpec)

/-- 'laws.FnExactRelaxChord', WHERE WHAT IT READS IS OF BULK AT MOST 1048576: true; the input reads as it did. -/
def fnExactRelaxChordUptoRow : OpenClaim := { program := "ytfkacpphdnlkfaa", sum := "1116a76cc5af5c3fa61b48a2f319d36cfead7caba3bb702fd3b69fdbb1b6780e", func := "loop.example/g00852/laws.FnExactRelaxChord", spec := "fnExactRelaxChord", unfollowed := true, recurses := true, apart := false, narrowed := true }
def FnExactRelaxChordUptoSaid : Prop := fnExactRelaxChordUptoRow.holds Try.pinned (OpenSpec.upto fnExactRelaxChordSpec)

/-- 'laws.FnExactLoopError', WHERE WHAT IT READS IS OF BULK AT MOST 1048576: true; the input reads as it did. -/
def fnExactLoopErrorUptoRow : OpenClaim := { program := "ytfkacpphdnlkfaa", sum := "1116a76cc5af5c3fa61b48a2f319d36cfead7caba3bb702fd3b69fdbb1b6780e", func := "loop.example/g00852/laws.FnExactLoopError", spec := "fnExactLoopError", unfollowed := true, recurses := true, apart := false, narrowed := true }
def FnExactLoopErrorUptoSaid : Prop := fnExactLoopErrorUptoRow.holds Try.pinned (OpenSpec.upto fnExactLoopErrorSpec)

/-- 'laws.FnWorstResiduals', WHERE WHAT IT READS IS OF BULK AT MOST 1048576: true; the input reads as it did. -/
def fnWorstResidualsUptoRow : OpenClaim := { program := "ytfkacpphdnlkfaa", sum := "1116a76cc5af5c3fa61b48a2f319d36cfead7caba3bb702fd3b69fdbb1b6780e", func := "loop.example/g00852/laws.FnWorstResiduals", spec := "fnWorstResiduals", unfollowed := true, recurses := true, apart := false, narrowed := true }
def FnWorstResidualsUptoSaid : Prop := fnWorstResidualsUptoRow.holds Try.pinned (OpenSpec.upto fnWorstResidualsSpec)

/-- 'laws.FnRelaxed', WHERE WHAT IT READS IS OF BULK AT MOST 1048576: true; the input reads as it did. -/
def fnRelaxedUptoRow : OpenClaim := { program := "ytfkacpphdnlkfaa", sum := "1116a76cc5af5c3fa61b48a2f319d36cfead7caba3bb702fd3b69fdbb1b6780e", func := "loop.example/g00852/laws.FnRelaxed", spec := "fnRelaxed", unfollowed := true, recurses := true, apart := false, narrowed := true }
def FnRelaxedUptoSaid : Prop := fnRelaxedUptoRow.holds Try.pinned (OpenSpec.upto fnRelaxedSpec)

/-- 'laws.FnRelaxedChords', WHERE WHAT IT READS IS OF BULK AT MOST 1048576: true; the input reads as it did. -/
def fnRelaxedChordsUptoRow : OpenClaim := { program := "ytfkacpphdnlkfaa", sum := "1116a76cc5af5c3fa61b48a2f319d36cfead7caba3bb702fd3b69fdbb1b6780e", func := "loop.example/g00852/laws.FnRelaxedChords", spec := "fnRelaxedChords", unfollowed := true, recurses := true, apart := false, narrowed := true }
def FnRelaxedChordsUptoSaid : Prop := fnRelaxedChordsUptoRow.holds Try.pinned (OpenSpec.upto fnRelaxedChordsSpec)

end Rows
end Go.Proofs.Ytfkacpphdnlkfaa
