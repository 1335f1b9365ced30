/-
  No cell of these rows narrows 'for every input' (looked for: loops, veiled, ifaces, maps, wideKeys, modest, calm, conditions, laid).
  DERIVED. THE GIVEN ROWS OF THIS SEAT. 3 by the template 'for every input the law returns true; each argument reads behind the call as it read before'; 0 by the template 'total and deterministic' (their statements: YtdbgcbkmcbgdiaaTotals.lean).
  GIVEN WITH THE SEED: the statements are not yours to turn. If you find one false, say at which input.
  Laid BY PROGRAM, IN A SANDBOX (cutbox-rows.mjs): the forced cells as the released guide's own fill.sh prints them over the translation a564ff51089dd9cb… (all of the seat's roots in one cut). By AI agents, Wed Nov 11 2026. No macro, syntax, notation, axiom, sorry.
-/
import Derived.Test.YtdbgcbkmcbgdiaaChecked
import GoSem.Claim
import GoSem.ClaimJoined
import GoSem.ClaimMapViews
import Derived.JoinedTies
import Derived.KernelRfl
namespace Go.Proofs.Ytdbgcbkmcbgdiaa
/- THE CELL 'sum', in the pinned program and in every row, IS THE sha256 OF THE DUMP (.gsa) THAT YtdbgcbkmcbgdiaaProg.lean LOADS. Nothing in Lean hashes anything: it is a label: what it is worth is what the hold of that sum in a sandbox is worth. -/
noncomputable def Try.pinned : Pinned := { name := "ytdbgcbkmcbgdiaa", sum := "a564ff51089dd9cb7097f1d735096691772426378980aef5419889857fd7015e", checked := Try.checked }
namespace Rows
def none {H : Type} : Left H := { results := [], args := [] }

/-- 'laws.FnExactPipeError': WHATEVER THE INPUT: true; the input reads as it did. -/
def fnExactPipeErrorSpec : ChangeSpec := { name := "fnExactPipeError", fn := fun _ => fun
  | [d1, d2, d3] => { results := [.lit (.bool true)], args := [d1, d2, d3] }
  | _ => none }
def fnExactPipeErrorRow : OpenClaim := { program := "ytdbgcbkmcbgdiaa", sum := "a564ff51089dd9cb7097f1d735096691772426378980aef5419889857fd7015e", func := "loop.example/g00852/laws.FnExactPipeError", spec := "fnExactPipeError", apart := false }
def FnExactPipeErrorSaid : Prop := fnExactPipeErrorRow.holds Try.pinned (OpenSpec.ofChange fnExactPipeErrorSpec)

/-- ITS FALSE NEIGHBOUR: 'it returns false'. Refute it at one input. -/
def fnExactPipeErrorWrong : ChangeSpec := { name := "fnExactPipeError", fn := fun _ => fun
  | [d1, d2, d3] => { results := [.lit (.bool false)], args := [d1, d2, d3] }
  | _ => none }
def FnExactPipeErrorWrongFalsely : Prop := fnExactPipeErrorRow.holds Try.pinned (OpenSpec.ofChange fnExactPipeErrorWrong)

/-- 'laws.FnExactProofError': WHATEVER THE INPUT: true; the input reads as it did. -/
def fnExactProofErrorSpec : ChangeSpec := { name := "fnExactProofError", fn := fun _ => fun
  | [d1, d2] => { results := [.lit (.bool true)], args := [d1, d2] }
  | _ => none }
def fnExactProofErrorRow : OpenClaim := { program := "ytdbgcbkmcbgdiaa", sum := "a564ff51089dd9cb7097f1d735096691772426378980aef5419889857fd7015e", func := "loop.example/g00852/laws.FnExactProofError", spec := "fnExactProofError", apart := false }
def FnExactProofErrorSaid : Prop := fnExactProofErrorRow.holds Try.pinned (OpenSpec.ofChange fnExactProofErrorSpec)

/-- ITS FALSE NEIGHBOUR: 'it returns false'. Refute it at one input. -/
def fnExactProofErrorWrong : ChangeSpec := { name := "fnExactProofError", fn := fun _ => fun
  | [d1, d2] => { results := [.lit (.bool false)], args := [d1, d2] }
  | _ => none }
def FnExactProofErrorWrongFalsely : Prop := fnExactProofErrorRow.holds Try.pinned (OpenSpec.ofChange fnExactProofErrorWrong)

/-- 'laws.FnExactSameFlows': WHATEVER THE INPUT: true; the input reads as it did. -/
def fnExactSameFlowsSpec : ChangeSpec := { name := "fnExactSameFlows", fn := fun _ => fun
  | [d1, d2] => { results := [.lit (.bool true)], args := [d1, d2] }
  | _ => none }
def fnExactSameFlowsRow : OpenClaim := { program := "ytdbgcbkmcbgdiaa", sum := "a564ff51089dd9cb7097f1d735096691772426378980aef5419889857fd7015e", func := "loop.example/g00852/laws.FnExactSameFlows", spec := "fnExactSameFlows", apart := false }
def FnExactSameFlowsSaid : Prop := fnExactSameFlowsRow.holds Try.pinned (OpenSpec.ofChange fnExactSameFlowsSpec)

/-- ITS FALSE NEIGHBOUR: 'it returns false'. Refute it at one input. -/
def fnExactSameFlowsWrong : ChangeSpec := { name := "fnExactSameFlows", fn := fun _ => fun
  | [d1, d2] => { results := [.lit (.bool false)], args := [d1, d2] }
  | _ => none }
def FnExactSameFlowsWrongFalsely : Prop := fnExactSameFlowsRow.holds Try.pinned (OpenSpec.ofChange fnExactSameFlowsWrong)

/- THE SECOND FORM. 'bulk': how many values and letters a reading holds, each counted each time it is reached (what is shared counts as often as it is met; a slice's spare places count too). A statement '..UptoSaid' is the law's where the arguments, and the package variables that the reading takes, are together of bulk at most 1048576: NARROWER than '..Said'. Prove '..Said' where nothing that the law and all that it calls make is longer than what came in: it says more and counts as full. Else prove '..UptoSaid'. A law counts once. -/
mutual
def uptoBulk {H : Type} : DataW H → Nat
  | .lit (.string bytes) => bytes.length + 1
  | .lit _ => 1
  | .nil => 1
  | .ptr d => uptoBulk d + 1
  | .slice elems spare => uptoBulkAll elems + uptoBulkAll spare + 1
  | .agg parts => uptoBulkAll parts + 1
  | .iface _ d => uptoBulk d + 1
  | .map entries => uptoBulkEntries entries + 1
  | .held _ => 1
def uptoBulkAll {H : Type} : List (DataW H) → Nat
  | [] => 0
  | d :: r => uptoBulk d + uptoBulkAll r
def uptoBulkEntries {H : Type} : List (Lit × DataW H) → Nat
  | [] => 0
  | x :: r => uptoBulkEntry x + uptoBulkEntries r
def uptoBulkEntry {H : Type} : Lit × DataW H → Nat
  | (.string bytes, d) => bytes.length + uptoBulk d + 1
  | (_, d) => uptoBulk d + 1
 end
def uptoSmall : (H : Type) → List (DataW H) → Bool := fun _ ds => decide (uptoBulkAll ds ≤ 1048576)
def OpenSpec.upto (s : _root_.Go.ChangeSpec) : _root_.Go.OpenSpec := { _root_.Go.OpenSpec.ofChange s with cond := some uptoSmall }

/-- 'laws.FnExactPipeError', WHERE WHAT IT READS IS OF BULK AT MOST 1048576: true; the input reads as it did. -/
def fnExactPipeErrorUptoRow : OpenClaim := { program := "ytdbgcbkmcbgdiaa", sum := "a564ff51089dd9cb7097f1d735096691772426378980aef5419889857fd7015e", func := "loop.example/g00852/laws.FnExactPipeError", spec := "fnExactPipeError", apart := false, narrowed := true }
def FnExactPipeErrorUptoSaid : Prop := fnExactPipeErrorUptoRow.holds Try.pinned (OpenSpec.upto fnExactPipeErrorSpec)

/-- 'laws.FnExactProofError', WHERE WHAT IT READS IS OF BULK AT MOST 1048576: true; the input reads as it did. -/
def fnExactProofErrorUptoRow : OpenClaim := { program := "ytdbgcbkmcbgdiaa", sum := "a564ff51089dd9cb7097f1d735096691772426378980aef5419889857fd7015e", func := "loop.example/g00852/laws.FnExactProofError", spec := "fnExactProofError", apart := false, narrowed := true }
def FnExactProofErrorUptoSaid : Prop := fnExactProofErrorUptoRow.holds Try.pinned (OpenSpec.upto fnExactProofErrorSpec)

/-- 'laws.FnExactSameFlows', WHERE WHAT IT READS IS OF BULK AT MOST 1048576: true; the input reads as it did. -/
def fnExactSameFlowsUptoRow : OpenClaim := { program := "ytdbgcbkmcbgdiaa", sum := "a564ff51089dd9cb7097f1d735096691772426378980aef5419889857fd7015e", func := "loop.example/g00852/laws.FnExactSameFlows", spec := "fnExactSameFlows", apart := false, narrowed := true }
def FnExactSameFlowsUptoSaid : Prop := fnExactSameFlowsUptoRow.holds Try.pinned (OpenSpec.upto fnExactSameFlowsSpec)

end Rows
end Go.Proofs.Ytdbgcbkmcbgdiaa
