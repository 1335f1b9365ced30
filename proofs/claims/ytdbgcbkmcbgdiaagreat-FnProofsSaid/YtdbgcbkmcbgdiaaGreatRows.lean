/-
  No cell of these rows narrows 'for every input' (looked for: loops, veiled, ifaces, maps, wideKeys, modest, calm, conditions, laid).
  DERIVED. THE GIVEN ROWS OF THIS SEAT. 6 by the template 'for every input the law returns true; each argument reads behind the call as it read before'; 0 by the template 'total and deterministic' (their statements: YtdbgcbkmcbgdiaaGreatTotals.lean).
  GIVEN WITH THE SEED: the statements are not yours to turn. If you find one false, say at which input.
  Laid BY PROGRAM, IN A SANDBOX (cutbox-rows.mjs): the forced cells as the released guide's own fill.sh prints them over the translation 2661a32ce6df6a35… (all of the seat's roots in one cut). By AI agents, Wed Nov 11 2026. No macro, syntax, notation, axiom, sorry.
-/
import Derived.Test.YtdbgcbkmcbgdiaaGreatChecked
import GoSem.Claim
import GoSem.ClaimJoined
import GoSem.ClaimMapViews
import Derived.JoinedTies
import Derived.KernelRfl
namespace Go.Proofs.YtdbgcbkmcbgdiaaGreat
/- THE CELL 'sum', in the pinned program and in every row, IS THE sha256 OF THE DUMP (.gsa) THAT YtdbgcbkmcbgdiaaGreatProg.lean LOADS. Nothing in Lean hashes anything: it is a label: what it is worth is what the hold of that sum in a sandbox is worth. -/
noncomputable def Tryz.pinned : Pinned := { name := "ytdbgcbkmcbgdiaagreat", sum := "2661a32ce6df6a3550924fcbab6f29aae3190b52947906eacb399bd91056909f", checked := Tryz.checked }
namespace Rows
def none {H : Type} : Left H := { results := [], args := [] }

/-- 'laws.FnSolvedSteps': WHATEVER THE INPUT: true; the input reads as it did. -/
def fnSolvedStepsSpec : ChangeSpec := { name := "fnSolvedSteps", fn := fun _ => fun
  | [d] => { results := [.lit (.bool true)], args := [d] }
  | _ => none }
def fnSolvedStepsRow : OpenClaim := { program := "ytdbgcbkmcbgdiaagreat", sum := "2661a32ce6df6a3550924fcbab6f29aae3190b52947906eacb399bd91056909f", func := "loop.example/g00852/laws.FnSolvedSteps", spec := "fnSolvedSteps", unfollowed := true, recurses := true, apart := false }
def FnSolvedStepsSaid : Prop := fnSolvedStepsRow.holds Tryz.pinned (OpenSpec.ofChange fnSolvedStepsSpec)

/-- ITS FALSE NEIGHBOUR: 'it returns false'. Refute it at one input. -/
def fnSolvedStepsWrong : ChangeSpec := { name := "fnSolvedSteps", fn := fun _ => fun
  | [d] => { results := [.lit (.bool false)], args := [d] }
  | _ => none }
def FnSolvedStepsWrongFalsely : Prop := fnSolvedStepsRow.holds Tryz.pinned (OpenSpec.ofChange fnSolvedStepsWrong)

/-- 'laws.FnProofs': WHATEVER THE INPUT: true; the input reads as it did. -/
def fnProofsSpec : ChangeSpec := { name := "fnProofs", fn := fun _ => fun
  | [d] => { results := [.lit (.bool true)], args := [d] }
  | _ => none }
def fnProofsRow : OpenClaim := { program := "ytdbgcbkmcbgdiaagreat", sum := "2661a32ce6df6a3550924fcbab6f29aae3190b52947906eacb399bd91056909f", func := "loop.example/g00852/laws.FnProofs", spec := "fnProofs", unfollowed := true, recurses := true, apart := false }
def FnProofsSaid : Prop := fnProofsRow.holds Tryz.pinned (OpenSpec.ofChange fnProofsSpec)

/-- ITS FALSE NEIGHBOUR: 'it returns false'. Refute it at one input. -/
def fnProofsWrong : ChangeSpec := { name := "fnProofs", fn := fun _ => fun
  | [d] => { results := [.lit (.bool false)], args := [d] }
  | _ => none }
def FnProofsWrongFalsely : Prop := fnProofsRow.holds Tryz.pinned (OpenSpec.ofChange fnProofsWrong)

/-- 'laws.FnCheckedProofs': WHATEVER THE INPUT: true; the input reads as it did. -/
def fnCheckedProofsSpec : ChangeSpec := { name := "fnCheckedProofs", fn := fun _ => fun
  | [d] => { results := [.lit (.bool true)], args := [d] }
  | _ => none }
def fnCheckedProofsRow : OpenClaim := { program := "ytdbgcbkmcbgdiaagreat", sum := "2661a32ce6df6a3550924fcbab6f29aae3190b52947906eacb399bd91056909f", func := "loop.example/g00852/laws.FnCheckedProofs", spec := "fnCheckedProofs", unfollowed := true, recurses := true, apart := false }
def FnCheckedProofsSaid : Prop := fnCheckedProofsRow.holds Tryz.pinned (OpenSpec.ofChange fnCheckedProofsSpec)

/-- ITS FALSE NEIGHBOUR: 'it returns false'. Refute it at one input. -/
def fnCheckedProofsWrong : ChangeSpec := { name := "fnCheckedProofs", fn := fun _ => fun
  | [d] => { results := [.lit (.bool false)], args := [d] }
  | _ => none }
def FnCheckedProofsWrongFalsely : Prop := fnCheckedProofsRow.holds Tryz.pinned (OpenSpec.ofChange fnCheckedProofsWrong)

/-- 'laws.FnExactSolveStep': WHATEVER THE INPUT: true; the input reads as it did. -/
def fnExactSolveStepSpec : ChangeSpec := { name := "fnExactSolveStep", fn := fun _ => fun
  | [d1, d2, d3] => { results := [.lit (.bool true)], args := [d1, d2, d3] }
  | _ => none }
def fnExactSolveStepRow : OpenClaim := { program := "ytdbgcbkmcbgdiaagreat", sum := "2661a32ce6df6a3550924fcbab6f29aae3190b52947906eacb399bd91056909f", func := "loop.example/g00852/laws.FnExactSolveStep", spec := "fnExactSolveStep", unfollowed := true, recurses := true, apart := false }
def FnExactSolveStepSaid : Prop := fnExactSolveStepRow.holds Tryz.pinned (OpenSpec.ofChange fnExactSolveStepSpec)

/-- ITS FALSE NEIGHBOUR: 'it returns false'. Refute it at one input. -/
def fnExactSolveStepWrong : ChangeSpec := { name := "fnExactSolveStep", fn := fun _ => fun
  | [d1, d2, d3] => { results := [.lit (.bool false)], args := [d1, d2, d3] }
  | _ => none }
def FnExactSolveStepWrongFalsely : Prop := fnExactSolveStepRow.holds Tryz.pinned (OpenSpec.ofChange fnExactSolveStepWrong)

/-- 'laws.FnExactMakeProof': WHATEVER THE INPUT: true; the input reads as it did. -/
def fnExactMakeProofSpec : ChangeSpec := { name := "fnExactMakeProof", fn := fun _ => fun
  | [d1, d2, d3] => { results := [.lit (.bool true)], args := [d1, d2, d3] }
  | _ => none }
def fnExactMakeProofRow : OpenClaim := { program := "ytdbgcbkmcbgdiaagreat", sum := "2661a32ce6df6a3550924fcbab6f29aae3190b52947906eacb399bd91056909f", func := "loop.example/g00852/laws.FnExactMakeProof", spec := "fnExactMakeProof", unfollowed := true, recurses := true, apart := false }
def FnExactMakeProofSaid : Prop := fnExactMakeProofRow.holds Tryz.pinned (OpenSpec.ofChange fnExactMakeProofSpec)

/-- ITS FALSE NEIGHBOUR: 'it returns false'. Refute it at one input. -/
def fnExactMakeProofWrong : ChangeSpec := { name := "fnExactMakeProof", fn := fun _ => fun
  | [d1, d2, d3] => { results := [.lit (.bool false)], args := [d1, d2, d3] }
  | _ => none }
def FnExactMakeProofWrongFalsely : Prop := fnExactMakeProofRow.holds Tryz.pinned (OpenSpec.ofChange fnExactMakeProofWrong)

/-- 'laws.FnExactCheckProof': WHATEVER THE INPUT: true; the input reads as it did. -/
def fnExactCheckProofSpec : ChangeSpec := { name := "fnExactCheckProof", fn := fun _ => fun
  | [d1, d2, d3] => { results := [.lit (.bool true)], args := [d1, d2, d3] }
  | _ => none }
def fnExactCheckProofRow : OpenClaim := { program := "ytdbgcbkmcbgdiaagreat", sum := "2661a32ce6df6a3550924fcbab6f29aae3190b52947906eacb399bd91056909f", func := "loop.example/g00852/laws.FnExactCheckProof", spec := "fnExactCheckProof", unfollowed := true, recurses := true, apart := false }
def FnExactCheckProofSaid : Prop := fnExactCheckProofRow.holds Tryz.pinned (OpenSpec.ofChange fnExactCheckProofSpec)

/-- ITS FALSE NEIGHBOUR: 'it returns false'. Refute it at one input. -/
def fnExactCheckProofWrong : ChangeSpec := { name := "fnExactCheckProof", fn := fun _ => fun
  | [d1, d2, d3] => { results := [.lit (.bool false)], args := [d1, d2, d3] }
  | _ => none }
def FnExactCheckProofWrongFalsely : Prop := fnExactCheckProofRow.holds Tryz.pinned (OpenSpec.ofChange fnExactCheckProofWrong)

/- THE SECOND FORM. 'bulk': how many values and letters a reading holds, each counted each time it is reached (what is shared counts as often as it is met; a slice's spare places count too). A statement '..UptoSaid' is the law's where the arguments, and the package variables that the reading takes, are together of bulk at most 1048576: NARROWER than '..Said'. Prove '..Said' where nothing that the law and all that it calls make is longer than what came in: it says more and counts as full. Else prove '..UptoSaid'. A law counts once. -/
mutual
def uptoBulk {H : Type} : DataW H → Nat
  | .lit (.string bytes) => bytes.length + 1
  | .lit _ => 1
  | .nil => 1
  | .ptr d => uptoBulk d + 1
  | .slice elems spare => uptoBulkAll elems + uptoBulkAll spare + 1
  | .agg parts => uptoBulkAll parts + 1
  | .iface _ d => uptoBulk d + 1
  | .map entries => uptoBulkEntries entries + 1
  | .held _ => 1
def uptoBulkAll {H : Type} : List (DataW H) → Nat
  | [] => 0
  | d :: r => uptoBulk d + uptoBulkAll r
def uptoBulkEntries {H : Type} : List (Lit × DataW H) → Nat
  | [] => 0
  | x :: r => uptoBulkEntry x + uptoBulkEntries r
def uptoBulkEntry {H : Type} : Lit × DataW H → Nat
  | (.string bytes, d) => bytes.length + uptoBulk d + 1
  | (_, d) => uptoBulk d + 1
 end
def uptoSmall : (H : Type) → List (DataW H) → Bool := fun _ ds => decide (uptoBulkAll ds ≤ 1048576)
def OpenSpec.upto (s : _root_.Go.ChangeSpec) : _root_.Go.OpenSpec := { _root_.Go.OpenSpec.ofChange s with cond := some uptoSmall }

/-- 'laws.FnSolvedSteps', WHERE WHAT IT READS IS OF BULK AT MOST 1048576: true; the input reads as it did. -/
def fnSolvedStepsUptoRow : OpenClaim := { program := "ytdbgcbkmcbgdiaagreat", sum := "2661a32ce6df6a3550924fcbab6f29aae3190b52947906eacb399bd91056909f", func := "loop.example/g00852/laws.FnSolvedSteps", spec := "fnSolvedSteps", unfollowed := true, recurses := true, apart := false, narrowed := true }
def FnSolvedStepsUptoSaid : Prop := fnSolvedStepsUptoRow.holds Tryz.pinned (OpenSpec.upto fnSolvedStepsSpec)

/-- 'laws.FnProofs', WHERE WHAT IT READS IS OF BULK AT MOST 1048576: true; the input reads as it did. -/
def fnProofsUptoRow : OpenClaim := { program := "ytdbgcbkmcbgdiaagreat", sum := "2661a32ce6df6a3550924fcbab6f29aae3190b52947906eacb399bd91056909f", func := "loop.example/g00852/laws.FnProofs", spec := "fnProofs", unfollowed := true, recurses := true, apart := false, narrowed := true }
def FnProofsUptoSaid : Prop := fnProofsUptoRow.holds Tryz.pinned (OpenSpec.upto fnProofsSpec)

/-- 'laws.FnCheckedProofs', WHERE WHAT IT READS IS OF BULK AT MOST 1048576: true; the input reads as it did. -/
def fnCheckedProofsUptoRow : OpenClaim := { program := "ytdbgcbkmcbgdiaagreat", sum := "2661a32ce6df6a3550924fcbab6f29aae3190b52947906eacb399bd91056909f", func := "loop.example/g00852/laws.FnCheckedProofs", spec := "fnCheckedProofs", unfollowed := true, recurses := true, apart := false, narrowed := true }
def FnCheckedProofsUptoSaid : Prop := fnCheckedProofsUptoRow.holds Tryz.pinned (OpenSpec.upto fnCheckedProofsSpec)

/-- 'laws.FnExactSolveStep', WHERE WHAT IT READS IS OF BULK AT MOST 1048576: true; the input reads as it did. -/
def fnExactSolveStepUptoRow : OpenClaim := { program := "ytdbgcbkmcbgdiaagreat", sum := "2661a32ce6df6a3550924fcbab6f29aae3190b52947906eacb399bd91056909f", func := "loop.example/g00852/laws.FnExactSolveStep", spec := "fnExactSolveStep", unfollowed := true, recurses := true, apart := false, narrowed := true }
def FnExactSolveStepUptoSaid : Prop := fnExactSolveStepUptoRow.holds Tryz.pinned (OpenSpec.upto fnExactSolveStepSpec)

/-- 'laws.FnExactMakeProof', WHERE WHAT IT READS IS OF BULK AT MOST 1048576: true; the input reads as it did. -/
def fnExactMakeProofUptoRow : OpenClaim := { program := "ytdbgcbkmcbgdiaagreat", sum := "2661a32ce6df6a3550924fcbab6f29aae3190b52947906eacb399bd91056909f", func := "loop.example/g00852/laws.FnExactMakeProof", spec := "fnExactMakeProof", unfollowed := true, recurses := true, apart := false, narrowed := true }
def FnExactMakeProofUptoSaid : Prop := fnExactMakeProofUptoRow.holds Tryz.pinned (OpenSpec.upto fnExactMakeProofSpec)

/-- 'laws.FnExactCheckProof', WHERE WHAT IT READS IS OF BULK AT MOST 1048576: true; the input reads as it did. -/
def fnExactCheckProofUptoRow : OpenClaim := { program := "ytdbgcbkmcbgdiaagreat", sum := "2661a32ce6df6a3550924fcbab6f29aae3190b52947906eacb399bd91056909f", func := "loop.example/g00852/laws.FnExactCheckProof", spec := "fnExactCheckProof", unfollowed := true, recurses := true, apart := false, narrowed := true }
def FnExactCheckProofUptoSaid : Prop := fnExactCheckProofUptoRow.holds Tryz.pinned (OpenSpec.upto fnExactCheckProofSpec)

end Rows
end Go.Proofs.YtdbgcbkmcbgdiaaGreat
