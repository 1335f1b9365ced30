/-
  No cell of these rows narrows 'for every input' (looked for: loops, veiled, ifaces, maps, wideKeys, modest, calm, conditions, laid).
  DERIVED. THE GIVEN ROWS OF THIS SEAT. 5 by the template 'for every input the law returns true; each argument reads behind the call as it read before'; 0 by the template 'total and deterministic' (their statements: YtfkacpphdnlkfaaGreatTotals.lean).
  GIVEN WITH THE SEED: the statements are not yours to turn. If you find one false, say at which input.
  Laid BY PROGRAM, IN A SANDBOX (cutbox-rows.mjs): the forced cells as the released guide's own fill.sh prints them over the translation a55d51c58e521e09… (all of the seat's roots in one cut). By AI agents, Wed Nov 11 2026. No macro, syntax, notation, axiom, sorry.
-/
import Derived.Test.YtfkacpphdnlkfaaGreatChecked
import GoSem.Claim
import GoSem.ClaimJoined
import GoSem.ClaimMapViews
import Derived.JoinedTies
import Derived.KernelRfl
namespace Go.Proofs.YtfkacpphdnlkfaaGreat
/- THE CELL 'sum', in the pinned program and in every row, IS THE sha256 OF THE DUMP (.gsa) THAT YtfkacpphdnlkfaaGreatProg.lean LOADS. Nothing in Lean hashes anything: it is a label: what it is worth is what the hold of that sum in a sandbox is worth. -/
noncomputable def Tryz.pinned : Pinned := { name := "ytfkacpphdnlkfaagreat", sum := "a55d51c58e521e09de00863c409157fc44b130d7c30252f7bf0bfc8c28f9ffb7", checked := Tryz.checked }
namespace Rows
def none {H : Type} : Left H := { results := [], args := [] }

/-- 'laws.FnExactSolveLoops': WHATEVER THE INPUT: true; the input reads as it did. -/
def fnExactSolveLoopsSpec : ChangeSpec := { name := "fnExactSolveLoops", fn := fun _ => fun
  | [d1, d2] => { results := [.lit (.bool true)], args := [d1, d2] }
  | _ => none }
def fnExactSolveLoopsRow : OpenClaim := { program := "ytfkacpphdnlkfaagreat", sum := "a55d51c58e521e09de00863c409157fc44b130d7c30252f7bf0bfc8c28f9ffb7", func := "loop.example/g00852/laws.FnExactSolveLoops", spec := "fnExactSolveLoops", unfollowed := true, recurses := true, apart := false }
def FnExactSolveLoopsSaid : Prop := fnExactSolveLoopsRow.holds Tryz.pinned (OpenSpec.ofChange fnExactSolveLoopsSpec)

/-- ITS FALSE NEIGHBOUR: 'it returns false'. Refute it at one input. -/
def fnExactSolveLoopsWrong : ChangeSpec := { name := "fnExactSolveLoops", fn := fun _ => fun
  | [d1, d2] => { results := [.lit (.bool false)], args := [d1, d2] }
  | _ => none }
def FnExactSolveLoopsWrongFalsely : Prop := fnExactSolveLoopsRow.holds Tryz.pinned (OpenSpec.ofChange fnExactSolveLoopsWrong)

/-- 'laws.FnExactMovesNeeded': WHATEVER THE INPUT: true; the input reads as it did. -/
def fnExactMovesNeededSpec : ChangeSpec := { name := "fnExactMovesNeeded", fn := fun _ => fun
  | [d1, d2] => { results := [.lit (.bool true)], args := [d1, d2] }
  | _ => none }
def fnExactMovesNeededRow : OpenClaim := { program := "ytfkacpphdnlkfaagreat", sum := "a55d51c58e521e09de00863c409157fc44b130d7c30252f7bf0bfc8c28f9ffb7", func := "loop.example/g00852/laws.FnExactMovesNeeded", spec := "fnExactMovesNeeded", unfollowed := true, recurses := true, apart := false }
def FnExactMovesNeededSaid : Prop := fnExactMovesNeededRow.holds Tryz.pinned (OpenSpec.ofChange fnExactMovesNeededSpec)

/-- ITS FALSE NEIGHBOUR: 'it returns false'. Refute it at one input. -/
def fnExactMovesNeededWrong : ChangeSpec := { name := "fnExactMovesNeeded", fn := fun _ => fun
  | [d1, d2] => { results := [.lit (.bool false)], args := [d1, d2] }
  | _ => none }
def FnExactMovesNeededWrongFalsely : Prop := fnExactMovesNeededRow.holds Tryz.pinned (OpenSpec.ofChange fnExactMovesNeededWrong)

/-- 'laws.FnExactSolveStep': WHATEVER THE INPUT: true; the input reads as it did. -/
def fnExactSolveStepSpec : ChangeSpec := { name := "fnExactSolveStep", fn := fun _ => fun
  | [d1, d2, d3] => { results := [.lit (.bool true)], args := [d1, d2, d3] }
  | _ => none }
def fnExactSolveStepRow : OpenClaim := { program := "ytfkacpphdnlkfaagreat", sum := "a55d51c58e521e09de00863c409157fc44b130d7c30252f7bf0bfc8c28f9ffb7", func := "loop.example/g00852/laws.FnExactSolveStep", spec := "fnExactSolveStep", unfollowed := true, recurses := true, apart := false }
def FnExactSolveStepSaid : Prop := fnExactSolveStepRow.holds Tryz.pinned (OpenSpec.ofChange fnExactSolveStepSpec)

/-- ITS FALSE NEIGHBOUR: 'it returns false'. Refute it at one input. -/
def fnExactSolveStepWrong : ChangeSpec := { name := "fnExactSolveStep", fn := fun _ => fun
  | [d1, d2, d3] => { results := [.lit (.bool false)], args := [d1, d2, d3] }
  | _ => none }
def FnExactSolveStepWrongFalsely : Prop := fnExactSolveStepRow.holds Tryz.pinned (OpenSpec.ofChange fnExactSolveStepWrong)

/-- 'laws.FnSolvedLoops': WHATEVER THE INPUT: true; the input reads as it did. -/
def fnSolvedLoopsSpec : ChangeSpec := { name := "fnSolvedLoops", fn := fun _ => fun
  | [d] => { results := [.lit (.bool true)], args := [d] }
  | _ => none }
def fnSolvedLoopsRow : OpenClaim := { program := "ytfkacpphdnlkfaagreat", sum := "a55d51c58e521e09de00863c409157fc44b130d7c30252f7bf0bfc8c28f9ffb7", func := "loop.example/g00852/laws.FnSolvedLoops", spec := "fnSolvedLoops", unfollowed := true, recurses := true, apart := false }
def FnSolvedLoopsSaid : Prop := fnSolvedLoopsRow.holds Tryz.pinned (OpenSpec.ofChange fnSolvedLoopsSpec)

/-- ITS FALSE NEIGHBOUR: 'it returns false'. Refute it at one input. -/
def fnSolvedLoopsWrong : ChangeSpec := { name := "fnSolvedLoops", fn := fun _ => fun
  | [d] => { results := [.lit (.bool false)], args := [d] }
  | _ => none }
def FnSolvedLoopsWrongFalsely : Prop := fnSolvedLoopsRow.holds Tryz.pinned (OpenSpec.ofChange fnSolvedLoopsWrong)

/-- 'laws.FnSolvedSteps': WHATEVER THE INPUT: true; the input reads as it did. -/
def fnSolvedStepsSpec : ChangeSpec := { name := "fnSolvedSteps", fn := fun _ => fun
  | [d] => { results := [.lit (.bool true)], args := [d] }
  | _ => none }
def fnSolvedStepsRow : OpenClaim := { program := "ytfkacpphdnlkfaagreat", sum := "a55d51c58e521e09de00863c409157fc44b130d7c30252f7bf0bfc8c28f9ffb7", func := "loop.example/g00852/laws.FnSolvedSteps", spec := "fnSolvedSteps", unfollowed := true, recurses := true, apart := false }
def FnSolvedStepsSaid : Prop := fnSolvedStepsRow.holds Tryz.pinned (OpenSpec.ofChange fnSolvedStepsSpec)

/-- ITS FALSE NEIGHBOUR: 'it returns false'. Refute it at one input. -/
def fnSolvedStepsWrong : ChangeSpec := { name := "fnSolvedSteps", fn := fun _ => fun
  | [d] => { results := [.lit (.bool false)], args := [d] }
  | _ => none }
def FnSolvedStepsWrongFalsely : Prop := fnSolvedStepsRow.holds Tryz.pinned (OpenSpec.ofChange fnSolvedStepsWrong)

/- THE SECOND FORM. 'bulk': how many values and letters a reading holds, each counted each time it is reached (what is shared counts as often as it is met; a slice's spare places count too). A statement '..UptoSaid' is the law's where the arguments, and the package variables that the reading takes, are together of bulk at most 1048576: NARROWER than '..Said'. Prove '..Said' where nothing that the law and all that it calls make is longer than what came in: it says more and counts as full. Else prove '..UptoSaid'. A law counts once. -/
mutual
def uptoBulk {H : Type} : DataW H → Nat
  | .lit (.string bytes) => bytes.length + 1
  | .lit _ => 1
  | .nil => 1
  | .ptr d => uptoBulk d + 1
  | .slice elems spare => uptoBulkAll elems + uptoBulkAll spare + 1
  | .agg parts => uptoBulkAll parts + 1
  | .iface _ d => uptoBulk d + 1
  | .map entries => uptoBulkEntries entries + 1
  | .held _ => 1
def uptoBulkAll {H : Type} : List (DataW H) → Nat
  | [] => 0
  | d :: r => uptoBulk d + uptoBulkAll r
def uptoBulkEntries {H : Type} : List (Lit × DataW H) → Nat
  | [] => 0
  | x :: r => uptoBulkEntry x + uptoBulkEntries r
def uptoBulkEntry {H : Type} : Lit × DataW H → Nat
  | (.string bytes, d) => bytes.length + uptoBulk d + 1
  | (_, d) => uptoBulk d + 1
 end
def uptoSmall : (H : Type) → List (DataW H) → Bool := fun _ ds => decide (uptoBulkAll ds ≤ 1048576)
def OpenSpec.upto (s : _root_.Go.ChangeSpec) : _root_.Go.OpenSpec := { _root_.Go.OpenSpec.ofChange s with cond := some uptoSmall }

/-- 'laws.FnExactSolveLoops', WHERE WHAT IT READS IS OF BULK AT MOST 1048576: true; the input reads as it did. -/
def fnExactSolveLoopsUptoRow : OpenClaim := { program := "ytfkacpphdnlkfaagreat", sum := "a55d51c58e521e09de00863c409157fc44b130d7c30252f7bf0bfc8c28f9ffb7", func := "loop.example/g00852/laws.FnExactSolveLoops", spec := "fnExactSolveLoops", unfollowed := true, recurses := true, apart := false, narrowed := true }
def FnExactSolveLoopsUptoSaid : Prop := fnExactSolveLoopsUptoRow.holds Tryz.pinned (OpenSpec.upto fnExactSolveLoopsSpec)

/-- 'laws.FnExactMovesNeeded', WHERE WHAT IT READS IS OF BULK AT MOST 1048576: true; the input reads as it did. -/
def fnExactMovesNeededUptoRow : OpenClaim := { program := "ytfkacpphdnlkfaagreat", sum := "a55d51c58e521e09de00863c409157fc44b130d7c30252f7bf0bfc8c28f9ffb7", func := "loop.example/g00852/laws.FnExactMovesNeeded", spec := "fnExactMovesNeeded", unfollowed := true, recurses := true, apart := false, narrowed := true }
def FnExactMovesNeededUptoSaid : Prop := fnExactMovesNeededUptoRow.holds Tryz.pinned (OpenSpec.upto fnExactMovesNeededSpec)

/-- 'laws.FnExactSolveStep', WHERE WHAT IT READS IS OF BULK AT MOST 1048576: true; the input reads as it did. -/
def fnExactSolveStepUptoRow : OpenClaim := { program := "ytfkacpphdnlkfaagreat", sum := "a55d51c58e521e09de00863c409157fc44b130d7c30252f7bf0bfc8c28f9ffb7", func := "loop.example/g00852/laws.FnExactSolveStep", spec := "fnExactSolveStep", unfollowed := true, recurses := true, apart := false, narrowed := true }
def FnExactSolveStepUptoSaid : Prop := fnExactSolveStepUptoRow.holds Tryz.pinned (OpenSpec.upto fnExactSolveStepSpec)

/-- 'laws.FnSolvedLoops', WHERE WHAT IT READS IS OF BULK AT MOST 1048576: true; the input reads as it did. -/
def fnSolvedLoopsUptoRow : OpenClaim := { program := "ytfkacpphdnlkfaagreat", sum := "a55d51c58e521e09de00863c409157fc44b130d7c30252f7bf0bfc8c28f9ffb7", func := "loop.example/g00852/laws.FnSolvedLoops", spec := "fnSolvedLoops", unfollowed := true, recurses := true, apart := false, narrowed := true }
def FnSolvedLoopsUptoSaid : Prop := fnSolvedLoopsUptoRow.holds Tryz.pinned (OpenSpec.upto fnSolvedLoopsSpec)

/-- 'laws.FnSolvedSteps', WHERE WHAT IT READS IS OF BULK AT MOST 1048576: true; the input reads as it did. -/
def fnSolvedStepsUptoRow : OpenClaim := { program := "ytfkacpphdnlkfaagreat", sum := "a55d51c58e521e09de00863c409157fc44b130d7c30252f7bf0bfc8c28f9ffb7", func := "loop.example/g00852/laws.FnSolvedSteps", spec := "fnSolvedSteps", unfollowed := true, recurses := true, apart := false, narrowed := true }
def FnSolvedStepsUptoSaid : Prop := fnSolvedStepsUptoRow.holds Tryz.pinned (OpenSpec.upto fnSolvedStepsSpec)

end Rows
end Go.Proofs.YtfkacpphdnlkfaaGreat
