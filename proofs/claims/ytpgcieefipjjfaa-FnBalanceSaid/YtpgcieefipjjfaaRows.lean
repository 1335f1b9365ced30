/-
  No cell of these rows narrows 'for every input' (looked for: loops, veiled, ifaces, maps, wideKeys, modest, calm, conditions, laid).
  DERIVED. THE GIVEN ROWS OF THIS SEAT. 9 by the template 'for every input the law returns true; each argument reads behind the call as it read before'; 0 by the template 'total and deterministic' (their statements: YtpgcieefipjjfaaTotals.lean).
  GIVEN WITH THE SEED: the statements are not yours to turn. If you find one false, say at which input.
  Laid BY PROGRAM, IN A SANDBOX (cutbox-rows.mjs): the forced cells as the released guide's own fill.sh prints them over the translation 127c13e02a990a85… (all of the seat's roots in one cut). By AI agents, Wed Nov 11 2026. No macro, syntax, notation, axiom, sorry.
-/
import Derived.Test.YtpgcieefipjjfaaChecked
import GoSem.Claim
import GoSem.ClaimJoined
import GoSem.ClaimMapViews
import Derived.JoinedTies
import Derived.KernelRfl
namespace Go.Proofs.Ytpgcieefipjjfaa
/- THE CELL 'sum', in the pinned program and in every row, IS THE sha256 OF THE DUMP (.gsa) THAT YtpgcieefipjjfaaProg.lean LOADS. Nothing in Lean hashes anything: it is a label: what it is worth is what the hold of that sum in a sandbox is worth. -/
noncomputable def Try.pinned : Pinned := { name := "ytpgcieefipjjfaa", sum := "127c13e02a990a85a46602e9cc39821df39a56c146994430db8fb02c0dafb1b2", checked := Try.checked }
namespace Rows
def none {H : Type} : Left H := { results := [], args := [] }

/-- 'laws.FnExactCycleBasis': WHATEVER THE INPUT: true; the input reads as it did. -/
def fnExactCycleBasisSpec : ChangeSpec := { name := "fnExactCycleBasis", fn := fun _ => fun
  | [d] => { results := [.lit (.bool true)], args := [d] }
  | _ => none }
def fnExactCycleBasisRow : OpenClaim := { program := "ytpgcieefipjjfaa", sum := "127c13e02a990a85a46602e9cc39821df39a56c146994430db8fb02c0dafb1b2", func := "loop.example/g00852/laws.FnExactCycleBasis", spec := "fnExactCycleBasis", unfollowed := true, recurses := true, apart := false }
def FnExactCycleBasisSaid : Prop := fnExactCycleBasisRow.holds Try.pinned (OpenSpec.ofChange fnExactCycleBasisSpec)

/-- ITS FALSE NEIGHBOUR: 'it returns false'. Refute it at one input. -/
def fnExactCycleBasisWrong : ChangeSpec := { name := "fnExactCycleBasis", fn := fun _ => fun
  | [d] => { results := [.lit (.bool false)], args := [d] }
  | _ => none }
def FnExactCycleBasisWrongFalsely : Prop := fnExactCycleBasisRow.holds Try.pinned (OpenSpec.ofChange fnExactCycleBasisWrong)

/-- 'laws.FnExactIsCirculation': WHATEVER THE INPUT: true; the input reads as it did. -/
def fnExactIsCirculationSpec : ChangeSpec := { name := "fnExactIsCirculation", fn := fun _ => fun
  | [d1, d2] => { results := [.lit (.bool true)], args := [d1, d2] }
  | _ => none }
def fnExactIsCirculationRow : OpenClaim := { program := "ytpgcieefipjjfaa", sum := "127c13e02a990a85a46602e9cc39821df39a56c146994430db8fb02c0dafb1b2", func := "loop.example/g00852/laws.FnExactIsCirculation", spec := "fnExactIsCirculation", unfollowed := true, recurses := true, apart := false }
def FnExactIsCirculationSaid : Prop := fnExactIsCirculationRow.holds Try.pinned (OpenSpec.ofChange fnExactIsCirculationSpec)

/-- ITS FALSE NEIGHBOUR: 'it returns false'. Refute it at one input. -/
def fnExactIsCirculationWrong : ChangeSpec := { name := "fnExactIsCirculation", fn := fun _ => fun
  | [d1, d2] => { results := [.lit (.bool false)], args := [d1, d2] }
  | _ => none }
def FnExactIsCirculationWrongFalsely : Prop := fnExactIsCirculationRow.holds Try.pinned (OpenSpec.ofChange fnExactIsCirculationWrong)

/-- 'laws.FnExactFromChords': WHATEVER THE INPUT: true; the input reads as it did. -/
def fnExactFromChordsSpec : ChangeSpec := { name := "fnExactFromChords", fn := fun _ => fun
  | [d1, d2] => { results := [.lit (.bool true)], args := [d1, d2] }
  | _ => none }
def fnExactFromChordsRow : OpenClaim := { program := "ytpgcieefipjjfaa", sum := "127c13e02a990a85a46602e9cc39821df39a56c146994430db8fb02c0dafb1b2", func := "loop.example/g00852/laws.FnExactFromChords", spec := "fnExactFromChords", unfollowed := true, recurses := true, apart := false }
def FnExactFromChordsSaid : Prop := fnExactFromChordsRow.holds Try.pinned (OpenSpec.ofChange fnExactFromChordsSpec)

/-- ITS FALSE NEIGHBOUR: 'it returns false'. Refute it at one input. -/
def fnExactFromChordsWrong : ChangeSpec := { name := "fnExactFromChords", fn := fun _ => fun
  | [d1, d2] => { results := [.lit (.bool false)], args := [d1, d2] }
  | _ => none }
def FnExactFromChordsWrongFalsely : Prop := fnExactFromChordsRow.holds Try.pinned (OpenSpec.ofChange fnExactFromChordsWrong)

/-- 'laws.FnExactIsRelaxed': WHATEVER THE INPUT: true; the input reads as it did. -/
def fnExactIsRelaxedSpec : ChangeSpec := { name := "fnExactIsRelaxed", fn := fun _ => fun
  | [d1, d2] => { results := [.lit (.bool true)], args := [d1, d2] }
  | _ => none }
def fnExactIsRelaxedRow : OpenClaim := { program := "ytpgcieefipjjfaa", sum := "127c13e02a990a85a46602e9cc39821df39a56c146994430db8fb02c0dafb1b2", func := "loop.example/g00852/laws.FnExactIsRelaxed", spec := "fnExactIsRelaxed", unfollowed := true, recurses := true, apart := false }
def FnExactIsRelaxedSaid : Prop := fnExactIsRelaxedRow.holds Try.pinned (OpenSpec.ofChange fnExactIsRelaxedSpec)

/-- ITS FALSE NEIGHBOUR: 'it returns false'. Refute it at one input. -/
def fnExactIsRelaxedWrong : ChangeSpec := { name := "fnExactIsRelaxed", fn := fun _ => fun
  | [d1, d2] => { results := [.lit (.bool false)], args := [d1, d2] }
  | _ => none }
def FnExactIsRelaxedWrongFalsely : Prop := fnExactIsRelaxedRow.holds Try.pinned (OpenSpec.ofChange fnExactIsRelaxedWrong)

/-- 'laws.FnBridges': WHATEVER THE INPUT: true; the input reads as it did. -/
def fnBridgesSpec : ChangeSpec := { name := "fnBridges", fn := fun _ => fun
  | [d] => { results := [.lit (.bool true)], args := [d] }
  | _ => none }
def fnBridgesRow : OpenClaim := { program := "ytpgcieefipjjfaa", sum := "127c13e02a990a85a46602e9cc39821df39a56c146994430db8fb02c0dafb1b2", func := "loop.example/g00852/laws.FnBridges", spec := "fnBridges", unfollowed := true, recurses := true, apart := false }
def FnBridgesSaid : Prop := fnBridgesRow.holds Try.pinned (OpenSpec.ofChange fnBridgesSpec)

/-- ITS FALSE NEIGHBOUR: 'it returns false'. Refute it at one input. -/
def fnBridgesWrong : ChangeSpec := { name := "fnBridges", fn := fun _ => fun
  | [d] => { results := [.lit (.bool false)], args := [d] }
  | _ => none }
def FnBridgesWrongFalsely : Prop := fnBridgesRow.holds Try.pinned (OpenSpec.ofChange fnBridgesWrong)

/-- 'laws.FnCycles': WHATEVER THE INPUT: true; the input reads as it did. -/
def fnCyclesSpec : ChangeSpec := { name := "fnCycles", fn := fun _ => fun
  | [d] => { results := [.lit (.bool true)], args := [d] }
  | _ => none }
def fnCyclesRow : OpenClaim := { program := "ytpgcieefipjjfaa", sum := "127c13e02a990a85a46602e9cc39821df39a56c146994430db8fb02c0dafb1b2", func := "loop.example/g00852/laws.FnCycles", spec := "fnCycles", unfollowed := true, recurses := true, apart := false }
def FnCyclesSaid : Prop := fnCyclesRow.holds Try.pinned (OpenSpec.ofChange fnCyclesSpec)

/-- ITS FALSE NEIGHBOUR: 'it returns false'. Refute it at one input. -/
def fnCyclesWrong : ChangeSpec := { name := "fnCycles", fn := fun _ => fun
  | [d] => { results := [.lit (.bool false)], args := [d] }
  | _ => none }
def FnCyclesWrongFalsely : Prop := fnCyclesRow.holds Try.pinned (OpenSpec.ofChange fnCyclesWrong)

/-- 'laws.FnCirculations': WHATEVER THE INPUT: true; the input reads as it did. -/
def fnCirculationsSpec : ChangeSpec := { name := "fnCirculations", fn := fun _ => fun
  | [d] => { results := [.lit (.bool true)], args := [d] }
  | _ => none }
def fnCirculationsRow : OpenClaim := { program := "ytpgcieefipjjfaa", sum := "127c13e02a990a85a46602e9cc39821df39a56c146994430db8fb02c0dafb1b2", func := "loop.example/g00852/laws.FnCirculations", spec := "fnCirculations", unfollowed := true, recurses := true, apart := false }
def FnCirculationsSaid : Prop := fnCirculationsRow.holds Try.pinned (OpenSpec.ofChange fnCirculationsSpec)

/-- ITS FALSE NEIGHBOUR: 'it returns false'. Refute it at one input. -/
def fnCirculationsWrong : ChangeSpec := { name := "fnCirculations", fn := fun _ => fun
  | [d] => { results := [.lit (.bool false)], args := [d] }
  | _ => none }
def FnCirculationsWrongFalsely : Prop := fnCirculationsRow.holds Try.pinned (OpenSpec.ofChange fnCirculationsWrong)

/-- 'laws.FnFromChords': WHATEVER THE INPUT: true; the input reads as it did. -/
def fnFromChordsSpec : ChangeSpec := { name := "fnFromChords", fn := fun _ => fun
  | [d] => { results := [.lit (.bool true)], args := [d] }
  | _ => none }
def fnFromChordsRow : OpenClaim := { program := "ytpgcieefipjjfaa", sum := "127c13e02a990a85a46602e9cc39821df39a56c146994430db8fb02c0dafb1b2", func := "loop.example/g00852/laws.FnFromChords", spec := "fnFromChords", unfollowed := true, recurses := true, apart := false }
def FnFromChordsSaid : Prop := fnFromChordsRow.holds Try.pinned (OpenSpec.ofChange fnFromChordsSpec)

/-- ITS FALSE NEIGHBOUR: 'it returns false'. Refute it at one input. -/
def fnFromChordsWrong : ChangeSpec := { name := "fnFromChords", fn := fun _ => fun
  | [d] => { results := [.lit (.bool false)], args := [d] }
  | _ => none }
def FnFromChordsWrongFalsely : Prop := fnFromChordsRow.holds Try.pinned (OpenSpec.ofChange fnFromChordsWrong)

/-- 'laws.FnBalance': WHATEVER THE INPUT: true; the input reads as it did. -/
def fnBalanceSpec : ChangeSpec := { name := "fnBalance", fn := fun _ => fun
  | [d] => { results := [.lit (.bool true)], args := [d] }
  | _ => none }
def fnBalanceRow : OpenClaim := { program := "ytpgcieefipjjfaa", sum := "127c13e02a990a85a46602e9cc39821df39a56c146994430db8fb02c0dafb1b2", func := "loop.example/g00852/laws.FnBalance", spec := "fnBalance", unfollowed := true, recurses := true, apart := false }
def FnBalanceSaid : Prop := fnBalanceRow.holds Try.pinned (OpenSpec.ofChange fnBalanceSpec)

/-- ITS FALSE NEIGHBOUR: 'it returns false'. Refute it at one input. -/
def fnBalanceWrong : ChangeSpec := { name := "fnBalance", fn := fun _ => fun
  | [d] => { results := [.lit (.bool false)], args := [d] }
  | _ => none }
def FnBalanceWrongFalsely : Prop := fnBalanceRow.holds Try.pinned (OpenSpec.ofChange fnBalanceWrong)

/- THE SECOND FORM. 'bulk': how many values and letters a reading holds, each counted each time it is reached (what is shared counts as often as it is met; a slice's spare places count too). A statement '..UptoSaid' is the law's where the arguments, and the package variables that the reading takes, are together of bulk at most 1048576: NARROWER than '..Said'. Prove '..Said' where nothing that the law and all that it calls make is longer than what came in: it says more and counts as full. Else prove '..UptoSaid'. A law counts once. -/
mutual
def uptoBulk {H : Type} : DataW H → Nat
  | .lit (.string bytes) => bytes.length + 1
  | .lit _ => 1
  | .nil => 1
  | .ptr d => uptoBulk d + 1
  | .slice elems spare => uptoBulkAll elems + uptoBulkAll spare + 1
  | .agg parts => uptoBulkAll parts + 1
  | .iface _ d => uptoBulk d + 1
  | .map entries => uptoBulkEntries entries + 1
  | .held _ => 1
def uptoBulkAll {H : Type} : List (DataW H) → Nat
  | [] => 0
  | d :: r => uptoBulk d + uptoBulkAll r
def uptoBulkEntries {H : Type} : List (Lit × DataW H) → Nat
  | [] => 0
  | x :: r => uptoBulkEntry x + uptoBulkEntries r
def uptoBulkEntry {H : Type} : Lit × DataW H → Nat
  | (.string bytes, d) => bytes.length + uptoBulk d + 1
  | (_, d) => uptoBulk d + 1
 end
def uptoSmall : (H : Type) → List (DataW H) → Bool := fun _ ds => decide (uptoBulkAll ds ≤ 1048576)
def OpenSpec.upto (s : _root_.Go.ChangeSpec) : _root_.Go.OpenSpec := { _root_.Go.OpenSpec.ofChange s with cond := some uptoSmall }

/-- 'laws.FnExactCycleBasis', WHERE WHAT IT READS IS OF BULK AT MOST 1048576: true; the input reads as it did. -/
def fnExactCycleBasisUptoRow : OpenClaim := { program := "ytpgcieefipjjfaa", sum := "127c13e02a990a85a46602e9cc39821df39a56c146994430db8fb02c0dafb1b2", func := "loop.example/g00852/laws.FnExactCycleBasis", spec := "fnExactCycleBasis", unfollowed := true, recurses := true, apart := false, narrowed := true }
def FnExactCycleBasisUptoSaid : Prop := fnExactCycleBasisUptoRow.holds Try.pinned (OpenSpec.upto fnExactCycleBasisSpec)

/-- 'laws.FnExactIsCirculation', WHERE WHAT IT READS IS OF BULK AT MOST 1048576: true; the input reads as it did. -/
def fnExactIsCirculationUptoRow : OpenClaim := { program := "ytpgcieefipjjfaa", sum := "127c13e02a990a85a46602e9cc39821df39a56c146994430db8fb02c0dafb1b2", func := "loop.example/g00852/laws.FnExactIsCirculation", spec := "fnExactIsCirculation", unfollowed := true, recurses := true, apart := false, narrowed := true }
def FnExactIsCirculationUptoSaid : Prop := fnExactIsCirculationUptoRow.holds Try.pinned (OpenSpec.upto fnExactIsCirculationSpec)

/-- 'laws.FnExactFromChords', WHERE WHAT IT READS IS OF BULK AT MOST 1048576: true; the input reads as it did. -/
def fnExactFromChordsUptoRow : OpenClaim := { program := "ytpgcieefipjjfaa", sum := "127c13e02a990a85a46602e9cc39821df39a56c146994430db8fb02c0dafb1b2", func := "loop.example/g00852/laws.FnExactFromChords", spec := "fnExactFromChords", unfollowed := true, recurses := true, apart := false, narrowed := true }
def FnExactFromChordsUptoSaid : Prop := fnExactFromChordsUptoRow.holds Try.pinned (OpenSpec.upto fnExactFromChordsSpec)

/-- 'laws.FnExactIsRelaxed', WHERE WHAT IT READS IS OF BULK AT MOST 1048576: true; the input reads as it did. -/
def fnExactIsRelaxedUptoRow : OpenClaim := { program := "ytpgcieefipjjfaa", sum := "127c13e02a990a85a46602e9cc39821df39a56c146994430db8fb02c0dafb1b2", func := "loop.example/g00852/laws.FnExactIsRelaxed", spec := "fnExactIsRelaxed", unfollowed := true, recurses := true, apart := false, narrowed := true }
def FnExactIsRelaxedUptoSaid : Prop := fnExactIsRelaxedUptoRow.holds Try.pinned (OpenSpec.upto fnExactIsRelaxedSpec)

/-- 'laws.FnBridges', WHERE WHAT IT READS IS OF BULK AT MOST 1048576: true; the input reads as it did. -/
def fnBridgesUptoRow : OpenClaim := { program := "ytpgcieefipjjfaa", sum := "127c13e02a990a85a46602e9cc39821df39a56c146994430db8fb02c0dafb1b2", func := "loop.example/g00852/laws.FnBridges", spec := "fnBridges", unfollowed := true, recurses := true, apart := false, narrowed := true }
def FnBridgesUptoSaid : Prop := fnBridgesUptoRow.holds Try.pinned (OpenSpec.upto fnBridgesSpec)

/-- 'laws.FnCycles', WHERE WHAT IT READS IS OF BULK AT MOST 1048576: true; the input reads as it did. -/
def fnCyclesUptoRow : OpenClaim := { program := "ytpgcieefipjjfaa", sum := "127c13e02a990a85a46602e9cc39821df39a56c146994430db8fb02c0dafb1b2", func := "loop.example/g00852/laws.FnCycles", spec := "fnCycles", unfollowed := true, recurses := true, apart := false, narrowed := true }
def FnCyclesUptoSaid : Prop := fnCyclesUptoRow.holds Try.pinned (OpenSpec.upto fnCyclesSpec)

/-- 'laws.FnCirculations', WHERE WHAT IT READS IS OF BULK AT MOST 1048576: true; the input reads as it did. -/
def fnCirculationsUptoRow : OpenClaim := { program := "ytpgcieefipjjfaa", sum := "127c13e02a990a85a46602e9cc39821df39a56c146994430db8fb02c0dafb1b2", func := "loop.example/g00852/laws.FnCirculations", spec := "fnCirculations", unfollowed := true, recurses := true, apart := false, narrowed := true }
def FnCirculationsUptoSaid : Prop := fnCirculationsUptoRow.holds Try.pinned (OpenSpec.upto fnCirculationsSpec)

/-- 'laws.FnFromChords', WHERE WHAT IT READS IS OF BULK AT MOST 1048576: true; the input reads as it did. -/
def fnFromChordsUptoRow : OpenClaim := { program := "ytpgcieefipjjfaa", sum := "127c13e02a990a85a46602e9cc39821df39a56c146994430db8fb02c0dafb1b2", func := "loop.example/g00852/laws.FnFromChords", spec := "fnFromChords", unfollowed := true, recurses := true, apart := false, narrowed := true }
def FnFromChordsUptoSaid : Prop := fnFromChordsUptoRow.holds Try.pinned (OpenSpec.upto fnFromChordsSpec)

/-- 'laws.FnBalance', WHERE WHAT IT READS IS OF BULK AT MOST 1048576: true; the input reads as it did. -/
def fnBalanceUptoRow : OpenClaim := { program := "ytpgcieefipjjfaa", sum := "127c13e02a990a85a46602e9cc39821df39a56c146994430db8fb02c0dafb1b2", func := "loop.example/g00852/laws.FnBalance", spec := "fnBalance", unfollowed := true, recurses := true, apart := false, narrowed := true }
def FnBalanceUptoSaid : Prop := fnBalanceUptoRow.holds Try.pinned (OpenSpec.upto fnBalanceSpec)

end Rows
end Go.Proofs.Ytpgcieefipjjfaa
