/-
  No cell of these rows narrows 'for every input' (looked for: loops, veiled, ifaces, maps, wideKeys, modest, calm, conditions, laid).
  DERIVED. THE GIVEN ROWS OF THIS SEAT. 6 by the template 'for every input the law returns true; each argument reads behind the call as it read before'; 0 by the template 'total and deterministic' (their statements: YtdmcggnhnkaoeaaTotals.lean).
  GIVEN WITH THE SEED: the statements are not yours to turn. If you find one false, say at which input.
  Laid BY PROGRAM, IN A SANDBOX (cutbox-rows.mjs): the forced cells as the released guide's own fill.sh prints them over the translation 28fb6392caeb1362… (all of the seat's roots in one cut). By AI agents, Wed Nov 11 2026. No macro, syntax, notation, axiom, sorry.
-/
import Derived.Test.YtdmcggnhnkaoeaaChecked
import GoSem.Claim
import GoSem.ClaimJoined
import GoSem.ClaimMapViews
import Derived.JoinedTies
import Derived.KernelRfl
namespace Go.Proofs.Ytdmcggnhnkaoeaa
/- THE CELL 'sum', in the pinned program and in every row, IS THE sha256 OF THE DUMP (.gsa) THAT YtdmcggnhnkaoeaaProg.lean LOADS. Nothing in Lean hashes anything: it is a label: what it is worth is what the hold of that sum in a sandbox is worth. -/
noncomputable def Try.pinned : Pinned := { name := "ytdmcggnhnkaoeaa", sum := "28fb6392caeb1362cf767c08c18a5b1825f29363116a18c7f11328868807b968", checked := Try.checked }
namespace Rows
def none {H : Type} : Left H := { results := [], args := [] }

/-- 'laws.FnTurnedPipes': WHATEVER THE INPUT: true; the input reads as it did. -/
def fnTurnedPipesSpec : ChangeSpec := { name := "fnTurnedPipes", fn := fun _ => fun
  | [d] => { results := [.lit (.bool true)], args := [d] }
  | _ => none }
def fnTurnedPipesRow : OpenClaim := { program := "ytdmcggnhnkaoeaa", sum := "28fb6392caeb1362cf767c08c18a5b1825f29363116a18c7f11328868807b968", func := "loop.example/g00852/laws.FnTurnedPipes", spec := "fnTurnedPipes", recurses := true, apart := false }
def FnTurnedPipesSaid : Prop := fnTurnedPipesRow.holds Try.pinned (OpenSpec.ofChange fnTurnedPipesSpec)

/-- ITS FALSE NEIGHBOUR: 'it returns false'. Refute it at one input. -/
def fnTurnedPipesWrong : ChangeSpec := { name := "fnTurnedPipes", fn := fun _ => fun
  | [d] => { results := [.lit (.bool false)], args := [d] }
  | _ => none }
def FnTurnedPipesWrongFalsely : Prop := fnTurnedPipesRow.holds Try.pinned (OpenSpec.ofChange fnTurnedPipesWrong)

/-- 'laws.FnPipeEnds': WHATEVER THE INPUT: true; the input reads as it did. -/
def fnPipeEndsSpec : ChangeSpec := { name := "fnPipeEnds", fn := fun _ => fun
  | [d] => { results := [.lit (.bool true)], args := [d] }
  | _ => none }
def fnPipeEndsRow : OpenClaim := { program := "ytdmcggnhnkaoeaa", sum := "28fb6392caeb1362cf767c08c18a5b1825f29363116a18c7f11328868807b968", func := "loop.example/g00852/laws.FnPipeEnds", spec := "fnPipeEnds", recurses := true, apart := false }
def FnPipeEndsSaid : Prop := fnPipeEndsRow.holds Try.pinned (OpenSpec.ofChange fnPipeEndsSpec)

/-- ITS FALSE NEIGHBOUR: 'it returns false'. Refute it at one input. -/
def fnPipeEndsWrong : ChangeSpec := { name := "fnPipeEnds", fn := fun _ => fun
  | [d] => { results := [.lit (.bool false)], args := [d] }
  | _ => none }
def FnPipeEndsWrongFalsely : Prop := fnPipeEndsRow.holds Try.pinned (OpenSpec.ofChange fnPipeEndsWrong)

/-- 'laws.FnNeighbours': WHATEVER THE INPUT: true; the input reads as it did. -/
def fnNeighboursSpec : ChangeSpec := { name := "fnNeighbours", fn := fun _ => fun
  | [d] => { results := [.lit (.bool true)], args := [d] }
  | _ => none }
def fnNeighboursRow : OpenClaim := { program := "ytdmcggnhnkaoeaa", sum := "28fb6392caeb1362cf767c08c18a5b1825f29363116a18c7f11328868807b968", func := "loop.example/g00852/laws.FnNeighbours", spec := "fnNeighbours", recurses := true, apart := false }
def FnNeighboursSaid : Prop := fnNeighboursRow.holds Try.pinned (OpenSpec.ofChange fnNeighboursSpec)

/-- ITS FALSE NEIGHBOUR: 'it returns false'. Refute it at one input. -/
def fnNeighboursWrong : ChangeSpec := { name := "fnNeighbours", fn := fun _ => fun
  | [d] => { results := [.lit (.bool false)], args := [d] }
  | _ => none }
def FnNeighboursWrongFalsely : Prop := fnNeighboursRow.holds Try.pinned (OpenSpec.ofChange fnNeighboursWrong)

/-- 'laws.FnNames': WHATEVER THE INPUT: true; the input reads as it did. -/
def fnNamesSpec : ChangeSpec := { name := "fnNames", fn := fun _ => fun
  | [d] => { results := [.lit (.bool true)], args := [d] }
  | _ => none }
def fnNamesRow : OpenClaim := { program := "ytdmcggnhnkaoeaa", sum := "28fb6392caeb1362cf767c08c18a5b1825f29363116a18c7f11328868807b968", func := "loop.example/g00852/laws.FnNames", spec := "fnNames", recurses := true, apart := false }
def FnNamesSaid : Prop := fnNamesRow.holds Try.pinned (OpenSpec.ofChange fnNamesSpec)

/-- ITS FALSE NEIGHBOUR: 'it returns false'. Refute it at one input. -/
def fnNamesWrong : ChangeSpec := { name := "fnNames", fn := fun _ => fun
  | [d] => { results := [.lit (.bool false)], args := [d] }
  | _ => none }
def FnNamesWrongFalsely : Prop := fnNamesRow.holds Try.pinned (OpenSpec.ofChange fnNamesWrong)

/-- 'laws.FnExactRenameNode': WHATEVER THE INPUT: true; the input reads as it did. -/
def fnExactRenameNodeSpec : ChangeSpec := { name := "fnExactRenameNode", fn := fun _ => fun
  | [d1, d2, d3] => { results := [.lit (.bool true)], args := [d1, d2, d3] }
  | _ => none }
def fnExactRenameNodeRow : OpenClaim := { program := "ytdmcggnhnkaoeaa", sum := "28fb6392caeb1362cf767c08c18a5b1825f29363116a18c7f11328868807b968", func := "loop.example/g00852/laws.FnExactRenameNode", spec := "fnExactRenameNode", apart := false }
def FnExactRenameNodeSaid : Prop := fnExactRenameNodeRow.holds Try.pinned (OpenSpec.ofChange fnExactRenameNodeSpec)

/-- ITS FALSE NEIGHBOUR: 'it returns false'. Refute it at one input. -/
def fnExactRenameNodeWrong : ChangeSpec := { name := "fnExactRenameNode", fn := fun _ => fun
  | [d1, d2, d3] => { results := [.lit (.bool false)], args := [d1, d2, d3] }
  | _ => none }
def FnExactRenameNodeWrongFalsely : Prop := fnExactRenameNodeRow.holds Try.pinned (OpenSpec.ofChange fnExactRenameNodeWrong)

/-- 'laws.FnShares': WHATEVER THE INPUT: true; the input reads as it did. -/
def fnSharesSpec : ChangeSpec := { name := "fnShares", fn := fun _ => fun
  | [d] => { results := [.lit (.bool true)], args := [d] }
  | _ => none }
def fnSharesRow : OpenClaim := { program := "ytdmcggnhnkaoeaa", sum := "28fb6392caeb1362cf767c08c18a5b1825f29363116a18c7f11328868807b968", func := "loop.example/g00852/laws.FnShares", spec := "fnShares", unfollowed := true, recurses := true, apart := false }
def FnSharesSaid : Prop := fnSharesRow.holds Try.pinned (OpenSpec.ofChange fnSharesSpec)

/-- ITS FALSE NEIGHBOUR: 'it returns false'. Refute it at one input. -/
def fnSharesWrong : ChangeSpec := { name := "fnShares", fn := fun _ => fun
  | [d] => { results := [.lit (.bool false)], args := [d] }
  | _ => none }
def FnSharesWrongFalsely : Prop := fnSharesRow.holds Try.pinned (OpenSpec.ofChange fnSharesWrong)

/- THE SECOND FORM. 'bulk': how many values and letters a reading holds, each counted each time it is reached (what is shared counts as often as it is met; a slice's spare places count too). A statement '..UptoSaid' is the law's where the arguments, and the package variables that the reading takes, are together of bulk at most 1048576: NARROWER than '..Said'. Prove '..Said' where nothing that the law and all that it calls make is longer than what came in: it says more and counts as full. Else prove '..UptoSaid'. A law counts once. -/
mutual
def uptoBulk {H : Type} : DataW H → Nat
  | .lit (.string bytes) => bytes.length + 1
  | .lit _ => 1
  | .nil => 1
  | .ptr d => uptoBulk d + 1
  | .slice elems spare => uptoBulkAll elems + uptoBulkAll spare + 1
  | .agg parts => uptoBulkAll parts + 1
  | .iface _ d => uptoBulk d + 1
  | .map entries => uptoBulkEntries entries + 1
  | .held _ => 1
def uptoBulkAll {H : Type} : List (DataW H) → Nat
  | [] => 0
  | d :: r => uptoBulk d + uptoBulkAll r
def uptoBulkEntries {H : Type} : List (Lit × DataW H) → Nat
  | [] => 0
  | x :: r => uptoBulkEntry x + uptoBulkEntries r
def uptoBulkEntry {H : Type} : Lit × DataW H → Nat
  | (.string bytes, d) => bytes.length + uptoBulk d + 1
  | (_, d) => uptoBulk d + 1
 end
def uptoSmall : (H : Type) → List (DataW H) → Bool := fun _ ds => decide (uptoBulkAll ds ≤ 1048576)
def OpenSpec.upto (s : _root_.Go.ChangeSpec) : _root_.Go.OpenSpec := { _root_.Go.OpenSpec.ofChange s with cond := some uptoSmall }

/-- 'laws.FnTurnedPipes', WHERE WHAT IT READS IS OF BULK AT MOST 1048576: true; the input reads as it did. -/
def fnTurnedPipesUptoRow : OpenClaim := { program := "ytdmcggnhnkaoeaa", sum := "28fb6392caeb1362cf767c08c18a5b1825f29363116a18c7f11328868807b968", func := "loop.example/g00852/laws.FnTurnedPipes", spec := "fnTurnedPipes", recurses := true, apart := false, narrowed := true }
def FnTurnedPipesUptoSaid : Prop := fnTurnedPipesUptoRow.holds Try.pinned (OpenSpec.upto fnTurnedPipesSpec)

/-- 'laws.FnPipeEnds', WHERE WHAT IT READS IS OF BULK AT MOST 1048576: true; the input reads as it did. -/
def fnPipeEndsUptoRow : OpenClaim := { program := "ytdmcggnhnkaoeaa", sum := "28fb6392caeb1362cf767c08c18a5b1825f29363116a18c7f11328868807b968", func := "loop.example/g00852/laws.FnPipeEnds", spec := "fnPipeEnds", recurses := true, apart := false, narrowed := true }
def FnPipeEndsUptoSaid : Prop := fnPipeEndsUptoRow.holds Try.pinned (OpenSpec.upto fnPipeEndsSpec)

/-- 'laws.FnNeighbours', WHERE WHAT IT READS IS OF BULK AT MOST 1048576: true; the input reads as it did. -/
def fnNeighboursUptoRow : OpenClaim := { program := "ytdmcggnhnkaoeaa", sum := "28fb6392caeb1362cf767c08c18a5b1825f29363116a18c7f11328868807b968", func := "loop.example/g00852/laws.FnNeighbours", spec := "fnNeighbours", recurses := true, apart := false, narrowed := true }
def FnNeighboursUptoSaid : Prop := fnNeighboursUptoRow.holds Try.pinned (OpenSpec.upto fnNeighboursSpec)

/-- 'laws.FnNames', WHERE WHAT IT READS IS OF BULK AT MOST 1048576: true; the input reads as it did. -/
def fnNamesUptoRow : OpenClaim := { program := "ytdmcggnhnkaoeaa", sum := "28fb6392caeb1362cf767c08c18a5b1825f29363116a18c7f11328868807b968", func := "loop.example/g00852/laws.FnNames", spec := "fnNames", recurses := true, apart := false, narrowed := true }
def FnNamesUptoSaid : Prop := fnNamesUptoRow.holds Try.pinned (OpenSpec.upto fnNamesSpec)

/-- 'laws.FnExactRenameNode', WHERE WHAT IT READS IS OF BULK AT MOST 1048576: true; the input reads as it did. -/
def fnExactRenameNodeUptoRow : OpenClaim := { program := "ytdmcggnhnkaoeaa", sum := "28fb6392caeb1362cf767c08c18a5b1825f29363116a18c7f11328868807b968", func := "loop.example/g00852/laws.FnExactRenameNode", spec := "fnExactRenameNode", apart := false, narrowed := true }
def FnExactRenameNodeUptoSaid : Prop := fnExactRenameNodeUptoRow.holds Try.pinned (OpenSpec.upto fnExactRenameNodeSpec)

/-- 'laws.FnShares', WHERE WHAT IT READS IS OF BULK AT MOST 1048576: true; the input reads as it did. -/
def fnSharesUptoRow : OpenClaim := { program := "ytdmcggnhnkaoeaa", sum := "28fb6392caeb1362cf767c08c18a5b1825f29363116a18c7f11328868807b968", func := "loop.example/g00852/laws.FnShares", spec := "fnShares", unfollowed := true, recurses := true, apart := false, narrowed := true }
def FnSharesUptoSaid : Prop := fnSharesUptoRow.holds Try.pinned (OpenSpec.upto fnSharesSpec)

end Rows
end Go.Proofs.Ytdmcggnhnkaoeaa
