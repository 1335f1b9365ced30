/-
  No cell of these rows narrows 'for every input' (looked for: loops, veiled, ifaces, maps, wideKeys, modest, calm, conditions, laid).
  DERIVED. THE GIVEN ROWS OF THIS SEAT. 9 by the template 'for every input the law returns true; each argument reads behind the call as it read before'; 0 by the template 'total and deterministic' (their statements: YtpgindeoiibgpaaTotals.lean).
  GIVEN WITH THE SEED: the statements are not yours to turn. If you find one false, say at which input.
  Laid BY PROGRAM, IN A SANDBOX (cutbox-rows.mjs): the forced cells as the released guide's own fill.sh prints them over the translation 28099672b27cc359… (all of the seat's roots in one cut). By AI agents, Wed Nov 11 2026. No macro, syntax, notation, axiom, sorry.
-/
import Derived.Test.YtpgindeoiibgpaaChecked
import GoSem.Claim
import GoSem.ClaimJoined
import GoSem.ClaimMapViews
import Derived.JoinedTies
import Derived.KernelRfl
namespace Go.Proofs.Ytpgindeoiibgpaa
/- THE CELL 'sum', in the pinned program and in every row, IS THE sha256 OF THE DUMP (.gsa) THAT YtpgindeoiibgpaaProg.lean LOADS. Nothing in Lean hashes anything: it is a label: what it is worth is what the hold of that sum in a sandbox is worth. -/
noncomputable def Try.pinned : Pinned := { name := "ytpgindeoiibgpaa", sum := "28099672b27cc35962225eb926ebb696a2aa72c28adbc1101655956e63248ed8", checked := Try.checked }
namespace Rows
def none {H : Type} : Left H := { results := [], args := [] }

/-- 'laws.FnParallel': WHATEVER THE INPUT: true; the input reads as it did. -/
def fnParallelSpec : ChangeSpec := { name := "fnParallel", fn := fun _ => fun
  | [d] => { results := [.lit (.bool true)], args := [d] }
  | _ => none }
def fnParallelRow : OpenClaim := { program := "ytpgindeoiibgpaa", sum := "28099672b27cc35962225eb926ebb696a2aa72c28adbc1101655956e63248ed8", func := "loop.example/g00852/laws.FnParallel", spec := "fnParallel", unfollowed := true, recurses := true, apart := false }
def FnParallelSaid : Prop := fnParallelRow.holds Try.pinned (OpenSpec.ofChange fnParallelSpec)

/-- ITS FALSE NEIGHBOUR: 'it returns false'. Refute it at one input. -/
def fnParallelWrong : ChangeSpec := { name := "fnParallel", fn := fun _ => fun
  | [d] => { results := [.lit (.bool false)], args := [d] }
  | _ => none }
def FnParallelWrongFalsely : Prop := fnParallelRow.holds Try.pinned (OpenSpec.ofChange fnParallelWrong)

/-- 'laws.FnSplits': WHATEVER THE INPUT: true; the input reads as it did. -/
def fnSplitsSpec : ChangeSpec := { name := "fnSplits", fn := fun _ => fun
  | [d] => { results := [.lit (.bool true)], args := [d] }
  | _ => none }
def fnSplitsRow : OpenClaim := { program := "ytpgindeoiibgpaa", sum := "28099672b27cc35962225eb926ebb696a2aa72c28adbc1101655956e63248ed8", func := "loop.example/g00852/laws.FnSplits", spec := "fnSplits", unfollowed := true, recurses := true, apart := false }
def FnSplitsSaid : Prop := fnSplitsRow.holds Try.pinned (OpenSpec.ofChange fnSplitsSpec)

/-- ITS FALSE NEIGHBOUR: 'it returns false'. Refute it at one input. -/
def fnSplitsWrong : ChangeSpec := { name := "fnSplits", fn := fun _ => fun
  | [d] => { results := [.lit (.bool false)], args := [d] }
  | _ => none }
def FnSplitsWrongFalsely : Prop := fnSplitsRow.holds Try.pinned (OpenSpec.ofChange fnSplitsWrong)

/-- 'laws.FnResistances': WHATEVER THE INPUT: true; the input reads as it did. -/
def fnResistancesSpec : ChangeSpec := { name := "fnResistances", fn := fun _ => fun
  | [d] => { results := [.lit (.bool true)], args := [d] }
  | _ => none }
def fnResistancesRow : OpenClaim := { program := "ytpgindeoiibgpaa", sum := "28099672b27cc35962225eb926ebb696a2aa72c28adbc1101655956e63248ed8", func := "loop.example/g00852/laws.FnResistances", spec := "fnResistances", unfollowed := true, recurses := true, apart := false }
def FnResistancesSaid : Prop := fnResistancesRow.holds Try.pinned (OpenSpec.ofChange fnResistancesSpec)

/-- ITS FALSE NEIGHBOUR: 'it returns false'. Refute it at one input. -/
def fnResistancesWrong : ChangeSpec := { name := "fnResistances", fn := fun _ => fun
  | [d] => { results := [.lit (.bool false)], args := [d] }
  | _ => none }
def FnResistancesWrongFalsely : Prop := fnResistancesRow.holds Try.pinned (OpenSpec.ofChange fnResistancesWrong)

/-- 'laws.FnExactSeriesOf': WHATEVER THE INPUT: true; the input reads as it did. -/
def fnExactSeriesOfSpec : ChangeSpec := { name := "fnExactSeriesOf", fn := fun _ => fun
  | [d] => { results := [.lit (.bool true)], args := [d] }
  | _ => none }
def fnExactSeriesOfRow : OpenClaim := { program := "ytpgindeoiibgpaa", sum := "28099672b27cc35962225eb926ebb696a2aa72c28adbc1101655956e63248ed8", func := "loop.example/g00852/laws.FnExactSeriesOf", spec := "fnExactSeriesOf", apart := false }
def FnExactSeriesOfSaid : Prop := fnExactSeriesOfRow.holds Try.pinned (OpenSpec.ofChange fnExactSeriesOfSpec)

/-- ITS FALSE NEIGHBOUR: 'it returns false'. Refute it at one input. -/
def fnExactSeriesOfWrong : ChangeSpec := { name := "fnExactSeriesOf", fn := fun _ => fun
  | [d] => { results := [.lit (.bool false)], args := [d] }
  | _ => none }
def FnExactSeriesOfWrongFalsely : Prop := fnExactSeriesOfRow.holds Try.pinned (OpenSpec.ofChange fnExactSeriesOfWrong)

/-- 'laws.FnExactFlowFor': WHATEVER THE INPUT: true; the input reads as it did. -/
def fnExactFlowForSpec : ChangeSpec := { name := "fnExactFlowFor", fn := fun _ => fun
  | [d1, d2] => { results := [.lit (.bool true)], args := [d1, d2] }
  | _ => none }
def fnExactFlowForRow : OpenClaim := { program := "ytpgindeoiibgpaa", sum := "28099672b27cc35962225eb926ebb696a2aa72c28adbc1101655956e63248ed8", func := "loop.example/g00852/laws.FnExactFlowFor", spec := "fnExactFlowFor", apart := false }
def FnExactFlowForSaid : Prop := fnExactFlowForRow.holds Try.pinned (OpenSpec.ofChange fnExactFlowForSpec)

/-- ITS FALSE NEIGHBOUR: 'it returns false'. Refute it at one input. -/
def fnExactFlowForWrong : ChangeSpec := { name := "fnExactFlowFor", fn := fun _ => fun
  | [d1, d2] => { results := [.lit (.bool false)], args := [d1, d2] }
  | _ => none }
def FnExactFlowForWrongFalsely : Prop := fnExactFlowForRow.holds Try.pinned (OpenSpec.ofChange fnExactFlowForWrong)

/-- 'laws.FnExactParallelFlow': WHATEVER THE INPUT: true; the input reads as it did. -/
def fnExactParallelFlowSpec : ChangeSpec := { name := "fnExactParallelFlow", fn := fun _ => fun
  | [d1, d2] => { results := [.lit (.bool true)], args := [d1, d2] }
  | _ => none }
def fnExactParallelFlowRow : OpenClaim := { program := "ytpgindeoiibgpaa", sum := "28099672b27cc35962225eb926ebb696a2aa72c28adbc1101655956e63248ed8", func := "loop.example/g00852/laws.FnExactParallelFlow", spec := "fnExactParallelFlow", apart := false }
def FnExactParallelFlowSaid : Prop := fnExactParallelFlowRow.holds Try.pinned (OpenSpec.ofChange fnExactParallelFlowSpec)

/-- ITS FALSE NEIGHBOUR: 'it returns false'. Refute it at one input. -/
def fnExactParallelFlowWrong : ChangeSpec := { name := "fnExactParallelFlow", fn := fun _ => fun
  | [d1, d2] => { results := [.lit (.bool false)], args := [d1, d2] }
  | _ => none }
def FnExactParallelFlowWrongFalsely : Prop := fnExactParallelFlowRow.holds Try.pinned (OpenSpec.ofChange fnExactParallelFlowWrong)

/-- 'laws.FnExactDropFor': WHATEVER THE INPUT: true; the input reads as it did. -/
def fnExactDropForSpec : ChangeSpec := { name := "fnExactDropFor", fn := fun _ => fun
  | [d1, d2] => { results := [.lit (.bool true)], args := [d1, d2] }
  | _ => none }
def fnExactDropForRow : OpenClaim := { program := "ytpgindeoiibgpaa", sum := "28099672b27cc35962225eb926ebb696a2aa72c28adbc1101655956e63248ed8", func := "loop.example/g00852/laws.FnExactDropFor", spec := "fnExactDropFor", unfollowed := true, recurses := true, apart := false }
def FnExactDropForSaid : Prop := fnExactDropForRow.holds Try.pinned (OpenSpec.ofChange fnExactDropForSpec)

/-- ITS FALSE NEIGHBOUR: 'it returns false'. Refute it at one input. -/
def fnExactDropForWrong : ChangeSpec := { name := "fnExactDropFor", fn := fun _ => fun
  | [d1, d2] => { results := [.lit (.bool false)], args := [d1, d2] }
  | _ => none }
def FnExactDropForWrongFalsely : Prop := fnExactDropForRow.holds Try.pinned (OpenSpec.ofChange fnExactDropForWrong)

/-- 'laws.FnExactSplitFlow': WHATEVER THE INPUT: true; the input reads as it did. -/
def fnExactSplitFlowSpec : ChangeSpec := { name := "fnExactSplitFlow", fn := fun _ => fun
  | [d1, d2] => { results := [.lit (.bool true)], args := [d1, d2] }
  | _ => none }
def fnExactSplitFlowRow : OpenClaim := { program := "ytpgindeoiibgpaa", sum := "28099672b27cc35962225eb926ebb696a2aa72c28adbc1101655956e63248ed8", func := "loop.example/g00852/laws.FnExactSplitFlow", spec := "fnExactSplitFlow", unfollowed := true, recurses := true, apart := false }
def FnExactSplitFlowSaid : Prop := fnExactSplitFlowRow.holds Try.pinned (OpenSpec.ofChange fnExactSplitFlowSpec)

/-- ITS FALSE NEIGHBOUR: 'it returns false'. Refute it at one input. -/
def fnExactSplitFlowWrong : ChangeSpec := { name := "fnExactSplitFlow", fn := fun _ => fun
  | [d1, d2] => { results := [.lit (.bool false)], args := [d1, d2] }
  | _ => none }
def FnExactSplitFlowWrongFalsely : Prop := fnExactSplitFlowRow.holds Try.pinned (OpenSpec.ofChange fnExactSplitFlowWrong)

/-- 'laws.FnExactBestResistance': WHATEVER THE INPUT: true; the input reads as it did. -/
def fnExactBestResistanceSpec : ChangeSpec := { name := "fnExactBestResistance", fn := fun _ => fun
  | [d1, d2] => { results := [.lit (.bool true)], args := [d1, d2] }
  | _ => none }
def fnExactBestResistanceRow : OpenClaim := { program := "ytpgindeoiibgpaa", sum := "28099672b27cc35962225eb926ebb696a2aa72c28adbc1101655956e63248ed8", func := "loop.example/g00852/laws.FnExactBestResistance", spec := "fnExactBestResistance", unfollowed := true, recurses := true, apart := false }
def FnExactBestResistanceSaid : Prop := fnExactBestResistanceRow.holds Try.pinned (OpenSpec.ofChange fnExactBestResistanceSpec)

/-- ITS FALSE NEIGHBOUR: 'it returns false'. Refute it at one input. -/
def fnExactBestResistanceWrong : ChangeSpec := { name := "fnExactBestResistance", fn := fun _ => fun
  | [d1, d2] => { results := [.lit (.bool false)], args := [d1, d2] }
  | _ => none }
def FnExactBestResistanceWrongFalsely : Prop := fnExactBestResistanceRow.holds Try.pinned (OpenSpec.ofChange fnExactBestResistanceWrong)

/- THE SECOND FORM. 'bulk': how many values and letters a reading holds, each counted each time it is reached (what is shared counts as often as it is met; a slice's spare places count too). A statement '..UptoSaid' is the law's where the arguments, and the package variables that the reading takes, are together of bulk at most 1048576: NARROWER than '..Said'. Prove '..Said' where nothing that the law and all that it calls make is longer than what came in: it says more and counts as full. Else prove '..UptoSaid'. A law counts once. -/
mutual
def uptoBulk {H : Type} : DataW H → Nat
  | .lit (.string bytes) => bytes.length + 1
  | .lit _ => 1
  | .nil => 1
  | .ptr d => uptoBulk d + 1
  | .slice elems spare => uptoBulkAll elems + uptoBulkAll spare + 1
  | .agg parts => uptoBulkAll parts + 1
  | .iface _ d => uptoBulk d + 1
  | .map entries => uptoBulkEntries entries + 1
  | .held _ => 1
def uptoBulkAll {H : Type} : List (DataW H) → Nat
  | [] => 0
  | d :: r => uptoBulk d + uptoBulkAll r
def uptoBulkEntries {H : Type} : List (Lit × DataW H) → Nat
  | [] => 0
  | x :: r => uptoBulkEntry x + uptoBulkEntries r
def uptoBulkEntry {H : Type} : Lit × DataW H → Nat
  | (.string bytes, d) => bytes.length + uptoBulk d + 1
  | (_, d) => uptoBulk d + 1
 end
def uptoSmall : (H : Type) → List (DataW H) → Bool := fun _ ds => decide (uptoBulkAll ds ≤ 1048576)
def OpenSpec.upto (s : _root_.Go.ChangeSpec) : _root_.Go.OpenSpec := { _root_.Go.OpenSpec.ofChange s with cond := some uptoSmall }

/-- 'laws.FnParallel', WHERE WHAT IT READS IS OF BULK AT MOST 1048576: true; the input reads as it did. -/
def fnParallelUptoRow : OpenClaim := { program := "ytpgindeoiibgpaa", sum := "28099672b27cc35962225eb926ebb696a2aa72c28adbc1101655956e63248ed8", func := "loop.example/g00852/laws.FnParallel", spec := "fnParallel", unfollowed := true, recurses := true, apart := false, narrowed := true }
def FnParallelUptoSaid : Prop := fnParallelUptoRow.holds Try.pinned (OpenSpec.upto fnParallelSpec)

/-- 'laws.FnSplits', WHERE WHAT IT READS IS OF BULK AT MOST 1048576: true; the input reads as it did. -/
def fnSplitsUptoRow : OpenClaim := { program := "ytpgindeoiibgpaa", sum := "28099672b27cc35962225eb926ebb696a2aa72c28adbc1101655956e63248ed8", func := "loop.example/g00852/laws.FnSplits", spec := "fnSplits", unfollowed := true, recurses := true, apart := false, narrowed := true }
def FnSplitsUptoSaid : Prop := fnSplitsUptoRow.holds Try.pinned (OpenSpec.upto fnSplitsSpec)

/-- 'laws.FnResistances', WHERE WHAT IT READS IS OF BULK AT MOST 1048576: true; the input reads as it did. -/
def fnResistancesUptoRow : OpenClaim := { program := "ytpgindeoiibgpaa", sum := "28099672b27cc35962225eb926ebb696a2aa72c28adbc1101655956e63248ed8", func := "loop.example/g00852/laws.FnResistances", spec := "fnResistances", unfollowed := true, recurses := true, apart := false, narrowed := true }
def FnResistancesUptoSaid : Prop := fnResistancesUptoRow.holds Try.pinned (OpenSpec.upto fnResistancesSpec)

/-- 'laws.FnExactSeriesOf', WHERE WHAT IT READS IS OF BULK AT MOST 1048576: true; the input reads as it did. -/
def fnExactSeriesOfUptoRow : OpenClaim := { program := "ytpgindeoiibgpaa", sum := "28099672b27cc35962225eb926ebb696a2aa72c28adbc1101655956e63248ed8", func := "loop.example/g00852/laws.FnExactSeriesOf", spec := "fnExactSeriesOf", apart := false, narrowed := true }
def FnExactSeriesOfUptoSaid : Prop := fnExactSeriesOfUptoRow.holds Try.pinned (OpenSpec.upto fnExactSeriesOfSpec)

/-- 'laws.FnExactFlowFor', WHERE WHAT IT READS IS OF BULK AT MOST 1048576: true; the input reads as it did. -/
def fnExactFlowForUptoRow : OpenClaim := { program := "ytpgindeoiibgpaa", sum := "28099672b27cc35962225eb926ebb696a2aa72c28adbc1101655956e63248ed8", func := "loop.example/g00852/laws.FnExactFlowFor", spec := "fnExactFlowFor", apart := false, narrowed := true }
def FnExactFlowForUptoSaid : Prop := fnExactFlowForUptoRow.holds Try.pinned (OpenSpec.upto fnExactFlowForSpec)

/-- 'laws.FnExactParallelFlow', WHERE WHAT IT READS IS OF BULK AT MOST 1048576: true; the input reads as it did. -/
def fnExactParallelFlowUptoRow : OpenClaim := { program := "ytpgindeoiibgpaa", sum := "28099672b27cc35962225eb926ebb696a2aa72c28adbc1101655956e63248ed8", func := "loop.example/g00852/laws.FnExactParallelFlow", spec := "fnExactParallelFlow", apart := false, narrowed := true }
def FnExactParallelFlowUptoSaid : Prop := fnExactParallelFlowUptoRow.holds Try.pinned (OpenSpec.upto fnExactParallelFlowSpec)

/-- 'laws.FnExactDropFor', WHERE WHAT IT READS IS OF BULK AT MOST 1048576: true; the input reads as it did. -/
def fnExactDropForUptoRow : OpenClaim := { program := "ytpgindeoiibgpaa", sum := "28099672b27cc35962225eb926ebb696a2aa72c28adbc1101655956e63248ed8", func := "loop.example/g00852/laws.FnExactDropFor", spec := "fnExactDropFor", unfollowed := true, recurses := true, apart := false, narrowed := true }
def FnExactDropForUptoSaid : Prop := fnExactDropForUptoRow.holds Try.pinned (OpenSpec.upto fnExactDropForSpec)

/-- 'laws.FnExactSplitFlow', WHERE WHAT IT READS IS OF BULK AT MOST 1048576: true; the input reads as it did. -/
def fnExactSplitFlowUptoRow : OpenClaim := { program := "ytpgindeoiibgpaa", sum := "28099672b27cc35962225eb926ebb696a2aa72c28adbc1101655956e63248ed8", func := "loop.example/g00852/laws.FnExactSplitFlow", spec := "fnExactSplitFlow", unfollowed := true, recurses := true, apart := false, narrowed := true }
def FnExactSplitFlowUptoSaid : Prop := fnExactSplitFlowUptoRow.holds Try.pinned (OpenSpec.upto fnExactSplitFlowSpec)

/-- 'laws.FnExactBestResistance', WHERE WHAT IT READS IS OF BULK AT MOST 1048576: true; the input reads as it did. -/
def fnExactBestResistanceUptoRow : OpenClaim := { program := "ytpgindeoiibgpaa", sum := "28099672b27cc35962225eb926ebb696a2aa72c28adbc1101655956e63248ed8", func := "loop.example/g00852/laws.FnExactBestResistance", spec := "fnExactBestResistance", unfollowed := true, recurses := true, apart := false, narrowed := true }
def FnExactBestResistanceUptoSaid : Prop := fnExactBestResistanceUptoRow.holds Try.pinned (OpenSpec.upto fnExactBestResistanceSpec)

end Rows
end Go.Proofs.Ytpgindeoiibgpaa
