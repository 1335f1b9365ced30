/-
  DERIVED. GIVEN WITH THE SEED: THE CARDS: each row of YtemjeoelglkhkaaDoorRows.lean that lists a variable, with what it lists TIED to the program's text (the seventh form; the later family's looks); each row that meets fmt, with fmt's text TOLD by the authors' own Lean function (tested against real Go, not proved from fmt's source: count such statements apart). THE CARD IS WHAT COUNTS. Prove the row's statement (the work); the ties are given (YtemjeoelglkhkaaDoorTie.lean); close each card by the builder's one call (the guide's Derived/Test/ToyasCard.lean, 'card_holds'). Laid BY PROGRAM, IN A SANDBOX (cutbox-door.mjs). By AI agents, Wed Nov 11 2026. No macro, syntax, notation, axiom, sorry.
-/
import Derived.Test.YtemjeoelglkhkaaDoorRows
import GoSem.ClaimSeven
namespace Go.Proofs.YtemjeoelglkhkaaDoor
namespace Rows

/-- THE TIED CARD OF 'laws.FnExactNodeLine'. -/
def fnExactNodeLineCard : Claim7 := { stood := { row := fnExactNodeLineRow, standIns := [], harness := (true, "8eb003e5a5fa7a4256ad223a29f59ad2b2e0f60bc3a1a40e177e5d446b05c48c"), looks := true }, kinds := [], alts := [], laidByText := true, laidKinds := [.data, .data, .data], laidTests := true, laidLooks := .later }
def FnExactNodeLineCardSaid : Prop := Claim7.holds Tryd.pinned (.plain (OpenSpec.ofChange fnExactNodeLineSpec)) fnExactNodeLineCard

/-- THE TIED CARD OF 'laws.FnExactPipeLine'. -/
def fnExactPipeLineCard : Claim7 := { stood := { row := fnExactPipeLineRow, standIns := [], harness := (true, "8eb003e5a5fa7a4256ad223a29f59ad2b2e0f60bc3a1a40e177e5d446b05c48c"), looks := true }, kinds := [], alts := [], laidByText := true, laidKinds := [.data, .data, .data], laidTests := true, laidLooks := .later }
def FnExactPipeLineCardSaid : Prop := Claim7.holds Tryd.pinned (.plain (OpenSpec.ofChange fnExactPipeLineSpec)) fnExactPipeLineCard

/-- THE TIED CARD OF 'laws.FnExactNetworkText'. -/
def fnExactNetworkTextCard : Claim7 := { stood := { row := fnExactNetworkTextRow, standIns := [], harness := (true, "8eb003e5a5fa7a4256ad223a29f59ad2b2e0f60bc3a1a40e177e5d446b05c48c"), looks := true }, kinds := [], alts := [], laidByText := true, laidKinds := [.data, .data, .data], laidTests := true, laidLooks := .later }
def FnExactNetworkTextCardSaid : Prop := Claim7.holds Tryd.pinned (.plain (OpenSpec.ofChange fnExactNetworkTextSpec)) fnExactNetworkTextCard

/-- THE TIED CARD OF 'laws.FnExactReadNodeLine'. -/
def fnExactReadNodeLineCard : Claim7 := { stood := { row := fnExactReadNodeLineRow, standIns := [], harness := (true, "8eb003e5a5fa7a4256ad223a29f59ad2b2e0f60bc3a1a40e177e5d446b05c48c"), looks := true }, kinds := [], alts := [], laidByText := true, laidKinds := [.data, .data, .data, .data, .sentinel, .sentinel, .pinned], laidTests := true, laidLooks := .later }
def FnExactReadNodeLineCardSaid : Prop := Claim7.holds Tryd.pinned (.plain (OpenSpec.ofChange fnExactReadNodeLineSpec)) fnExactReadNodeLineCard

/-- THE TIED CARD OF 'laws.FnExactFirstWrongLine'. -/
def fnExactFirstWrongLineCard : Claim7 := { stood := { row := fnExactFirstWrongLineRow, standIns := [], harness := (true, "8eb003e5a5fa7a4256ad223a29f59ad2b2e0f60bc3a1a40e177e5d446b05c48c"), looks := true }, kinds := [], alts := [], laidByText := true, laidKinds := [.data, .data, .data, .data, .sentinel, .sentinel, .pinned], laidTests := true, laidLooks := .later }
def FnExactFirstWrongLineCardSaid : Prop := Claim7.holds Tryd.pinned (.plain (OpenSpec.ofChange fnExactFirstWrongLineSpec)) fnExactFirstWrongLineCard

/-- THE TIED CARD OF 'laws.FnWrongLines'. -/
def fnWrongLinesCard : Claim7 := { stood := { row := fnWrongLinesRow, standIns := [], harness := (true, "8eb003e5a5fa7a4256ad223a29f59ad2b2e0f60bc3a1a40e177e5d446b05c48c"), looks := true }, kinds := [], alts := [], laidByText := true, laidKinds := [.data, .data, .data, .data, .sentinel, .sentinel, .pinned], laidTests := true, laidLooks := .later }
def FnWrongLinesCardSaid : Prop := Claim7.holds Tryd.pinned (.plain (OpenSpec.ofChange fnWrongLinesSpec)) fnWrongLinesCard

/-- THE SECOND FORM's CARD OF 'laws.FnExactNodeLine'. -/
def fnExactNodeLineUptoCard : Claim7 := { stood := { row := fnExactNodeLineUptoRow, standIns := [], harness := (true, "8eb003e5a5fa7a4256ad223a29f59ad2b2e0f60bc3a1a40e177e5d446b05c48c"), looks := true }, kinds := [], alts := [], laidByText := true, laidKinds := [.data, .data, .data], laidTests := true, laidLooks := .later }
def FnExactNodeLineUptoCardSaid : Prop := Claim7.holds Tryd.pinned (.plain (OpenSpec.upto fnExactNodeLineSpec)) fnExactNodeLineUptoCard

/-- THE SECOND FORM's CARD OF 'laws.FnExactPipeLine'. -/
def fnExactPipeLineUptoCard : Claim7 := { stood := { row := fnExactPipeLineUptoRow, standIns := [], harness := (true, "8eb003e5a5fa7a4256ad223a29f59ad2b2e0f60bc3a1a40e177e5d446b05c48c"), looks := true }, kinds := [], alts := [], laidByText := true, laidKinds := [.data, .data, .data], laidTests := true, laidLooks := .later }
def FnExactPipeLineUptoCardSaid : Prop := Claim7.holds Tryd.pinned (.plain (OpenSpec.upto fnExactPipeLineSpec)) fnExactPipeLineUptoCard

/-- THE SECOND FORM's CARD OF 'laws.FnExactNetworkText'. -/
def fnExactNetworkTextUptoCard : Claim7 := { stood := { row := fnExactNetworkTextUptoRow, standIns := [], harness := (true, "8eb003e5a5fa7a4256ad223a29f59ad2b2e0f60bc3a1a40e177e5d446b05c48c"), looks := true }, kinds := [], alts := [], laidByText := true, laidKinds := [.data, .data, .data], laidTests := true, laidLooks := .later }
def FnExactNetworkTextUptoCardSaid : Prop := Claim7.holds Tryd.pinned (.plain (OpenSpec.upto fnExactNetworkTextSpec)) fnExactNetworkTextUptoCard

/-- THE SECOND FORM's CARD OF 'laws.FnExactReadNodeLine'. -/
def fnExactReadNodeLineUptoCard : Claim7 := { stood := { row := fnExactReadNodeLineUptoRow, standIns := [], harness := (true, "8eb003e5a5fa7a4256ad223a29f59ad2b2e0f60bc3a1a40e177e5d446b05c48c"), looks := true }, kinds := [], alts := [], laidByText := true, laidKinds := [.data, .data, .data, .data, .sentinel, .sentinel, .pinned], laidTests := true, laidLooks := .later }
def FnExactReadNodeLineUptoCardSaid : Prop := Claim7.holds Tryd.pinned (.plain (OpenSpec.upto fnExactReadNodeLineSpec)) fnExactReadNodeLineUptoCard

/-- THE SECOND FORM's CARD OF 'laws.FnExactFirstWrongLine'. -/
def fnExactFirstWrongLineUptoCard : Claim7 := { stood := { row := fnExactFirstWrongLineUptoRow, standIns := [], harness := (true, "8eb003e5a5fa7a4256ad223a29f59ad2b2e0f60bc3a1a40e177e5d446b05c48c"), looks := true }, kinds := [], alts := [], laidByText := true, laidKinds := [.data, .data, .data, .data, .sentinel, .sentinel, .pinned], laidTests := true, laidLooks := .later }
def FnExactFirstWrongLineUptoCardSaid : Prop := Claim7.holds Tryd.pinned (.plain (OpenSpec.upto fnExactFirstWrongLineSpec)) fnExactFirstWrongLineUptoCard

/-- THE SECOND FORM's CARD OF 'laws.FnWrongLines'. -/
def fnWrongLinesUptoCard : Claim7 := { stood := { row := fnWrongLinesUptoRow, standIns := [], harness := (true, "8eb003e5a5fa7a4256ad223a29f59ad2b2e0f60bc3a1a40e177e5d446b05c48c"), looks := true }, kinds := [], alts := [], laidByText := true, laidKinds := [.data, .data, .data, .data, .sentinel, .sentinel, .pinned], laidTests := true, laidLooks := .later }
def FnWrongLinesUptoCardSaid : Prop := Claim7.holds Tryd.pinned (.plain (OpenSpec.upto fnWrongLinesSpec)) fnWrongLinesUptoCard
end Rows
end Go.Proofs.YtemjeoelglkhkaaDoor
