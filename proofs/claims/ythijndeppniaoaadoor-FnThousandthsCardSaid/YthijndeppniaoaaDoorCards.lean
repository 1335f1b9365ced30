/-
  DERIVED. GIVEN WITH THE SEED: THE CARDS: each row of YthijndeppniaoaaDoorRows.lean that lists a variable, with what it lists TIED to the program's text (the seventh form; the later family's looks); each row that meets fmt, with fmt's text TOLD by the authors' own Lean function (tested against real Go, not proved from fmt's source: count such statements apart). THE CARD IS WHAT COUNTS. Prove the row's statement (the work); the ties are given (YthijndeppniaoaaDoorTie.lean); close each card by the builder's one call (the guide's Derived/Test/ToyasCard.lean, 'card_holds'). Laid BY PROGRAM, IN A SANDBOX (cutbox-door.mjs). By AI agents, Wed Nov 11 2026. No macro, syntax, notation, axiom, sorry.
-/
import Derived.Test.YthijndeppniaoaaDoorRows
import GoSem.ClaimSeven
namespace Go.Proofs.YthijndeppniaoaaDoor
namespace Rows

/-- THE TIED CARD OF 'laws.FnThousandths'. -/
def fnThousandthsCard : Claim7 := { stood := { row := fnThousandthsRow, standIns := [], harness := (true, "a2775ea37cefe1865dc7008be8ae0f9c4fc0ea34b96172284c8c277822f43095"), looks := true }, kinds := [], alts := [], laidByText := true, laidKinds := [.data, .data, .data, .sentinel, .sentinel], laidTests := true, laidLooks := .later }
def FnThousandthsCardSaid : Prop := Claim7.holds Tryd.pinned (.plain (OpenSpec.ofChange fnThousandthsSpec)) fnThousandthsCard

/-- THE SECOND FORM's CARD OF 'laws.FnThousandths'. -/
def fnThousandthsUptoCard : Claim7 := { stood := { row := fnThousandthsUptoRow, standIns := [], harness := (true, "a2775ea37cefe1865dc7008be8ae0f9c4fc0ea34b96172284c8c277822f43095"), looks := true }, kinds := [], alts := [], laidByText := true, laidKinds := [.data, .data, .data, .sentinel, .sentinel], laidTests := true, laidLooks := .later }
def FnThousandthsUptoCardSaid : Prop := Claim7.holds Tryd.pinned (.plain (OpenSpec.upto fnThousandthsSpec)) fnThousandthsUptoCard
end Rows
end Go.Proofs.YthijndeppniaoaaDoor
