/-
  DERIVED. GIVEN WITH THE SEED: THE CARDS: each row of YthijndeppniaoabDoorRows.lean that lists a variable, with what it lists TIED to the program's text (the seventh form; the later family's looks); each row that meets fmt, with fmt's text TOLD by the authors' own Lean function (tested against real Go, not proved from fmt's source: count such statements apart). THE CARD IS WHAT COUNTS. Prove the row's statement (the work); the ties are given (YthijndeppniaoabDoorTie.lean); close each card by the builder's one call (the guide's Derived/Test/ToyasCard.lean, 'card_holds'). Laid BY PROGRAM, IN A SANDBOX (cutbox-door.mjs). By AI agents, Wed Nov 11 2026. No macro, syntax, notation, axiom, sorry.
-/
import Derived.Test.YthijndeppniaoabDoorRows
import GoSem.ClaimSeven
namespace Go.Proofs.YthijndeppniaoabDoor
namespace Rows

/-- THE TIED CARD OF 'laws.FnExactThousandthsText'. -/
def fnExactThousandthsTextCard : Claim7 := { stood := { row := fnExactThousandthsTextRow, standIns := [], harness := (true, "b678475493b34c222a7075fa9acf699d0875cc6429324fda3ea22b0bb3024521"), looks := true }, kinds := [], alts := [], laidByText := true, laidKinds := [.data, .data, .data], laidTests := true, laidLooks := .later }
def FnExactThousandthsTextCardSaid : Prop := Claim7.holds Tryd.pinned (.plain (OpenSpec.ofChange fnExactThousandthsTextSpec)) fnExactThousandthsTextCard

/-- THE TIED CARD OF 'laws.FnExactReadThousandths'. -/
def fnExactReadThousandthsCard : Claim7 := { stood := { row := fnExactReadThousandthsRow, standIns := [], harness := (true, "b678475493b34c222a7075fa9acf699d0875cc6429324fda3ea22b0bb3024521"), looks := true }, kinds := [], alts := [], laidByText := true, laidKinds := [.data, .data, .data, .sentinel, .sentinel], laidTests := true, laidLooks := .later }
def FnExactReadThousandthsCardSaid : Prop := Claim7.holds Tryd.pinned (.plain (OpenSpec.ofChange fnExactReadThousandthsSpec)) fnExactReadThousandthsCard

/-- THE SECOND FORM's CARD OF 'laws.FnExactThousandthsText'. -/
def fnExactThousandthsTextUptoCard : Claim7 := { stood := { row := fnExactThousandthsTextUptoRow, standIns := [], harness := (true, "b678475493b34c222a7075fa9acf699d0875cc6429324fda3ea22b0bb3024521"), looks := true }, kinds := [], alts := [], laidByText := true, laidKinds := [.data, .data, .data], laidTests := true, laidLooks := .later }
def FnExactThousandthsTextUptoCardSaid : Prop := Claim7.holds Tryd.pinned (.plain (OpenSpec.upto fnExactThousandthsTextSpec)) fnExactThousandthsTextUptoCard

/-- THE SECOND FORM's CARD OF 'laws.FnExactReadThousandths'. -/
def fnExactReadThousandthsUptoCard : Claim7 := { stood := { row := fnExactReadThousandthsUptoRow, standIns := [], harness := (true, "b678475493b34c222a7075fa9acf699d0875cc6429324fda3ea22b0bb3024521"), looks := true }, kinds := [], alts := [], laidByText := true, laidKinds := [.data, .data, .data, .sentinel, .sentinel], laidTests := true, laidLooks := .later }
def FnExactReadThousandthsUptoCardSaid : Prop := Claim7.holds Tryd.pinned (.plain (OpenSpec.upto fnExactReadThousandthsSpec)) fnExactReadThousandthsUptoCard
end Rows
end Go.Proofs.YthijndeppniaoabDoor
