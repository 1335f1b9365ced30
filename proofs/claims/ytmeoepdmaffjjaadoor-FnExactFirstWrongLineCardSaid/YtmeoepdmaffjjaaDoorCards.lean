/-
  DERIVED. GIVEN WITH THE SEED: THE CARDS: each row of YtmeoepdmaffjjaaDoorRows.lean that lists a variable, with what it lists TIED to the program's text (the seventh form; the later family's looks); each row that meets fmt, with fmt's text TOLD by the authors' own Lean function (tested against real Go, not proved from fmt's source: count such statements apart). THE CARD IS WHAT COUNTS. Prove the row's statement (the work); the ties are given (YtmeoepdmaffjjaaDoorTie.lean); close each card by the builder's one call (the guide's Derived/Test/ToyasCard.lean, 'card_holds'). Laid BY PROGRAM, IN A SANDBOX (cutbox-door.mjs). By AI agents, Wed Nov 11 2026. No macro, syntax, notation, axiom, sorry.
-/
import Derived.Test.YtmeoepdmaffjjaaDoorRows
import GoSem.ClaimSeven
namespace Go.Proofs.YtmeoepdmaffjjaaDoor
namespace Rows

/-- THE TIED CARD OF 'laws.FnExactFirstWrongLine'. -/
def fnExactFirstWrongLineCard : Claim7 := { stood := { row := fnExactFirstWrongLineRow, standIns := [], harness := (true, "42ea70023c7b605ac60e3dcdbfc815836d68cd3ddc7b52919f1bfe170ec41505"), looks := true }, kinds := [], alts := [], laidByText := true, laidKinds := [.data, .data, .data, .data, .sentinel, .sentinel, .pinned], laidTests := true, laidLooks := .later }
def FnExactFirstWrongLineCardSaid : Prop := Claim7.holds Tryd.pinned (.plain (OpenSpec.ofChange fnExactFirstWrongLineSpec)) fnExactFirstWrongLineCard

/-- THE TIED CARD OF 'laws.FnWrongLines'. -/
def fnWrongLinesCard : Claim7 := { stood := { row := fnWrongLinesRow, standIns := [], harness := (true, "42ea70023c7b605ac60e3dcdbfc815836d68cd3ddc7b52919f1bfe170ec41505"), looks := true }, kinds := [], alts := [], laidByText := true, laidKinds := [.data, .data, .data, .data, .sentinel, .sentinel, .pinned], laidTests := true, laidLooks := .later }
def FnWrongLinesCardSaid : Prop := Claim7.holds Tryd.pinned (.plain (OpenSpec.ofChange fnWrongLinesSpec)) fnWrongLinesCard

/-- THE SECOND FORM's CARD OF 'laws.FnExactFirstWrongLine'. -/
def fnExactFirstWrongLineUptoCard : Claim7 := { stood := { row := fnExactFirstWrongLineUptoRow, standIns := [], harness := (true, "42ea70023c7b605ac60e3dcdbfc815836d68cd3ddc7b52919f1bfe170ec41505"), looks := true }, kinds := [], alts := [], laidByText := true, laidKinds := [.data, .data, .data, .data, .sentinel, .sentinel, .pinned], laidTests := true, laidLooks := .later }
def FnExactFirstWrongLineUptoCardSaid : Prop := Claim7.holds Tryd.pinned (.plain (OpenSpec.upto fnExactFirstWrongLineSpec)) fnExactFirstWrongLineUptoCard

/-- THE SECOND FORM's CARD OF 'laws.FnWrongLines'. -/
def fnWrongLinesUptoCard : Claim7 := { stood := { row := fnWrongLinesUptoRow, standIns := [], harness := (true, "42ea70023c7b605ac60e3dcdbfc815836d68cd3ddc7b52919f1bfe170ec41505"), looks := true }, kinds := [], alts := [], laidByText := true, laidKinds := [.data, .data, .data, .data, .sentinel, .sentinel, .pinned], laidTests := true, laidLooks := .later }
def FnWrongLinesUptoCardSaid : Prop := Claim7.holds Tryd.pinned (.plain (OpenSpec.upto fnWrongLinesSpec)) fnWrongLinesUptoCard
end Rows
end Go.Proofs.YtmeoepdmaffjjaaDoor
