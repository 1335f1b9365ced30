/-
  What a flow list balances, the specification's, as a slice of the call's own. Conditions: as it states.
-/
import Derived.Test.YtcpglmiboikfmaaRows
import Derived.Test.YtcpglmiboikfmaaCsM
import Derived.StillTailTactics
namespace Go.Proofs.Ytcpglmiboikfmaa.mem
open Go.RowKit
set_option linter.unusedVariables false

end Go.Proofs.Ytcpglmiboikfmaa.mem
