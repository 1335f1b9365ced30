/-
  The library's Min and Index over a list of numbers of one's own. Conditions: as each states.
-/
import Derived.Test.YtlcegdamjbpfpaaGreatRows
import Derived.Test.YtlcegdamjbpfpaaGreatLvd
namespace Go.Proofs.YtlcegdamjbpfpaaGreat.mem
open Go.RowKit
set_option linter.unusedVariables false

end Go.Proofs.YtlcegdamjbpfpaaGreat.mem
