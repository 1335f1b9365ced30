/-
  EntriesFrom, the specification's, and that both agree. Conditions: as each states.
-/
import Derived.Test.YtkgekaedpdgmdaaRows
import Derived.Test.YtkgekaedpdgmdaaSrd
namespace Go.Proofs.Ytkgekaedpdgmdaa.mem
open Go.RowKit
set_option linter.unusedVariables false

theorem ndN_le (n : Nat) (N : Nat → Nod) (m : Nat) (P : Nat → Pip) (x : Int) (hn : n ≤ 2000000) : ndN n N m P x ≤ 2000000 := by
  unfold ndN
  split <;> omega
end Go.Proofs.Ytkgekaedpdgmdaa.mem
