/-
  The line of a pipe: the model's and the program's answers are one. Conditions: as each states.
-/
import Derived.Test.YtemjeoelglkhkaaDoorRows
import Derived.Test.YtemjeoelglkhkaaDoorTxD
namespace Go.Proofs.YtemjeoelglkhkaaDoor.text
open Go.RowKit Go.Proofs.YtemjeoelglkhkaaDoor.mem
set_option linter.unusedVariables false
theorem agreePipeLine (n : Nat) (N : Nat → Nod) (m : Nat) (P : Nat → Pip) (x : Int) (hN : ∀ i, i < n → (N i).s.size ≤ 9223372036854775807) (hn : n ≤ 2000000) (hm : m ≤ 2000000) :
    ∃ rt rc, (∀ w v, NetAt w v n N m P 0 w.heap.size → Pow w → Calls Tryd.prog 16 #[v, .int .i64 x] w (TxPost w rt rc)) ∧ (∀ w v, NetAt w v n N m P 0 w.heap.size → Calls Tryd.prog 14 #[v, .int .i64 x] w (TxPost w rt rc)) :=
  ⟨_, _, fun w v h hp => pipeLineI_any w v n N m P 0 _ h (Nat.le_refl _) hN x hp, fun w v h => pipeLineS_any w v n N m P 0 _ h (Nat.le_refl _) hN x⟩
end Go.Proofs.YtemjeoelglkhkaaDoor.text
