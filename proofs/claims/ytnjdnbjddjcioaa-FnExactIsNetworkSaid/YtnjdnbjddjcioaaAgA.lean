/-
  IsNetwork: the program and the specification agree. Condition: names and lists are short enough.
-/
import Derived.Test.YtnjdnbjddjcioaaRows
import Derived.Test.YtnjdnbjddjcioaaNetL
import Derived.Test.YtnjdnbjddjcioaaNetX
namespace Go.Proofs.Ytnjdnbjddjcioaa.mem
open Go.RowKit
theorem agreeIsNetwork (n : Nat) (N : Nat → Nod) (m : Nat) (P : Nat → Pip) (hN : ∀ i, i < n → (N i).s.size ≤ 9223372036854775807) (_hn : n ≤ 2000000) (_hm : m ≤ 2000000) :
    ∃ rb, (∀ w v, NetAt w v n N m P 0 w.heap.size → Calls Try.prog 19 #[v] w (BPost w rb)) ∧ (∀ w v, NetAt w v n N m P 0 w.heap.size → Calls Try.prog 20 #[v] w (BPost w rb)) :=
  ⟨netB n N m P, fun w v h => isNetwork_any w v n N m P 0 _ h (Nat.le_refl _) hN, fun w v h => sIsNetwork_any w v n N m P 0 _ h (Nat.le_refl _) hN⟩
end Go.Proofs.Ytnjdnbjddjcioaa.mem
