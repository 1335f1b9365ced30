/-
  The draws of a network and of an index, over the contract of l02DrawAny (AnyOK, to be proved). Conditions: as each states.
-/
import Derived.Test.YtjjjdahegcjmaaaRows
import Derived.Test.YtjjjdahegcjmaaaDrE
import Derived.WalkKit
import Derived.ProofKit
import Derived.Lib.Hide
import Derived.OwnWalk
import Derived.Outline
import Derived.Deep.RegionHeld3
namespace Go.Proofs.Ytjjjdahegcjmaaa.draw
open Go.RowKit
set_option linter.unusedVariables false

/-- any network: its names are of bounded length -/
def AnyPost (w : World) (b : Nat) (cv : Value) (len : Nat) (e : Ending) (w' : World) : Prop :=
  ∃ (v : Value) (n m : Nat) (N : Nat → mem.Nod) (P : Nat → mem.Pip) (b1 b2 : Nat) (i s : Int), e = .returned v ∧ n ≤ 1000 ∧ m ≤ 1000 ∧ (∀ i, i < n → (N i).s.size ≤ 9223372036854775807) ∧ mem.NetOwn w' v n N m P b1 b2 ∧ w.heap.size ≤ b1 ∧ w.heap.size ≤ b2 ∧ Src w' b cv len i s ∧ mem.Upd (· = b) w w'
def AnyOK : Prop := ∀ (w : World) (b B : Nat) (cv : Value) (len : Nat) (i s : Int), Src w b cv len i s → CodeAt w cv len B → B ≤ b → Calls Try.prog 86 #[.pointer (some ⟨b, 0, none⟩)] w (AnyPost w b cv len)
/-- a network and an index have been drawn -/
def NetIdxPost (w : World) (e : Ending) (w' : World) : Prop :=
  ∃ (v : Value) (n m : Nat) (N : Nat → mem.Nod) (P : Nat → mem.Pip) (b1 b2 : Nat) (x : Int), e = .returned (.tuple #[v, .int .i64 x]) ∧ n ≤ 1000 ∧ m ≤ 1000 ∧ (∀ i, i < n → (N i).s.size ≤ 9223372036854775807) ∧ mem.NetOwn w' v n N m P b1 b2 ∧ w.heap.size ≤ b1 ∧ w.heap.size ≤ b2 ∧ -1 ≤ x ∧ x ≤ 4000000 ∧ Below w.heap.size w w'

end Go.Proofs.Ytjjjdahegcjmaaa.draw
