/-
  Contracts of the laws' own helpers on networks: marking and holding. Conditions: as each states.
-/
import Derived.Test.YtdbgcbkmcbgdiaaDoorRows
import Derived.Test.YtdbgcbkmcbgdiaaDoorNetE
import Derived.WalkKit
import Derived.ProofKit
import Derived.Outline
import Derived.OwnWalk
import Derived.Lib.Hide
import Derived.Lib.ItoaNum
import Derived.Laws.IdiomStrings
import Derived.Deep.RegionHeld3
namespace Go.Proofs.YtdbgcbkmcbgdiaaDoor.mem
open Go.RowKit
set_option linter.unusedVariables false

theorem conv1 (W : World) (x : Int) (y : UInt8) (hy : (y.toNat : Int) = x) :
    Sem.run Tryd.prog (convert 56 9 (.slice (some ⟨W.heap.size, 0, none⟩) 1 1)) (W.alloc (.cells #[.int .u8 x] 5)) = .ok (.string ⟨#[y]⟩) (W.alloc (.cells #[.int .u8 x] 5)) := by
  refine run_convert_bytes_back _ 56 9 5 _ 1 [y] Tryd.underlying56 Tryd.underlying5 Tryd.underlying9 ?_
  intro j hj
  have : j = 0 := by simpa using hj
  subst this
  have e := heap_alloc_new W (.cells #[.int .u8 x] 5)
  simp only [World.cell?, Addr.add, if_true, e]
  simp [hy]
def digU (n : Nat) : UInt8 := UInt8.ofNat (48 + n)
theorem digit_nat {n : Nat} (h : n < 10) : ((digU n).toNat : Int) = 48 + (n : Int) := by
  unfold digU
  rw [UInt8.toNat_ofNat']
  omega
/-- the text with which slot k is marked -/
def mtx (k : Int) : ByteArray := if k ≤ 0 then ⟨#[109, 48]⟩ else ⟨#[109]⟩ ++ ⟨(Lib.decDigits k.toNat).toArray⟩
theorem ret_str {a b : ByteArray} (h : a = b) : Ending.returned (.string a) = .returned (.string b) := by rw [h]
theorem cat0 (l : List UInt8) (y : UInt8) : (ByteArray.mk #[y] ++ ByteArray.mk l.toArray) = ByteArray.mk (y :: l).toArray := ByteArray.mk_append_mk [y] l

theorem dec_step {q a r : Nat} (h : q = a * 10 + r) (hr : r < 10) (ha : 0 < a) : Lib.decDigits q = Lib.decDigits a ++ [digU r] := by
  have e1 : q / 10 = a := by omega
  have e2 : q % 10 = r := by omega
  rw [Lib.decDigits, dif_neg (by omega), e1, e2]
  rfl
theorem dec_small {q a r : Nat} (h : q = a * 10 + r) (hr : r < 10) (ha : a = 0) : Lib.decDigits q = [digU r] := by
  have e : q = r := by omega
  subst e
  rw [Lib.decDigits_one (by omega)]
  rfl
theorem ret_i {k : IntKind} {a b : Int} (h : a = b) : Ending.returned (.int k a) = .returned (.int k b) := by rw [h]
/-- what marking from k on lays -/
def mkNod (k : Nat) (i : Nat) : Nod := ⟨mtx ((k + 3 * i : Nat) : Int), ((k + 3 * i : Nat) : Int) + 1, ((k + 3 * i : Nat) : Int) + 1 + 1⟩
def mkPip (k : Nat) (i : Nat) : Pip := ⟨((k + 5 * i : Nat) : Int), ((k + 5 * i : Nat) : Int) + 1, ((k + 5 * i : Nat) : Int) + 1 + 1, ((k + 5 * i : Nat) : Int) + 1 + 1 + 1, ((k + 5 * i : Nat) : Int) + 1 + 1 + 1 + 1⟩

end Go.Proofs.YtdbgcbkmcbgdiaaDoor.mem
