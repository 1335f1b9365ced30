/-
  The functions of chapter 7: the program's and the specification's answer alike. Conditions: as each states.
-/
import Derived.Test.YtlcegdamjbpfpaaRows
import Derived.Test.YtlcegdamjbpfpaaLvq
import Derived.Test.YtlcegdamjbpfpaaLsq
import Derived.Test.YtlcegdamjbpfpaaLvr
import Derived.Test.YtlcegdamjbpfpaaLst
import Derived.Test.YtlcegdamjbpfpaaLvt
namespace Go.Proofs.Ytlcegdamjbpfpaa.mem
open Go.RowKit
set_option linter.unusedVariables false

theorem agreeDropOf (n : Nat) (N : Nat → Nod) (m : Nat) (P : Nat → Pip) (a : Int) (x : Int) (hN : ∀ i, i < n → (N i).s.size ≤ 9223372036854775807) (_hn : n ≤ 2000000) (hm : m ≤ 2000000) :
    ∃ ra rc, (∀ w v, NetAt w v n N m P 0 w.heap.size → Calls Try.prog 23 #[v, .int .i64 a, .int .i64 x] w (IIPost w ra rc)) ∧ (∀ w v, NetAt w v n N m P 0 w.heap.size → Calls Try.prog 22 #[v, .int .i64 a, .int .i64 x] w (IIPost w ra rc)) :=
  ⟨dpA n N m P a x, dpC n N m P a x, fun w v h => dropOfI_any w v n N m P 0 _ h (Nat.le_refl _) hN a x, fun w v h => dropOfS_any w v n N m P 0 _ h (Nat.le_refl _) hN a x⟩
theorem agreeDropsOf (n : Nat) (N : Nat → Nod) (m : Nat) (P : Nat → Pip) (K : Nat) (d : Nat → Int) (hN : ∀ i, i < n → (N i).s.size ≤ 9223372036854775807) (_hn : n ≤ 2000000) (hm : m ≤ 2000000) (hK : K ≤ 2000000) :
    ∃ rn rd rc, rn ≤ 2000000 ∧ (∀ w v va, NetAt w v n N m P 0 w.heap.size → Sl w va K d 0 w.heap.size → Calls Try.prog 26 #[v, va] w (LIPost w rn rd rc)) ∧ (∀ w v va, NetAt w v n N m P 0 w.heap.size → Sl w va K d 0 w.heap.size → Calls Try.prog 24 #[v, va] w (LIPost w rn rd rc)) :=
  ⟨dsN n N m P K d, fun i => drp (P i) (d i), flC n N m P K d, dsN_le n N m P K d hm, fun w v va h hv => dropsOfI_any w v n N m P 0 _ h (Nat.le_refl _) hN va K d 0 _ hv (Nat.le_refl _) (by omega), fun w v va h hv => dropsOfS_any w v n N m P 0 _ h (Nat.le_refl _) hN va K d 0 _ hv (Nat.le_refl _) (by omega)⟩
theorem agreeForestLevels (n : Nat) (N : Nat → Nod) (m : Nat) (P : Nat → Pip) (K : Nat) (d : Nat → Int) (r : Int) (l : Int) (hN : ∀ i, i < n → (N i).s.size ≤ 9223372036854775807) (_hn : n ≤ 2000000) (hm : m ≤ 2000000) (hK : K ≤ 2000000) :
    ∃ rn rd rc, rn ≤ 2000000 ∧ (∀ w v va, NetAt w v n N m P 0 w.heap.size → Sl w va K d 0 w.heap.size → Calls Try.prog 28 #[v, va, .int .i64 r, .int .i64 l] w (LIPost w rn rd rc)) ∧ (∀ w v va, NetAt w v n N m P 0 w.heap.size → Sl w va K d 0 w.heap.size → Calls Try.prog 27 #[v, va, .int .i64 r, .int .i64 l] w (LIPost w rn rd rc)) :=
  ⟨fvN n N m P K d r l, fun j => lvl n P m d r l (j : Nat), fvC n N m P K d r l, fvN_le n N m P K d r l _hn, fun w v va h hv => forestLevelsI_any w v n N m P 0 _ h (Nat.le_refl _) hN va K d 0 _ hv (Nat.le_refl _) (by omega) r l, fun w v va h hv => forestLevelsS_any w v n N m P 0 _ h (Nat.le_refl _) hN va K d 0 _ hv (Nat.le_refl _) (by omega) r l⟩
theorem agreeGapBetween (n : Nat) (N : Nat → Nod) (m : Nat) (P : Nat → Pip) (K : Nat) (d : Nat → Int) (r : Int) (l : Int) (hN : ∀ i, i < n → (N i).s.size ≤ 9223372036854775807) (_hn : n ≤ 2000000) (hm : m ≤ 2000000) (hK : K ≤ 2000000) :
    ∃ ra rc, (∀ w v va, NetAt w v n N m P 0 w.heap.size → Sl w va K d 0 w.heap.size → Calls Try.prog 32 #[v, va, .int .i64 r, .int .i64 l] w (IIPost w ra rc)) ∧ (∀ w v va, NetAt w v n N m P 0 w.heap.size → Sl w va K d 0 w.heap.size → Calls Try.prog 31 #[v, va, .int .i64 r, .int .i64 l] w (IIPost w ra rc)) :=
  ⟨gpA n N m P K d r l, gpC n N m P K d r l, fun w v va h hv => gapBetweenI_any w v n N m P 0 _ h (Nat.le_refl _) hN va K d 0 _ hv (Nat.le_refl _) (by omega) r l, fun w v va h hv => gapBetweenS_any w v n N m P 0 _ h (Nat.le_refl _) hN va K d 0 _ hv (Nat.le_refl _) (by omega) r l⟩
theorem agreeLowestNode (n : Nat) (N : Nat → Nod) (m : Nat) (P : Nat → Pip) (K : Nat) (d : Nat → Int) (hN : ∀ i, i < n → (N i).s.size ≤ 9223372036854775807) (_hn : n ≤ 2000000) (hm : m ≤ 2000000) (hK : K ≤ 2000000) :
    ∃ ra rc, (∀ w v va, NetAt w v n N m P 0 w.heap.size → Sl w va K d 0 w.heap.size → Calls Try.prog 34 #[v, va] w (IIPost w ra rc)) ∧ (∀ w v va, NetAt w v n N m P 0 w.heap.size → Sl w va K d 0 w.heap.size → Calls Try.prog 33 #[v, va] w (IIPost w ra rc)) :=
  ⟨lwA n N m P K d, lwC n N m P K d, fun w v va h hv => lowestNodeI_any w v n N m P 0 _ h (Nat.le_refl _) hN va K d 0 _ hv (Nat.le_refl _) (by omega), fun w v va h hv => lowestNodeS_any w v n N m P 0 _ h (Nat.le_refl _) hN va K d 0 _ hv (Nat.le_refl _) (by omega)⟩
theorem agreeTreeFlows (n : Nat) (N : Nat → Nod) (m : Nat) (P : Nat → Pip) (K : Nat) (d : Nat → Int) (hN : ∀ i, i < n → (N i).s.size ≤ 9223372036854775807) (_hn : n ≤ 2000000) (hm : m ≤ 2000000) (hK : K ≤ 2000000) :
    ∃ rn rd rc, rn ≤ 2000000 ∧ (∀ w v va, NetAt w v n N m P 0 w.heap.size → Sl w va K d 0 w.heap.size → Calls Try.prog 30 #[v, va] w (LIPost w rn rd rc)) ∧ (∀ w v va, NetAt w v n N m P 0 w.heap.size → Sl w va K d 0 w.heap.size → Calls Try.prog 29 #[v, va] w (LIPost w rn rd rc)) :=
  ⟨tfN n N m P K d, fflN n P m d, tfC n N m P K d, tfN_le n N m P K d hm, fun w v va h hv => treeFlowsI_any w v n N m P 0 _ h (Nat.le_refl _) hN va K d 0 _ hv (Nat.le_refl _) (by omega), fun w v va h hv => treeFlowsS_any w v n N m P 0 _ h (Nat.le_refl _) hN va K d 0 _ hv (Nat.le_refl _) (by omega)⟩
end Go.Proofs.Ytlcegdamjbpfpaa.mem
