/-
  Chapter 12: the program's functions and the specification's give one answer. Conditions: as each states.
-/
import Derived.Test.YtdbgcbkmcbgdiaaRows
import Derived.Test.YtdbgcbkmcbgdiaaCpw
namespace Go.Proofs.Ytdbgcbkmcbgdiaa.mem
open Go.RowKit
set_option linter.unusedVariables false

theorem agreePipeError (n : Nat) (N : Nat → Nod) (m : Nat) (P : Nat → Pip) (F : Nat) (f : Nat → Int) (L : Nat) (l : Nat → Int) (x : Int) (hN : ∀ i, i < n → (N i).s.size ≤ 9223372036854775807) (_hn : n ≤ 2000000) (_hm : m ≤ 2000000) (hF : F ≤ 2000000) (hL : L ≤ 2000000) :
    ∃ ra rc, (∀ w v vp, NetAt w v n N m P 0 w.heap.size → PrAt w vp F f L l 0 w.heap.size → Calls Try.prog 11 #[v, vp, .int .i64 x] w (IIPost w ra rc)) ∧ (∀ w v vp, NetAt w v n N m P 0 w.heap.size → PrAt w vp F f L l 0 w.heap.size → Calls Try.prog 8 #[v, vp, .int .i64 x] w (IIPost w ra rc)) :=
  ⟨peA n N m P F f L l x, peC n N m P F f L l x, fun w v vp h hp => pipeErrorI_any w v n N m P 0 _ h (Nat.le_refl _) hN vp F f L l 0 _ hp (Nat.le_refl _) (by omega) (by omega) x, fun w v vp h hp => pipeErrorS_any w v n N m P 0 _ h (Nat.le_refl _) hN vp F f L l 0 _ hp (Nat.le_refl _) (by omega) (by omega) x⟩
theorem agreeProofError (n : Nat) (N : Nat → Nod) (m : Nat) (P : Nat → Pip) (F : Nat) (f : Nat → Int) (L : Nat) (l : Nat → Int) (hN : ∀ i, i < n → (N i).s.size ≤ 9223372036854775807) (_hn : n ≤ 2000000) (_hm : m ≤ 2000000) (hF : F ≤ 2000000) (hL : L ≤ 2000000) :
    ∃ ra rc, (∀ w v vp, NetAt w v n N m P 0 w.heap.size → PrAt w vp F f L l 0 w.heap.size → Calls Try.prog 15 #[v, vp] w (IIPost w ra rc)) ∧ (∀ w v vp, NetAt w v n N m P 0 w.heap.size → PrAt w vp F f L l 0 w.heap.size → Calls Try.prog 14 #[v, vp] w (IIPost w ra rc)) :=
  ⟨pwA n N m P F f L l, prC n N m P F f L l, fun w v vp h hp => proofErrorI_any w v n N m P 0 _ h (Nat.le_refl _) hN vp F f L l 0 _ hp (Nat.le_refl _) (by omega) (by omega), fun w v vp h hp => proofErrorS_any w v n N m P 0 _ h (Nat.le_refl _) hN vp F f L l 0 _ hp (Nat.le_refl _) (by omega) (by omega)⟩
theorem agreeSameFlows (F : Nat) (f : Nat → Int) (L : Nat) (l : Nat → Int) (F2 : Nat) (f2 : Nat → Int) (L2 : Nat) (l2 : Nat → Int) (hF : F ≤ 2000000) (hL : L ≤ 2000000) (hF2 : F2 ≤ 2000000) (hL2 : L2 ≤ 2000000) :
    ∃ rb, (∀ w v u, PrAt w v F f L l 0 w.heap.size → PrAt w u F2 f2 L2 l2 0 w.heap.size → Calls Try.prog 17 #[v, u] w (BPost w rb)) ∧ (∀ w v u, PrAt w v F f L l 0 w.heap.size → PrAt w u F2 f2 L2 l2 0 w.heap.size → Calls Try.prog 16 #[v, u] w (BPost w rb)) :=
  ⟨eqLB F f F2 f2, fun w v u h g => sameFlowsI_any w v F f L l 0 _ h (Nat.le_refl _) u F2 f2 L2 l2 0 _ g (Nat.le_refl _) (by omega) (by omega), fun w v u h g => sameFlowsS_any w v F f L l 0 _ h (Nat.le_refl _) u F2 f2 L2 l2 0 _ g (Nat.le_refl _) (by omega) (by omega)⟩
end Go.Proofs.Ytdbgcbkmcbgdiaa.mem
