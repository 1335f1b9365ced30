/-
  Chapter 9: the program's and the specification's functions have one answer. No condition.
-/
import Derived.Test.YtpgindeoiibgpaaRsu
namespace Go.Proofs.Ytpgindeoiibgpaa.rst
open Go.RowKit Go.Proofs.Ytpgindeoiibgpaa.num Go.Proofs.Ytpgindeoiibgpaa.share Go.Proofs.Ytpgindeoiibgpaa.mem
set_option linter.unusedVariables false

theorem agreeSeriesOf (n : Nat) (d : Nat → Int) (hn : n ≤ 9223372036854775807) : ∃ ra rc : Int,
    (∀ (W : World) (v : Value) (lo hi : Nat), Sl W v n d lo hi → hi ≤ W.heap.size → Calls Try.prog 27 #[v] W fun e w' => e = .returned (.tuple #[.int .i64 ra, .int .i64 rc]) ∧ Below W.heap.size W w') ∧
    (∀ (W : World) (v : Value) (lo hi : Nat), Sl W v n d lo hi → hi ≤ W.heap.size → Calls Try.prog 28 #[v] W fun e w' => e = .returned (.tuple #[.int .i64 ra, .int .i64 rc]) ∧ Below W.heap.size W w') :=
  ⟨_, _, fun W v lo hi h _ => (SeriesOf_any W v n d lo hi h hn).mono (by rintro e w' ⟨h1, rfl⟩; exact ⟨h1, Below.refl _ _⟩), fun W v lo hi h _ => (sSeriesOf_any W v n d lo hi h hn).mono (by rintro e w' ⟨h1, rfl⟩; exact ⟨h1, Below.refl _ _⟩)⟩
theorem agreeParallelFlow (n : Nat) (d : Nat → Int) (x : Int) (hn : n ≤ 9223372036854775807) : ∃ ra rc : Int,
    (∀ (W : World) (v : Value) (lo hi : Nat), Sl W v n d lo hi → hi ≤ W.heap.size → Calls Try.prog 16 #[v, .int .i64 x] W fun e w' => e = .returned (.tuple #[.int .i64 ra, .int .i64 rc]) ∧ Below W.heap.size W w') ∧
    (∀ (W : World) (v : Value) (lo hi : Nat), Sl W v n d lo hi → hi ≤ W.heap.size → Calls Try.prog 29 #[v, .int .i64 x] W fun e w' => e = .returned (.tuple #[.int .i64 ra, .int .i64 rc]) ∧ Below W.heap.size W w') :=
  ⟨_, _, fun W v lo hi h hh => ParallelFlow_any W v n d lo hi x h hn hh, fun W v lo hi h _ => (sParallelFlow_any W v n d lo hi x h hn).mono (by rintro e w' ⟨h1, rfl⟩; exact ⟨h1, Below.refl _ _⟩)⟩
theorem agreeDropFor (n : Nat) (d : Nat → Int) (f : Int) (hn : n ≤ 9223372036854775807) : ∃ ra rc : Int,
    (∀ (W : World) (v : Value) (lo hi : Nat), Sl W v n d lo hi → hi ≤ W.heap.size → Calls Try.prog 14 #[v, .int .i64 f] W fun e w' => e = .returned (.tuple #[.int .i64 ra, .int .i64 rc]) ∧ Below W.heap.size W w') ∧
    (∀ (W : World) (v : Value) (lo hi : Nat), Sl W v n d lo hi → hi ≤ W.heap.size → Calls Try.prog 15 #[v, .int .i64 f] W fun e w' => e = .returned (.tuple #[.int .i64 ra, .int .i64 rc]) ∧ Below W.heap.size W w') := by
  obtain ⟨r, hr⟩ := drop_ex n d f
  exact ⟨_, _, fun W v lo hi h hh => DropFor_any W v n d lo hi f r h hn hh hr, fun W v lo hi h _ => (sDropFor_any W v n d lo hi f r h hn hr).mono (by rintro e w' ⟨h1, rfl⟩; exact ⟨h1, Below.refl _ _⟩)⟩
theorem agreeFlowFor (k x : Int) : ∃ ra rc : Int,
    (∀ (W : World), Calls Try.prog 21 #[.int .i64 k, .int .i64 x] W fun e w' => e = .returned (.tuple #[.int .i64 ra, .int .i64 rc]) ∧ Below W.heap.size W w') ∧
    (∀ (W : World), Calls Try.prog 32 #[.int .i64 k, .int .i64 x] W fun e w' => e = .returned (.tuple #[.int .i64 ra, .int .i64 rc]) ∧ Below W.heap.size W w') :=
  ⟨_, _, fun W => FlowFor_any k x W, fun W => (sFlowFor_any k x W).mono (by rintro e w' ⟨h1, rfl⟩; exact ⟨h1, Below.refl _ _⟩)⟩
theorem agreeBestResistance (f x : Int) : ∃ ra rc : Int,
    (∀ (W : World), Calls Try.prog 24 #[.int .i64 f, .int .i64 x] W fun e w' => e = .returned (.tuple #[.int .i64 ra, .int .i64 rc]) ∧ Below W.heap.size W w') ∧
    (∀ (W : World), Calls Try.prog 25 #[.int .i64 f, .int .i64 x] W fun e w' => e = .returned (.tuple #[.int .i64 ra, .int .i64 rc]) ∧ Below W.heap.size W w') := by
  obtain ⟨r, hr⟩ := best_ex f x
  exact ⟨_, _, fun W => BestResistance_any f x r W hr, fun W => (sBestResistance_any f x r W hr).mono (by rintro e w' ⟨h1, rfl⟩; exact ⟨h1, Below.refl _ _⟩)⟩
theorem split_n (n : Nat) (d : Nat → Int) (f : Int) : (if dropC n d f = 0 then n else 0) ≤ 64 := by
  split
  · rename_i h
    have := (codR_facts (cod_facts h).1).2.1
    omega
  · omega
theorem agreeSplitFlow (n : Nat) (d : Nat → Int) (f : Int) (hn : n ≤ 9223372036854775807) : ∃ (N : Nat) (S : Nat → Int) (rc : Int), N ≤ 64 ∧
    (∀ (W : World) (v : Value) (lo hi : Nat), Sl W v n d lo hi → hi ≤ W.heap.size → Calls Try.prog 18 #[v, .int .i64 f] W fun e w' => ∃ u b, e = .returned (.tuple #[u, .int .i64 rc]) ∧ Below W.heap.size W w' ∧ W.heap.size ≤ b ∧ Res w' u N S b) ∧
    (∀ (W : World) (v : Value) (lo hi : Nat), Sl W v n d lo hi → hi ≤ W.heap.size → Calls Try.prog 19 #[v, .int .i64 f] W fun e w' => ∃ u b, e = .returned (.tuple #[u, .int .i64 rc]) ∧ Below W.heap.size W w' ∧ W.heap.size ≤ b ∧ Res w' u N S b) := by
  obtain ⟨r, hr⟩ := drop_ex n d f
  exact ⟨_, _, _, split_n n d f, fun W v lo hi h hh => SplitFlow_any W v n d lo hi f r h hn hh hr, fun W v lo hi h hh => sSplitFlow_any W v n d lo hi f r h hn hh hr⟩
end Go.Proofs.Ytpgindeoiibgpaa.rst
