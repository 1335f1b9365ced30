/-
  Chapter 9: the program's and the specification's functions have one answer. No condition.
-/
import Derived.Test.YtpgindeoiibgpaaRsu
namespace Go.Proofs.Ytpgindeoiibgpaa.rst
open Go.RowKit Go.Proofs.Ytpgindeoiibgpaa.num Go.Proofs.Ytpgindeoiibgpaa.share Go.Proofs.Ytpgindeoiibgpaa.mem
set_option linter.unusedVariables false

theorem agreeSeriesOf (n : Nat) (d : Nat → Int) (hn : n ≤ 9223372036854775807) : ∃ ra rc : Int,
    (∀ (W : World) (v : Value) (lo hi : Nat), Sl W v n d lo hi → hi ≤ W.heap.size → Calls Try.prog 27 #[v] W fun e w' => e = .returned (.tuple #[.int .i64 ra, .int .i64 rc]) ∧ Below W.heap.size W w') ∧
    (∀ (W : World) (v : Value) (lo hi : Nat), Sl W v n d lo hi → hi ≤ W.heap.size → Calls Try.prog 28 #[v] W fun e w' => e = .returned (.tuple #[.int .i64 ra, .int .i64 rc]) ∧ Below W.heap.size W w') :=
  ⟨_, _, fun W v lo hi h _ => (SeriesOf_any W v n d lo hi h hn).mono (by rintro e w' ⟨h1, rfl⟩; exact ⟨h1, Below.refl _ _⟩), fun W v lo hi h _ => (sSeriesOf_any W v n d lo hi h hn).mono (by rintro e w' ⟨h1, rfl⟩; exact ⟨h1, Below.refl _ _⟩)⟩
theorem agreeParallelFlow (n : Nat) (d : Nat → Int) (x : Int) (hn : n ≤ 9223372036854775807) : ∃ ra rc : Int,
    (∀ (W : World) (v : Value) (lo hi : Nat), Sl W v n d lo hi → hi ≤ W.heap.size → Calls Try.prog 16 #[v, .int .i64 x] W fun e w' => e = .returned (.tuple #[.int .i64 ra, .int .i64 rc]) ∧ Below W.heap.size W w') ∧
    (∀ (W : World) (v : Value) (lo hi : Nat), Sl W v n d lo hi → hi ≤ W.heap.size → Calls Try.prog 29 #[v, .int .i64 x] W fun e w' => e = .returned (.tuple #[.int .i64 ra, .int .i64 rc]) ∧ Below W.heap.size W w') :=
  ⟨_, _, fun W v lo hi h hh => ParallelFlow_any W v n d lo hi x h hn hh, fun W v lo hi h _ => (sParallelFlow_any W v n d lo hi x h hn).mono (by rintro e w' ⟨h1, rfl⟩; exact ⟨h1, Below.refl _ _⟩)⟩
theorem agreeDropFor (n : Nat) (d : Nat → Int) (f : Int) (hn : n ≤ 9223372036854775807) : ∃ ra rc : Int,
    (∀ (W : World) (v : Value) (lo hi : Nat), Sl W v n d lo hi → hi ≤ W.heap.size → Calls Try.prog 14 #[v, .int .i64 f] W fun e w' => e = .returned (.tuple #[.int .i64 ra, .int .i64 rc]) ∧ Below W.heap.size W w') ∧
    (∀ (W : World) (v : Value) (lo hi : Nat), Sl W v n d lo hi → hi ≤ W.heap.size → Calls Try.prog 15 #[v, .int .i64 f] W fun e w' => e = .returned (.tuple #[.int .i64 ra, .int .i64 rc]) ∧ Below W.heap.size W w') := by
  obtain ⟨r, hr⟩ := drop_ex n d f
  exact ⟨_, _, fun W v lo hi h hh => DropFor_any W v n d lo hi f r h hn hh hr, fun W v lo hi h _ => (sDropFor_any W v n d lo hi f r h hn hr).mono (by rintro e w' ⟨h1, rfl⟩; exact ⟨h1, Below.refl _ _⟩)⟩
theorem agreeFlowFor (k x : Int) : ∃ ra rc : Int,
    (∀ (W : World), Calls Try.prog 21 #[.int .i64 k, .int .i64 x] W fun e w' => e = .returned (.tuple #[.int .i64 ra, .int .i64 rc]) ∧ Below W.heap.size W w') ∧
    (∀ (W : World), Calls Try.prog 32 #[.int .i64 k, .int .i64 x] W fun e w' => e = .returned (.tuple #[.int .i64 ra, .int .i64 rc]) ∧ Below W.heap.size W w') :=
  ⟨_, _, fun W => FlowFor_any k x W, fun W => (sFlowFor_any k x W).mono (by rintro e w' ⟨h1, rfl⟩; exact ⟨h1, Below.refl _ _⟩)⟩
theorem agreeBestResistance (f x : Int) : ∃ ra rc : Int,
    (∀ (W : World), Calls Try.prog 24 #[.int .i64 f, .int .i64 x] W fun e w' => e = .returned (.tuple #[.int .i64 ra, .int .i64 rc]) ∧ Below W.heap.size W w') ∧
    (∀ (W : World), Calls Try.prog 25 #[.int .i64 f, .int .i64 x] W fun e w' => e = .returned (.tuple #[.int .i64 ra, .int .i64 rc]) ∧ Below W.heap.size W w') := by
  obtain ⟨r, hr⟩ := best_ex f x
  exact ⟨_, _, fun W => BestResistance_any f x r W hr, fun W => (sBestResistance_any f x r W hr).mono (by rintro e w' ⟨h1, rfl⟩; exact ⟨h1, Below.refl _ _⟩)⟩
theorem split_n (n : Nat) (d : Nat → Int) (f : Int) : (if dropC n d f = 0 then n else 0) ≤ 64 := by
  split
  · rename_i h
    have := (codR_facts (cod_facts h).1).2.1
    omega
  · omega
theorem agreeSplitFlow (n : Nat) (d : Nat → Int) (f : Int) (hn : n ≤ 9223372036854775807) : ∃ (N : Nat) (S : Nat → Int) (rc : Int), N ≤ 64 ∧
    (∀ (W : World) (v : Value) (lo hi : Nat), Sl W v n d lo hi → hi ≤ W.heap.size → Calls Try.prog 18 #[v, .int .i64 f] W fun e w' => ∃ u b, e = .returned (.tuple #[u, .int .i64 rc]) ∧ Below W.heap.size W w' ∧ W.heap.size ≤ b ∧ Res w' u N S b) ∧
    (∀ (W : World) (v : Value) (lo hi : Nat), Sl W v n d lo hi → hi ≤ W.heap.size → Calls Try.prog 19 #[v, .int .i64 f] W fun e w' => ∃ u b, e = .returned (.tuple #[u, .int .i64 rc]) ∧ Below W.heap.size W w' ∧ W.heap.size ≤ b ∧ Res w' u N S b) := by
  obtain ⟨r, hr⟩ := drop_ex n d f
  exact ⟨_, _, _, split_n n d f, fun W v lo hi h hh => SplitFlow_any W v n d lo hi f r h hn hh hr, fun W v lo hi h hh => sSplitFlow_any W v n d lo hi f r h hn hh hr⟩
theorem flow_yes {k x : Int} (hk : 1 ≤ k ∧ k ≤ 1000) (hx : 0 ≤ x ∧ x ≤ 1000000000000000000) : flw k x = flV k x ∧ 0 = flC k x := by
  have e : (inR k 1 1000 && inR x 0 1000000000000000000) = true := by rw [inR_iff.2 hk, inR_iff.2 hx]; rfl
  unfold flV flC
  rw [if_pos e, if_pos e]
  exact ⟨rfl, rfl⟩
theorem flow_no {k x : Int} (hk : inR k 1 1000 = false) : 0 = flV k x ∧ 2 = flC k x := by
  have e : (inR k 1 1000 && inR x 0 1000000000000000000) = false := by rw [hk]; rfl
  unfold flV flC
  rw [e]
  exact ⟨rfl, rfl⟩
theorem bst_facts {f x r : Int} (h : bstC f x r = 0) : (0 ≤ f ∧ f ≤ 30000) ∧ (0 ≤ x ∧ x ≤ 1000000000000000000) ∧ r ≠ 1 ∧ bstV f x r = r - 1 := by
  unfold bstC at h
  split at h
  · rename_i h1
    split at h
    · omega
    · rename_i h2
      have h3 := h1
      rw [Bool.and_eq_true] at h3
      exact ⟨inR_iff.1 h3.1, inR_iff.1 h3.2, h2, by unfold bstV; rw [if_pos h1, if_neg h2]⟩
  · omega
theorem series_less {n : Nat} {d : Nat → Int} {z : Int} (h : parC n d z = 0) (g : flC (serV n d) z = 0) : flV (serV n d) z ≤ parV n d z := by
  obtain ⟨h1, h2⟩ := cod_facts h
  obtain ⟨n0, n8, hR⟩ := codR_facts h1
  have hz := inR_iff.1 h2
  unfold flC at g
  split at g
  · rename_i g1
    have hv : parV n d z = tot (fls d z) n := (par_yes h1 h2).1.symm
    have hs : serV n d = tot d n := by unfold serV; rw [if_pos h1]
    have hd := hR 0 n0
    have a : d 0 ≤ tot d n := tot_one (fun k hk => by have := hR k hk; omega) n0
    have b := flw_anti hd.1 a hz.1
    have c := tot_one (d := fls d z) (n := n) (j := 0) (fun k hk => (fls_bd hR hz.1 hz.2 k hk).1) n0
    have e : fls d z 0 = flw (d 0) z := rfl
    unfold flV
    rw [if_pos g1, hv, hs]
    omega
  · omega
end Go.Proofs.Ytpgindeoiibgpaa.rst
