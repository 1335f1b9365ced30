/-
  Slices of integers: what they read as; contracts of the laws' own helpers toInt64S, eqInt64S, markInt64S, heldInt64S. Conditions: as each states.
-/
import Derived.Test.YtpgcieefipjjfaaGreatRows
import Derived.Test.YtpgcieefipjjfaaGreatMem
import Derived.Test.YtpgcieefipjjfaaGreatMake
import Derived.WalkKit
import Derived.ProofKit
import Derived.Lib.Hide
import Derived.Deep.QuietTactic
import Derived.BigQuiet
namespace Go.Proofs.YtpgcieefipjjfaaGreat.mem
open Go.RowKit
set_option linter.unusedVariables false

/-- v is a slice of n integers d 0, d 1, ..; its block, if it has elements, is one from lo on and below hi -/
structure Sl (w : World) (v : Value) (n : Nat) (d : Nat → Int) (lo hi : Nat) : Prop where
  ex : ∃ p cap, v = .slice p n cap ∧ (n = 0 ∨ ∃ b o, p = some ⟨b, o, none⟩ ∧ lo ≤ b ∧ b < hi ∧ ∀ k, k < n → w.cell? ⟨b, o + k, none⟩ = some (.int .i64 (d k)))
theorem Sl.below {w w' : World} {v : Value} {n : Nat} {d : Nat → Int} {lo hi B : Nat} (h : Sl w v n d lo hi) (g : Below B w w') (hB : hi ≤ B) : Sl w' v n d lo hi := by
  obtain ⟨p, cap, rfl, h | ⟨b, o, rfl, h1, h2, h3⟩⟩ := h
  · exact ⟨p, cap, rfl, .inl h⟩
  · exact ⟨_, cap, rfl, .inr ⟨b, o, rfl, h1, h2, fun k hk => (g.cell (p := ⟨b, o + k, none⟩) (by show b < B; omega)).trans (h3 k hk)⟩⟩
theorem Sl.only {w w' : World} {v : Value} {n c : Nat} {d : Nat → Int} {lo hi : Nat} (h : Sl w v n d lo hi) (g : Only c w w') (hc : c < lo ∨ hi ≤ c) : Sl w' v n d lo hi := by
  obtain ⟨p, cap, rfl, h | ⟨b, o, rfl, h1, h2, h3⟩⟩ := h
  · exact ⟨p, cap, rfl, .inl h⟩
  · exact ⟨_, cap, rfl, .inr ⟨b, o, rfl, h1, h2, fun k hk => (g.cell (a := ⟨b, o + k, none⟩) (by show b ≠ c; omega)).trans (h3 k hk)⟩⟩
theorem Sl.drewN {w : World} {v : Value} {n : Nat} {d : Nat → Int} {lo hi : Nat} (h : Sl w v n d lo hi) (m : Nat) : Sl (w.drewN m) v n d lo hi := by
  obtain ⟨p, cap, rfl, h | ⟨b, o, rfl, h1, h2, h3⟩⟩ := h
  · exact ⟨p, cap, rfl, .inl h⟩
  · exact ⟨_, cap, rfl, .inr ⟨b, o, rfl, h1, h2, h3⟩⟩
theorem Sl.mono {w : World} {v : Value} {n : Nat} {d : Nat → Int} {lo hi lo' hi' : Nat} (h : Sl w v n d lo hi) (h1 : lo' ≤ lo) (h2 : hi ≤ hi') : Sl w v n d lo' hi' := by
  obtain ⟨p, cap, rfl, h | ⟨b, o, rfl, g1, g2, g3⟩⟩ := h
  · exact ⟨p, cap, rfl, .inl h⟩
  · exact ⟨_, cap, rfl, .inr ⟨b, o, rfl, by omega, by omega, g3⟩⟩
theorem Sl.congr {w : World} {v : Value} {n : Nat} {d d' : Nat → Int} {lo hi : Nat} (h : Sl w v n d lo hi) (e : ∀ k, k < n → d k = d' k) : Sl w v n d' lo hi := by
  obtain ⟨p, cap, rfl, h | ⟨b, o, rfl, g1, g2, g3⟩⟩ := h
  · exact ⟨p, cap, rfl, .inl h⟩
  · exact ⟨_, cap, rfl, .inr ⟨b, o, rfl, g1, g2, fun k hk => by rw [← e k hk]; exact g3 k hk⟩⟩
theorem Row.sl {w : World} {b n cap : Nat} {d : Nat → Int} (h : Row w b n d) {lo hi : Nat} (h1 : lo ≤ b) (h2 : b < hi) : Sl w (.slice (some ⟨b, 0, none⟩) n cap) n d lo hi :=
  ⟨_, cap, rfl, .inr ⟨b, 0, rfl, h1, h2, fun k hk => by rw [Nat.zero_add]; exact h.cell k hk⟩⟩

def CopyPost (w : World) (n : Nat) (d : Nat → Int) (e : Ending) (w' : World) : Prop :=
  e = .returned (.slice (some ⟨w.heap.size, 0, none⟩) n n) ∧ Row w' w.heap.size n d ∧ Below w.heap.size w w' ∧ w'.heap.size = w.heap.size + 1

theorem ret_sl {a b n m : Nat} (h : a = b) : Ending.returned (.slice (some ⟨a, 0, none⟩) n m) = .returned (.slice (some ⟨b, 0, none⟩) n m) := by rw [h]
theorem ret_i {k : IntKind} {a b : Int} (h : a = b) : Ending.returned (.int k a) = .returned (.int k b) := by rw [h]

end Go.Proofs.YtpgcieefipjjfaaGreat.mem
