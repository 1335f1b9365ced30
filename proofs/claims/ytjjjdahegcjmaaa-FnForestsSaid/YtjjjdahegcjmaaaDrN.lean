/-
  Draws of indices, nodes and pipes: what becomes of memory. Conditions: the source lies in memory as l01From lays it.
-/
import Derived.Test.YtjjjdahegcjmaaaRows
import Derived.Test.YtjjjdahegcjmaaaDrawB
import Derived.WalkKit
import Derived.ProofKit
import Derived.Lib.Hide
namespace Go.Proofs.Ytjjjdahegcjmaaa.draw
open Go.RowKit
set_option linter.unusedVariables false

def IdxPost (w : World) (b : Nat) (cv : Value) (len : Nat) (e : Ending) (w' : World) : Prop :=
  ∃ v i s : Int, e = .returned (.int .i64 v) ∧ -1 ≤ v ∧ v ≤ 4000000 ∧ Src w' b cv len i s ∧ Only b w w'
theorem quo_small {x d : Int} (h0 : 0 ≤ x) (h1 : x < d + 1) (hd : 0 < d) : (x.tdiv d = 0 ∧ x / d = 0) ∨ (x.tdiv d = 1 ∧ x / d = 1) := by
  rw [Int.tdiv_eq_ediv_of_nonneg h0]
  rcases (by omega : x < d ∨ x = d) with h | h
  · have := Int.ediv_eq_zero_of_lt h0 h
    exact .inl ⟨this, this⟩
  · subst h
    have := Int.ediv_self (by omega : x ≠ 0)
    exact .inr ⟨this, this⟩

set_option maxHeartbeats 1000000 in
theorem index_any (w : World) (b B : Nat) (cv : Value) (len : Nat) (i s : Int) (n : Nat) (h : Src w b cv len i s) (hc : CodeAt w cv len B) (hB : B ≤ b) (hn : n ≤ 1000000) :
    Calls Try.prog 109 #[.pointer (some ⟨b, 0, none⟩), .int .i64 n] w (IdxPost w b cv len) := by
  go_enter Try.func109, Try.ntmps109
  go_wp2_with fail
  refine (next_any w b B cv len i s n h hc hB (by omega)).mono ?_
  rintro e w1 ⟨v1, i1, s1, rfl, v0, hv1, h1, o1⟩
  have hc1 := codeAt_below hc (only_below o1 hB)
  go_wp2_with fail
  refine (next_any w1 b B cv len i1 s1 16 h1 hc1 hB (by omega)).mono ?_
  rintro e w2 ⟨v2, i2, s2, rfl, u0, hu1, h2, o2⟩
  have hc2 := codeAt_below hc1 (only_below o2 hB)
  have hq := quo_small (d := 15) u0 (by omega) (by omega)
  have o12 := o1.trans o2
  clear o1 o2 h1 h hc1 hc
  rcases hq with ⟨qa, qb⟩ | ⟨qa, qb⟩
  all_goals
    go_wp2_with fail
    refine (next_any w2 b B cv len i2 s2 24 h2 hc2 hB (by omega)).mono ?_
    rintro e w3 ⟨v3, i3, s3, rfl, t0, ht1, h3, o3⟩
    have hq := quo_small (d := 23) t0 (by omega) (by omega)
    have o13 := o12.trans o3
    clear o12 o3 h2 hc2
    rcases hq with ⟨ra, rb⟩ | ⟨ra, rb⟩
    all_goals
      go_wp2_with fail
      go_ret
      exact ⟨_, i3, s3, rfl, by omega, by omega, h3, o13⟩
end Go.Proofs.Ytjjjdahegcjmaaa.draw
