/-
  A number is in a list: the specification's l02Has. Conditions: as it states.
-/
import Derived.Test.YtdbgcbkmcbgdiaaGreatRows
import Derived.Test.YtdbgcbkmcbgdiaaGreatNetPA
import Derived.WalkKit
import Derived.ProofKit
import Derived.Outline
import Derived.OwnWalk
import Derived.Lib.Hide
import Derived.Deep.RegionHeld3
namespace Go.Proofs.YtdbgcbkmcbgdiaaGreat.mem
open Go.RowKit
set_option linter.unusedVariables false

/-- a number is among the first n -/
def hasB (n : Nat) (d : Nat → Int) (x : Int) : Bool := (List.range n).any fun i => d i == x
theorem hasB_yes {n k : Nat} {d : Nat → Int} {x : Int} (hk : k < n) (h : d k = x) : hasB n d x = true := by
  unfold hasB
  rw [List.any_eq_true]
  exact ⟨k, by simpa using hk, by rw [h]; simp⟩
theorem hasB_no {n : Nat} {d : Nat → Int} {x : Int} (h : ∀ k, k < n → d k ≠ x) : hasB n d x = false := by
  unfold hasB
  rw [List.any_eq_false]
  intro k hk
  simp only [beq_iff_eq]
  exact h k (by simpa using hk)
set_option maxHeartbeats 1000000 in
theorem l02Has_any (w : World) (v : Value) (n : Nat) (d : Nat → Int) (lo hi : Nat) (h : Cs w v n 1 (fun i _ => .int .i64 (d i)) lo hi) (x : Int) :
    Calls Tryz.prog 161 #[v, .int .i64 x] w fun e w' => e = .returned (.bool (hasB n d x)) ∧ w = w' := by
  obtain ⟨p, cap, rfl, q1, q2, hc⟩ := h
  have HC := Lib.hid hc
  clear hc
  go_enter Tryz.func161, Tryz.ntmps161
  go_wp2_with fail
  go_loop [5] (fun i => ∃ k : Nat, i = .int .i64 k ∧ k ≤ n ∧ ∀ y, y < k → d y ≠ x) (fun i => n - (intOf i).toNat)
  case atStart => exact ⟨0, rfl, Nat.zero_le _, fun y hy => by omega⟩
  case round =>
    obtain ⟨k, rfl, hk, hall⟩ := hrel
    have HA := Lib.hid hall
    clear hall
    by_cases hlt : k < n
    · rcases HC.out with h0 | ⟨b, o, rfl, g1, g2, g3⟩
      · omega
      have c1 : w.cell? ⟨b, o + k, none⟩ = some (.int .i64 (d k)) := by have := g3.cell k 0 hlt (by omega); simpa using this
      clear g3
      by_cases he : d k = x
      · have h1 : (d k == x) = true := by rw [beq_iff_eq]; exact he
        have HB := Lib.hid (hasB_yes hlt he)
        clear he
        go_wp2_with fail
        go_ret
        exact ⟨ret_b HB.out.symm, rfl⟩
      · have h1 : (d k == x) = false := by rw [beq_eq_false_iff_ne]; exact he
        have HE := Lib.hid he
        clear he
        go_wp2_with fail
        go_round
        case rel =>
          refine ⟨k + 1, by go_num, hlt, fun y hy => ?_⟩
          by_cases e : y = k
          · subst e; exact HE.out
          · exact HA.out y (by omega)
        case measure => simp [intOf]; omega
    · obtain rfl : k = n := by omega
      have HB := Lib.hid (hasB_no HA.out)
      go_wp2_with fail
      go_ret
      exact ⟨ret_b HB.out.symm, rfl⟩

end Go.Proofs.YtdbgcbkmcbgdiaaGreat.mem
