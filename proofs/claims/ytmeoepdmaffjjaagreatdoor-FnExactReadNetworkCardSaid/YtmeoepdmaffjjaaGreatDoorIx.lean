/-
  The model's l03Index: the least index of a node with a name, or -1. Conditions: as each states.
-/
import Derived.Test.YtmeoepdmaffjjaaGreatDoorRows
import Derived.Test.YtmeoepdmaffjjaaGreatDoorNetNN
import Derived.Test.YtmeoepdmaffjjaaGreatDoorNetX
import Derived.WalkKit
import Derived.ProofKit
import Derived.Outline
import Derived.OwnWalk
import Derived.Lib.Hide
namespace Go.Proofs.YtmeoepdmaffjjaaGreatDoor.text
open Go.RowKit Go.Proofs.YtmeoepdmaffjjaaGreatDoor.mem
set_option linter.unusedVariables false

def ixV (N : Nat → Nod) (n : Nat) (s : ByteArray) : Int := match nnF N n s with
  | some k => (k : Int)
  | none => -1
set_option maxHeartbeats 2000000 in
theorem l03Index_any (w : World) (v : Value) (n : Nat) (N : Nat → Nod) (lo hi : Nat) (h : Cs w v n 3 (nodC N) lo hi) (hn : n ≤ 9223372036854775807) (s : ByteArray) :
    Calls Tryz.prog 38 #[v, .string s] w fun e w' => e = .returned (.int .i64 (ixV N n s)) ∧ Below w.heap.size w w' := by
  obtain ⟨p0, c0, rfl⟩ := h.shape
  have HC0 : Hid (n = 0 ∨ ∃ b o, p0 = some ⟨b, o, none⟩ ∧ lo ≤ b ∧ b < hi ∧ At w b o n 3 (nodC N)) := by
    obtain ⟨p, cap, hv, _, _, hc⟩ := h.ex
    injection hv with e1 _ e2
    subst e1
    exact Lib.hid hc
  clear h
  have HI := Lib.hid (show ixV N n s = match nnF N n s with | some k => (k : Int) | none => -1 from rfl)
  go_enter Tryz.func38, Tryz.ntmps38
  go_wp2_with fail
  go_loop [5] (fun i => ∃ k : Nat, i = .int .i64 k ∧ k ≤ n ∧ ∀ x, x < k → nnP N s x = false) (fun i => n - (intOf i).toNat)
  case atStart => exact ⟨0, rfl, Nat.zero_le _, fun x hx => by omega⟩
  case round =>
    obtain ⟨k, rfl, hk, hall⟩ := hrel
    have HA := Lib.hid hall
    clear hall
    by_cases hlt : k < n
    · rcases HC0.out with h0 | ⟨b, o, rfl, hlo, hb, g3⟩
      · omega
      have c3 : w.cell? ⟨b, o + k * 3, none⟩ = some (.string (N k).s) := g3.cell k 0 hlt (by omega)
      clear g3
      cases hp : nnP N s k
      · have hp2 : ((N k).s.toList == s.toList) = false := hp
        have HPK := Lib.hid hp
        clear hp
        go_wp2_with fail
        go_round
        case rel =>
          refine ⟨k + 1, by go_num, hlt, fun x hx => ?_⟩
          by_cases e : x = k
          · subst e; exact HPK.out
          · exact HA.out x (by omega)
        case measure => simp [intOf]; omega
      · have hp2 : ((N k).s.toList == s.toList) = true := hp
        have HF := Lib.hid (nnF_some hlt hp HA.out)
        have h2 := Lib.hid (show ixV N n s = k by rw [HI.out, HF.out])
        clear hp
        go_wp2_with fail
        go_ret
        exact ⟨by rw [h2.out]; rfl, Below.refl _ _⟩
    · obtain rfl : k = n := by omega
      have HF := Lib.hid (nnF_none HA.out)
      have h2 := Lib.hid (show ixV N k s = -1 by rw [HI.out, HF.out])
      go_wp2_with fail
      go_ret
      exact ⟨by rw [h2.out]; rfl, Below.refl _ _⟩
end Go.Proofs.YtmeoepdmaffjjaaGreatDoor.text
