/-
  Slices of integers as rows of one-cell elements: the laws' own eqInt64S, markInt64S, heldInt64S. Conditions: as each states.
-/
import Derived.Test.YtdbgcbkmcbgdiaaDoorRows
import Derived.Test.YtdbgcbkmcbgdiaaDoorCs
import Derived.WalkKit
import Derived.ProofKit
import Derived.Lib.Hide
import Derived.Deep.QuietTactic
import Derived.BigQuiet
namespace Go.Proofs.YtdbgcbkmcbgdiaaDoor.mem
open Go.RowKit
set_option linter.unusedVariables false

def intC (d : Nat → Int) (i _j : Nat) : Value := .int .i64 (d i)
theorem At.int {w : World} {b o n : Nat} {d : Nat → Int} (h : At w b o n 1 (intC d)) (k : Nat) (hk : k < n) : w.cell? ⟨b, o + k, none⟩ = some (.int .i64 (d k)) := by
  have := h.cell k 0 hk (by omega)
  simpa [intC] using this
theorem Rw.int {w : World} {b n : Nat} {c : Nat → Nat → Value} (h : Rw w b n 1 c) (k : Nat) (hk : k < n) : w.cell? ⟨b, k, none⟩ = some (c k 0) := by
  have := h.cell k 0 hk (by omega)
  simpa using this
theorem Rw.set1 {w : World} {b n k : Nat} {c d : Nat → Nat → Value} (h : Rw w b n 1 c) (e : ∀ i j, i < k → j < 1 → c i j = d i j) (hk : k < n) : ∃ c', Rw (w.setCell ⟨b, k, none⟩ (d k 0)) b n 1 c' ∧ ∀ i j, i < k + 1 → j < 1 → c' i j = d i j := by
  have := h.set k 0 (d k 0) hk (by omega)
  simp only [Nat.mul_one, Nat.add_zero] at this
  refine ⟨_, this, fun i j hi hj => ?_⟩
  unfold updC
  by_cases hik : i = k
  · subst hik
    obtain rfl : j = 0 := by omega
    simp
  · simp [hik, e i j (by omega) hj]
theorem ret_ii {k : IntKind} {a b : Int} (h : a = b) : Ending.returned (.int k a) = .returned (.int k b) := by rw [h]

set_option maxHeartbeats 1000000 in
theorem eqInts_any (w : World) (v u : Value) (n : Nat) (d : Nat → Int) (lo hi lo' hi' : Nat) (h : Cs w v n 1 (intC d) lo hi) (g : Cs w u n 1 (intC d) lo' hi') :
    Calls Tryd.prog 26 #[v, u] w fun e w' => e = .returned (.bool true) ∧ Below w.heap.size w w' := by
  obtain ⟨p, cap, rfl, _, _, hc⟩ := h
  obtain ⟨p', cap', rfl, _, _, hc'⟩ := g
  have HC := Lib.hid hc
  have HC' := Lib.hid hc'
  clear hc hc'
  have hbb : ((n : Int) == n) = true := by simp
  go_enter Tryd.func26, Tryd.ntmps26
  go_wp2_with fail
  go_loopw [5] (fun i wr => ∃ k m : Nat, i = .int .i64 k ∧ k ≤ n ∧ wr = w.drewN m) (fun i _ => n - (intOf i).toNat)
  case atStart => exact ⟨0, 0, rfl, Nat.zero_le _, rfl⟩
  case round =>
    obtain ⟨k, m, rfl, hk, hw⟩ := hrel
    have HWR := Lib.hid hw
    by_cases hlt : k < n
    · rcases HC.out with h0 | ⟨b, o, rfl, g1, g2, g3⟩
      · omega
      rcases HC'.out with h0 | ⟨b', o', rfl, g1', g2', g3'⟩
      · omega
      have c1 : wr.cell? ⟨b, o + k, none⟩ = some (.int .i64 (d k)) := by rw [hw]; exact g3.int k hlt
      have c2 : wr.cell? ⟨b', o' + k, none⟩ = some (.int .i64 (d k)) := by rw [hw]; exact g3'.int k hlt
      have hkn : (k : Int) < (n : Int) := by omega
      have hdd : (d k != d k) = false := by simp
      clear hw g3 g3'
      go_wp2_with fail
      go_quiet (fail)
      go_wp2_with fail
      go_roundw
      case rel => exact ⟨k + 1, m + nq, by go_num, hlt, by rw [HWR.out]; exact (World.drewN_drewN _ _ _)⟩
      case measure => simp [intOf]; omega
    · clear hw
      go_wp2_with fail
      go_ret
      exact ⟨rfl, by rw [HWR.out]; exact below_self _ _ _⟩

end Go.Proofs.YtdbgcbkmcbgdiaaDoor.mem
