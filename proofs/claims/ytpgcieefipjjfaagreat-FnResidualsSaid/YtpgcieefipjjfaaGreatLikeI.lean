/-
  likeInts at equal slices is true; hasInt is true where the number is in the slice. Conditions: as each states.
-/
import Derived.Test.YtpgcieefipjjfaaGreatRows
import Derived.Test.YtpgcieefipjjfaaGreatI64
import Derived.Test.YtpgcieefipjjfaaGreatCs
import Derived.WalkKit
import Derived.ProofKit
import Derived.Lib.Hide
import Derived.Deep.QuietTactic
import Derived.BigQuiet
namespace Go.Proofs.YtpgcieefipjjfaaGreat.mem
open Go.RowKit
set_option linter.unusedVariables false

theorem likeInts_any (w : World) (v u : Value) (n : Nat) (d : Nat → Int) (lo hi lo' hi' : Nat) (h : Cs w v n 1 (intC d) lo hi) (g : Cs w u n 1 (intC d) lo' hi') :
    Calls Tryz.prog 10 #[v, u] w fun e w' => e = .returned (.bool true) ∧ Below w.heap.size w w' := by
  obtain ⟨p, cap, rfl, _, _, hc⟩ := h
  obtain ⟨p', cap', rfl, _, _, hc'⟩ := g
  have HC := Lib.hid hc
  have HC' := Lib.hid hc'
  clear hc hc'
  have hbb : ((n : Int) != n) = false := by simp
  go_enter Tryz.func10, Tryz.ntmps10
  go_wp2_with fail
  go_loopw [5] (fun i wr => ∃ k m : Nat, i = .int .i64 k ∧ k ≤ n ∧ wr = w.drewN m) (fun i _ => n - (intOf i).toNat)
  case atStart => exact ⟨0, 0, rfl, Nat.zero_le _, rfl⟩
  case round =>
    obtain ⟨k, m, rfl, hk, hw⟩ := hrel
    have HWR := Lib.hid hw
    by_cases hlt : k < n
    · rcases HC.out with h0 | ⟨b, o, rfl, g1, g2, g3⟩
      · omega
      rcases HC'.out with h0 | ⟨b', o', rfl, g1', g2', g3'⟩
      · omega
      have c1 : wr.cell? ⟨b, o + k, none⟩ = some (.int .i64 (d k)) := by rw [hw]; exact g3.int k hlt
      have c2 : wr.cell? ⟨b', o' + k, none⟩ = some (.int .i64 (d k)) := by rw [hw]; exact g3'.int k hlt
      have hkn : (k : Int) < (n : Int) := by omega
      have hdd : (d k != d k) = false := by simp
      clear hw g3 g3'
      go_wp2_with fail
      go_quiet (fail)
      go_wp2_with fail
      go_roundw
      case rel => exact ⟨k + 1, m + nq, by go_num, hlt, by rw [HWR.out]; exact (World.drewN_drewN _ _ _)⟩
      case measure => simp [intOf]; omega
    · clear hw
      go_wp2_with fail
      go_ret
      exact ⟨rfl, by rw [HWR.out]; exact below_self _ _ _⟩

end Go.Proofs.YtpgcieefipjjfaaGreat.mem
