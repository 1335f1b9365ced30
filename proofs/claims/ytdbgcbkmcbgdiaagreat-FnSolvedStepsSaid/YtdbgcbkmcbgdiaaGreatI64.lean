/-
  Slices of integers as rows of one-cell elements: the laws' own eqInt64S, markInt64S, heldInt64S. Conditions: as each states.
-/
import Derived.Test.YtdbgcbkmcbgdiaaGreatRows
import Derived.Test.YtdbgcbkmcbgdiaaGreatCs
import Derived.WalkKit
import Derived.ProofKit
import Derived.Lib.Hide
import Derived.Deep.QuietTactic
import Derived.BigQuiet
namespace Go.Proofs.YtdbgcbkmcbgdiaaGreat.mem
open Go.RowKit
set_option linter.unusedVariables false

def intC (d : Nat → Int) (i _j : Nat) : Value := .int .i64 (d i)
theorem At.int {w : World} {b o n : Nat} {d : Nat → Int} (h : At w b o n 1 (intC d)) (k : Nat) (hk : k < n) : w.cell? ⟨b, o + k, none⟩ = some (.int .i64 (d k)) := by
  have := h.cell k 0 hk (by omega)
  simpa [intC] using this
theorem Rw.int {w : World} {b n : Nat} {c : Nat → Nat → Value} (h : Rw w b n 1 c) (k : Nat) (hk : k < n) : w.cell? ⟨b, k, none⟩ = some (c k 0) := by
  have := h.cell k 0 hk (by omega)
  simpa using this
theorem Rw.set1 {w : World} {b n k : Nat} {c d : Nat → Nat → Value} (h : Rw w b n 1 c) (e : ∀ i j, i < k → j < 1 → c i j = d i j) (hk : k < n) : ∃ c', Rw (w.setCell ⟨b, k, none⟩ (d k 0)) b n 1 c' ∧ ∀ i j, i < k + 1 → j < 1 → c' i j = d i j := by
  have := h.set k 0 (d k 0) hk (by omega)
  simp only [Nat.mul_one, Nat.add_zero] at this
  refine ⟨_, this, fun i j hi hj => ?_⟩
  unfold updC
  by_cases hik : i = k
  · subst hik
    obtain rfl : j = 0 := by omega
    simp
  · simp [hik, e i j (by omega) hj]
theorem ret_ii {k : IntKind} {a b : Int} (h : a = b) : Ending.returned (.int k a) = .returned (.int k b) := by rw [h]

set_option maxHeartbeats 1000000 in
theorem eqInts_any (w : World) (v u : Value) (n : Nat) (d : Nat → Int) (lo hi lo' hi' : Nat) (h : Cs w v n 1 (intC d) lo hi) (g : Cs w u n 1 (intC d) lo' hi') :
    Calls Tryz.prog 28 #[v, u] w fun e w' => e = .returned (.bool true) ∧ Below w.heap.size w w' := by
  obtain ⟨p, cap, rfl, _, _, hc⟩ := h
  obtain ⟨p', cap', rfl, _, _, hc'⟩ := g
  have HC := Lib.hid hc
  have HC' := Lib.hid hc'
  clear hc hc'
  have hbb : ((n : Int) == n) = true := by simp
  go_enter Tryz.func28, Tryz.ntmps28
  go_wp2_with fail
  go_loopw [5] (fun i wr => ∃ k m : Nat, i = .int .i64 k ∧ k ≤ n ∧ wr = w.drewN m) (fun i _ => n - (intOf i).toNat)
  case atStart => exact ⟨0, 0, rfl, Nat.zero_le _, rfl⟩
  case round =>
    obtain ⟨k, m, rfl, hk, hw⟩ := hrel
    have HWR := Lib.hid hw
    by_cases hlt : k < n
    · rcases HC.out with h0 | ⟨b, o, rfl, g1, g2, g3⟩
      · omega
      rcases HC'.out with h0 | ⟨b', o', rfl, g1', g2', g3'⟩
      · omega
      have c1 : wr.cell? ⟨b, o + k, none⟩ = some (.int .i64 (d k)) := by rw [hw]; exact g3.int k hlt
      have c2 : wr.cell? ⟨b', o' + k, none⟩ = some (.int .i64 (d k)) := by rw [hw]; exact g3'.int k hlt
      have hkn : (k : Int) < (n : Int) := by omega
      have hdd : (d k != d k) = false := by simp
      clear hw g3 g3'
      go_wp2_with fail
      go_quiet (fail)
      go_wp2_with fail
      go_roundw
      case rel => exact ⟨k + 1, m + nq, by go_num, hlt, by rw [HWR.out]; exact (World.drewN_drewN _ _ _)⟩
      case measure => simp [intOf]; omega
    · clear hw
      go_wp2_with fail
      go_ret
      exact ⟨rfl, by rw [HWR.out]; exact below_self _ _ _⟩

set_option maxHeartbeats 1000000 in
theorem markInts_any (w : World) (v : Value) (n b : Nat) (d : Nat → Int) (k : Nat) (h : OwnS w v n 1 (intC d) b) (hn : n ≤ 2000000) (k1 : k ≤ 1000000000) :
    Calls Tryz.prog 31 #[v, .int .i64 k] w fun e w' => e = .returned (.int .i64 (k + n : Nat)) ∧ OwnS w' v n 1 (intC fun j => k + j) b ∧ Upd (fun x => n ≠ 0 ∧ x = b) w w' := by
  obtain ⟨p, cap, rfl, q1, q2, hc⟩ := h
  have HC := Lib.hid hc
  clear hc
  go_enter Tryz.func31, Tryz.ntmps31
  go_wp2_with fail
  go_loopw [1, 5] (fun q i wr => ∃ j : Nat, q = .int .i64 (k + j) ∧ i = .int .i64 j ∧ j ≤ n ∧ (∃ c, (n = 0 ∨ Rw wr b n 1 c) ∧ ∀ x y, x < j → y < 1 → c x y = intC (fun j => k + j) x y) ∧ Upd (fun x => n ≠ 0 ∧ x = b) w wr) (fun _ i _ => n - (intOf i).toNat)
  case atStart => exact ⟨0, by go_num, rfl, Nat.zero_le _, ⟨_, HC.out.imp id (fun x => x.2), fun x y hx => by omega⟩, Upd.refl _ _⟩
  case round =>
    obtain ⟨j, rfl, rfl, hj, hrow, hupd⟩ := hrel
    have HR := Lib.hid hrow
    have HU := Lib.hid hupd
    clear hrow hupd
    by_cases hlt : j < n
    · rcases HC.out with h0 | ⟨rfl, _⟩
      · omega
      obtain ⟨cc, h0 | hcc, hce⟩ := HR.out
      · omega
      have HCE := Lib.hid hce
      have HCC := Lib.hid hcc
      have fr := hcc.free j
      have ck := hcc.int j hlt
      clear hce hcc
      go_wp2_with fail
      go_roundw
      case rel =>
        have st := HCC.out.set1 (d := intC (fun j => (k : Int) + j)) HCE.out hlt
        exact ⟨j + 1, by congr 1 <;> omega, by go_num, hlt, st.imp (fun c g => ⟨.inr g.1, g.2⟩), HU.out.trans ((Upd.of_only ((Only.refl _ _).setCell _ _)).mono (fun k _ e => ⟨by omega, e⟩))⟩
      case measure => simp [intOf]; omega
    · obtain rfl : j = n := by omega
      go_wp2_with fail
      go_ret
      refine ⟨ret_ii (by omega), ⟨p, cap, rfl, q1, q2, ?_⟩, HU.out⟩
      rcases HC.out with h0 | ⟨e, _⟩
      · exact .inl h0
      · obtain ⟨c, h0 | h1, h2⟩ := HR.out
        · exact .inl h0
        · exact .inr ⟨e, h1.congr h2⟩
set_option maxHeartbeats 1000000 in
theorem heldInts_any (w : World) (v : Value) (n : Nat) (k : Nat) (lo hi : Nat) (h : Cs w v n 1 (intC fun j => k + j) lo hi) (hn : n ≤ 2000000) (k1 : k ≤ 1000000000) :
    Calls Tryz.prog 32 #[v, .int .i64 k] w fun e w' => e = .returned (.int .i64 (k + n : Nat)) ∧ Below w.heap.size w w' := by
  obtain ⟨p, cap, rfl, _, _, hc⟩ := h
  have HC := Lib.hid hc
  clear hc
  go_enter Tryz.func32, Tryz.ntmps32
  go_wp2_with fail
  go_loop [1, 5] (fun q i => ∃ j : Nat, q = .int .i64 (k + j) ∧ i = .int .i64 j ∧ j ≤ n) (fun _ i => n - (intOf i).toNat)
  case atStart => exact ⟨0, by go_num, rfl, Nat.zero_le _⟩
  case round =>
    obtain ⟨j, rfl, rfl, hj⟩ := hrel
    by_cases hlt : j < n
    · rcases HC.out with h0 | ⟨b, o, rfl, g1, g2, g3⟩
      · omega
      have c1 := g3.int j hlt
      clear g3
      have hbb : ((k : Int) + (j : Int) != k + j) = false := by simp
      go_wp2_with fail
      go_round
      case rel => exact ⟨j + 1, by congr 1 <;> omega, by go_num, hlt⟩
      case measure => simp [intOf]; omega
    · obtain rfl : j = n := by omega
      go_wp2_with fail
      go_ret
      exact ⟨ret_ii (by omega), Below.refl _ _⟩
end Go.Proofs.YtdbgcbkmcbgdiaaGreat.mem
