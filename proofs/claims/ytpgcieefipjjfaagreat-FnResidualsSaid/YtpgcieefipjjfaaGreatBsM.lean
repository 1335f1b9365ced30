/-
  Several texts in one: Bss, Bst, Bsu, Bsv.
-/
import Derived.Test.YtpgcieefipjjfaaGreatRows
import Derived.Test.YtpgcieefipjjfaaGreatCsM
import Derived.Test.YtpgcieefipjjfaaGreatBaM
import Derived.BigQuiet
import Derived.Deep.Cut
namespace Go.Proofs.YtpgcieefipjjfaaGreat.mem
open Go.RowKit
set_option linter.unusedVariables false

theorem Ob.ownS1 {w : World} {b n : Nat} {x : Nat → Int} (h : Ob w b n (ia x)) (hn : n ≤ 9223372036854775807) : OwnS w (.slice (some ⟨b, 0, none⟩) n n) n 1 (fun i _ => .int .i64 (x i)) b :=
  ⟨_, n, rfl, Nat.le_refl _, hn, .inr ⟨rfl, ⟨n, ia x, by omega, h, fun i j hi hj => by
    obtain rfl : j = 0 := by omega
    show ia x (i * 1 + 0) = _
    rw [Nat.mul_one, Nat.add_zero]
    rfl⟩⟩⟩
theorem suN_le (n : Nat) (N : Nat → Nod) (m : Nat) (P : Nat → Pip) (K : Nat) (d : Nat → Int) (hn : n ≤ 2000000) : suN n N m P K d ≤ 2000000 := by
  unfold suN
  split <;> omega
/-- are the first k elements the same? -/
def smB (d e : Nat → Int) (k : Nat) : Bool := (List.range k).all (fun z => d z == e z)
theorem smB_succ (d e : Nat → Int) (k : Nat) : smB d e (k + 1) = (smB d e k && (d k == e k)) := by
  unfold smB
  rw [List.range_succ, List.all_append]
  simp
theorem smB_no {d e : Nat → Int} {n k : Nat} (hk : k < n) (h : (d k == e k) = false) : smB d e n = false := by
  unfold smB
  rw [List.all_eq_false]
  exact ⟨k, List.mem_range.2 hk, by simpa using h⟩
theorem svC_zero {n : Nat} {N : Nat → Nod} {m : Nat} {P : Nat → Pip} {K : Nat} {d : Nat → Int} (hB : netB n N m P = true) : decide (svC n N m P K d = 0) = liB n K d := by
  unfold svC
  rw [hB, if_pos rfl]
  cases hl : liB n K d
  · rw [if_neg (fun g => by rw [liB_iff.2 g] at hl; cases hl)]
    rfl
  · rw [if_pos (liB_iff.1 hl)]
    rfl
end Go.Proofs.YtpgcieefipjjfaaGreat.mem

namespace Go.Proofs.YtpgcieefipjjfaaGreat.mem
open Go.RowKit
set_option linter.unusedVariables false

theorem absS_any (x : Int) (w : World) (h1 : -9223372036854775807 ≤ x) (h2 : x ≤ 9223372036854775807) : Calls Tryz.prog 62 #[.int .i64 x] w fun e w' => e = .returned (.int .i64 (x.natAbs : Int)) ∧ w = w' := by
  by_cases h : x < 0
  all_goals
    go_enter Tryz.func62, Tryz.ntmps62
    go_wp2
    go_ret
    exact ⟨ret_i2 (by omega), rfl⟩
theorem ovN_le (n : Nat) (N : Nat → Nod) (m : Nat) (P : Nat → Pip) (K : Nat) (d : Nat → Int) (hm : m ≤ 2000000) : ovN n N m P K d ≤ 2000000 := by
  have := fl_le (ovP P d) m
  unfold ovN
  split <;> omega
end Go.Proofs.YtpgcieefipjjfaaGreat.mem

namespace Go.Proofs.YtpgcieefipjjfaaGreat.mem
open Go.RowKit
set_option linter.unusedVariables false

theorem afC_no {n : Nat} {N : Nat → Nod} {m : Nat} {P : Nat → Pip} {K : Nat} {d : Nat → Int} {L : Nat} {s : Nat → Int} (h : flC n N m P K d ≠ 0) : afC n N m P K d L s = flC n N m P K d := by
  unfold flC at h
  unfold afC flC
  cases hB : netB n N m P
  · simp
  · rw [hB, if_pos rfl] at h
    rw [if_pos rfl, if_pos rfl]
    by_cases g : K = m ∧ flB d K = true
    · rw [if_pos g] at h
      exact absurd rfl h
    · rw [if_neg g, if_neg (fun q => g q.1)]
theorem afN_le (n : Nat) (N : Nat → Nod) (m : Nat) (P : Nat → Pip) (K : Nat) (d : Nat → Int) (L : Nat) (s : Nat → Int) (hm : m ≤ 2000000) : afN n N m P K d L s ≤ 2000000 := by
  unfold afN
  split <;> omega
theorem trV_f {P : Nat → Pip} {d : Nat → Int} {z : Int} {k : Nat} (hf : (P k).f = z) : trV P d z (k + 1) = trV P d z k + max (-(d k)) 0 := by
  rw [trV, if_pos (by unfold endB; simp [hf]), if_pos hf]
theorem trV_t {P : Nat → Pip} {d : Nat → Int} {z : Int} {k : Nat} (hf : (P k).f ≠ z) (ht : (P k).t = z) : trV P d z (k + 1) = trV P d z k + max (d k) 0 := by
  rw [trV, if_pos (by unfold endB; simp [ht]), if_neg hf]
theorem trV_o {P : Nat → Pip} {d : Nat → Int} {z : Int} {k : Nat} (hf : (P k).f ≠ z) (ht : (P k).t ≠ z) : trV P d z (k + 1) = trV P d z k := by
  rw [trV, if_neg (by unfold endB; simp [hf, ht]), Int.add_zero]
end Go.Proofs.YtpgcieefipjjfaaGreat.mem

namespace Go.Proofs.YtpgcieefipjjfaaGreat.mem
open Go.RowKit
set_option linter.unusedVariables false

theorem oth_sum {q : Pip} {z : Int} (h : endB q z = true) : q.f + q.t - z = othV q z := by
  unfold endB at h
  simp only [Bool.or_eq_true, beq_iff_eq] at h
  unfold othV
  by_cases hf : q.f = z
  · rw [if_pos hf]; omega
  · rw [if_neg hf]
    have := h.resolve_left hf
    omega
theorem fo_end {n : Nat} {N : Nat → Nod} {P : Nat → Pip} {m : Nat} (hN : netB n N m P = true) {V a : Nat} (hV : V < n) (h : fE n P m ((V : Nat) : Int) = ((a : Nat) : Int)) : endB (P a) ((V : Nat) : Int) = true := by
  rcases (fo_net (P := P) (m := m) hN).par ((V : Nat) : Int) (by omega) (by omega) with e | ⟨b, hb, e, g, _⟩
  · omega
  · obtain rfl : b = a := by omega
    exact g
theorem vis_len (n : Nat) (P : Nat → Pip) (m : Nat) (x : Int) : 1 ≤ (vis n P m x).length := by
  have := vis_self n P m x
  unfold vhas at this
  rcases Nat.eq_zero_or_pos (vis n P m x).length with h | h
  · rw [List.eq_nil_of_length_eq_zero h] at this
    cases this
  · exact h
theorem ffN_le (n : Nat) (N : Nat → Nod) (m : Nat) (P : Nat → Pip) (K : Nat) (d : Nat → Int) (hm : m ≤ 2000000) : ffN n N m P K d ≤ 2000000 := by
  unfold ffN
  split <;> omega
end Go.Proofs.YtpgcieefipjjfaaGreat.mem
