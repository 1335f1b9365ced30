/-
  Several texts in one: Bss, Bst, Bsu, Bsv.
-/
import Derived.Test.YtdbgcbkmcbgdiaaRows
import Derived.Test.YtdbgcbkmcbgdiaaCsM
import Derived.Test.YtdbgcbkmcbgdiaaBaM
import Derived.BigQuiet
import Derived.Deep.Cut
namespace Go.Proofs.Ytdbgcbkmcbgdiaa.mem
open Go.RowKit
set_option linter.unusedVariables false

theorem Ob.ownS1 {w : World} {b n : Nat} {x : Nat → Int} (h : Ob w b n (ia x)) (hn : n ≤ 9223372036854775807) : OwnS w (.slice (some ⟨b, 0, none⟩) n n) n 1 (fun i _ => .int .i64 (x i)) b :=
  ⟨_, n, rfl, Nat.le_refl _, hn, .inr ⟨rfl, ⟨n, ia x, by omega, h, fun i j hi hj => by
    obtain rfl : j = 0 := by omega
    show ia x (i * 1 + 0) = _
    rw [Nat.mul_one, Nat.add_zero]
    rfl⟩⟩⟩
theorem suN_le (n : Nat) (N : Nat → Nod) (m : Nat) (P : Nat → Pip) (K : Nat) (d : Nat → Int) (hn : n ≤ 2000000) : suN n N m P K d ≤ 2000000 := by
  unfold suN
  split <;> omega
/-- are the first k elements the same? -/
def smB (d e : Nat → Int) (k : Nat) : Bool := (List.range k).all (fun z => d z == e z)
theorem smB_succ (d e : Nat → Int) (k : Nat) : smB d e (k + 1) = (smB d e k && (d k == e k)) := by
  unfold smB
  rw [List.range_succ, List.all_append]
  simp
theorem smB_no {d e : Nat → Int} {n k : Nat} (hk : k < n) (h : (d k == e k) = false) : smB d e n = false := by
  unfold smB
  rw [List.all_eq_false]
  exact ⟨k, List.mem_range.2 hk, by simpa using h⟩
set_option maxRecDepth 100000 in
set_option maxHeartbeats 8000000 in
theorem l06Same_any (w : World) (va vb : Value) (n : Nat) (d : Nat → Int) (la ha : Nat) (hv : Sl w va n d la ha) (e : Nat → Int) (lb hb : Nat) (hu : Sl w vb n e lb hb) (hn : n ≤ 9223372036854775807) :
    Calls Try.prog 35 #[va, vb] w fun e' w' => e' = .returned (.bool (smB d e n)) ∧ Below w.heap.size w w' := by
  obtain ⟨pa, ca, rfl, hva⟩ := hv
  obtain ⟨pb, cb, rfl, hvb⟩ := hu
  have HVA := Lib.hid hva
  have HVB := Lib.hid hvb
  have hb0 : ((n : Int) != (n : Int)) = false := by simp
  clear hva hvb
  go_enter Try.func35, Try.ntmps35
  go_wp2_with fail
  go_loopw [5] (fun iv wr => ∃ k : Nat, iv = .int .i64 k ∧ k ≤ n ∧ smB d e k = true ∧ (∀ b o, wr.cell? ⟨b, o, none⟩ = w.cell? ⟨b, o, none⟩) ∧ Below w.heap.size w wr) (fun iv _ => n - (intOf iv).toNat)
  case atStart => exact ⟨0, rfl, Nat.zero_le _, rfl, fun _ _ => rfl, Below.refl _ _⟩
  case round =>
    obtain ⟨k, rfl, hk, hb', hce, hbl⟩ := hrel
    generalize hQ : Exit.then _ _ = Q
    have HQ := Lib.hid hQ
    clear hQ
    have HF := Lib.hid hb'
    have HCE := Lib.hid hce
    have HBL := Lib.hid hbl
    clear hb' hce hbl
    have k0 : (0 : Int) ≤ (k : Int) := Int.natCast_nonneg _
    by_cases hlt : k < n
    · have k1 : (k : Int) < (n : Int) := by omega
      obtain ⟨ba, oa, rfl, _, _, hx⟩ : ∃ b o, pa = some ⟨b, o, none⟩ ∧ la ≤ b ∧ b < ha ∧ ∀ k, k < n → w.cell? ⟨b, o + k, none⟩ = some (.int .i64 (d k)) := by
        rcases HVA.out with e | e
        · omega
        · exact e
      obtain ⟨bb, ob, rfl, _, _, hz⟩ : ∃ b o, pb = some ⟨b, o, none⟩ ∧ lb ≤ b ∧ b < hb ∧ ∀ k, k < n → w.cell? ⟨b, o + k, none⟩ = some (.int .i64 (e k)) := by
        rcases HVB.out with e | e
        · omega
        · exact e
      have y0 := (HCE.out ba (oa + k)).trans (hx k hlt)
      have y1 := (HCE.out bb (ob + k)).trans (hz k hlt)
      have HX := Lib.hid hx
      have HZ := Lib.hid hz
      clear hx hz
      cases hq : (d k == e k)
      · have HR := Lib.hid (smB_no hlt hq)
        have hq2 : (d k != e k) = true := by unfold bne; rw [hq]; rfl
        clear hq
        go_wp2_with fail
        go_quiet (fail)
        go_wp2_with fail
        rw [← HQ.out]
        go_wp2_with fail
        go_ret
        exact ⟨ret_b HR.out.symm, below_dN HBL.out _⟩
      · have HR := Lib.hid (show smB d e (k + 1) = true by rw [smB_succ, HF.out, hq]; rfl)
        have hq2 : (d k != e k) = false := by unfold bne; rw [hq]; rfl
        clear hq
        go_wp2_with fail
        go_quiet (fail)
        go_wp2_with fail
        rw [← HQ.out]
        refine ⟨⟨_, _, _, _, _, _, _, _, _, _, _, _, _, _, _, _, _, ?rel, rfl⟩, ?measure⟩
        case rel => exact ⟨k + 1, by go_num, hlt, HR.out, fun b o => HCE.out b o, below_dN HBL.out _⟩
        case measure => simp [intOf]; omega
    · have hkn : n = k := by omega
      have HR := Lib.hid (show smB d e n = true by rw [hkn]; exact HF.out)
      have k1 : ¬ ((k : Int) < (n : Int)) := by omega
      clear hkn
      go_wp2_with fail
      rw [← HQ.out]
      go_wp2_with fail
      go_ret
      exact ⟨ret_b HR.out.symm, HBL.out⟩
theorem svC_zero {n : Nat} {N : Nat → Nod} {m : Nat} {P : Nat → Pip} {K : Nat} {d : Nat → Int} (hB : netB n N m P = true) : decide (svC n N m P K d = 0) = liB n K d := by
  unfold svC
  rw [hB, if_pos rfl]
  cases hl : liB n K d
  · rw [if_neg (fun g => by rw [liB_iff.2 g] at hl; cases hl)]
    rfl
  · rw [if_pos (liB_iff.1 hl)]
    rfl
end Go.Proofs.Ytdbgcbkmcbgdiaa.mem

namespace Go.Proofs.Ytdbgcbkmcbgdiaa.mem
open Go.RowKit
set_option linter.unusedVariables false

theorem absS_any (x : Int) (w : World) (h1 : -9223372036854775807 ≤ x) (h2 : x ≤ 9223372036854775807) : Calls Try.prog 33 #[.int .i64 x] w fun e w' => e = .returned (.int .i64 (x.natAbs : Int)) ∧ w = w' := by
  by_cases h : x < 0
  all_goals
    go_enter Try.func33, Try.ntmps33
    go_wp2
    go_ret
    exact ⟨ret_i2 (by omega), rfl⟩
theorem ovN_le (n : Nat) (N : Nat → Nod) (m : Nat) (P : Nat → Pip) (K : Nat) (d : Nat → Int) (hm : m ≤ 2000000) : ovN n N m P K d ≤ 2000000 := by
  have := fl_le (ovP P d) m
  unfold ovN
  split <;> omega
end Go.Proofs.Ytdbgcbkmcbgdiaa.mem

namespace Go.Proofs.Ytdbgcbkmcbgdiaa.mem
open Go.RowKit
set_option linter.unusedVariables false

theorem afC_no {n : Nat} {N : Nat → Nod} {m : Nat} {P : Nat → Pip} {K : Nat} {d : Nat → Int} {L : Nat} {s : Nat → Int} (h : flC n N m P K d ≠ 0) : afC n N m P K d L s = flC n N m P K d := by
  unfold flC at h
  unfold afC flC
  cases hB : netB n N m P
  · simp
  · rw [hB, if_pos rfl] at h
    rw [if_pos rfl, if_pos rfl]
    by_cases g : K = m ∧ flB d K = true
    · rw [if_pos g] at h
      exact absurd rfl h
    · rw [if_neg g, if_neg (fun q => g q.1)]
theorem afN_le (n : Nat) (N : Nat → Nod) (m : Nat) (P : Nat → Pip) (K : Nat) (d : Nat → Int) (L : Nat) (s : Nat → Int) (hm : m ≤ 2000000) : afN n N m P K d L s ≤ 2000000 := by
  unfold afN
  split <;> omega
theorem trV_f {P : Nat → Pip} {d : Nat → Int} {z : Int} {k : Nat} (hf : (P k).f = z) : trV P d z (k + 1) = trV P d z k + max (-(d k)) 0 := by
  rw [trV, if_pos (by unfold endB; simp [hf]), if_pos hf]
theorem trV_t {P : Nat → Pip} {d : Nat → Int} {z : Int} {k : Nat} (hf : (P k).f ≠ z) (ht : (P k).t = z) : trV P d z (k + 1) = trV P d z k + max (d k) 0 := by
  rw [trV, if_pos (by unfold endB; simp [ht]), if_neg hf]
theorem trV_o {P : Nat → Pip} {d : Nat → Int} {z : Int} {k : Nat} (hf : (P k).f ≠ z) (ht : (P k).t ≠ z) : trV P d z (k + 1) = trV P d z k := by
  rw [trV, if_neg (by unfold endB; simp [hf, ht]), Int.add_zero]
end Go.Proofs.Ytdbgcbkmcbgdiaa.mem

namespace Go.Proofs.Ytdbgcbkmcbgdiaa.mem
open Go.RowKit
set_option linter.unusedVariables false

theorem oth_sum {q : Pip} {z : Int} (h : endB q z = true) : q.f + q.t - z = othV q z := by
  unfold endB at h
  simp only [Bool.or_eq_true, beq_iff_eq] at h
  unfold othV
  by_cases hf : q.f = z
  · rw [if_pos hf]; omega
  · rw [if_neg hf]
    have := h.resolve_left hf
    omega
theorem fo_end {n : Nat} {N : Nat → Nod} {P : Nat → Pip} {m : Nat} (hN : netB n N m P = true) {V a : Nat} (hV : V < n) (h : fE n P m ((V : Nat) : Int) = ((a : Nat) : Int)) : endB (P a) ((V : Nat) : Int) = true := by
  rcases (fo_net (P := P) (m := m) hN).par ((V : Nat) : Int) (by omega) (by omega) with e | ⟨b, hb, e, g, _⟩
  · omega
  · obtain rfl : b = a := by omega
    exact g
theorem vis_len (n : Nat) (P : Nat → Pip) (m : Nat) (x : Int) : 1 ≤ (vis n P m x).length := by
  have := vis_self n P m x
  unfold vhas at this
  rcases Nat.eq_zero_or_pos (vis n P m x).length with h | h
  · rw [List.eq_nil_of_length_eq_zero h] at this
    cases this
  · exact h
theorem ffN_le (n : Nat) (N : Nat → Nod) (m : Nat) (P : Nat → Pip) (K : Nat) (d : Nat → Int) (hm : m ≤ 2000000) : ffN n N m P K d ≤ 2000000 := by
  unfold ffN
  split <;> omega
end Go.Proofs.Ytdbgcbkmcbgdiaa.mem
