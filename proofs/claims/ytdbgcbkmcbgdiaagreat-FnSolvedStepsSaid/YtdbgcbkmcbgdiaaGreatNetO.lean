/-
  OtherEnd: one answer, and the contracts of the program and of the specification. Conditions: as each states.
-/
import Derived.Test.YtdbgcbkmcbgdiaaGreatRows
import Derived.Test.YtdbgcbkmcbgdiaaGreatNetF
import Derived.Test.YtdbgcbkmcbgdiaaGreatNetX
import Derived.WalkKit
import Derived.ProofKit
import Derived.Outline
import Derived.OwnWalk
import Derived.Lib.Hide
import Derived.Deep.QuietTactic
import Derived.BigQuiet
namespace Go.Proofs.YtdbgcbkmcbgdiaaGreat.mem
open Go.RowKit
set_option linter.unusedVariables false

def endB (q : Pip) (x : Int) : Bool := (q.f == x) || (q.t == x)
def othV (q : Pip) (x : Int) : Int := if q.f = x then q.t else q.f
theorem endsAt_any (q : Pip) (x : Int) (w : World) : Calls Tryz.prog 112 #[.agg #[.int .i64 q.f, .int .i64 q.t, .int .i64 q.k, .int .i64 q.v, .int .i64 q.l], .int .i64 x] w fun e w' => e = .returned (.bool (endB q x)) ∧ Below w.heap.size w w' := by
  unfold endB
  cases h1 : (q.f == x)
  all_goals
    go_enter Tryz.func112, Tryz.ntmps112
    go_wp2_with fail
    go_ret
    exact ⟨ret_b (by simp), below_new _ _⟩
theorem otherEnd_any (q : Pip) (x : Int) (w : World) : Calls Tryz.prog 113 #[.agg #[.int .i64 q.f, .int .i64 q.t, .int .i64 q.k, .int .i64 q.v, .int .i64 q.l], .int .i64 x] w fun e w' => e = .returned (.int .i64 (othV q x)) ∧ Below w.heap.size w w' := by
  by_cases h : q.f = x
  · have h1 : (q.f == x) = true := by rw [beq_iff_eq]; exact h
    have HV := Lib.hid (show othV q x = q.t from if_pos h)
    clear h
    go_enter Tryz.func113, Tryz.ntmps113
    go_wp2_with fail
    go_ret
    exact ⟨ret_i2 HV.out.symm, below_new _ _⟩
  · have h1 : (q.f == x) = false := by rw [beq_eq_false_iff_ne]; exact h
    have HV := Lib.hid (show othV q x = q.f from if_neg h)
    clear h
    go_enter Tryz.func113, Tryz.ntmps113
    go_wp2_with fail
    go_ret
    exact ⟨ret_i2 HV.out.symm, below_new _ _⟩

/-- OtherEnd's code and answer -/
noncomputable def oeC (n : Nat) (N : Nat → Nod) (m : Nat) (P : Nat → Pip) (x y : Int) : Int :=
  if codeB (netB n N m P) (inR x 0 (m - 1) && inR y 0 (n - 1)) = 0 then (if endB (P x.toNat) y = true then 0 else 5) else codeB (netB n N m P) (inR x 0 (m - 1) && inR y 0 (n - 1))
noncomputable def oeV (n : Nat) (N : Nat → Nod) (m : Nat) (P : Nat → Pip) (x y : Int) : Int := if oeC n N m P x y = 0 then othV (P x.toNat) y else 0
theorem pipB_parts {n : Int} {q : Pip} (h : pipB n q = true) : (0 ≤ q.f ∧ q.f ≤ n - 1) ∧ (0 ≤ q.t ∧ q.t ≤ n - 1) ∧ q.f ≠ q.t := by
  rw [pipB_eq] at h
  simp only [Bool.and_eq_true, inR_iff, bne_iff_ne] at h
  exact ⟨h.1.1.1, h.1.1.2, h.1.2⟩
theorem net_pip {n : Nat} {N : Nat → Nod} {m : Nat} {P : Nat → Pip} (h : netB n N m P = true) {k : Nat} (hk : k < m) : pipB n (P k) = true := by
  unfold netB at h
  simp only [Bool.and_eq_true] at h
  exact pipesB_iff.1 h.2 k hk
theorem net_sz {n : Nat} {N : Nat → Nod} {m : Nat} {P : Nat → Pip} (h : netB n N m P = true) : 1 ≤ n ∧ n ≤ 24 ∧ m ≤ 40 := by
  unfold netB at h
  simp only [Bool.and_eq_true] at h
  exact szB_iff.1 h.1.1
theorem ret_2 {a b c d : Int} (h : a = b) (g : c = d) : Ending.returned (.tuple #[.int .i64 a, .int .i64 c]) = .returned (.tuple #[.int .i64 b, .int .i64 d]) := by rw [h, g]
theorem sum_other {q : Pip} {n y : Int} (h : pipB n q = true) (he : endB q y = true) : q.f + q.t - y = othV q y := by
  have := pipB_parts h
  unfold endB at he
  unfold othV
  simp only [Bool.or_eq_true, beq_iff_eq] at he
  split <;> omega

set_option maxRecDepth 100000 in
set_option maxHeartbeats 4000000 in
theorem l02Other_any (w : World) (v : Value) (n : Nat) (N : Nat → Nod) (m : Nat) (P : Nat → Pip) (lo hi : Nat) (h : NetAt w v n N m P lo hi) (hhi : hi ≤ w.heap.size) (hN : ∀ i, i < n → (N i).s.size ≤ 9223372036854775807) (hm2 : m ≤ 2000000) (k : Nat) (hkm : k < m) (y : Int) (hq : pipB n (P k) = true) (hn2 : n ≤ 2000000) (hy : inR y 0 (n - 1) = true) :
    Calls Tryz.prog 101 #[v, .int .i64 k, .int .i64 y] w fun e w' => e = .returned (.int .i64 ((P k).f + (P k).t - y)) ∧ Below w.heap.size w w' := by
  obtain ⟨v0, v1, rfl, g0, g1⟩ := h.ex
  obtain ⟨p0, c0, rfl⟩ := g0.shape
  obtain ⟨p1, c1, rfl⟩ := g1.shape
  have hn9 : n ≤ 9223372036854775807 := by
    obtain ⟨p, cap, he, q1, q2, _⟩ := g0.ex
    omega
  have hm9 : m ≤ 9223372036854775807 := by
    obtain ⟨p, cap, he, q1, q2, _⟩ := g1.ex
    omega
  have HC0 : Hid (n = 0 ∨ ∃ b o, p0 = some ⟨b, o, none⟩ ∧ lo ≤ b ∧ b < hi ∧ At w b o n 3 (nodC N)) := by
    obtain ⟨p, cap, hv, _, _, hc⟩ := g0.ex
    injection hv with e1 _ e2
    subst e1
    exact Lib.hid hc
  have HC1 : Hid (m = 0 ∨ ∃ b o, p1 = some ⟨b, o, none⟩ ∧ lo ≤ b ∧ b < hi ∧ At w b o m 5 (pipC P)) := by
    obtain ⟨p, cap, hv, _, _, hc⟩ := g1.ex
    injection hv with e1 _ e2
    subst e1
    exact Lib.hid hc
  have HV := Lib.hid h
  have HN := Lib.hid hN
  clear h g0 g1 hN
  have A0 := boxed w (.slice p0 n c0) (.slice p1 m c1) 27
  have C0 : Below w.heap.size w _ := below_new w (Obj.cells #[Value.slice p0 n c0, Value.slice p1 m c1] 27)
  have hs0 : w.heap.size + 1 ≤ (w.alloc (Obj.cells #[Value.slice p0 n c0, Value.slice p1 m c1] 27)).heap.size := by simp
  obtain ⟨⟨q1, q2⟩, ⟨q3, q4⟩, _⟩ := pipB_parts hq
  obtain ⟨q5, q6⟩ := inR_iff.1 hy
  have e1 := A0.b0
  have e2 := A0.b1
  rcases HC1.out with h0 | ⟨b, o, rfl, hlo, hb, g3⟩
  · omega
  have HX0 : Hid (w.cell? ⟨b, o + k * 5, none⟩ = some (.int .i64 (P k).f)) := Lib.hid (g3.cell k 0 hkm (by omega))
  have HX1 : Hid (w.cell? ⟨b, o + k * 5 + 1, none⟩ = some (.int .i64 (P k).t)) := Lib.hid (g3.cell k 1 hkm (by omega))
  have HX2 : Hid (w.cell? ⟨b, o + k * 5 + 2, none⟩ = some (.int .i64 (P k).k)) := Lib.hid (g3.cell k 2 hkm (by omega))
  have HX3 : Hid (w.cell? ⟨b, o + k * 5 + 3, none⟩ = some (.int .i64 (P k).v)) := Lib.hid (g3.cell k 3 hkm (by omega))
  have HX4 : Hid (w.cell? ⟨b, o + k * 5 + 4, none⟩ = some (.int .i64 (P k).l)) := Lib.hid (g3.cell k 4 hkm (by omega))
  clear g3
  have r1 : IntKind.i64.wrap ((P k).f + (P k).t) = (P k).f + (P k).t := IntWalk.i64_in _ (by omega)
  have r2 : IntKind.i64.wrap ((P k).f + (P k).t - y) = (P k).f + (P k).t - y := IntWalk.i64_in _ (by omega)
  have i0 : (0 : Int) ≤ (k : Int) := Int.natCast_nonneg _
  have i1 : (k : Int) < (m : Int) := by omega
  have x0 := HX0.out
  have x1 := HX1.out
  have hbw : b < w.heap.size := by omega
  clear q1 q2 q3 q4 q5 q6 hq hy
  go_enter Tryz.func101, Tryz.ntmps101
  go_wp2_with fail
  go_quiet (fail)
  go_wp2_with fail
  go_ret
  exact ⟨rfl, below_dr C0 _⟩

end Go.Proofs.YtdbgcbkmcbgdiaaGreat.mem
