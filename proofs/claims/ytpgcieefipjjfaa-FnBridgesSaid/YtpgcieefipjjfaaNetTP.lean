/-
  TurnPipe: the contracts of the program and of the specification. Conditions: as each states.
-/
import Derived.Test.YtpgcieefipjjfaaRows
import Derived.Test.YtpgcieefipjjfaaNetOw
import Derived.Test.YtpgcieefipjjfaaNetPA
import Derived.WalkKit
import Derived.ProofKit
import Derived.Outline
import Derived.OwnWalk
import Derived.Lib.Hide
import Derived.Deep.RegionHeld3
namespace Go.Proofs.Ytpgcieefipjjfaa.mem
open Go.RowKit
set_option linter.unusedVariables false

noncomputable def tpC (n : Nat) (N : Nat → Nod) (m : Nat) (P : Nat → Pip) (x : Int) : Int := codeB (netB n N m P) (inR x 0 (m - 1))
noncomputable def tpN (n : Nat) (N : Nat → Nod) (m : Nat) (P : Nat → Pip) (x : Int) (k : Nat) : Nat := if tpC n N m P x = 0 then k else 0
def turnP (P : Nat → Pip) (k : Nat) : Nat → Pip := fun i => if i = k then ⟨(P k).t, (P k).f, (P k).k, (P k).v, (P k).l⟩ else P i
theorem ni_err {w w' : World} {n m : Nat} {N : Nat → Nod} {P : Nat → Pip} {c c' : Int} {e : Ending} (h0 : n = 0) (h1 : m = 0) (hc : c = c') (he : e = .returned (.tuple #[.agg #[.slice none 0 0, .slice none 0 0], .int .i64 c])) (hb : Below w.heap.size w w') : NIPost w n N m P c' e w' := by
  subst h0 h1 hc
  exact ⟨_, w.heap.size, w.heap.size, he, NetOwn.none_ _ _ _ _ _, Nat.le_refl _, Nat.le_refl _, hb⟩

theorem upd_dw {X : Nat → Prop} {w w' : World} (h : Upd X w w') : Upd X w w'.drew := ⟨h.os, h.tape, h.output, h.size, h.block⟩
theorem turn_eq (P : Nat → Pip) (k : Nat) (c : Nat → Nat → Value) (h : ∀ i j, c i j = if i = k then (if j = 0 then .int .i64 (P k).t else if j = 1 then .int .i64 (P k).f else pipC P i j) else pipC P i j) :
    ∀ i j, j < 5 → c i j = pipC (turnP P k) i j := by
  intro i j hj
  rw [h i j]
  by_cases e : i = k
  · subst e
    rcases (by omega : j = 0 ∨ j = 1 ∨ j = 2 ∨ j = 3 ∨ j = 4) with rfl | rfl | rfl | rfl | rfl <;> simp [pipC, turnP]
  · rcases (by omega : j = 0 ∨ j = 1 ∨ j = 2 ∨ j = 3 ∨ j = 4) with rfl | rfl | rfl | rfl | rfl <;> simp [pipC, turnP, e]
theorem turn_row {w : World} {b m k : Nat} {P : Nat → Pip} (h : Rw w b m 5 (pipC P)) (hk : k < m) :
    Rw ((w.setCell ⟨b, k * 5, none⟩ (.int .i64 (P k).t)).setCell ⟨b, k * 5 + 1, none⟩ (.int .i64 (P k).f)) b m 5 (pipC (turnP P k)) := by
  refine (((h.set k 0 (.int .i64 (P k).t) hk (by omega)).set k 1 (.int .i64 (P k).f) hk (by omega))).congr fun i j hi hj => turn_eq P k _ (fun i j => ?_) i j hj
  unfold updC
  by_cases e : i = k
  · subst e
    by_cases e0 : j = 0
    · subst e0; simp
    · by_cases e1 : j = 1
      · subst e1; simp
      · simp [e0, e1]
  · simp [e]
theorem turn_row5 {w : World} {b m k : Nat} {P : Nat → Pip} (h : Rw w b m 5 (pipC P)) (hk : k < m) :
    Rw (((((w.setCell ⟨b, k * 5, none⟩ (.int .i64 (P k).t)).setCell ⟨b, k * 5 + 1, none⟩ (.int .i64 (P k).f)).setCell ⟨b, k * 5 + 2, none⟩ (.int .i64 (P k).k)).setCell ⟨b, k * 5 + 3, none⟩ (.int .i64 (P k).v)).setCell ⟨b, k * 5 + 4, none⟩ (.int .i64 (P k).l)) b m 5 (pipC (turnP P k)) := by
  refine ((((turn_row h hk).set k 2 (.int .i64 (P k).k) hk (by omega)).set k 3 (.int .i64 (P k).v) hk (by omega)).set k 4 (.int .i64 (P k).l) hk (by omega)).congr fun i j hi hj => ?_
  unfold updC
  by_cases e : i = k
  · subst e
    rcases (by omega : j = 0 ∨ j = 1 ∨ j = 2 ∨ j = 3 ∨ j = 4) with rfl | rfl | rfl | rfl | rfl <;> simp [pipC, turnP]
  · simp [e]
theorem ni_ok {w w3 w' : World} {u0 : Value} {n m n' m' b1 b2 r : Nat} {N : Nat → Nod} {P P' : Nat → Pip} {c : Int} {e : Ending} {cap : Nat} (hn : n' = n) (hm : m' = m) (hc : c = 0)
    (he : e = .returned (.tuple #[.agg #[u0, .slice (some ⟨b2, 0, none⟩) m cap], .int .i64 0])) (h : NetOwn w3 (.agg #[u0, .slice (some ⟨b2, 0, none⟩) m cap]) n N m P b1 b2) (hu : Upd (fun x => x = b2 ∨ x = r) w3 w') (hr : b1 ≠ r)
    (hR : Rw w' b2 m 5 (pipC P')) (hb1 : w.heap.size ≤ b1) (hb2 : w.heap.size ≤ b2) (hb : Below w.heap.size w w') (hm0 : 0 < m) : NIPost w n' N m' P' c e w' := by
  subst hn hm hc
  obtain ⟨z0, z1, he', g0, g1, hd⟩ := h.ex
  simp only [Value.agg.injEq, Array.mk.injEq, List.cons.injEq, and_true] at he'
  obtain ⟨rfl, rfl⟩ := he'
  obtain ⟨p, q, hv, h1, h2, _⟩ := g1.ex
  injection hv with _ _ e3
  subst e3
  exact ⟨_, b1, b2, he, ⟨_, _, rfl, g0.upd hu (by rcases hd with hd | hd | hd; exact .inl hd; omega; exact .inr (by rintro (hx | hx); exact hd hx; exact hr hx)), hR.own h1 h2, hd⟩, hb1, hb2, hb⟩

end Go.Proofs.Ytpgcieefipjjfaa.mem
