/-
  What the exact laws' proofs by program use: facts carried over a call; what a function's answer is. No condition.
-/
import Derived.Test.YtdbgcbkmcbgdiaaDoorRows
import Derived.Test.YtdbgcbkmcbgdiaaDoorNetH
import Derived.Test.YtdbgcbkmcbgdiaaDoorNetV
import Derived.Test.YtdbgcbkmcbgdiaaDoorOpen
import Derived.Test.YtdbgcbkmcbgdiaaDoorLaw
import Derived.Test.YtdbgcbkmcbgdiaaDoorI64
import Derived.WalkKit
import Derived.ProofKit
namespace Go.Proofs.YtdbgcbkmcbgdiaaDoor.mem
open Go.RowKit
set_option linter.unusedVariables false

theorem belowNext {W w w' : World} (h : Below W.heap.size W w) (g : Below w.heap.size w w') : Below W.heap.size W w' := h.trans (g.mono h.size)
theorem belowNextUpd {X : Nat → Prop} {W w w' : World} (h : Below W.heap.size W w) (g : Upd X w w') (hx : ∀ k, X k → W.heap.size ≤ k) : Below W.heap.size W w' := h.trans (g.below h.size (fun k _ e => hx k e))
theorem Ob.next {w w' : World} {b N : Nat} {d : Nat → Value} (h : Ob w b N d) (g : Below w.heap.size w w') : Ob w' b N d := h.below g h.lt
theorem Ob.next_upd {X : Nat → Prop} {w w' : World} {b N : Nat} {d : Nat → Value} (h : Ob w b N d) (g : Upd X w w') (hx : ¬ X b) : Ob w' b N d := h.keep (g.block b h.lt hx)
theorem NetOwn.next {w w' : World} {v : Value} {n m b1 b2 : Nat} {N : Nat → Nod} {P : Nat → Pip} (h : NetOwn w v n N m P b1 b2) (g : Below w.heap.size w w') : NetOwn w' v n N m P b1 b2 := h.below g (Nat.le_refl _)
theorem NetOwn.next_upd {X : Nat → Prop} {w w' : World} {v : Value} {n m b1 b2 : Nat} {N : Nat → Nod} {P : Nat → Pip} (h : NetOwn w v n N m P b1 b2) (g : Upd X w w') (hx : (n = 0 ∨ ¬ X b1) ∧ (m = 0 ∨ ¬ X b2)) : NetOwn w' v n N m P b1 b2 := h.upd g hx.1 hx.2
theorem OwnS.next {w w' : World} {v : Value} {n z b : Nat} {c : Nat → Nat → Value} (h : OwnS w v n z c b) (g : Below w.heap.size w w') : OwnS w' v n z c b := h.below g (Nat.le_refl _)
theorem OwnS.next_upd {X : Nat → Prop} {w w' : World} {v : Value} {n z b : Nat} {c : Nat → Nat → Value} (h : OwnS w v n z c b) (g : Upd X w w') (hx : n = 0 ∨ ¬ X b) : OwnS w' v n z c b := h.upd g hx
theorem NetOwn.shape {w : World} {v : Value} {n m b1 b2 : Nat} {N : Nat → Nod} {P : Nat → Pip} (h : NetOwn w v n N m P b1 b2) : ∃ p0 c0 p1 c1, v = .agg #[.slice p0 n c0, .slice p1 m c1] := by
  obtain ⟨v0, v1, rfl, g0, g1, _⟩ := h.ex
  obtain ⟨p0, c0, e0, _⟩ := g0.ex
  obtain ⟨p1, c1, e1, _⟩ := g1.ex
  exact ⟨p0, c0, p1, c1, by rw [e0, e1]⟩
theorem NetAt.shape {w : World} {v : Value} {n m lo hi : Nat} {N : Nat → Nod} {P : Nat → Pip} (h : NetAt w v n N m P lo hi) : ∃ p0 c0 p1 c1, v = .agg #[.slice p0 n c0, .slice p1 m c1] := by
  obtain ⟨v0, v1, rfl, g0, g1⟩ := h.ex
  obtain ⟨p0, c0, e0, _⟩ := g0.ex
  obtain ⟨p1, c1, e1, _⟩ := g1.ex
  exact ⟨p0, c0, p1, c1, by rw [e0, e1]⟩
theorem NetOwn.lts {w : World} {v : Value} {n m b1 b2 : Nat} {N : Nat → Nod} {P : Nat → Pip} (h : NetOwn w v n N m P b1 b2) : (n = 0 ∨ b1 < w.heap.size) ∧ (m = 0 ∨ b2 < w.heap.size) := ⟨h.lt1, h.lt2⟩

/-- the answers: a list and a code; a network and a code; two numbers; a Bool -/
def LIPost (w : World) (cnt : Nat) (d : Nat → Int) (c : Int) (e : Ending) (w' : World) : Prop :=
  ∃ v b, e = .returned (.tuple #[v, .int .i64 c]) ∧ OwnS w' v cnt 1 (fun i _ => .int .i64 (d i)) b ∧ w.heap.size ≤ b ∧ Below w.heap.size w w'
def NIPost (w : World) (n : Nat) (N : Nat → Nod) (m : Nat) (P : Nat → Pip) (c : Int) (e : Ending) (w' : World) : Prop :=
  ∃ v b1 b2, e = .returned (.tuple #[v, .int .i64 c]) ∧ NetOwn w' v n N m P b1 b2 ∧ w.heap.size ≤ b1 ∧ w.heap.size ≤ b2 ∧ Below w.heap.size w w'
def IIPost (w : World) (a c : Int) (e : Ending) (w' : World) : Prop := e = .returned (.tuple #[.int .i64 a, .int .i64 c]) ∧ Below w.heap.size w w'
def BPost (w : World) (b : Bool) (e : Ending) (w' : World) : Prop := e = .returned (.bool b) ∧ Below w.heap.size w w'
theorem NetAt.drew {w : World} {v : Value} {n m lo hi : Nat} {N : Nat → Nod} {P : Nat → Pip} (h : NetAt w v n N m P lo hi) : NetAt w.drew v n N m P lo hi := h.below (B := hi) ⟨rfl, rfl, rfl, Nat.le_refl _, fun _ _ => rfl⟩ (Nat.le_refl _)
theorem NetOwn.drew {w : World} {v : Value} {n m b1 b2 : Nat} {N : Nat → Nod} {P : Nat → Pip} (h : NetOwn w v n N m P b1 b2) : NetOwn w.drew v n N m P b1 b2 := h.below (B := w.heap.size) ⟨rfl, rfl, rfl, Nat.le_refl _, fun _ _ => rfl⟩ (Nat.le_refl _)
theorem hold4 {w w' : World} {a x : Nat} {v0 v1 u0 u1 : Value} (hb : Below w.heap.size w w') (ha : a < w.heap.size) (hx : x < w.heap.size)
    (h : w.cell? ⟨a, 0, none⟩ = some v0 ∧ w.cell? ⟨a, 1, none⟩ = some v1 ∧ w.cell? ⟨x, 0, none⟩ = some u0 ∧ w.cell? ⟨x, 1, none⟩ = some u1) :
    w'.cell? ⟨a, 0, none⟩ = some v0 ∧ w'.cell? ⟨a, 1, none⟩ = some v1 ∧ w'.cell? ⟨x, 0, none⟩ = some u0 ∧ w'.cell? ⟨x, 1, none⟩ = some u1 :=
  ⟨(hb.cell (p := ⟨a, 0, none⟩) ha).trans h.1, (hb.cell (p := ⟨a, 1, none⟩) ha).trans h.2.1, (hb.cell (p := ⟨x, 0, none⟩) hx).trans h.2.2.1, (hb.cell (p := ⟨x, 1, none⟩) hx).trans h.2.2.2⟩
end Go.Proofs.YtdbgcbkmcbgdiaaDoor.mem
