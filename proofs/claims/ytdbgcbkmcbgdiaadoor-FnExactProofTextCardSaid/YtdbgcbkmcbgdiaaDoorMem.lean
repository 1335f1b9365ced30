/-
  Memory words: one block alone is written; a block reads as a row of integers. No condition.
-/
import Derived.WalkKit
import Derived.Below
import Derived.Deep.QuietTactic
namespace Go.Proofs.YtdbgcbkmcbgdiaaDoor.mem
open Go.RowKit

/-- block b alone has been written -/
structure Only (b : Nat) (w w' : World) : Prop where
  os : w'.os = w.os
  tape : w'.tape = w.tape
  output : w'.output = w.output
  size : w.heap.size = w'.heap.size
  block : ∀ k, k ≠ b → w'.heap[k]? = w.heap[k]?

theorem Only.refl (b : Nat) (w : World) : Only b w w := ⟨rfl, rfl, rfl, rfl, fun _ _ => rfl⟩
theorem Only.trans {b : Nat} {w1 w2 w3 : World} (h : Only b w1 w2) (k : Only b w2 w3) : Only b w1 w3 :=
  ⟨k.os.trans h.os, k.tape.trans h.tape, k.output.trans h.output, h.size.trans k.size, fun i hi => (k.block i hi).trans (h.block i hi)⟩
theorem Only.drewN {b : Nat} {w1 w2 : World} (h : Only b w1 w2) (n : Nat) : Only b w1 (w2.drewN n) := ⟨h.os, h.tape, h.output, h.size, h.block⟩
theorem Only.drew {b : Nat} {w1 w2 : World} (h : Only b w1 w2) : Only b w1 w2.drew := ⟨h.os, h.tape, h.output, h.size, h.block⟩
theorem Only.setCell {b : Nat} {w1 w2 : World} (h : Only b w1 w2) (o : Nat) (v : Value) : Only b w1 (w2.setCell ⟨b, o, none⟩ v) :=
  h.trans ⟨rfl, rfl, rfl, by simp [World.setCell], fun k hk => Below.heap_setCell _ _ _ _ hk⟩
theorem Only.below {b B : Nat} {w w' : World} (h : Only b w w') (hB : B ≤ b) : Below B w w' :=
  ⟨h.os, h.tape, h.output, by rw [h.size]; exact Nat.le_refl _, fun k hk => h.block k (by omega)⟩
theorem Only.cell {b : Nat} {w w' : World} (h : Only b w w') {a : Addr} (ha : a.block ≠ b) : w'.cell? a = w.cell? a := World.cell?_of_block (h.block _ ha)
theorem Only.frozen {b : Nat} {w w' : World} (h : Only b w w') {a : Addr} (ha : a.block ≠ b) : w'.frozen? a = w.frozen? a := World.frozen?_of_block (h.block _ ha)

/-- block b's first n cells read as the integers d 0, d 1, .. -/
structure Row (w : World) (b n : Nat) (d : Nat → Int) : Prop where
  cell : ∀ k, k < n → w.cell? ⟨b, k, none⟩ = some (.int .i64 (d k))
  free : ∀ k, k < n → w.frozen? ⟨b, k, none⟩ = false
def upd (d : Nat → Int) (i : Nat) (v : Int) : Nat → Int := fun k => if k = i then v else d k
theorem Row.set {w : World} {b n : Nat} {d : Nat → Int} (h : Row w b n d) (i : Nat) (v : Int) (hi : i < n) : Row (w.setCell ⟨b, i, none⟩ (.int .i64 v)) b n (upd d i v) := by
  constructor
  · intro k hk
    unfold upd
    by_cases e : k = i
    · subst e
      rw [if_pos rfl]
      exact World.cell?_setCell_same _ _ _ (h.cell k hk)
    · rw [if_neg e, World.cell?_setCell_other _ _ _ _ (by intro h; simp only [Addr.mk.injEq] at h; omega)]
      exact h.cell k hk
  · intro k hk
    have := h.free k hk
    go_simp
theorem Row.drew {w : World} {b n : Nat} {d : Nat → Int} (h : Row w b n d) : Row w.drew b n d := ⟨h.cell, h.free⟩
theorem Row.drewN {w : World} {b n : Nat} {d : Nat → Int} (h : Row w b n d) (m : Nat) : Row (w.drewN m) b n d := ⟨h.cell, h.free⟩
theorem Row.only {w w' : World} {b c n : Nat} {d : Nat → Int} (h : Row w b n d) (g : Only c w w') (hne : b ≠ c) : Row w' b n d :=
  ⟨fun k hk => (g.cell (a := ⟨b, k, none⟩) hne).trans (h.cell k hk), fun k hk => (g.frozen (a := ⟨b, k, none⟩) hne).trans (h.free k hk)⟩
theorem Row.congr {w : World} {b n : Nat} {d d' : Nat → Int} (h : Row w b n d) (e : ∀ k, k < n → d k = d' k) : Row w b n d' :=
  ⟨fun k hk => by rw [← e k hk]; exact h.cell k hk, h.free⟩
theorem Row.below {w w' : World} {b B n : Nat} {d : Nat → Int} (h : Row w b n d) (g : Below B w w') (hb : b < B) : Row w' b n d :=
  ⟨fun k hk => (g.cell (p := ⟨b, k, none⟩) hb).trans (h.cell k hk), fun k hk => (g.frozen (p := ⟨b, k, none⟩) hb).trans (h.free k hk)⟩
def swap (d : Nat → Int) (i j : Nat) : Nat → Int := fun k => if k = i then d j else if k = j then d i else d k
end Go.Proofs.YtdbgcbkmcbgdiaaDoor.mem
