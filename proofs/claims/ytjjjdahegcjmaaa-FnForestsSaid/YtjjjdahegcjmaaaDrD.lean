/-
  The draw of a network: what becomes of memory. Conditions: the source lies in memory as l01From lays it.
-/
import Derived.Test.YtjjjdahegcjmaaaRows
import Derived.Test.YtjjjdahegcjmaaaDrQ
import Derived.Test.YtjjjdahegcjmaaaRowE
import Derived.WalkKit
import Derived.ProofKit
import Derived.Lib.Hide
import Derived.OwnWalk
import Derived.Outline
namespace Go.Proofs.Ytjjjdahegcjmaaa.draw
open Go.RowKit
set_option linter.unusedVariables false

abbrev RN (B : Nat) := mem.RowE B 98 3
abbrev RP (B : Nat) := mem.RowE B 51 5
def addN (N : Nat → mem.Nod) (n : Nat) (q : mem.Nod) : Nat → mem.Nod := fun i => if i < n then N i else q
def addP (P : Nat → mem.Pip) (n : Nat) (q : mem.Pip) : Nat → mem.Pip := fun i => if i < n then P i else q
theorem appNod (B : Nat) (W : World) (v : Value) (n : Nat) (N : Nat → mem.Nod) (q : mem.Nod) (h : RN B W v n (mem.nodC N)) (hB : B ≤ W.heap.size) (hn : n ≤ 1000000) :
    ∃ v' w', Sem.run Try.prog (Builtin.append_ #[27, 27] 27 #[v, .slice (some ⟨W.heap.size, 0, none⟩) 1 1]) (W.alloc (.cells #[.string q.s, .int .i64 q.lo, .int .i64 q.hi] 98)) = .ok v' w' ∧ RN B w' v' (n + 1) (mem.nodC (addN N n q)) ∧ mem.Upd (fun x => some x = v.ownBlock) W w' :=
  mem.appOne Try.underlying27 mem.info_make_node (by omega) rfl (by omega) B W v n _ _ h hB [.string q.s, .int .i64 q.lo, .int .i64 q.hi] rfl (by intro u hu; simp at hu; rcases hu with rfl | rfl | rfl <;> rfl)
    (fun i j hi hj => by rcases (by omega : j = 0 ∨ j = 1 ∨ j = 2) with rfl | rfl | rfl <;> simp [mem.nodC, addN, hi])
    (fun j hj => by rcases (by omega : j = 0 ∨ j = 1 ∨ j = 2) with rfl | rfl | rfl <;> simp [mem.nodC, addN]) hn
theorem appPip (B : Nat) (W : World) (v : Value) (n : Nat) (P : Nat → mem.Pip) (q : mem.Pip) (h : RP B W v n (mem.pipC P)) (hB : B ≤ W.heap.size) (hn : n ≤ 1000000) :
    ∃ v' w', Sem.run Try.prog (Builtin.append_ #[28, 28] 28 #[v, .slice (some ⟨W.heap.size, 0, none⟩) 1 1]) (W.alloc (.cells #[.int .i64 q.f, .int .i64 q.t, .int .i64 q.k, .int .i64 q.v, .int .i64 q.l] 51)) = .ok v' w' ∧ RP B w' v' (n + 1) (mem.pipC (addP P n q)) ∧ mem.Upd (fun x => some x = v.ownBlock) W w' :=
  mem.appOne Try.underlying28 mem.info_make_pipe (by omega) rfl (by omega) B W v n _ _ h hB [.int .i64 q.f, .int .i64 q.t, .int .i64 q.k, .int .i64 q.v, .int .i64 q.l] rfl (by intro u hu; simp at hu; rcases hu with rfl | rfl | rfl | rfl | rfl <;> rfl)
    (fun i j hi hj => by rcases (by omega : j = 0 ∨ j = 1 ∨ j = 2 ∨ j = 3 ∨ j = 4) with rfl | rfl | rfl | rfl | rfl <;> simp [mem.pipC, addP, hi])
    (fun j hj => by rcases (by omega : j = 0 ∨ j = 1 ∨ j = 2 ∨ j = 3 ∨ j = 4) with rfl | rfl | rfl | rfl | rfl <;> simp [mem.pipC, addP]) hn
/-- a draw's memory: the two rows and the source -/
structure Dr (W1 : World) (b : Nat) (cv : Value) (len : Nat) (wr : World) (vN vP : Value) (n m : Nat) : Prop where
  ex : ∃ (N : Nat → mem.Nod) (P : Nat → mem.Pip) (i s : Int), RN W1.heap.size wr vN n (mem.nodC N) ∧ RP W1.heap.size wr vP m (mem.pipC P) ∧ (∀ i, i < n → (N i).s.size ≤ 9223372036854775807) ∧ Src wr b cv len i s ∧ mem.Upd (· = b) W1 wr
/-- an append to an own row leaves all else -/
theorem upd_row {b : Nat} {W1 w w' : World} {B : Nat} {e : TypeId} {z n : Nat} {c : Nat → Nat → Value} {v : Value} (h : mem.Upd (· = b) W1 w) (r : mem.RowE B e z w v n c) (hB : W1.heap.size ≤ B) (u : mem.Upd (fun x => some x = v.ownBlock) w w') : mem.Upd (· = b) W1 w' :=
  ⟨u.os.trans h.os, u.tape.trans h.tape, u.output.trans h.output, Nat.le_trans h.size u.size, fun k hk hx => (u.block k (Nat.lt_of_lt_of_le hk h.size) (fun e => by have := (r.own.lt k e.symm).1; omega)).trans (h.block k hk hx)⟩
theorem Dr.addN {W1 wr w' : World} {b : Nat} {cv : Value} {len : Nat} {vN vP v' : Value} {n m : Nat} {N : Nat → mem.Nod} {P : Nat → mem.Pip} {q : mem.Nod} {i s : Int} (hb : b < W1.heap.size)
    (hN : RN W1.heap.size wr vN n (mem.nodC N)) (hP : RP W1.heap.size wr vP m (mem.pipC P)) (hs : ∀ i, i < n → (N i).s.size ≤ 9223372036854775807) (hq : q.s.size ≤ 9223372036854775807) (hS : Src wr b cv len i s) (hU : mem.Upd (· = b) W1 wr)
    (h' : RN W1.heap.size w' v' (n + 1) (mem.nodC (draw.addN N n q))) (u : mem.Upd (fun x => some x = vN.ownBlock) wr w') : Dr W1 b cv len w' v' vP (n + 1) m := by
  refine ⟨_, P, i, s, h', hP.keep u (mem.rows_apart hP hN (by decide)), fun j hj => ?_, src_upd hS (u.block b (src_lt hS) (fun e => by have := (hN.own.lt b e.symm).1; omega)), upd_row hU hN (Nat.le_refl _) u⟩
  unfold draw.addN
  split
  · exact hs j (by assumption)
  · exact hq
theorem Dr.addP {W1 wr w' : World} {b : Nat} {cv : Value} {len : Nat} {vN vP v' : Value} {n m : Nat} {N : Nat → mem.Nod} {P : Nat → mem.Pip} {q : mem.Pip} {i s : Int} (hb : b < W1.heap.size)
    (hN : RN W1.heap.size wr vN n (mem.nodC N)) (hP : RP W1.heap.size wr vP m (mem.pipC P)) (hs : ∀ i, i < n → (N i).s.size ≤ 9223372036854775807) (hS : Src wr b cv len i s) (hU : mem.Upd (· = b) W1 wr)
    (h' : RP W1.heap.size w' v' (m + 1) (mem.pipC (draw.addP P m q))) (u : mem.Upd (fun x => some x = vP.ownBlock) wr w') : Dr W1 b cv len w' vN v' n (m + 1) :=
  ⟨N, _, i, s, hN.keep u (mem.rows_apart hN hP (by decide)), h', hs, src_upd hS (u.block b (src_lt hS) (fun e => by have := (hP.own.lt b e.symm).1; omega)), upd_row hU hP (Nat.le_refl _) u⟩
/-- only the source has been drawn from -/
theorem Dr.drawn {W1 wr w' : World} {b : Nat} {cv : Value} {len : Nat} {vN vP : Value} {n m : Nat} {i s : Int} (h : Dr W1 b cv len wr vN vP n m) (hb : b < W1.heap.size) (u : mem.Upd (· = b) wr w') (hS : Src w' b cv len i s) : Dr W1 b cv len w' vN vP n m := by
  obtain ⟨N, P, _, _, h1, h2, h3, _, h5⟩ := h.ex
  exact ⟨N, P, i, s, h1.low u hb, h2.low u hb, h3, hS, h5.trans u⟩
end Go.Proofs.Ytjjjdahegcjmaaa.draw
