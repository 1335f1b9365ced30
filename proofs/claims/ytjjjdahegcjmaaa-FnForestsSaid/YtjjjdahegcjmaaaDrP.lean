/-
  Draws of pipes: what becomes of memory. Conditions: the source lies in memory as l01From lays it.
-/
import Derived.Test.YtjjjdahegcjmaaaRows
import Derived.Test.YtjjjdahegcjmaaaDrN
import Derived.Test.YtjjjdahegcjmaaaNetX
import Derived.WalkKit
import Derived.ProofKit
import Derived.Lib.Hide
import Derived.OwnWalk
namespace Go.Proofs.Ytjjjdahegcjmaaa.draw
open Go.RowKit
set_option linter.unusedVariables false

theorem upd_of {b : Nat} {w w' : World} (h : Only b w w') : mem.Upd (· = b) w w' := ⟨h.os, h.tape, h.output, Nat.le_of_eq h.size, fun k _ hx => h.block k hx⟩
theorem only_of {b c : Nat} {w w' : World} (h : mem.Only c w w') : mem.Upd (· = c) w w' := mem.Upd.of_only h
theorem src_upd {w w' : World} {b : Nat} {cv : Value} {len : Nat} {i s : Int} (h : Src w b cv len i s) (e : w'.heap[b]? = w.heap[b]?) : Src w' b cv len i s :=
  src_only (c := b) h (fun a ha => by rw [ha]; exact e)
theorem codeAt_upd {w w' : World} {cv : Value} {len B : Nat} (h : CodeAt w cv len B) (g : mem.Upd (fun x => B ≤ x) w w') (hB : B ≤ w.heap.size) : CodeAt w' cv len B :=
  codeAt_below h (g.below hB (fun k _ e => e))
theorem upd_own {X : Nat → Prop} {g : Nat} {w w1 w2 : World} (h : mem.Upd X w w1) (k : mem.Only g w1 w2) (hg : w.heap.size ≤ g) : mem.Upd X w w2 :=
  ⟨k.os.trans h.os, k.tape.trans h.tape, k.output.trans h.output, Nat.le_trans h.size (Nat.le_of_eq k.size), fun x hx hn => (k.block x (by omega)).trans (h.block x hx hn)⟩
def PipPost (w : World) (b : Nat) (cv : Value) (len : Nat) (e : Ending) (w' : World) : Prop :=
  ∃ (q : mem.Pip) (i s : Int), e = .returned (.agg #[.int .i64 q.f, .int .i64 q.t, .int .i64 q.k, .int .i64 q.v, .int .i64 q.l]) ∧ Src w' b cv len i s ∧ mem.Upd (· = b) w w'

set_option maxHeartbeats 2000000 in
theorem pipe_any (w : World) (b B : Nat) (cv : Value) (len : Nat) (i s x y : Int) (h : Src w b cv len i s) (hc : CodeAt w cv len B) (hB : B ≤ b) :
    Calls Try.prog 131 #[.pointer (some ⟨b, 0, none⟩), .int .i64 x, .int .i64 y] w (PipPost w b cv len) := by
  have hlt := src_lt h
  have Z := mem.Ob.new w #[.int .i64 0, .int .i64 0, .int .i64 0, .int .i64 0, .int .i64 0] 51 5 (fun _ => .int .i64 0) rfl (by intro j hj; rcases (by omega : j = 0 ∨ j = 1 ∨ j = 2 ∨ j = 3 ∨ j = 4) with rfl | rfl | rfl | rfl | rfl <;> rfl)
  have h' := src_alloc h hlt (.cells #[.int .i64 0, .int .i64 0, .int .i64 0, .int .i64 0, .int .i64 0] 51)
  have hc' := codeAt_below hc ((Below.refl B w).alloc (by omega) (.cells #[.int .i64 0, .int .i64 0, .int .i64 0, .int .i64 0, .int .i64 0] 51))
  have U0 : mem.Upd (· = b) w (w.alloc (.cells #[.int .i64 0, .int .i64 0, .int .i64 0, .int .i64 0, .int .i64 0] 51)) := mem.Upd.of_below (mem.below_new _ _)
  go_enter Try.func131, Try.ntmps131
  go_wp2_with fail
  refine (next_any _ b B cv len i s 2 h' hc' hB (by omega)).mono ?_
  rintro e w1 ⟨v1, i1, s1, rfl, v0, hv1, h1, o1⟩
  have hc1 := codeAt_below hc' (only_below o1 hB)
  have Z1 := Z.keep (o1.block w.heap.size (by omega))
  have U1 := U0.trans (upd_of o1)
  clear U0 Z h' hc' h hc o1
  rcases (by omega : v1 = 0 ∨ v1 = 1) with rfl | rfl
  all_goals
    go_wp2_with fail
    refine (next_any _ b B cv len i1 s1 9 h1 hc1 hB (by omega)).mono ?_
    rintro e w2 ⟨v2, i2, s2, rfl, u0, hu1, h2, o2⟩
    have hc2 := codeAt_below hc1 (only_below o2 hB)
    have Z2 := Z1.keep (o2.block w.heap.size (by omega))
    have U2 := U1.trans (upd_of o2)
    clear U1 Z1 h1 hc1 o2
    go_wp2_with fail
    refine (next_any _ b B cv len i2 s2 100 h2 hc2 hB (by omega)).mono ?_
    rintro e w3 ⟨v3, i3, s3, rfl, t0, ht1, h3, o3⟩
    have hc3 := codeAt_below hc2 (only_below o3 hB)
    have Z3 := Z2.keep (o3.block w.heap.size (by omega))
    have U3 := U2.trans (upd_of o3)
    clear U2 Z2 h2 hc2 o3
    go_wp2_with fail
    refine (next_any _ b B cv len i3 s3 200 h3 hc3 hB (by omega)).mono ?_
    rintro e w4 ⟨v4, i4, s4, rfl, r0, hr1, h4, o4⟩
    have Z4 := Z3.keep (o4.block w.heap.size (by omega))
    have U4 := U3.trans (upd_of o4)
    clear U3 Z3 h3 hc3 o4
    have z0 := Z4.cell 0 (by omega)
    have z1 := Z4.cell 1 (by omega)
    have z2 := Z4.cell 2 (by omega)
    have z3 := Z4.cell 3 (by omega)
    have z4 := Z4.cell 4 (by omega)
    have f0 := Z4.free 0
    have f1 := Z4.free 1
    have f2 := Z4.free 2
    have f3 := Z4.free 3
    have f4 := Z4.free 4
    have HU := Lib.hid U4
    have HS := Lib.hid h4
    clear U4 h4 Z4
    go_wp2_with fail
  · have hO := (((((mem.Only.refl (w.heap.size) w4).setCell 0 (.int .i64 y)).setCell 1 (.int .i64 x)).setCell 2 (.int .i64 (1 + v2))).setCell 3 (.int .i64 v3)).setCell 4 (.int .i64 (1 + v4))
    have HS' := Lib.hid (src_upd HS.out (hO.block b (by omega)))
    have HU' := Lib.hid (upd_own HU.out hO (Nat.le_refl _))
    clear hO
    refine bodyPost_ret (v := .agg #[.int .i64 y, .int .i64 x, .int .i64 (1 + v2), .int .i64 v3, .int .i64 (1 + v4)]) (by simp [results, Try.results131, go_sem, z0, z1, z2, z3, z4]) rfl ⟨⟨y, x, 1 + v2, v3, 1 + v4⟩, i4, s4, rfl, HS'.out, HU'.out⟩
  · have hO := (((((mem.Only.refl (w.heap.size) w4).setCell 0 (.int .i64 x)).setCell 1 (.int .i64 y)).setCell 2 (.int .i64 (1 + v2))).setCell 3 (.int .i64 v3)).setCell 4 (.int .i64 (1 + v4))
    have HS' := Lib.hid (src_upd HS.out (hO.block b (by omega)))
    have HU' := Lib.hid (upd_own HU.out hO (Nat.le_refl _))
    clear hO
    refine bodyPost_ret (v := .agg #[.int .i64 x, .int .i64 y, .int .i64 (1 + v2), .int .i64 v3, .int .i64 (1 + v4)]) (by simp [results, Try.results131, go_sem, z0, z1, z2, z3, z4]) rfl ⟨⟨x, y, 1 + v2, v3, 1 + v4⟩, i4, s4, rfl, HS'.out, HU'.out⟩
end Go.Proofs.Ytjjjdahegcjmaaa.draw
