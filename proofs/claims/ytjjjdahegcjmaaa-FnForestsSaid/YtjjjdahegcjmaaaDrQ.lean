/-
  Draws of nodes: what becomes of memory. Conditions: the source lies in memory as l01From lays it.
-/
import Derived.Test.YtjjjdahegcjmaaaRows
import Derived.Test.YtjjjdahegcjmaaaDrP
import Derived.Test.YtjjjdahegcjmaaaText
import Derived.WalkKit
import Derived.ProofKit
import Derived.Lib.Hide
import Derived.OwnWalk
namespace Go.Proofs.Ytjjjdahegcjmaaa.draw
open Go.RowKit
set_option linter.unusedVariables false

def NodPost (w : World) (b : Nat) (cv : Value) (len : Nat) (e : Ending) (w' : World) : Prop :=
  ∃ (q : mem.Nod) (i s : Int), e = .returned (.agg #[.string q.s, .int .i64 q.lo, .int .i64 q.hi]) ∧ q.s.size ≤ 9223372036854775807 ∧ Src w' b cv len i s ∧ mem.Upd (· = b) w w'

set_option maxHeartbeats 2000000 in
theorem node_any (w : World) (b B : Nat) (cv : Value) (len : Nat) (i s : Int) (x : Nat) (h : Src w b cv len i s) (hc : CodeAt w cv len B) (hB : B ≤ b) (hx : x ≤ 1000) :
    Calls Try.prog 130 #[.pointer (some ⟨b, 0, none⟩), .int .i64 x] w (NodPost w b cv len) := by
  have hlt := src_lt h
  have Z := mem.Ob.new w #[.string ⟨#[]⟩, .int .i64 0, .int .i64 0] 98 3 (fun j => if j = 0 then .string ⟨#[]⟩ else .int .i64 0) rfl (by intro j hj; rcases (by omega : j = 0 ∨ j = 1 ∨ j = 2) with rfl | rfl | rfl <;> rfl)
  have h' := src_alloc h hlt (.cells #[.string ⟨#[]⟩, .int .i64 0, .int .i64 0] 98)
  have hc' := codeAt_below hc ((Below.refl B w).alloc (by omega) (.cells #[.string ⟨#[]⟩, .int .i64 0, .int .i64 0] 98))
  have U0 : mem.Upd (· = b) w (w.alloc (.cells #[.string ⟨#[]⟩, .int .i64 0, .int .i64 0] 98)) := mem.Upd.of_below (mem.below_new _ _)
  have hz : w.heap.size < (w.alloc (.cells #[.string ⟨#[]⟩, .int .i64 0, .int .i64 0] 98)).heap.size := by simp
  go_enter Try.func130, Try.ntmps130
  go_wp2_with fail
  refine (next_any _ b B cv len i s 4000 h' hc' hB (by omega)).mono ?_
  rintro e w1 ⟨v1, i1, s1, rfl, v0, hv1, h1, o1⟩
  have hc1 := codeAt_below hc' (only_below o1 hB)
  have Z1 := Z.keep (o1.block w.heap.size (by omega))
  have U1 := U0.trans (upd_of o1)
  have hs1 : w.heap.size < w1.heap.size := Nat.lt_of_lt_of_le hz (Nat.le_of_eq o1.size)
  clear U0 Z h' hc' h hc o1 hz
  have hxx : x ≤ 9223372036854775807 := by omega
  go_wp2_with fail
  refine (text.dec_any x x w1 (Nat.le_refl _) hxx).mono ?_
  rintro e w2 ⟨rfl, bl⟩
  have hds := text.dec_length x hxx
  have h2 := src_upd h1 (bl.block b (src_lt h1))
  have hc2 := codeAt_below hc1 (bl.mono (Nat.le_of_lt (Nat.lt_of_le_of_lt hB (src_lt h1))))
  have Z2 := Z1.below bl hs1
  have U2 := U1.trans (mem.Upd.of_below bl)
  have hs2 := Nat.lt_of_lt_of_le hs1 bl.size
  clear U1 Z1 h1 hc1 bl
  have HD := Lib.hid hds
  generalize hg : Lib.decDigits x = ds at *
  clear hg
  go_wp2_with fail
  refine (next_any _ b B cv len i1 s1 60000 h2 hc2 hB (by omega)).mono ?_
  rintro e w3 ⟨v3, i3, s3, rfl, t0, ht1, h3, o3⟩
  have Z3 := Z2.keep (o3.block w.heap.size (by omega))
  have U3 := U2.trans (upd_of o3)
  clear U2 Z2 h2 hc2 o3
  have z0 : w3.cell? ⟨w.heap.size, 0, none⟩ = some (.string ⟨#[]⟩) := Z3.cell 0 (by omega)
  have z1 : w3.cell? ⟨w.heap.size, 1, none⟩ = some (.int .i64 0) := Z3.cell 1 (by omega)
  have z2 : w3.cell? ⟨w.heap.size, 2, none⟩ = some (.int .i64 0) := Z3.cell 2 (by omega)
  have f0 := Z3.free 0
  have f1 := Z3.free 1
  have f2 := Z3.free 2
  have HU := Lib.hid U3
  have HS := Lib.hid h3
  clear U3 h3 Z3
  go_wp2_with fail
  have hO := ((((mem.Only.refl (w.heap.size) w3).setCell 0 (.string ({ data := #[110] } ++ { data := ds.toArray }))).setCell 1 (.int .i64 v1)).setCell 2 (.int .i64 (v1 + 2000 + v3)))
  have HS' := Lib.hid (src_upd HS.out (hO.block b (by omega)))
  have HU' := Lib.hid (upd_own HU.out hO (Nat.le_refl _))
  clear hO
  refine bodyPost_ret (v := .agg #[.string ({ data := #[110] } ++ { data := ds.toArray }), .int .i64 v1, .int .i64 (v1 + 2000 + v3)]) (by simp [results, Try.results130, go_sem, z0, z1, z2]) rfl ⟨⟨({ data := #[110] } ++ { data := ds.toArray }), v1, v1 + 2000 + v3⟩, i3, s3, rfl, ?_, HS'.out, HU'.out⟩
  show (({ data := #[110] } : ByteArray) ++ { data := ds.toArray }).size ≤ 9223372036854775807
  rw [ByteArray.size_append]
  show 1 + ds.toArray.size ≤ _
  simp only [List.size_toArray]
  omega
end Go.Proofs.Ytjjjdahegcjmaaa.draw
