/-
  Several texts in one: DrN, DrP, DrQ, DrD, DrE, DrF.
-/
import Derived.Test.YtdbgcbkmcbgdiaaGreatRows
import Derived.Test.YtdbgcbkmcbgdiaaGreatDrawB
import Derived.WalkKit
import Derived.ProofKit
import Derived.Lib.Hide
import Derived.Test.YtdbgcbkmcbgdiaaGreatNetX
import Derived.OwnWalk
import Derived.Test.YtdbgcbkmcbgdiaaGreatText
import Derived.Test.YtdbgcbkmcbgdiaaGreatRowE
import Derived.Outline
import Derived.Test.YtdbgcbkmcbgdiaaGreatNetCl
import Derived.Deep.RegionHeld3
namespace Go.Proofs.YtdbgcbkmcbgdiaaGreat.draw
open Go.RowKit
set_option linter.unusedVariables false

def IdxPost (w : World) (b : Nat) (cv : Value) (len : Nat) (e : Ending) (w' : World) : Prop :=
  ∃ v i s : Int, e = .returned (.int .i64 v) ∧ -1 ≤ v ∧ v ≤ 4000000 ∧ Src w' b cv len i s ∧ Only b w w'
theorem quo_small {x d : Int} (h0 : 0 ≤ x) (h1 : x < d + 1) (hd : 0 < d) : (x.tdiv d = 0 ∧ x / d = 0) ∨ (x.tdiv d = 1 ∧ x / d = 1) := by
  rw [Int.tdiv_eq_ediv_of_nonneg h0]
  rcases (by omega : x < d ∨ x = d) with h | h
  · have := Int.ediv_eq_zero_of_lt h0 h
    exact .inl ⟨this, this⟩
  · subst h
    have := Int.ediv_self (by omega : x ≠ 0)
    exact .inr ⟨this, this⟩

end Go.Proofs.YtdbgcbkmcbgdiaaGreat.draw

namespace Go.Proofs.YtdbgcbkmcbgdiaaGreat.draw
open Go.RowKit
set_option linter.unusedVariables false

theorem upd_of {b : Nat} {w w' : World} (h : Only b w w') : mem.Upd (· = b) w w' := ⟨h.os, h.tape, h.output, Nat.le_of_eq h.size, fun k _ hx => h.block k hx⟩
theorem only_of {b c : Nat} {w w' : World} (h : mem.Only c w w') : mem.Upd (· = c) w w' := mem.Upd.of_only h
theorem src_upd {w w' : World} {b : Nat} {cv : Value} {len : Nat} {i s : Int} (h : Src w b cv len i s) (e : w'.heap[b]? = w.heap[b]?) : Src w' b cv len i s :=
  src_only (c := b) h (fun a ha => by rw [ha]; exact e)
theorem codeAt_upd {w w' : World} {cv : Value} {len B : Nat} (h : CodeAt w cv len B) (g : mem.Upd (fun x => B ≤ x) w w') (hB : B ≤ w.heap.size) : CodeAt w' cv len B :=
  codeAt_below h (g.below hB (fun k _ e => e))
theorem upd_own {X : Nat → Prop} {g : Nat} {w w1 w2 : World} (h : mem.Upd X w w1) (k : mem.Only g w1 w2) (hg : w.heap.size ≤ g) : mem.Upd X w w2 :=
  ⟨k.os.trans h.os, k.tape.trans h.tape, k.output.trans h.output, Nat.le_trans h.size (Nat.le_of_eq k.size), fun x hx hn => (k.block x (by omega)).trans (h.block x hx hn)⟩
def PipPost (w : World) (b : Nat) (cv : Value) (len : Nat) (e : Ending) (w' : World) : Prop :=
  ∃ (q : mem.Pip) (i s : Int), e = .returned (.agg #[.int .i64 q.f, .int .i64 q.t, .int .i64 q.k, .int .i64 q.v, .int .i64 q.l]) ∧ Src w' b cv len i s ∧ mem.Upd (· = b) w w'

set_option maxHeartbeats 2000000 in
theorem pipe_any (w : World) (b B : Nat) (cv : Value) (len : Nat) (i s x y : Int) (h : Src w b cv len i s) (hc : CodeAt w cv len B) (hB : B ≤ b) :
    Calls Tryz.prog 139 #[.pointer (some ⟨b, 0, none⟩), .int .i64 x, .int .i64 y] w (PipPost w b cv len) := by
  have hlt := src_lt h
  have Z := mem.Ob.new w #[.int .i64 0, .int .i64 0, .int .i64 0, .int .i64 0, .int .i64 0] 121 5 (fun _ => .int .i64 0) rfl (by intro j hj; rcases (by omega : j = 0 ∨ j = 1 ∨ j = 2 ∨ j = 3 ∨ j = 4) with rfl | rfl | rfl | rfl | rfl <;> rfl)
  have h' := src_alloc h hlt (.cells #[.int .i64 0, .int .i64 0, .int .i64 0, .int .i64 0, .int .i64 0] 121)
  have hc' := codeAt_below hc ((Below.refl B w).alloc (by omega) (.cells #[.int .i64 0, .int .i64 0, .int .i64 0, .int .i64 0, .int .i64 0] 121))
  have U0 : mem.Upd (· = b) w (w.alloc (.cells #[.int .i64 0, .int .i64 0, .int .i64 0, .int .i64 0, .int .i64 0] 121)) := mem.Upd.of_below (mem.below_new _ _)
  go_enter Tryz.func139, Tryz.ntmps139
  go_wp2_with fail
  refine (next_any _ b B cv len i s 2 h' hc' hB (by omega)).mono ?_
  rintro e w1 ⟨v1, i1, s1, rfl, v0, hv1, h1, o1⟩
  have hc1 := codeAt_below hc' (only_below o1 hB)
  have Z1 := Z.keep (o1.block w.heap.size (by omega))
  have U1 := U0.trans (upd_of o1)
  clear U0 Z h' hc' h hc o1
  rcases (by omega : v1 = 0 ∨ v1 = 1) with rfl | rfl
  all_goals
    go_wp2_with fail
    refine (next_any _ b B cv len i1 s1 9 h1 hc1 hB (by omega)).mono ?_
    rintro e w2 ⟨v2, i2, s2, rfl, u0, hu1, h2, o2⟩
    have hc2 := codeAt_below hc1 (only_below o2 hB)
    have Z2 := Z1.keep (o2.block w.heap.size (by omega))
    have U2 := U1.trans (upd_of o2)
    clear U1 Z1 h1 hc1 o2
    go_wp2_with fail
    refine (next_any _ b B cv len i2 s2 100 h2 hc2 hB (by omega)).mono ?_
    rintro e w3 ⟨v3, i3, s3, rfl, t0, ht1, h3, o3⟩
    have hc3 := codeAt_below hc2 (only_below o3 hB)
    have Z3 := Z2.keep (o3.block w.heap.size (by omega))
    have U3 := U2.trans (upd_of o3)
    clear U2 Z2 h2 hc2 o3
    go_wp2_with fail
    refine (next_any _ b B cv len i3 s3 200 h3 hc3 hB (by omega)).mono ?_
    rintro e w4 ⟨v4, i4, s4, rfl, r0, hr1, h4, o4⟩
    have Z4 := Z3.keep (o4.block w.heap.size (by omega))
    have U4 := U3.trans (upd_of o4)
    clear U3 Z3 h3 hc3 o4
    have z0 := Z4.cell 0 (by omega)
    have z1 := Z4.cell 1 (by omega)
    have z2 := Z4.cell 2 (by omega)
    have z3 := Z4.cell 3 (by omega)
    have z4 := Z4.cell 4 (by omega)
    have f0 := Z4.free 0
    have f1 := Z4.free 1
    have f2 := Z4.free 2
    have f3 := Z4.free 3
    have f4 := Z4.free 4
    have HU := Lib.hid U4
    have HS := Lib.hid h4
    clear U4 h4 Z4
    go_wp2_with fail
  · have hO := (((((mem.Only.refl (w.heap.size) w4).setCell 0 (.int .i64 y)).setCell 1 (.int .i64 x)).setCell 2 (.int .i64 (1 + v2))).setCell 3 (.int .i64 v3)).setCell 4 (.int .i64 (1 + v4))
    have HS' := Lib.hid (src_upd HS.out (hO.block b (by omega)))
    have HU' := Lib.hid (upd_own HU.out hO (Nat.le_refl _))
    clear hO
    refine bodyPost_ret (v := .agg #[.int .i64 y, .int .i64 x, .int .i64 (1 + v2), .int .i64 v3, .int .i64 (1 + v4)]) (by simp [results, Tryz.results139, go_sem, z0, z1, z2, z3, z4]) rfl ⟨⟨y, x, 1 + v2, v3, 1 + v4⟩, i4, s4, rfl, HS'.out, HU'.out⟩
  · have hO := (((((mem.Only.refl (w.heap.size) w4).setCell 0 (.int .i64 x)).setCell 1 (.int .i64 y)).setCell 2 (.int .i64 (1 + v2))).setCell 3 (.int .i64 v3)).setCell 4 (.int .i64 (1 + v4))
    have HS' := Lib.hid (src_upd HS.out (hO.block b (by omega)))
    have HU' := Lib.hid (upd_own HU.out hO (Nat.le_refl _))
    clear hO
    refine bodyPost_ret (v := .agg #[.int .i64 x, .int .i64 y, .int .i64 (1 + v2), .int .i64 v3, .int .i64 (1 + v4)]) (by simp [results, Tryz.results139, go_sem, z0, z1, z2, z3, z4]) rfl ⟨⟨x, y, 1 + v2, v3, 1 + v4⟩, i4, s4, rfl, HS'.out, HU'.out⟩
end Go.Proofs.YtdbgcbkmcbgdiaaGreat.draw

namespace Go.Proofs.YtdbgcbkmcbgdiaaGreat.draw
open Go.RowKit
set_option linter.unusedVariables false

def NodPost (w : World) (b : Nat) (cv : Value) (len : Nat) (e : Ending) (w' : World) : Prop :=
  ∃ (q : mem.Nod) (i s : Int), e = .returned (.agg #[.string q.s, .int .i64 q.lo, .int .i64 q.hi]) ∧ q.s.size ≤ 9223372036854775807 ∧ Src w' b cv len i s ∧ mem.Upd (· = b) w w'

set_option maxHeartbeats 2000000 in
theorem node_any (w : World) (b B : Nat) (cv : Value) (len : Nat) (i s : Int) (x : Nat) (h : Src w b cv len i s) (hc : CodeAt w cv len B) (hB : B ≤ b) (hx : x ≤ 1000) :
    Calls Tryz.prog 163 #[.pointer (some ⟨b, 0, none⟩), .int .i64 x] w (NodPost w b cv len) := by
  have hlt := src_lt h
  have Z := mem.Ob.new w #[.string ⟨#[]⟩, .int .i64 0, .int .i64 0] 142 3 (fun j => if j = 0 then .string ⟨#[]⟩ else .int .i64 0) rfl (by intro j hj; rcases (by omega : j = 0 ∨ j = 1 ∨ j = 2) with rfl | rfl | rfl <;> rfl)
  have h' := src_alloc h hlt (.cells #[.string ⟨#[]⟩, .int .i64 0, .int .i64 0] 142)
  have hc' := codeAt_below hc ((Below.refl B w).alloc (by omega) (.cells #[.string ⟨#[]⟩, .int .i64 0, .int .i64 0] 142))
  have U0 : mem.Upd (· = b) w (w.alloc (.cells #[.string ⟨#[]⟩, .int .i64 0, .int .i64 0] 142)) := mem.Upd.of_below (mem.below_new _ _)
  have hz : w.heap.size < (w.alloc (.cells #[.string ⟨#[]⟩, .int .i64 0, .int .i64 0] 142)).heap.size := by simp
  go_enter Tryz.func163, Tryz.ntmps163
  go_wp2_with fail
  refine (next_any _ b B cv len i s 4000 h' hc' hB (by omega)).mono ?_
  rintro e w1 ⟨v1, i1, s1, rfl, v0, hv1, h1, o1⟩
  have hc1 := codeAt_below hc' (only_below o1 hB)
  have Z1 := Z.keep (o1.block w.heap.size (by omega))
  have U1 := U0.trans (upd_of o1)
  have hs1 : w.heap.size < w1.heap.size := Nat.lt_of_lt_of_le hz (Nat.le_of_eq o1.size)
  clear U0 Z h' hc' h hc o1 hz
  have hxx : x ≤ 9223372036854775807 := by omega
  go_wp2_with fail
  refine (text.dec_any x x w1 (Nat.le_refl _) hxx).mono ?_
  rintro e w2 ⟨rfl, bl⟩
  have hds := text.dec_length x hxx
  have h2 := src_upd h1 (bl.block b (src_lt h1))
  have hc2 := codeAt_below hc1 (bl.mono (Nat.le_of_lt (Nat.lt_of_le_of_lt hB (src_lt h1))))
  have Z2 := Z1.below bl hs1
  have U2 := U1.trans (mem.Upd.of_below bl)
  have hs2 := Nat.lt_of_lt_of_le hs1 bl.size
  clear U1 Z1 h1 hc1 bl
  have HD := Lib.hid hds
  generalize hg : Lib.decDigits x = ds at *
  clear hg
  go_wp2_with fail
  refine (next_any _ b B cv len i1 s1 60000 h2 hc2 hB (by omega)).mono ?_
  rintro e w3 ⟨v3, i3, s3, rfl, t0, ht1, h3, o3⟩
  have Z3 := Z2.keep (o3.block w.heap.size (by omega))
  have U3 := U2.trans (upd_of o3)
  clear U2 Z2 h2 hc2 o3
  have z0 : w3.cell? ⟨w.heap.size, 0, none⟩ = some (.string ⟨#[]⟩) := Z3.cell 0 (by omega)
  have z1 : w3.cell? ⟨w.heap.size, 1, none⟩ = some (.int .i64 0) := Z3.cell 1 (by omega)
  have z2 : w3.cell? ⟨w.heap.size, 2, none⟩ = some (.int .i64 0) := Z3.cell 2 (by omega)
  have f0 := Z3.free 0
  have f1 := Z3.free 1
  have f2 := Z3.free 2
  have HU := Lib.hid U3
  have HS := Lib.hid h3
  clear U3 h3 Z3
  go_wp2_with fail
  have hO := ((((mem.Only.refl (w.heap.size) w3).setCell 0 (.string ({ data := #[110] } ++ { data := ds.toArray }))).setCell 1 (.int .i64 v1)).setCell 2 (.int .i64 (v1 + 2000 + v3)))
  have HS' := Lib.hid (src_upd HS.out (hO.block b (by omega)))
  have HU' := Lib.hid (upd_own HU.out hO (Nat.le_refl _))
  clear hO
  refine bodyPost_ret (v := .agg #[.string ({ data := #[110] } ++ { data := ds.toArray }), .int .i64 v1, .int .i64 (v1 + 2000 + v3)]) (by simp [results, Tryz.results163, go_sem, z0, z1, z2]) rfl ⟨⟨({ data := #[110] } ++ { data := ds.toArray }), v1, v1 + 2000 + v3⟩, i3, s3, rfl, ?_, HS'.out, HU'.out⟩
  show (({ data := #[110] } : ByteArray) ++ { data := ds.toArray }).size ≤ 9223372036854775807
  rw [ByteArray.size_append]
  show 1 + ds.toArray.size ≤ _
  simp only [List.size_toArray]
  omega
end Go.Proofs.YtdbgcbkmcbgdiaaGreat.draw

namespace Go.Proofs.YtdbgcbkmcbgdiaaGreat.draw
open Go.RowKit
set_option linter.unusedVariables false

abbrev RN (B : Nat) := mem.RowE B 142 3
abbrev RP (B : Nat) := mem.RowE B 121 5
def addN (N : Nat → mem.Nod) (n : Nat) (q : mem.Nod) : Nat → mem.Nod := fun i => if i < n then N i else q
def addP (P : Nat → mem.Pip) (n : Nat) (q : mem.Pip) : Nat → mem.Pip := fun i => if i < n then P i else q
theorem appNod (B : Nat) (W : World) (v : Value) (n : Nat) (N : Nat → mem.Nod) (q : mem.Nod) (h : RN B W v n (mem.nodC N)) (hB : B ≤ W.heap.size) (hn : n ≤ 1000000) :
    ∃ v' w', Sem.run Tryz.prog (Builtin.append_ #[24, 24] 24 #[v, .slice (some ⟨W.heap.size, 0, none⟩) 1 1]) (W.alloc (.cells #[.string q.s, .int .i64 q.lo, .int .i64 q.hi] 142)) = .ok v' w' ∧ RN B w' v' (n + 1) (mem.nodC (addN N n q)) ∧ mem.Upd (fun x => some x = v.ownBlock) W w' :=
  mem.appOne Tryz.underlying24 mem.info_make_node (by omega) rfl (by omega) B W v n _ _ h hB [.string q.s, .int .i64 q.lo, .int .i64 q.hi] rfl (by intro u hu; simp at hu; rcases hu with rfl | rfl | rfl <;> rfl)
    (fun i j hi hj => by rcases (by omega : j = 0 ∨ j = 1 ∨ j = 2) with rfl | rfl | rfl <;> simp [mem.nodC, addN, hi])
    (fun j hj => by rcases (by omega : j = 0 ∨ j = 1 ∨ j = 2) with rfl | rfl | rfl <;> simp [mem.nodC, addN]) hn
theorem appPip (B : Nat) (W : World) (v : Value) (n : Nat) (P : Nat → mem.Pip) (q : mem.Pip) (h : RP B W v n (mem.pipC P)) (hB : B ≤ W.heap.size) (hn : n ≤ 1000000) :
    ∃ v' w', Sem.run Tryz.prog (Builtin.append_ #[25, 25] 25 #[v, .slice (some ⟨W.heap.size, 0, none⟩) 1 1]) (W.alloc (.cells #[.int .i64 q.f, .int .i64 q.t, .int .i64 q.k, .int .i64 q.v, .int .i64 q.l] 121)) = .ok v' w' ∧ RP B w' v' (n + 1) (mem.pipC (addP P n q)) ∧ mem.Upd (fun x => some x = v.ownBlock) W w' :=
  mem.appOne Tryz.underlying25 mem.info_make_pipe (by omega) rfl (by omega) B W v n _ _ h hB [.int .i64 q.f, .int .i64 q.t, .int .i64 q.k, .int .i64 q.v, .int .i64 q.l] rfl (by intro u hu; simp at hu; rcases hu with rfl | rfl | rfl | rfl | rfl <;> rfl)
    (fun i j hi hj => by rcases (by omega : j = 0 ∨ j = 1 ∨ j = 2 ∨ j = 3 ∨ j = 4) with rfl | rfl | rfl | rfl | rfl <;> simp [mem.pipC, addP, hi])
    (fun j hj => by rcases (by omega : j = 0 ∨ j = 1 ∨ j = 2 ∨ j = 3 ∨ j = 4) with rfl | rfl | rfl | rfl | rfl <;> simp [mem.pipC, addP]) hn
/-- a draw's memory: the two rows and the source -/
structure Dr (W1 : World) (b : Nat) (cv : Value) (len : Nat) (wr : World) (vN vP : Value) (n m : Nat) : Prop where
  ex : ∃ (N : Nat → mem.Nod) (P : Nat → mem.Pip) (i s : Int), RN W1.heap.size wr vN n (mem.nodC N) ∧ RP W1.heap.size wr vP m (mem.pipC P) ∧ (∀ i, i < n → (N i).s.size ≤ 9223372036854775807) ∧ Src wr b cv len i s ∧ mem.Upd (· = b) W1 wr
/-- an append to an own row leaves all else -/
theorem upd_row {b : Nat} {W1 w w' : World} {B : Nat} {e : TypeId} {z n : Nat} {c : Nat → Nat → Value} {v : Value} (h : mem.Upd (· = b) W1 w) (r : mem.RowE B e z w v n c) (hB : W1.heap.size ≤ B) (u : mem.Upd (fun x => some x = v.ownBlock) w w') : mem.Upd (· = b) W1 w' :=
  ⟨u.os.trans h.os, u.tape.trans h.tape, u.output.trans h.output, Nat.le_trans h.size u.size, fun k hk hx => (u.block k (Nat.lt_of_lt_of_le hk h.size) (fun e => by have := (r.own.lt k e.symm).1; omega)).trans (h.block k hk hx)⟩
theorem Dr.addN {W1 wr w' : World} {b : Nat} {cv : Value} {len : Nat} {vN vP v' : Value} {n m : Nat} {N : Nat → mem.Nod} {P : Nat → mem.Pip} {q : mem.Nod} {i s : Int} (hb : b < W1.heap.size)
    (hN : RN W1.heap.size wr vN n (mem.nodC N)) (hP : RP W1.heap.size wr vP m (mem.pipC P)) (hs : ∀ i, i < n → (N i).s.size ≤ 9223372036854775807) (hq : q.s.size ≤ 9223372036854775807) (hS : Src wr b cv len i s) (hU : mem.Upd (· = b) W1 wr)
    (h' : RN W1.heap.size w' v' (n + 1) (mem.nodC (draw.addN N n q))) (u : mem.Upd (fun x => some x = vN.ownBlock) wr w') : Dr W1 b cv len w' v' vP (n + 1) m := by
  refine ⟨_, P, i, s, h', hP.keep u (mem.rows_apart hP hN (by decide)), fun j hj => ?_, src_upd hS (u.block b (src_lt hS) (fun e => by have := (hN.own.lt b e.symm).1; omega)), upd_row hU hN (Nat.le_refl _) u⟩
  unfold draw.addN
  split
  · exact hs j (by assumption)
  · exact hq
theorem Dr.addP {W1 wr w' : World} {b : Nat} {cv : Value} {len : Nat} {vN vP v' : Value} {n m : Nat} {N : Nat → mem.Nod} {P : Nat → mem.Pip} {q : mem.Pip} {i s : Int} (hb : b < W1.heap.size)
    (hN : RN W1.heap.size wr vN n (mem.nodC N)) (hP : RP W1.heap.size wr vP m (mem.pipC P)) (hs : ∀ i, i < n → (N i).s.size ≤ 9223372036854775807) (hS : Src wr b cv len i s) (hU : mem.Upd (· = b) W1 wr)
    (h' : RP W1.heap.size w' v' (m + 1) (mem.pipC (draw.addP P m q))) (u : mem.Upd (fun x => some x = vP.ownBlock) wr w') : Dr W1 b cv len w' vN v' n (m + 1) :=
  ⟨N, _, i, s, hN.keep u (mem.rows_apart hN hP (by decide)), h', hs, src_upd hS (u.block b (src_lt hS) (fun e => by have := (hP.own.lt b e.symm).1; omega)), upd_row hU hP (Nat.le_refl _) u⟩
/-- only the source has been drawn from -/
theorem Dr.drawn {W1 wr w' : World} {b : Nat} {cv : Value} {len : Nat} {vN vP : Value} {n m : Nat} {i s : Int} (h : Dr W1 b cv len wr vN vP n m) (hb : b < W1.heap.size) (u : mem.Upd (· = b) wr w') (hS : Src w' b cv len i s) : Dr W1 b cv len w' vN vP n m := by
  obtain ⟨N, P, _, _, h1, h2, h3, _, h5⟩ := h.ex
  exact ⟨N, P, i, s, h1.low u hb, h2.low u hb, h3, hS, h5.trans u⟩
end Go.Proofs.YtdbgcbkmcbgdiaaGreat.draw

namespace Go.Proofs.YtdbgcbkmcbgdiaaGreat.draw
open Go.RowKit
set_option linter.unusedVariables false

theorem code_of {b B len : Nat} {cv : Value} {W1 wr : World} (h : CodeAt W1 cv len B) (u : mem.Upd (· = b) W1 wr) (hB : B ≤ b) (hb : b < W1.heap.size) : CodeAt wr cv len B :=
  codeAt_upd h (u.mono (fun x _ e => e ▸ hB)) (by omega)
def NetPost (w : World) (b : Nat) (cv : Value) (len : Nat) (e : Ending) (w' : World) : Prop :=
  ∃ (v : Value) (n m : Nat) (N : Nat → mem.Nod) (P : Nat → mem.Pip) (b1 b2 : Nat) (i s : Int), e = .returned v ∧ n ≤ 100 ∧ m ≤ 100 ∧ 0 < n ∧ (∀ i, i < n → (N i).s.size ≤ 9223372036854775807) ∧ mem.NetOwn w' v n N m P b1 b2 ∧ w.heap.size ≤ b1 ∧ w.heap.size ≤ b2 ∧ Src w' b cv len i s ∧ mem.Upd (· = b) w w' ∧ ∃ v0 v1, v = .agg #[v0, v1] ∧ RN w.heap.size w' v0 n (mem.nodC N) ∧ RP w.heap.size w' v1 m (mem.pipC P)

theorem rowE_mono {B B' : Nat} {e : TypeId} {z : Nat} {w : World} {v : Value} {n : Nat} {c : Nat → Nat → Value} (h : mem.RowE B e z w v n c) (hB : B' ≤ B) : mem.RowE B' e z w v n c := by
  refine ⟨h.own.1, ?_⟩
  rcases h.own.2 with h1 | ⟨g, cap, cur, rfl, h2, h3⟩
  · exact .inl h1
  · exact .inr ⟨g, cap, cur, rfl, Nat.le_trans hB h2, h3⟩
theorem ownS2 {B : Nat} {e : TypeId} {z : Nat} {w : World} {v : Value} {n : Nat} {c : Nat → Nat → Value} (h : mem.RowE B e z w v n c) : ∃ g, mem.OwnS w v n z c g ∧ B ≤ g ∧ (v.ownBlock = some g ∨ n = 0) := by
  obtain ⟨g, h1, h2⟩ := h.ownS
  rcases h.own.2 with ⟨hv, hn⟩ | ⟨g', cap, cur, hv, h3, h4⟩
  · subst hv hn
    exact ⟨B, mem.OwnS.none_ _ _ _ _, Nat.le_refl _, .inr rfl⟩
  · rcases Nat.eq_zero_or_pos n with h0 | h0
    · subst h0
      obtain ⟨p, cap, e1, e2, e3, _⟩ := h1.ex
      exact ⟨B, ⟨p, cap, e1, e2, e3, .inl rfl⟩, Nat.le_refl _, .inr rfl⟩
    · obtain ⟨p, cap', e1, e2, e3, e4 | ⟨e4, e5⟩⟩ := h1.ex
      · omega
      · rw [hv] at e1
        injection e1 with e1 _ _
        rw [e4] at e1
        injection e1 with e1
        injection e1 with e1
        subst e1
        exact ⟨g', h1, h3, .inl (by rw [hv]; rfl)⟩
theorem Dr.net {W1 wr : World} {b : Nat} {cv : Value} {len : Nat} {vN vP : Value} {n m : Nat} (h : Dr W1 b cv len wr vN vP n m) : ∃ (N : Nat → mem.Nod) (P : Nat → mem.Pip) (i s : Int) (g1 g2 : Nat), mem.OwnS wr vN n 3 (mem.nodC N) g1 ∧ mem.OwnS wr vP m 5 (mem.pipC P) g2 ∧ (n = 0 ∨ m = 0 ∨ g1 ≠ g2) ∧ W1.heap.size ≤ g1 ∧ W1.heap.size ≤ g2 ∧ (∀ i, i < n → (N i).s.size ≤ 9223372036854775807) ∧ Src wr b cv len i s ∧ mem.Upd (· = b) W1 wr ∧ RN W1.heap.size wr vN n (mem.nodC N) ∧ RP W1.heap.size wr vP m (mem.pipC P) := by
  obtain ⟨N, P, i, s, hN, hP, hs, hS, hU⟩ := h.ex
  obtain ⟨g1, a1, a2, a3⟩ := ownS2 hN
  obtain ⟨g2, c1, c2, c3⟩ := ownS2 hP
  refine ⟨N, P, i, s, g1, g2, a1, c1, ?_, a2, c2, hs, hS, hU, hN, hP⟩
  rcases a3 with a3 | a3
  · rcases c3 with c3 | c3
    · refine .inr (.inr fun e => ?_)
      exact mem.rows_apart hN hP (by decide) g1 a3 (by rw [c3, e])
    · exact .inr (.inl c3)
  · exact .inl a3
set_option maxRecDepth 100000 in
set_option maxHeartbeats 8000000 in
theorem net_any (w : World) (b B : Nat) (cv : Value) (len : Nat) (i s : Int) (h : Src w b cv len i s) (hc : CodeAt w cv len B) (hB : B ≤ b) :
    Calls Tryz.prog 138 #[.pointer (some ⟨b, 0, none⟩)] w (NetPost w b cv len) := by
  have hlt := src_lt h
  have h' := src_alloc h hlt (.cells #[.slice none 0 0, .slice none 0 0] 27)
  have HC := Lib.hid (codeAt_below hc ((Below.refl B w).alloc (by omega) (.cells #[.slice none 0 0, .slice none 0 0] 27)))
  have R1 := mem.boxed w (.slice none 0 0) (.slice none 0 0) 27
  have U0 := Lib.hid (mem.Upd.of_below (mem.below_new w (.cells #[.slice none 0 0, .slice none 0 0] 27)) (X := (· = b)))
  have hsz : w.heap.size + 1 ≤ (w.alloc (.cells #[.slice none 0 0, .slice none 0 0] 27)).heap.size := by simp
  go_enter Tryz.func138, Tryz.ntmps138
  go_wp2_with fail
  generalize hW : w.alloc (.cells #[.slice none 0 0, .slice none 0 0] 27) = Wa at *
  clear hW h hc
  have hb : b < Wa.heap.size := by omega
  refine (next_any _ b B cv len i s 7 h' HC.out hB (by omega)).mono ?_
  rintro e w1 ⟨v1, i1, s1, rfl, v0, hv1, h1, o1⟩
  obtain ⟨c, rfl⟩ := Int.eq_ofNat_of_zero_le v0
  have hc6 : c ≤ 6 := by omega
  have U1 := upd_of o1
  have hs1 := U1.size
  clear v0 hv1 o1 h'
  have D0 : Dr Wa b cv len ((w1.alloc (.cells #[] 142)).alloc (.cells #[] 121)) (.slice (some ⟨w1.heap.size, 0, none⟩) 0 0) (.slice (some ⟨w1.heap.size + 1, 0, none⟩) 0 0) 0 0 := by
    have r2 := mem.rowE_nil (B := Wa.heap.size) (e := 121) (z := 5) (w1.alloc (.cells #[] 142)) (mem.pipC (fun _ => ⟨0, 0, 0, 0, 0⟩)) (by simp; omega)
    rw [show (w1.alloc (.cells #[] 142)).heap.size = w1.heap.size + 1 by simp] at r2
    exact ⟨fun _ => ⟨⟨#[]⟩, 0, 0⟩, fun _ => ⟨0, 0, 0, 0, 0⟩, i1, s1, (mem.rowE_nil (e := 142) (z := 3) w1 _ hs1).next (mem.below_new _ _), r2, fun i hi => by omega, src_alloc (src_alloc h1 (by omega) _) (by simp; omega) _, U1.trans (mem.Upd.of_below (mem.bel2 _ _ _))⟩
  clear h1 U1
  go_wp2_with fail
  generalize hW : (w1.alloc (.cells #[] 142)).alloc (.cells #[] 121) = W2 at *
  generalize hv : Value.slice (some ⟨w1.heap.size, 0, none⟩) 0 0 = vN0 at *
  generalize hv' : Value.slice (some ⟨w1.heap.size + 1, 0, none⟩) 0 0 = vP0 at *
  clear hW hv hv' hs1
  go_loopw [6, 4, 5] (fun i vN vP wr => ∃ (k m : Nat) (vN' vP' : Value), i = .int .i64 k ∧ vN' = vN ∧ vP' = vP ∧ k ≤ c + 1 ∧ m ≤ k ∧ Dr Wa b cv len wr vN vP k m) (fun i _ _ _ => c + 1 - (intOf i).toNat)
  case atStart => exact ⟨0, 0, _, _, rfl, rfl, rfl, Nat.zero_le _, Nat.le_refl _, D0⟩
  case round =>
    obtain ⟨k, m, vN, vP, rfl, rfl, rfl, hk, hm, D⟩ := hrel
    clear D0
    by_cases hlt' : k < c + 1
    · obtain ⟨N, P, i2, s2, hN, hP, hs, hS, hU⟩ := D.ex
      clear D
      go_wp2_with fail
      refine (node_any wr b B cv len i2 s2 k hS (code_of HC.out hU hB hb) hB (by omega)).mono ?_
      rintro e w4 ⟨q, i4, s4, rfl, hq, hS4, U4⟩
      have hN4 := hN.low U4 hb
      have hP4 := hP.low U4 hb
      have hU4 := hU.trans U4
      obtain ⟨pN, cN, rfl⟩ := hN4.shape
      obtain ⟨v5, w5, hr, h5, u5⟩ := appNod _ w4 _ k N q hN4 hU4.size (by omega)
      have D5 := Dr.addN hb hN4 hP4 hs hq hS4 hU4 h5 u5
      clear hN hP hs hS hU U4 hN4 hP4 hU4 hS4 h5 u5
      rcases Nat.eq_zero_or_pos k with hk0 | hk0
      · subst hk0
        go_wp2_with (at_builtin; refine mem.wpList_appT hr rfl _ _ rfl rfl rfl rfl ?_)
        clear hr
        go_roundw
        case rel => exact ⟨1, m, _, _, by go_num, rfl, rfl, by omega, by omega, D5⟩
        case measure => simp [intOf]
      · have hkI : (0 : Int) < (k : Int) := by omega
        go_wp2_with (at_builtin; refine mem.wpList_appT hr rfl _ _ rfl rfl rfl rfl ?_)
        clear hr
        obtain ⟨N5, P5, i5, s5, hN5, hP5, hs5, hS5, hU5⟩ := D5.ex
        refine (next_any w5 b B cv len i5 s5 16 hS5 (code_of HC.out hU5 hB hb) hB (by omega)).mono ?_
        rintro e w6 ⟨v6, i6, s6, rfl, t0, ht, hS6, o6⟩
        have D6 := D5.drawn hb (upd_of o6) hS6
        clear D5 hN5 hP5 hs5 hS5 hU5 o6 hS6
        by_cases hv6 : v6 = 0
        · subst hv6
          go_wp2_with fail
          go_roundw
          case rel => exact ⟨k + 1, m, _, _, by go_num, rfl, rfl, by omega, by omega, D6⟩
          case measure => simp [intOf]; omega
        · have hv6' : (0 : Int) < v6 := by omega
          clear hv6
          go_wp2_with fail
          obtain ⟨N5, P5, i5, s5, hN5, hP5, hs5, hS5, hU5⟩ := D6.ex
          refine (next_any w6 b B cv len i5 s5 k hS5 (code_of HC.out hU5 hB hb) hB (by omega)).mono ?_
          rintro e w7 ⟨v7, i7, s7, rfl, t7, ht7, hS7, o7⟩
          have D7 := D6.drawn hb (upd_of o7) hS7
          clear D6 hN5 hP5 hs5 hS5 hU5 o7 hS7
          go_wp2_with fail
          obtain ⟨N5, P5, i5, s5, hN5, hP5, hs5, hS5, hU5⟩ := D7.ex
          refine (pipe_any w7 b B cv len i5 s5 v7 k hS5 (code_of HC.out hU5 hB hb) hB).mono ?_
          rintro e w8 ⟨q8, i8, s8, rfl, hS8, U8⟩
          have D8 := D7.drawn hb U8 hS8
          clear D7 hN5 hP5 hs5 hS5 hU5 U8 hS8
          obtain ⟨N8, P8, i8, s8, hN8, hP8, hs8, hS8, hU8⟩ := D8.ex
          obtain ⟨pP, cP, rfl⟩ := hP8.shape
          obtain ⟨v9, w9, hr9, h9, u9⟩ := appPip _ w8 _ m P8 q8 hP8 hU8.size (by omega)
          have D9 := Dr.addP hb hN8 hP8 hs8 hS8 hU8 h9 u9
          clear D8 hN8 hP8 hs8 hS8 hU8 h9 u9
          go_wp2_with (at_builtin; refine mem.wpList_appT hr9 rfl _ _ rfl rfl rfl rfl ?_)
          clear hr9
          go_roundw
          case rel => exact ⟨k + 1, m + 1, _, _, by go_num, rfl, rfl, by omega, by omega, D9⟩
          case measure => simp [intOf]; omega
    · obtain rfl : k = c + 1 := by omega
      clear hlt' hk
      go_wp2_with fail
      obtain ⟨N5, P5, i5, s5, hN5, hP5, hs5, hS5, hU5⟩ := D.ex
      refine (next_any wr b B cv len i5 s5 3 hS5 (code_of HC.out hU5 hB hb) hB (by omega)).mono ?_
      rintro e w6 ⟨v6, i6, s6, rfl, t0, ht, hS6, o6⟩
      have D6 := D.drawn hb (upd_of o6) hS6
      clear D hN5 hP5 hs5 hS5 hU5 o6 hS6
      obtain ⟨j0, rfl⟩ := Int.eq_ofNat_of_zero_le t0
      have hj0 : j0 ≤ 2 := by omega
      clear t0 ht
      go_wp2_with fail
      go_loopw [7, 5] (fun i vP wr => ∃ (j m : Nat) (vP' : Value), i = .int .i64 j ∧ vP' = vP ∧ j ≤ 2 ∧ m + j ≤ c + 3 ∧ Dr Wa b cv len wr vN vP (c + 1) m) (fun i _ _ => (intOf i).toNat)
      case atStart => exact ⟨j0, m, _, rfl, rfl, hj0, by omega, D6⟩
      case round =>
        obtain ⟨j, m', vP', rfl, rfl, hj, hmj, D⟩ := hrel
        clear D6
        rcases Nat.eq_zero_or_pos j with hj1 | hj1
        · subst hj1
          obtain ⟨N7, P7, i7, s7, g1, g2, o1, o2, hd, l1, l2, hs7, hS7, hU7, rN, rP⟩ := D.net
          have R7 := R1.keep (hU7.block w.heap.size (by omega) (by omega))
          have f0 := R7.b0
          have f1 := R7.b1
          have k0 := R7.free 0
          have k1 := R7.free 1
          obtain ⟨p1, c1, rfl⟩ := o1.shape
          obtain ⟨p2, c2, rfl⟩ := o2.shape
          have hO := (((mem.Only.refl w.heap.size wr).setCell 0 (.slice p1 (c + 1) c1)).setCell 1 (.slice p2 m' c2))
          have HF := Lib.hid (And.intro (mem.OwnS.set2 (g := w.heap.size) (o0 := 0) (o1 := 1) (u0 := .slice p1 (c + 1) c1) (u1 := .slice p2 m' c2) o1 (by omega)) (And.intro (mem.OwnS.set2 (g := w.heap.size) (o0 := 0) (o1 := 1) (u0 := .slice p1 (c + 1) c1) (u1 := .slice p2 m' c2) o2 (by omega)) (And.intro hd (And.intro hs7 (And.intro (src_upd hS7 (hO.block b (by omega))) (And.intro (upd_own (U0.out.trans hU7) hO (Nat.le_refl _)) (And.intro (rowE_mono (B' := w.heap.size) (rN.low (mem.Upd.of_only hO) (by omega)) (by omega)) (rowE_mono (B' := w.heap.size) (rP.low (mem.Upd.of_only hO) (by omega)) (by omega)))))))))
          clear D R7 hU7 hS7 hs7 o1 o2 hO hd rN rP
          go_wp2_with fail
          refine bodyPost_ret (v := .agg #[.slice p1 (c + 1) c1, .slice p2 m' c2]) (by simp [results, Tryz.results138, go_sem, f0, f1]) rfl ⟨_, c + 1, m', N7, P7, g1, g2, i7, s7, rfl, by omega, by omega, by omega, HF.out.2.2.2.1, ⟨_, _, rfl, HF.out.1, HF.out.2.1, HF.out.2.2.1⟩, by omega, by omega, HF.out.2.2.2.2.1, HF.out.2.2.2.2.2.1, _, _, rfl, HF.out.2.2.2.2.2.2.1, HF.out.2.2.2.2.2.2.2⟩

        have hjI : (0 : Int) < (j : Int) := by omega
        rcases Nat.eq_zero_or_pos c with hc1 | hc1
        · subst hc1
          obtain ⟨N7, P7, i7, s7, g1, g2, o1, o2, hd, l1, l2, hs7, hS7, hU7, rN, rP⟩ := D.net
          have R7 := R1.keep (hU7.block w.heap.size (by omega) (by omega))
          have f0 := R7.b0
          have f1 := R7.b1
          have k0 := R7.free 0
          have k1 := R7.free 1
          obtain ⟨p1, c1, rfl⟩ := o1.shape
          obtain ⟨p2, c2, rfl⟩ := o2.shape
          have hO := (((mem.Only.refl w.heap.size wr).setCell 0 (.slice p1 (0 + 1) c1)).setCell 1 (.slice p2 m' c2))
          have HF := Lib.hid (And.intro (mem.OwnS.set2 (g := w.heap.size) (o0 := 0) (o1 := 1) (u0 := .slice p1 (0 + 1) c1) (u1 := .slice p2 m' c2) o1 (by omega)) (And.intro (mem.OwnS.set2 (g := w.heap.size) (o0 := 0) (o1 := 1) (u0 := .slice p1 (0 + 1) c1) (u1 := .slice p2 m' c2) o2 (by omega)) (And.intro hd (And.intro hs7 (And.intro (src_upd hS7 (hO.block b (by omega))) (And.intro (upd_own (U0.out.trans hU7) hO (Nat.le_refl _)) (And.intro (rowE_mono (B' := w.heap.size) (rN.low (mem.Upd.of_only hO) (by omega)) (by omega)) (rowE_mono (B' := w.heap.size) (rP.low (mem.Upd.of_only hO) (by omega)) (by omega)))))))))
          clear D R7 hU7 hS7 hs7 o1 o2 hO hd rN rP
          go_wp2_with fail
          refine bodyPost_ret (v := .agg #[.slice p1 (0 + 1) c1, .slice p2 m' c2]) (by simp [results, Tryz.results138, go_sem, f0, f1]) rfl ⟨_, 0 + 1, m', N7, P7, g1, g2, i7, s7, rfl, by omega, by omega, by omega, HF.out.2.2.2.1, ⟨_, _, rfl, HF.out.1, HF.out.2.1, HF.out.2.2.1⟩, by omega, by omega, HF.out.2.2.2.2.1, HF.out.2.2.2.2.2.1, _, _, rfl, HF.out.2.2.2.2.2.2.1, HF.out.2.2.2.2.2.2.2⟩

        have hcI : (1 : Int) < 1 + (c : Int) := by omega
        go_wp2_with fail
        obtain ⟨N5, P5, i5, s5, hN5, hP5, hs5, hS5, hU5⟩ := D.ex
        refine (next_any wr b B cv len i5 s5 _ hS5 (code_of HC.out hU5 hB hb) hB (by omega)).mono ?_
        rintro e w7 ⟨v7, i7, s7, rfl, t7, ht7, hS7, o7⟩
        have D7 := D.drawn hb (upd_of o7) hS7
        clear D hN5 hP5 hs5 hS5 hU5 o7 hS7
        have hv7 : v7 ≤ 6 := by omega
        go_wp2_with fail
        obtain ⟨N5, P5, i5, s5, hN5, hP5, hs5, hS5, hU5⟩ := D7.ex
        refine (next_any w7 b B cv len i5 s5 _ hS5 (code_of HC.out hU5 hB hb) hB (by omega)).mono ?_
        rintro e w8 ⟨v8, i8, s8, rfl, t8, ht8, hS8, o8⟩
        have D8 := D7.drawn hb (upd_of o8) hS8
        clear D7 hN5 hP5 hs5 hS5 hU5 o8 hS8
        have hv8 : v8 ≤ 6 := by omega
        have hne : (1 + (c : Int)) ≠ 0 := by omega
        go_wp2_with fail
        obtain ⟨N5, P5, i5, s5, hN5, hP5, hs5, hS5, hU5⟩ := D8.ex
        refine (pipe_any w8 b B cv len i5 s5 _ _ hS5 (code_of HC.out hU5 hB hb) hB).mono ?_
        rintro e w9 ⟨q9, i9, s9, rfl, hS9, U9⟩
        have D9 := D8.drawn hb U9 hS9
        clear D8 hN5 hP5 hs5 hS5 hU5 U9 hS9
        obtain ⟨N8, P8, i8, s8, hN8, hP8, hs8, hS8, hU8⟩ := D9.ex
        obtain ⟨pP, cP, rfl⟩ := hP8.shape
        obtain ⟨va, wa, hra, ha, ua⟩ := appPip _ w9 _ m' P8 q9 hP8 hU8.size (by omega)
        have Da := Dr.addP hb hN8 hP8 hs8 hS8 hU8 ha ua
        clear D9 hN8 hP8 hs8 hS8 hU8 ha ua
        go_wp2_with (at_builtin; refine mem.wpList_appT hra rfl _ _ rfl rfl rfl rfl ?_)
        clear hra
        go_roundw
        case rel => exact ⟨j - 1, m' + 1, _, by go_num, rfl, by omega, by omega, Da⟩
        case measure => simp [intOf]; omega
end Go.Proofs.YtdbgcbkmcbgdiaaGreat.draw

namespace Go.Proofs.YtdbgcbkmcbgdiaaGreat.draw
open Go.RowKit
set_option linter.unusedVariables false

/-- any network: its names are of bounded length -/
def AnyPost (w : World) (b : Nat) (cv : Value) (len : Nat) (e : Ending) (w' : World) : Prop :=
  ∃ (v : Value) (n m : Nat) (N : Nat → mem.Nod) (P : Nat → mem.Pip) (b1 b2 : Nat) (i s : Int), e = .returned v ∧ n ≤ 1000 ∧ m ≤ 1000 ∧ (∀ i, i < n → (N i).s.size ≤ 9223372036854775807) ∧ mem.NetOwn w' v n N m P b1 b2 ∧ w.heap.size ≤ b1 ∧ w.heap.size ≤ b2 ∧ Src w' b cv len i s ∧ mem.Upd (· = b) w w'
def AnyOK : Prop := ∀ (w : World) (b B : Nat) (cv : Value) (len : Nat) (i s : Int), Src w b cv len i s → CodeAt w cv len B → B ≤ b → Calls Tryz.prog 85 #[.pointer (some ⟨b, 0, none⟩)] w (AnyPost w b cv len)
/-- a network and an index have been drawn -/
def NetIdxPost (w : World) (e : Ending) (w' : World) : Prop :=
  ∃ (v : Value) (n m : Nat) (N : Nat → mem.Nod) (P : Nat → mem.Pip) (b1 b2 : Nat) (x : Int), e = .returned (.tuple #[v, .int .i64 x]) ∧ n ≤ 1000 ∧ m ≤ 1000 ∧ (∀ i, i < n → (N i).s.size ≤ 9223372036854775807) ∧ mem.NetOwn w' v n N m P b1 b2 ∧ w.heap.size ≤ b1 ∧ w.heap.size ≤ b2 ∧ -1 ≤ x ∧ x ≤ 4000000 ∧ Below w.heap.size w w'

end Go.Proofs.YtdbgcbkmcbgdiaaGreat.draw
