/-
  The parser of networks: reading a pipe. Conditions: as each states.
-/
import Derived.Test.YtmeoepdmaffjjaaGreatDoorRows
import Derived.Test.YtmeoepdmaffjjaaGreatDoorPc
import Derived.WalkKit
import Derived.ProofKit
import Derived.Lib.Hide
import Derived.Deep.RegionHeld3
import Derived.Deep.RegionWith
import Derived.OwnWalk
namespace Go.Proofs.YtmeoepdmaffjjaaGreatDoor.text
open Go.RowKit Go.Proofs.YtmeoepdmaffjjaaGreatDoor.mem
set_option linter.unusedVariables false
set_option maxRecDepth 100000

abbrev RP (B : Nat) := RowE B 61 5
def addP (P : Nat → Pip) (n : Nat) (q : Pip) : Nat → Pip := fun i => if i < n then P i else q
theorem appPip (B : Nat) (W : World) (v : Value) (n : Nat) (P : Nat → Pip) (q : Pip) (h : RP B W v n (pipC P)) (hB : B ≤ W.heap.size) (hn : n ≤ 1000000) :
    ∃ v' w', Sem.run Tryz.prog (Builtin.append_ #[23, 23] 23 #[v, .slice (some ⟨W.heap.size, 0, none⟩) 1 1]) (W.alloc (.cells #[.int .i64 q.f, .int .i64 q.t, .int .i64 q.k, .int .i64 q.v, .int .i64 q.l] 61)) = .ok v' w' ∧ RP B w' v' (n + 1) (pipC (addP P n q)) ∧ Upd (fun x => some x = v.ownBlock) W w' :=
  appOne Tryz.underlying23 info_make_pipe (by omega) rfl (by omega) B W v n _ _ h hB [.int .i64 q.f, .int .i64 q.t, .int .i64 q.k, .int .i64 q.v, .int .i64 q.l] rfl (by intro u hu; simp at hu; rcases hu with rfl | rfl | rfl | rfl | rfl <;> rfl)
    (fun i j hi hj => by rcases (by omega : j = 0 ∨ j = 1 ∨ j = 2 ∨ j = 3 ∨ j = 4) with rfl | rfl | rfl | rfl | rfl <;> simp [pipC, addP, hi])
    (fun j hj => by rcases (by omega : j = 0 ∨ j = 1 ∨ j = 2 ∨ j = 3 ∨ j = 4) with rfl | rfl | rfl | rfl | rfl <;> simp [pipC, addP]) hn
theorem boxedP (w : World) (x : Pip) (t : TypeId) : Ob (w.alloc (.cells #[.int .i64 x.f, .int .i64 x.t, .int .i64 x.k, .int .i64 x.v, .int .i64 x.l] t)) w.heap.size 5 (fun k => match k with
    | 0 => .int .i64 x.f
    | 1 => .int .i64 x.t
    | 2 => .int .i64 x.k
    | 3 => .int .i64 x.v
    | _ => .int .i64 x.l) := Ob.new w _ _ 5 _ rfl (by intro k hk; rcases (by omega : k = 0 ∨ k = 1 ∨ k = 2 ∨ k = 3 ∨ k = 4) with rfl | rfl | rfl | rfl | rfl <;> rfl)

theorem upd_or2 {b : Nat} {o : Option Nat} {w w' : World} (h : Upd (· = b) w w') : Upd (fun x => x = b ∨ some x = o) w w' := h.mono (fun k _ e => .inl e)
def RPPost (w : World) (b B : Nat) (vN vP : Value) (m : Nat) (P : Nat → Pip) (k : Int) (va vc : ByteArray → Int) (ws : List ByteArray) (e : Ending) (w' : World) : Prop :=
  (e = .panicked fell ∧ Pan b k (fun x => x = b ∨ some x = vP.ownBlock) w w' ∧ ∀ x0 x1 x2 x3 x4 r kk vv ll, ws = x0 :: x1 :: x2 :: x3 :: x4 :: r → vc x0 = 0 → vc x1 = 0 → NumOK x2.data.toList kk → NumOK x3.data.toList vv → NumOK x4.data.toList ll → False) ∨
  ∃ x0 x1 x2 x3 x4 r kk vv ll vP' pw cw, ws = x0 :: x1 :: x2 :: x3 :: x4 :: r ∧ vc x0 = 0 ∧ vc x1 = 0 ∧ NumOK x2.data.toList kk ∧ NumOK x3.data.toList vv ∧ NumOK x4.data.toList ll ∧ e = .returned (.tuple #[]) ∧ Ob w' b 4 (parC vN vP' k (.slice pw r.length cw)) ∧ RP B w' vP' (m + 1) (pipC (addP P m ⟨va x0, va x1, kk, vv, ll⟩)) ∧ Upd (fun x => x = b ∨ some x = vP.ownBlock) w w'

set_option maxHeartbeats 4000000 in
theorem readPipe_any (w0 w : World) (b B n m cN cP : Nat) (pN pP : Option Addr) (P : Nat → Pip) (vW : Value) (k : Int) (va vc : ByteArray → Int) (ws : List ByteArray) (h : Ob w b 4 (parC (.slice pN n cN) (.slice pP m cP) k vW)) (g : Ws w b vW ws) (hR : RP B w (.slice pP m cP) m (pipC P)) (hbB : b < B) (hBw : B ≤ w.heap.size) (hm : m ≤ 1000)
    (hE : Env w0) (h0 : Below w0.heap.size w0 w) (hb : w0.heap.size ≤ b) (hsz : ∀ x ∈ ws, x.size ≤ 281474976710656)
    (hnn : ∀ (X : World) (s : ByteArray), Upd (· = b) w X → s.size ≤ 281474976710656 → Calls Tryz.prog 91 #[.agg #[.slice pN n cN, .slice pP m cP], .string s] X fun e w' => e = .returned (.tuple #[.int .i64 (va s), .int .i64 (vc s)]) ∧ Below X.heap.size X w') :
    Calls Tryz.prog 62 #[.pointer (some ⟨b, 0, none⟩)] w (RPPost w b B (.slice pN n cN) (.slice pP m cP) m P k va vc ws) := by
  have HE := Lib.hid hE
  have H0 := Lib.hid h0
  have HZ := Lib.hid hsz
  have HNN := Lib.hid hnn
  clear hE h0 hsz hnn
  go_enter Tryz.func62, Tryz.ntmps62
  have bw : ∀ {X : World}, Upd (· = b) w X → Below w0.heap.size w0 X := fun u => H0.out.trans (u.below H0.out.size (by rintro q _ rfl; exact hb))
  go_wp2_with fail
  refine (node_any w b pN pP n cN m cP vW k va vc ws h g HZ.out HNN.out).mono ?_
  rintro e w1 (⟨rfl, U1, hno⟩ | ⟨x0, r1, vW1, rfl, hc0, rfl, O1, W1, U1⟩)
  · exact ⟨rfl, .inl ⟨rfl, U1.mono (fun _ e => .inl e), fun y0 y1 y2 y3 y4 r kk vv ll e a0 a1 n2 n3 n4 => hno y0 _ e a0⟩⟩
  have HC0 := Lib.hid hc0
  clear h g hc0
  go_wp2_with fail
  refine (node_any w1 b pN pP n cN m cP vW1 k va vc r1 O1 W1 (fun x hx => HZ.out x (List.mem_cons_of_mem _ hx)) (fun X s u hs => HNN.out X s (U1.trans u) hs)).mono ?_
  rintro e w2 (⟨rfl, U2, hno⟩ | ⟨x1, r2, vW2, rfl, hc1, rfl, O2, W2, U2⟩)
  · exact ⟨rfl, .inl ⟨rfl, (U2.pre U1).mono (fun _ e => .inl e), fun y0 y1 y2 y3 y4 r kk vv ll e a0 a1 n2 n3 n4 => by
      injection e with e0 e1
      exact hno y1 _ e1 a1⟩⟩
  have UU2 := U1.trans U2
  have HC1 := Lib.hid hc1
  clear U1 U2 O1 W1 hc1
  go_wp2_with fail
  refine (number_any w0 w2 b _ _ vW2 k r2 O2 W2 HE.out (bw UU2) hb (fun x hx => HZ.out x (by simp [hx]))).mono ?_
  rintro e w3 (⟨rfl, U3, hno⟩ | ⟨x2, r3, vW3, kk, rfl, hn2, rfl, O3, W3, U3⟩)
  · exact ⟨rfl, .inl ⟨rfl, (U3.pre UU2).mono (fun _ e => .inl e), fun y0 y1 y2 y3 y4 r kk vv ll e a0 a1 n2 n3 n4 => by
      injection e with e0 e1
      injection e1 with e1 e2
      exact hno y2 _ e2 kk n2⟩⟩
  have UU3 := UU2.trans U3
  have HK := Lib.hid hn2
  clear UU2 U3 O2 W2 hn2
  go_wp2_with fail
  refine (number_any w0 w3 b _ _ vW3 k r3 O3 W3 HE.out (bw UU3) hb (fun x hx => HZ.out x (by simp [hx]))).mono ?_
  rintro e w4 (⟨rfl, U4, hno⟩ | ⟨x3, r4, vW4, vv, rfl, hn3, rfl, O4, W4, U4⟩)
  · exact ⟨rfl, .inl ⟨rfl, (U4.pre UU3).mono (fun _ e => .inl e), fun y0 y1 y2 y3 y4 r kk vv ll e a0 a1 n2 n3 n4 => by
      injection e with e0 e1
      injection e1 with e1 e2
      injection e2 with e2 e3
      exact hno y3 _ e3 vv n3⟩⟩
  have UU4 := UU3.trans U4
  have HV := Lib.hid hn3
  clear UU3 U4 O3 W3 hn3
  go_wp2_with fail
  refine (number_any w0 w4 b _ _ vW4 k r4 O4 W4 HE.out (bw UU4) hb (fun x hx => HZ.out x (by simp [hx]))).mono ?_
  rintro e w6 (⟨rfl, U5, hno⟩ | ⟨x4, r5, vW5, ll, rfl, hn4, rfl, O5, W5, U5⟩)
  · exact ⟨rfl, .inl ⟨rfl, (U5.pre UU4).mono (fun _ e => .inl e), fun y0 y1 y2 y3 y4 r kk vv ll e a0 a1 n2 n3 n4 => by
      injection e with e0 e1
      injection e1 with e1 e2
      injection e2 with e2 e3
      injection e3 with e3 e4
      exact hno y4 _ e4 ll n4⟩⟩
  have UU5 := Lib.hid (UU4.trans U5)
  have HL := Lib.hid hn4
  obtain ⟨pw, cw, rfl, -⟩ := W5.ex
  have R3 := hR.low (UU4.trans U5) hbB
  have hs3 := (UU4.trans U5).size
  clear U5 O4 W4 UU4 hn4 hR W5
  have V1 := boxedP w6 ⟨va x0, va x1, kk, vv, ll⟩ 61
  have b1 := below_new w6 (.cells #[.int .i64 (va x0), .int .i64 (va x1), .int .i64 kk, .int .i64 vv, .int .i64 ll] 61)
  go_wp2_with fail
  generalize hW : w6.alloc (Obj.cells #[.int .i64 (va x0), .int .i64 (va x1), .int .i64 kk, .int .i64 vv, .int .i64 ll] 61) = w7 at *
  clear hW
  have O7 := O5.below b1 O5.lt
  have R4 := RowE.next R3 b1
  have hs4 := b1.size
  have hv4 := V1.lt
  obtain ⟨v8, w8, hr0, R5, u5⟩ := appPip B w7.drew (.slice pP m cP) m P ⟨va x0, va x1, kk, vv, ll⟩ (R4.keep (Upd.refl (fun _ => False) w7 |>.trans ⟨rfl, rfl, rfl, Nat.le_refl _, fun _ _ _ => rfl⟩) (fun _ _ e => e)) (by show B ≤ w7.heap.size; omega) (by omega)
  obtain ⟨p5, c5, rfl⟩ := RowE.shape R5
  have hr : Sem.run Tryz.prog (Builtin.append_ #[23, 23] 23 #[.slice pP m cP, .slice (some ⟨w7.heap.size, 0, none⟩) 1 1]) (w7.alloc (.cells #[.int .i64 (va x0), .int .i64 (va x1), .int .i64 kk, .int .i64 vv, .int .i64 ll] 61)).drew = .ok (.slice p5 (m + 1) c5) w8 := hr0
  clear hr0
  have u4 : Upd (fun x => some x = (Value.slice pP m cP).ownBlock) w7 w8 := ⟨u5.os, u5.tape, u5.output, u5.size, u5.block⟩
  have hob : ∀ x, some x = (Value.slice pP m cP).ownBlock → B ≤ x := fun x e => (R4.own.lt x e.symm).1
  have O8 := O7.keep (u4.block b O7.lt (fun e => by have := hob b e; omega))
  have V5 : Ob w8 w6.heap.size 5 _ := V1.keep (u4.block _ hv4 (fun e => by have := (R3.own.lt _ e.symm).2; omega))
  have a0 : w7.cell? ⟨b, 1, none⟩ = some (.slice pP m cP) := O7.cell 1 (by omega)
  have q0 : w7.cell? ⟨w6.heap.size, 0, none⟩ = some (.int .i64 (va x0)) := V1.cell 0 (by omega)
  have q1 : w7.cell? ⟨w6.heap.size, 1, none⟩ = some (.int .i64 (va x1)) := V1.cell 1 (by omega)
  have q2 : w7.cell? ⟨w6.heap.size, 2, none⟩ = some (.int .i64 kk) := V1.cell 2 (by omega)
  have q3 : w7.cell? ⟨w6.heap.size, 3, none⟩ = some (.int .i64 vv) := V1.cell 3 (by omega)
  have q4 : w7.cell? ⟨w6.heap.size, 4, none⟩ = some (.int .i64 ll) := V1.cell 4 (by omega)
  have S5 : (fun w' : World => w'.cell? ⟨b, 1, none⟩ = some (.slice pP m cP) ∧ w'.cell? ⟨w6.heap.size, 0, none⟩ = some (.int .i64 (va x0)) ∧ w'.cell? ⟨w6.heap.size, 1, none⟩ = some (.int .i64 (va x1)) ∧ w'.cell? ⟨w6.heap.size, 2, none⟩ = some (.int .i64 kk) ∧ w'.cell? ⟨w6.heap.size, 3, none⟩ = some (.int .i64 vv) ∧ w'.cell? ⟨w6.heap.size, 4, none⟩ = some (.int .i64 ll)) w8 := ⟨O8.cell 1 (by omega), V5.cell 0 (by omega), V5.cell 1 (by omega), V5.cell 2 (by omega), V5.cell 3 (by omega), V5.cell 4 (by omega)⟩
  have S0 : (fun w' : World => w'.cell? ⟨b, 1, none⟩ = some (.slice pP m cP) ∧ w'.cell? ⟨w6.heap.size, 0, none⟩ = some (.int .i64 (va x0)) ∧ w'.cell? ⟨w6.heap.size, 1, none⟩ = some (.int .i64 (va x1)) ∧ w'.cell? ⟨w6.heap.size, 2, none⟩ = some (.int .i64 kk) ∧ w'.cell? ⟨w6.heap.size, 3, none⟩ = some (.int .i64 vv) ∧ w'.cell? ⟨w6.heap.size, 4, none⟩ = some (.int .i64 ll)) w7.drew := ⟨a0, q0, q1, q2, q3, q4⟩
  have KA : Below w7.heap.size w7 (w7.alloc (.cells #[.int .i64 (va x0), .int .i64 (va x1), .int .i64 kk, .int .i64 vv, .int .i64 ll] 61)).drew := (below_new w7 _).trans ⟨rfl, rfl, rfl, Nat.le_refl _, fun _ _ => rfl⟩
  have hl4 := O7.lt
  have SA : (fun w' : World => w'.cell? ⟨b, 1, none⟩ = some (.slice pP m cP) ∧ w'.cell? ⟨w6.heap.size, 0, none⟩ = some (.int .i64 (va x0)) ∧ w'.cell? ⟨w6.heap.size, 1, none⟩ = some (.int .i64 (va x1)) ∧ w'.cell? ⟨w6.heap.size, 2, none⟩ = some (.int .i64 kk) ∧ w'.cell? ⟨w6.heap.size, 3, none⟩ = some (.int .i64 vv) ∧ w'.cell? ⟨w6.heap.size, 4, none⟩ = some (.int .i64 ll)) (w7.alloc (.cells #[.int .i64 (va x0), .int .i64 (va x1), .int .i64 kk, .int .i64 vv, .int .i64 ll] 61)).drew := ⟨(KA.cell (p := ⟨b, 1, none⟩) hl4).trans a0, (KA.cell (p := ⟨_, 0, none⟩) hv4).trans q0, (KA.cell (p := ⟨_, 1, none⟩) hv4).trans q1, (KA.cell (p := ⟨_, 2, none⟩) hv4).trans q2, (KA.cell (p := ⟨_, 3, none⟩) hv4).trans q3, (KA.cell (p := ⟨_, 4, none⟩) hv4).trans q4⟩
  have f5 : w8.frozen? ⟨b, 1, none⟩ = false := O8.free 1
  have g5 : w8.cell? ⟨b, 1, none⟩ = some (.slice pP m cP) := O8.cell 1 (by omega)
  have hne : w6.heap.size ≠ b := by omega
  have hO6 := (Only.refl b w8).setCell 1 (.slice p5 (m + 1) c5)
  have O6 := Lib.hid ((O8.set 1 (.slice p5 (m + 1) c5) (by omega)).congr (e := parC (.slice pN n cN) (.slice p5 (m + 1) c5) k (.slice pw r5.length cw)) (fun j hj => by rcases (by omega : j = 0 ∨ j = 1 ∨ j = 2 ∨ j = 3) with rfl | rfl | rfl | rfl <;> rfl))
  have R6 := Lib.hid (R5.low (Upd.of_only hO6) hbB)
  have U6 := Lib.hid (((upd_or2 UU5.out).trans (Upd.of_below b1)).trans ((u4.mono (fun k _ e => .inr e)).trans (upd_or2 (Upd.of_only hO6))))
  clear b1 V1 O5 R3 O7 R4 R5 u5 u4 O8 V5 KA
  have e0 := S0.1
  have d0 := SA.1
  have S6 : (fun w' : World => w'.cell? ⟨w6.heap.size, 0, none⟩ = some (.int .i64 (va x0)) ∧ w'.cell? ⟨w6.heap.size, 1, none⟩ = some (.int .i64 (va x1)) ∧ w'.cell? ⟨w6.heap.size, 2, none⟩ = some (.int .i64 kk) ∧ w'.cell? ⟨w6.heap.size, 3, none⟩ = some (.int .i64 vv) ∧ w'.cell? ⟨w6.heap.size, 4, none⟩ = some (.int .i64 ll)) (w8.setCell ⟨b, 1, none⟩ (.slice p5 (m + 1) c5)) := ⟨(hO6.cell (a := ⟨w6.heap.size, 0, none⟩) hne).trans S5.2.1, (hO6.cell (a := ⟨w6.heap.size, 1, none⟩) hne).trans S5.2.2.1, (hO6.cell (a := ⟨w6.heap.size, 2, none⟩) hne).trans S5.2.2.2.1, (hO6.cell (a := ⟨w6.heap.size, 3, none⟩) hne).trans S5.2.2.2.2.1, (hO6.cell (a := ⟨w6.heap.size, 4, none⟩) hne).trans S5.2.2.2.2.2⟩
  clear hO6
  refine wp_region_held_drew (S := (fun w' : World => w'.cell? ⟨w6.heap.size, 0, none⟩ = some (.int .i64 (va x0)) ∧ w'.cell? ⟨w6.heap.size, 1, none⟩ = some (.int .i64 (va x1)) ∧ w'.cell? ⟨w6.heap.size, 2, none⟩ = some (.int .i64 kk) ∧ w'.cell? ⟨w6.heap.size, 3, none⟩ = some (.int .i64 vv) ∧ w'.cell? ⟨w6.heap.size, 4, none⟩ = some (.int .i64 ll))) (by kernel_rfl) S0.2 (fun hHeld => ?_)
  refine wpAnyH_take (i := 0) (v := ?_) nth0 (by kernel_rfl) (by kernel_rfl) (by kernel_rfl) (fun _ _ _ h => h) (Or.inl ⟨by rfl, ?_⟩) (by assumption) ?_
  rotate_left
  · intro w hSw; (try dsimp only at hSw); go_simp; try with_reducible rfl
  try simp only [Act.put, List.setIfInBounds_toArray, List.set_cons_zero, List.set_cons_succ]
  refine wpAnyH_take (i := 1) (v := ?_) nth1 (by kernel_rfl) (by kernel_rfl) (by kernel_rfl) (fun _ _ _ h => h) (Or.inl ⟨by rfl, ?_⟩) (by assumption) ?_
  rotate_left
  · intro w hSw; (try dsimp only at hSw); go_simp; try with_reducible rfl
  try simp only [Act.put, List.setIfInBounds_toArray, List.set_cons_zero, List.set_cons_succ]
  refine wpAnyH_take (i := 2) (v := ?_) nth2 (by kernel_rfl) (by kernel_rfl) (by kernel_rfl) (fun _ _ _ h => h) (Or.inl ⟨by rfl, ?_⟩) (by assumption) ?_
  rotate_left
  · intro w hSw; (try dsimp only at hSw); go_simp; try with_reducible rfl
  try simp only [Act.put, List.setIfInBounds_toArray, List.set_cons_zero, List.set_cons_succ]
  refine wpAnyH_take (i := 3) (v := ?_) nth3 (by kernel_rfl) (by kernel_rfl) (by kernel_rfl) (fun _ _ _ h => h) (Or.inl ⟨by rfl, ?_⟩) (by assumption) ?_
  rotate_left
  · intro w hSw; (try dsimp only at hSw); go_simp; try with_reducible rfl
  try simp only [Act.put, List.setIfInBounds_toArray, List.set_cons_zero, List.set_cons_succ]
  refine wpAnyH_take (i := 4) (v := ?_) nth4 (by kernel_rfl) (by kernel_rfl) (by kernel_rfl) (fun _ _ _ h => h) (Or.inl ⟨by rfl, ?_⟩) (by assumption) ?_
  rotate_left
  · intro w hSw; (try dsimp only at hSw); go_simp; try with_reducible rfl
  try simp only [Act.put, List.setIfInBounds_toArray, List.set_cons_zero, List.set_cons_succ]
  refine wpAnyH_take (i := 6) (v := ?_) nth6 (by kernel_rfl) (by kernel_rfl) (by kernel_rfl) (fun _ _ _ h => h) (Or.inl ⟨by rfl, ?_⟩) (by assumption) ?_
  rotate_left
  · intro w hSw; (try dsimp only at hSw); go_simp; try with_reducible rfl
  try simp only [Act.put, List.setIfInBounds_toArray, List.set_cons_zero, List.set_cons_succ]
  refine wpAnyH_ready (rs := [5, 7]) (by kernel_rfl) (by simp) ?_
  refine (AllReadyH.cons nth5 (fun K hK => ?_) (AllReadyH.cons nth7 (fun K hK => ?_) AllReadyH.nil))
  · go_simp
    refine hK.out _ _ ?_ (fun hHeld => ?_)
    · exact S0.2
    clear hK K
    try simp only [Act.put, List.setIfInBounds_toArray, List.set_cons_zero, List.set_cons_succ]
    refine wpAnyH_ready (rs := [7]) (by kernel_rfl) (by simp) ?_
    refine (AllReadyH.cons nth7 (fun K hK => ?_) AllReadyH.nil)
    go_simp
    refine hK.out _ _ ?_ (fun hHeld => ?_)
    · exact SA.2
    clear hK K
    try simp only [Act.put, List.setIfInBounds_toArray, List.set_cons_zero, List.set_cons_succ]
    refine wpAnyH_ready (rs := [8]) (by kernel_rfl) (by simp) ?_
    refine (AllReadyH.cons nth8 (fun K hK => ?_) AllReadyH.nil)
    refine step_appT hr rfl (.tmp 19) (.tmp 21) rfl rfl rfl rfl ?_
    refine hK.out _ _ ?_ (fun hHeld => ?_)
    · exact S5.2
    clear hK K
    try simp only [Act.put, List.setIfInBounds_toArray, List.set_cons_zero, List.set_cons_succ]
    refine wpAnyH_take (i := 9) (v := ?_) nth9 (by kernel_rfl) (by kernel_rfl) (by kernel_rfl) (fun _ _ _ h => h) (Or.inl ⟨by rfl, ?_⟩) (by assumption) ?_
    rotate_left
    · intro w hSw; (try dsimp only at hSw); go_simp; try with_reducible rfl
    try simp only [Act.put, List.setIfInBounds_toArray, List.set_cons_zero, List.set_cons_succ]
    refine wpAnyH_take (i := 10) (v := ?_) nth10 (by kernel_rfl) (by kernel_rfl) (by kernel_rfl) (fun _ _ _ h => h) (Or.inl ⟨by rfl, ?_⟩) (by assumption) ?_
    rotate_left
    · intro w hSw; (try dsimp only at hSw); go_simp; try with_reducible rfl
    try simp only [Act.put, List.setIfInBounds_toArray, List.set_cons_zero, List.set_cons_succ]
    refine wpAnyH_take (i := 11) (v := ?_) nth11 (by kernel_rfl) (by kernel_rfl) (by kernel_rfl) (fun _ _ _ h => h) (Or.inl ⟨by rfl, ?_⟩) (by assumption) ?_
    rotate_left
    · intro w hSw; (try dsimp only at hSw); go_simp; try with_reducible rfl
    try simp only [Act.put, List.setIfInBounds_toArray, List.set_cons_zero, List.set_cons_succ]
    refine wpAnyH_ready (rs := [12]) (by kernel_rfl) (by simp) ?_
    refine (AllReadyH.cons nth12 (fun K hK => ?_) AllReadyH.nil)
    go_simp
    refine hK.out _ _ ?_ (fun hHeld => ?_)
    · exact S6
    clear hK K
    try simp only [Act.put, List.setIfInBounds_toArray, List.set_cons_zero, List.set_cons_succ]
    refine wpAnyH_done (by kernel_rfl) ?_ _
    go_wp2_with fail
    go_end0
    exact .inr ⟨x0, x1, x2, x3, x4, r5, kk, vv, ll, _, pw, cw, rfl, HC0.out, HC1.out, HK.out, HV.out, HL.out, rfl, O6.out, R6.out, U6.out⟩
  · go_simp
    refine hK.out _ _ ?_ (fun hHeld => ?_)
    · exact SA.2
    clear hK K
    try simp only [Act.put, List.setIfInBounds_toArray, List.set_cons_zero, List.set_cons_succ]
    refine wpAnyH_ready (rs := [5]) (by kernel_rfl) (by simp) ?_
    refine (AllReadyH.cons nth5 (fun K hK => ?_) AllReadyH.nil)
    go_simp
    refine hK.out _ _ ?_ (fun hHeld => ?_)
    · exact SA.2
    clear hK K
    try simp only [Act.put, List.setIfInBounds_toArray, List.set_cons_zero, List.set_cons_succ]
    refine wpAnyH_ready (rs := [8]) (by kernel_rfl) (by simp) ?_
    refine (AllReadyH.cons nth8 (fun K hK => ?_) AllReadyH.nil)
    refine step_appT hr rfl (.tmp 19) (.tmp 21) rfl rfl rfl rfl ?_
    refine hK.out _ _ ?_ (fun hHeld => ?_)
    · exact S5.2
    clear hK K
    try simp only [Act.put, List.setIfInBounds_toArray, List.set_cons_zero, List.set_cons_succ]
    refine wpAnyH_take (i := 9) (v := ?_) nth9 (by kernel_rfl) (by kernel_rfl) (by kernel_rfl) (fun _ _ _ h => h) (Or.inl ⟨by rfl, ?_⟩) (by assumption) ?_
    rotate_left
    · intro w hSw; (try dsimp only at hSw); go_simp; try with_reducible rfl
    try simp only [Act.put, List.setIfInBounds_toArray, List.set_cons_zero, List.set_cons_succ]
    refine wpAnyH_take (i := 10) (v := ?_) nth10 (by kernel_rfl) (by kernel_rfl) (by kernel_rfl) (fun _ _ _ h => h) (Or.inl ⟨by rfl, ?_⟩) (by assumption) ?_
    rotate_left
    · intro w hSw; (try dsimp only at hSw); go_simp; try with_reducible rfl
    try simp only [Act.put, List.setIfInBounds_toArray, List.set_cons_zero, List.set_cons_succ]
    refine wpAnyH_take (i := 11) (v := ?_) nth11 (by kernel_rfl) (by kernel_rfl) (by kernel_rfl) (fun _ _ _ h => h) (Or.inl ⟨by rfl, ?_⟩) (by assumption) ?_
    rotate_left
    · intro w hSw; (try dsimp only at hSw); go_simp; try with_reducible rfl
    try simp only [Act.put, List.setIfInBounds_toArray, List.set_cons_zero, List.set_cons_succ]
    refine wpAnyH_ready (rs := [12]) (by kernel_rfl) (by simp) ?_
    refine (AllReadyH.cons nth12 (fun K hK => ?_) AllReadyH.nil)
    go_simp
    refine hK.out _ _ ?_ (fun hHeld => ?_)
    · exact S6
    clear hK K
    try simp only [Act.put, List.setIfInBounds_toArray, List.set_cons_zero, List.set_cons_succ]
    refine wpAnyH_done (by kernel_rfl) ?_ _
    go_wp2_with fail
    go_end0
    exact .inr ⟨x0, x1, x2, x3, x4, r5, kk, vv, ll, _, pw, cw, rfl, HC0.out, HC1.out, HK.out, HV.out, HL.out, rfl, O6.out, R6.out, U6.out⟩
end Go.Proofs.YtmeoepdmaffjjaaGreatDoor.text
