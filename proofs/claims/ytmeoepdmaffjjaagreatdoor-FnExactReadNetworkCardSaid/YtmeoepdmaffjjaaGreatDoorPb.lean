/-
  The parser of networks: reading a node. Conditions: as each states.
-/
import Derived.Test.YtmeoepdmaffjjaaGreatDoorRows
import Derived.Test.YtmeoepdmaffjjaaGreatDoorPa
import Derived.WalkKit
import Derived.ProofKit
import Derived.Lib.Hide
import Derived.Deep.RegionHeld3
import Derived.Deep.RegionWith
import Derived.OwnWalk
namespace Go.Proofs.YtmeoepdmaffjjaaGreatDoor.text
open Go.RowKit Go.Proofs.YtmeoepdmaffjjaaGreatDoor.mem
set_option linter.unusedVariables false
set_option maxRecDepth 100000

theorem nth0 {o : Oper} {l : List Oper} : (List.toArray (o :: l))[0]? = some o := rfl
theorem nth1 {o0 o1 : Oper} {l : List Oper} : (List.toArray (o0 :: o1 :: l))[1]? = some o1 := rfl
theorem nth2 {o0 o1 o2 : Oper} {l : List Oper} : (List.toArray (o0 :: o1 :: o2 :: l))[2]? = some o2 := rfl
theorem nth3 {o0 o1 o2 o3 : Oper} {l : List Oper} : (List.toArray (o0 :: o1 :: o2 :: o3 :: l))[3]? = some o3 := rfl
theorem nth4 {o0 o1 o2 o3 o4 : Oper} {l : List Oper} : (List.toArray (o0 :: o1 :: o2 :: o3 :: o4 :: l))[4]? = some o4 := rfl
theorem nth5 {o0 o1 o2 o3 o4 o5 : Oper} {l : List Oper} : (List.toArray (o0 :: o1 :: o2 :: o3 :: o4 :: o5 :: l))[5]? = some o5 := rfl
theorem nth6 {o0 o1 o2 o3 o4 o5 o6 : Oper} {l : List Oper} : (List.toArray (o0 :: o1 :: o2 :: o3 :: o4 :: o5 :: o6 :: l))[6]? = some o6 := rfl
theorem nth7 {o0 o1 o2 o3 o4 o5 o6 o7 : Oper} {l : List Oper} : (List.toArray (o0 :: o1 :: o2 :: o3 :: o4 :: o5 :: o6 :: o7 :: l))[7]? = some o7 := rfl
theorem nth8 {o0 o1 o2 o3 o4 o5 o6 o7 o8 : Oper} {l : List Oper} : (List.toArray (o0 :: o1 :: o2 :: o3 :: o4 :: o5 :: o6 :: o7 :: o8 :: l))[8]? = some o8 := rfl
theorem nth9 {o0 o1 o2 o3 o4 o5 o6 o7 o8 o9 : Oper} {l : List Oper} : (List.toArray (o0 :: o1 :: o2 :: o3 :: o4 :: o5 :: o6 :: o7 :: o8 :: o9 :: l))[9]? = some o9 := rfl
theorem nth10 {o0 o1 o2 o3 o4 o5 o6 o7 o8 o9 o10 : Oper} {l : List Oper} : (List.toArray (o0 :: o1 :: o2 :: o3 :: o4 :: o5 :: o6 :: o7 :: o8 :: o9 :: o10 :: l))[10]? = some o10 := rfl
theorem nth11 {o0 o1 o2 o3 o4 o5 o6 o7 o8 o9 o10 o11 : Oper} {l : List Oper} : (List.toArray (o0 :: o1 :: o2 :: o3 :: o4 :: o5 :: o6 :: o7 :: o8 :: o9 :: o10 :: o11 :: l))[11]? = some o11 := rfl
theorem nth12 {o0 o1 o2 o3 o4 o5 o6 o7 o8 o9 o10 o11 o12 : Oper} {l : List Oper} : (List.toArray (o0 :: o1 :: o2 :: o3 :: o4 :: o5 :: o6 :: o7 :: o8 :: o9 :: o10 :: o11 :: o12 :: l))[12]? = some o12 := rfl
theorem nth13 {o0 o1 o2 o3 o4 o5 o6 o7 o8 o9 o10 o11 o12 o13 : Oper} {l : List Oper} : (List.toArray (o0 :: o1 :: o2 :: o3 :: o4 :: o5 :: o6 :: o7 :: o8 :: o9 :: o10 :: o11 :: o12 :: o13 :: l))[13]? = some o13 := rfl
theorem nth14 {o0 o1 o2 o3 o4 o5 o6 o7 o8 o9 o10 o11 o12 o13 o14 : Oper} {l : List Oper} : (List.toArray (o0 :: o1 :: o2 :: o3 :: o4 :: o5 :: o6 :: o7 :: o8 :: o9 :: o10 :: o11 :: o12 :: o13 :: o14 :: l))[14]? = some o14 := rfl
theorem nth15 {o0 o1 o2 o3 o4 o5 o6 o7 o8 o9 o10 o11 o12 o13 o14 o15 : Oper} {l : List Oper} : (List.toArray (o0 :: o1 :: o2 :: o3 :: o4 :: o5 :: o6 :: o7 :: o8 :: o9 :: o10 :: o11 :: o12 :: o13 :: o14 :: o15 :: l))[15]? = some o15 := rfl
theorem nth16 {o0 o1 o2 o3 o4 o5 o6 o7 o8 o9 o10 o11 o12 o13 o14 o15 o16 : Oper} {l : List Oper} : (List.toArray (o0 :: o1 :: o2 :: o3 :: o4 :: o5 :: o6 :: o7 :: o8 :: o9 :: o10 :: o11 :: o12 :: o13 :: o14 :: o15 :: o16 :: l))[16]? = some o16 := rfl
theorem nth17 {o0 o1 o2 o3 o4 o5 o6 o7 o8 o9 o10 o11 o12 o13 o14 o15 o16 o17 : Oper} {l : List Oper} : (List.toArray (o0 :: o1 :: o2 :: o3 :: o4 :: o5 :: o6 :: o7 :: o8 :: o9 :: o10 :: o11 :: o12 :: o13 :: o14 :: o15 :: o16 :: o17 :: l))[17]? = some o17 := rfl
theorem nth18 {o0 o1 o2 o3 o4 o5 o6 o7 o8 o9 o10 o11 o12 o13 o14 o15 o16 o17 o18 : Oper} {l : List Oper} : (List.toArray (o0 :: o1 :: o2 :: o3 :: o4 :: o5 :: o6 :: o7 :: o8 :: o9 :: o10 :: o11 :: o12 :: o13 :: o14 :: o15 :: o16 :: o17 :: o18 :: l))[18]? = some o18 := rfl
theorem nth19 {o0 o1 o2 o3 o4 o5 o6 o7 o8 o9 o10 o11 o12 o13 o14 o15 o16 o17 o18 o19 : Oper} {l : List Oper} : (List.toArray (o0 :: o1 :: o2 :: o3 :: o4 :: o5 :: o6 :: o7 :: o8 :: o9 :: o10 :: o11 :: o12 :: o13 :: o14 :: o15 :: o16 :: o17 :: o18 :: o19 :: l))[19]? = some o19 := rfl
theorem nth20 {o0 o1 o2 o3 o4 o5 o6 o7 o8 o9 o10 o11 o12 o13 o14 o15 o16 o17 o18 o19 o20 : Oper} {l : List Oper} : (List.toArray (o0 :: o1 :: o2 :: o3 :: o4 :: o5 :: o6 :: o7 :: o8 :: o9 :: o10 :: o11 :: o12 :: o13 :: o14 :: o15 :: o16 :: o17 :: o18 :: o19 :: o20 :: l))[20]? = some o20 := rfl
theorem nth21 {o0 o1 o2 o3 o4 o5 o6 o7 o8 o9 o10 o11 o12 o13 o14 o15 o16 o17 o18 o19 o20 o21 : Oper} {l : List Oper} : (List.toArray (o0 :: o1 :: o2 :: o3 :: o4 :: o5 :: o6 :: o7 :: o8 :: o9 :: o10 :: o11 :: o12 :: o13 :: o14 :: o15 :: o16 :: o17 :: o18 :: o19 :: o20 :: o21 :: l))[21]? = some o21 := rfl
theorem nth22 {o0 o1 o2 o3 o4 o5 o6 o7 o8 o9 o10 o11 o12 o13 o14 o15 o16 o17 o18 o19 o20 o21 o22 : Oper} {l : List Oper} : (List.toArray (o0 :: o1 :: o2 :: o3 :: o4 :: o5 :: o6 :: o7 :: o8 :: o9 :: o10 :: o11 :: o12 :: o13 :: o14 :: o15 :: o16 :: o17 :: o18 :: o19 :: o20 :: o21 :: o22 :: l))[22]? = some o22 := rfl
theorem nth23 {o0 o1 o2 o3 o4 o5 o6 o7 o8 o9 o10 o11 o12 o13 o14 o15 o16 o17 o18 o19 o20 o21 o22 o23 : Oper} {l : List Oper} : (List.toArray (o0 :: o1 :: o2 :: o3 :: o4 :: o5 :: o6 :: o7 :: o8 :: o9 :: o10 :: o11 :: o12 :: o13 :: o14 :: o15 :: o16 :: o17 :: o18 :: o19 :: o20 :: o21 :: o22 :: o23 :: l))[23]? = some o23 := rfl

abbrev RN (B : Nat) := RowE B 54 3
def addN (N : Nat → Nod) (n : Nat) (q : Nod) : Nat → Nod := fun i => if i < n then N i else q
theorem appNod (B : Nat) (W : World) (v : Value) (n : Nat) (N : Nat → Nod) (q : Nod) (h : RN B W v n (nodC N)) (hB : B ≤ W.heap.size) (hn : n ≤ 1000000) :
    ∃ v' w', Sem.run Tryz.prog (Builtin.append_ #[22, 22] 22 #[v, .slice (some ⟨W.heap.size, 0, none⟩) 1 1]) (W.alloc (.cells #[.string q.s, .int .i64 q.lo, .int .i64 q.hi] 54)) = .ok v' w' ∧ RN B w' v' (n + 1) (nodC (addN N n q)) ∧ Upd (fun x => some x = v.ownBlock) W w' :=
  appOne Tryz.underlying22 info_make_node (by omega) rfl (by omega) B W v n _ _ h hB [.string q.s, .int .i64 q.lo, .int .i64 q.hi] rfl (by intro u hu; simp at hu; rcases hu with rfl | rfl | rfl <;> rfl)
    (fun i j hi hj => by rcases (by omega : j = 0 ∨ j = 1 ∨ j = 2) with rfl | rfl | rfl <;> simp [nodC, addN, hi])
    (fun j hj => by rcases (by omega : j = 0 ∨ j = 1 ∨ j = 2) with rfl | rfl | rfl <;> simp [nodC, addN]) hn

def RNPost (w : World) (b B n : Nat) (N : Nat → Nod) (vP : Value) (m : Nat) (k : Int) (ws : List ByteArray) (e : Ending) (w' : World) : Prop :=
  (e = .panicked fell ∧ Pan b k (fun x => x = b ∨ B ≤ x) w w' ∧ (m = 0 → ∀ x0 x1 x2 r lo hi, ws = x0 :: x1 :: x2 :: r → NumOK x1.data.toList lo → NumOK x2.data.toList hi → False)) ∨
  (m = 0 ∧ ∃ x0 x1 x2 r lo hi vN' pw cw, ws = x0 :: x1 :: x2 :: r ∧ NumOK x1.data.toList lo ∧ NumOK x2.data.toList hi ∧ e = .returned (.tuple #[]) ∧ Ob w' b 4 (parC vN' vP k (.slice pw r.length cw)) ∧ RN B w' vN' (n + 1) (nodC (addN N n ⟨x0, lo, hi⟩)) ∧ Upd (fun x => x = b ∨ B ≤ x) w w')
theorem upd_or {b B : Nat} {w w' : World} (h : Upd (· = b) w w') : Upd (fun x => x = b ∨ B ≤ x) w w' := h.mono (fun k _ e => .inl e)

set_option maxHeartbeats 4000000 in
theorem readNode_any (w0 w : World) (b B n : Nat) (N : Nat → Nod) (vN vW : Value) (pP : Option Addr) (m cP : Nat) (k : Int) (ws : List ByteArray) (h : Ob w b 4 (parC vN (.slice pP m cP) k vW)) (g : Ws w b vW ws) (hR : RN B w vN n (nodC N)) (hbB : b < B) (hBw : B ≤ w.heap.size) (hn : n ≤ 1000)
    (hE : Env w0) (h0 : Below w0.heap.size w0 w) (hb : w0.heap.size ≤ b) (hsz : ∀ x ∈ ws, x.size ≤ 281474976710656) :
    Calls Tryz.prog 61 #[.pointer (some ⟨b, 0, none⟩)] w (RNPost w b B n N (.slice pP m cP) m k ws) := by
  have HE := Lib.hid hE
  have H0 := Lib.hid h0
  have HZ := Lib.hid hsz
  clear hE h0 hsz
  have c1 : w.cell? ⟨b, 1, none⟩ = some (.slice pP m cP) := h.cell 1 (by omega)
  go_enter Tryz.func61, Tryz.ntmps61
  by_cases hm : 0 < m
  · have hmI : (0 : Int) < m := by omega
    go_wp2_with (first | (go_at_call 41; refine (fail_any _ _).mono ?_; rintro e w' ⟨rfl, rfl⟩))
    exact ⟨rfl, .inl ⟨rfl, ⟨Upd.refl _ _, h.cell 2 (by omega)⟩, fun e => by omega⟩⟩
  obtain rfl : m = 0 := by omega
  clear hm
  have bw : ∀ {X : World}, Upd (· = b) w X → Below w0.heap.size w0 X := fun u => H0.out.trans (u.below H0.out.size (by rintro q _ rfl; exact hb))
  go_wp2_with fail
  clear c1
  refine (word_any w b vN _ vW k ws h g).mono ?_
  rintro e w1 (⟨rfl, rfl, rfl⟩ | ⟨x0, r0, vW1, rfl, rfl, O1, W1, U1⟩)
  · exact ⟨rfl, .inl ⟨rfl, ⟨Upd.refl _ _, h.cell 2 (by omega)⟩, fun _ x0 x1 x2 r lo hi e => by cases e⟩⟩
  have B1 := bw U1
  clear h g
  go_wp2_with fail
  refine (number_any w0 w1 b vN _ vW1 k r0 O1 W1 HE.out B1 hb (fun x hx => HZ.out x (List.mem_cons_of_mem _ hx))).mono ?_
  rintro e w2 (⟨rfl, U2, hno⟩ | ⟨x1, r1, vW2, lo, rfl, hlo, rfl, O2, W2, U2⟩)
  · exact ⟨rfl, .inl ⟨rfl, (U2.pre U1).mono (fun _ e => .inl e), fun _ y0 y1 y2 r lo hi e n1 n2 => by
      injection e with e0 e1
      exact hno y1 (y2 :: r) e1 lo n1⟩⟩
  have UU2 := U1.trans U2
  have B2 := bw UU2
  have HLO := Lib.hid hlo
  clear U1 U2 O1 W1 B1 hlo
  go_wp2_with fail
  refine (number_any w0 w2 b vN _ vW2 k r1 O2 W2 HE.out B2 hb (fun x hx => HZ.out x (List.mem_cons_of_mem _ (List.mem_cons_of_mem _ hx)))).mono ?_
  rintro e w3 (⟨rfl, U3, hno⟩ | ⟨x2, r2, vW3, hi, rfl, hhi, rfl, O3, W3, U3⟩)
  · exact ⟨rfl, .inl ⟨rfl, (U3.pre UU2).mono (fun _ e => .inl e), fun _ y0 y1 y2 r lo hi e n1 n2 => by
      injection e with e0 e1
      injection e1 with e1 e2
      exact hno y2 r e2 hi n2⟩⟩
  have UU3 := Lib.hid (UU2.trans U3)
  have HHI := Lib.hid hhi
  obtain ⟨pw, cw, rfl, -⟩ := W3.ex
  have R3 := hR.low (UU2.trans U3) hbB
  have hs3 := (UU2.trans U3).size
  clear U3 O2 W2 B2 hhi UU2 hR W3
  have V1 := boxedN w3 ⟨x0, lo, hi⟩ 54
  have b1 := below_new w3 (.cells #[.string x0, .int .i64 lo, .int .i64 hi] 54)
  go_wp2_with fail
  generalize hW : w3.alloc (Obj.cells #[.string x0, .int .i64 lo, .int .i64 hi] 54) = w4 at *
  clear hW
  have O4 := O3.below b1 O3.lt
  have R4 := RowE.next R3 b1
  have hs4 := b1.size
  have hv4 := V1.lt
  obtain ⟨v5, w5, hr0, R5, u5⟩ := appNod B w4.drew vN n N ⟨x0, lo, hi⟩ (R4.keep (Upd.refl (fun _ => False) w4 |>.trans ⟨rfl, rfl, rfl, Nat.le_refl _, fun _ _ _ => rfl⟩) (fun _ _ e => e)) (by show B ≤ w4.heap.size; omega) (by omega)
  obtain ⟨p5, c5, rfl⟩ := RowE.shape R5
  have hr : Sem.run Tryz.prog (Builtin.append_ #[22, 22] 22 #[vN, .slice (some ⟨w4.heap.size, 0, none⟩) 1 1]) (w4.alloc (.cells #[.string x0, .int .i64 lo, .int .i64 hi] 54)).drew = .ok (.slice p5 (n + 1) c5) w5 := hr0
  clear hr0
  have u4 : Upd (fun x => some x = vN.ownBlock) w4 w5 := ⟨u5.os, u5.tape, u5.output, u5.size, u5.block⟩
  have hob : ∀ x, some x = vN.ownBlock → B ≤ x := fun x e => (R4.own.lt x e.symm).1
  have O5 := O4.keep (u4.block b O4.lt (fun e => by have := hob b e; omega))
  have V5 : Ob w5 w3.heap.size 3 _ := V1.keep (u4.block _ hv4 (fun e => by have := (R3.own.lt _ e.symm).2; omega))
  have a0 : w4.cell? ⟨b, 0, none⟩ = some vN := O4.cell 0 (by omega)
  have q0 : w4.cell? ⟨w3.heap.size, 0, none⟩ = some (.string x0) := V1.cell 0 (by omega)
  have q1 : w4.cell? ⟨w3.heap.size, 1, none⟩ = some (.int .i64 lo) := V1.cell 1 (by omega)
  have q2 : w4.cell? ⟨w3.heap.size, 2, none⟩ = some (.int .i64 hi) := V1.cell 2 (by omega)
  have S5 : (fun w' : World => w'.cell? ⟨b, 0, none⟩ = some vN ∧ w'.cell? ⟨w3.heap.size, 0, none⟩ = some (.string x0) ∧ w'.cell? ⟨w3.heap.size, 1, none⟩ = some (.int .i64 lo) ∧ w'.cell? ⟨w3.heap.size, 2, none⟩ = some (.int .i64 hi)) w5 := ⟨O5.cell 0 (by omega), V5.cell 0 (by omega), V5.cell 1 (by omega), V5.cell 2 (by omega)⟩
  have S0 : (fun w' : World => w'.cell? ⟨b, 0, none⟩ = some vN ∧ w'.cell? ⟨w3.heap.size, 0, none⟩ = some (.string x0) ∧ w'.cell? ⟨w3.heap.size, 1, none⟩ = some (.int .i64 lo) ∧ w'.cell? ⟨w3.heap.size, 2, none⟩ = some (.int .i64 hi)) w4.drew := ⟨a0, q0, q1, q2⟩
  have KA : Below w4.heap.size w4 (w4.alloc (.cells #[.string x0, .int .i64 lo, .int .i64 hi] 54)).drew := (below_new w4 _).trans ⟨rfl, rfl, rfl, Nat.le_refl _, fun _ _ => rfl⟩
  have hl4 := O4.lt
  have SA : (fun w' : World => w'.cell? ⟨b, 0, none⟩ = some vN ∧ w'.cell? ⟨w3.heap.size, 0, none⟩ = some (.string x0) ∧ w'.cell? ⟨w3.heap.size, 1, none⟩ = some (.int .i64 lo) ∧ w'.cell? ⟨w3.heap.size, 2, none⟩ = some (.int .i64 hi)) (w4.alloc (.cells #[.string x0, .int .i64 lo, .int .i64 hi] 54)).drew := ⟨(KA.cell (p := ⟨b, 0, none⟩) hl4).trans a0, (KA.cell (p := ⟨_, 0, none⟩) hv4).trans q0, (KA.cell (p := ⟨_, 1, none⟩) hv4).trans q1, (KA.cell (p := ⟨_, 2, none⟩) hv4).trans q2⟩
  have f5 : w5.frozen? ⟨b, 0, none⟩ = false := O5.free 0
  have g5 : w5.cell? ⟨b, 0, none⟩ = some vN := O5.cell 0 (by omega)
  have hne : w3.heap.size ≠ b := by omega
  have hO6 := (Only.refl b w5).setCell 0 (.slice p5 (n + 1) c5)
  have O6 := Lib.hid ((O5.set 0 (.slice p5 (n + 1) c5) (by omega)).congr (e := parC (.slice p5 (n + 1) c5) (.slice pP 0 cP) k (.slice pw r2.length cw)) (fun j hj => by rcases (by omega : j = 0 ∨ j = 1 ∨ j = 2 ∨ j = 3) with rfl | rfl | rfl | rfl <;> rfl))
  have R6 := Lib.hid (R5.low (Upd.of_only hO6) hbB)
  have U6 := Lib.hid (((upd_or (B := B) UU3.out).trans (Upd.of_below b1)).trans ((u4.mono (fun k _ e => .inr (hob k e))).trans (upd_or (Upd.of_only hO6))))
  clear b1 V1 O3 R3 O4 R4 R5 u5 u4 O5 V5 KA
  have e0 := S0.1
  have d0 := SA.1
  have S6 : (fun w' : World => w'.cell? ⟨w3.heap.size, 0, none⟩ = some (.string x0) ∧ w'.cell? ⟨w3.heap.size, 1, none⟩ = some (.int .i64 lo) ∧ w'.cell? ⟨w3.heap.size, 2, none⟩ = some (.int .i64 hi)) (w5.setCell ⟨b, 0, none⟩ (.slice p5 (n + 1) c5)) := ⟨(hO6.cell (a := ⟨w3.heap.size, 0, none⟩) hne).trans S5.2.1, (hO6.cell (a := ⟨w3.heap.size, 1, none⟩) hne).trans S5.2.2.1, (hO6.cell (a := ⟨w3.heap.size, 2, none⟩) hne).trans S5.2.2.2⟩
  clear hO6
  refine wp_region_held_drew (S := (fun w' : World => w'.cell? ⟨w3.heap.size, 0, none⟩ = some (.string x0) ∧ w'.cell? ⟨w3.heap.size, 1, none⟩ = some (.int .i64 lo) ∧ w'.cell? ⟨w3.heap.size, 2, none⟩ = some (.int .i64 hi))) (by kernel_rfl) S0.2 (fun hHeld => ?_)
  refine wpAnyH_take (i := 0) (v := ?_) nth0 (by kernel_rfl) (by kernel_rfl) (by kernel_rfl) (fun _ _ _ h => h) (Or.inl ⟨by rfl, ?_⟩) (by assumption) ?_
  rotate_left
  · intro w hSw; (try dsimp only at hSw); go_simp; try with_reducible rfl
  try simp only [Act.put, List.setIfInBounds_toArray, List.set_cons_zero, List.set_cons_succ]
  refine wpAnyH_take (i := 1) (v := ?_) nth1 (by kernel_rfl) (by kernel_rfl) (by kernel_rfl) (fun _ _ _ h => h) (Or.inl ⟨by rfl, ?_⟩) (by assumption) ?_
  rotate_left
  · intro w hSw; (try dsimp only at hSw); go_simp; try with_reducible rfl
  try simp only [Act.put, List.setIfInBounds_toArray, List.set_cons_zero, List.set_cons_succ]
  refine wpAnyH_take (i := 2) (v := ?_) nth2 (by kernel_rfl) (by kernel_rfl) (by kernel_rfl) (fun _ _ _ h => h) (Or.inl ⟨by rfl, ?_⟩) (by assumption) ?_
  rotate_left
  · intro w hSw; (try dsimp only at hSw); go_simp; try with_reducible rfl
  try simp only [Act.put, List.setIfInBounds_toArray, List.set_cons_zero, List.set_cons_succ]
  refine wpAnyH_take (i := 3) (v := ?_) nth3 (by kernel_rfl) (by kernel_rfl) (by kernel_rfl) (fun _ _ _ h => h) (Or.inl ⟨by rfl, ?_⟩) (by assumption) ?_
  rotate_left
  · intro w hSw; (try dsimp only at hSw); go_simp; try with_reducible rfl
  try simp only [Act.put, List.setIfInBounds_toArray, List.set_cons_zero, List.set_cons_succ]
  refine wpAnyH_take (i := 4) (v := ?_) nth4 (by kernel_rfl) (by kernel_rfl) (by kernel_rfl) (fun _ _ _ h => h) (Or.inl ⟨by rfl, ?_⟩) (by assumption) ?_
  rotate_left
  · intro w hSw; (try dsimp only at hSw); go_simp; try with_reducible rfl
  try simp only [Act.put, List.setIfInBounds_toArray, List.set_cons_zero, List.set_cons_succ]
  refine wpAnyH_take (i := 6) (v := ?_) nth6 (by kernel_rfl) (by kernel_rfl) (by kernel_rfl) (fun _ _ _ h => h) (Or.inl ⟨by rfl, ?_⟩) (by assumption) ?_
  rotate_left
  · intro w hSw; (try dsimp only at hSw); go_simp; try with_reducible rfl
  try simp only [Act.put, List.setIfInBounds_toArray, List.set_cons_zero, List.set_cons_succ]
  refine wpAnyH_ready (rs := [5, 7]) (by kernel_rfl) (by simp) ?_
  refine (AllReadyH.cons nth5 (fun K hK => ?_) (AllReadyH.cons nth7 (fun K hK => ?_) AllReadyH.nil))
  · go_simp
    refine hK.out _ _ ?_ (fun hHeld => ?_)
    · exact S0.2
    clear hK K
    try simp only [Act.put, List.setIfInBounds_toArray, List.set_cons_zero, List.set_cons_succ]
    refine wpAnyH_ready (rs := [7]) (by kernel_rfl) (by simp) ?_
    refine (AllReadyH.cons nth7 (fun K hK => ?_) AllReadyH.nil)
    go_simp
    refine hK.out _ _ ?_ (fun hHeld => ?_)
    · exact SA.2
    clear hK K
    try simp only [Act.put, List.setIfInBounds_toArray, List.set_cons_zero, List.set_cons_succ]
    refine wpAnyH_ready (rs := [8]) (by kernel_rfl) (by simp) ?_
    refine (AllReadyH.cons nth8 (fun K hK => ?_) AllReadyH.nil)
    refine step_appT hr rfl (.tmp 24) (.tmp 26) rfl rfl rfl rfl ?_
    refine hK.out _ _ ?_ (fun hHeld => ?_)
    · exact S5.2
    clear hK K
    try simp only [Act.put, List.setIfInBounds_toArray, List.set_cons_zero, List.set_cons_succ]
    refine wpAnyH_take (i := 9) (v := ?_) nth9 (by kernel_rfl) (by kernel_rfl) (by kernel_rfl) (fun _ _ _ h => h) (Or.inl ⟨by rfl, ?_⟩) (by assumption) ?_
    rotate_left
    · intro w hSw; (try dsimp only at hSw); go_simp; try with_reducible rfl
    try simp only [Act.put, List.setIfInBounds_toArray, List.set_cons_zero, List.set_cons_succ]
    refine wpAnyH_take (i := 10) (v := ?_) nth10 (by kernel_rfl) (by kernel_rfl) (by kernel_rfl) (fun _ _ _ h => h) (Or.inl ⟨by rfl, ?_⟩) (by assumption) ?_
    rotate_left
    · intro w hSw; (try dsimp only at hSw); go_simp; try with_reducible rfl
    try simp only [Act.put, List.setIfInBounds_toArray, List.set_cons_zero, List.set_cons_succ]
    refine wpAnyH_take (i := 11) (v := ?_) nth11 (by kernel_rfl) (by kernel_rfl) (by kernel_rfl) (fun _ _ _ h => h) (Or.inl ⟨by rfl, ?_⟩) (by assumption) ?_
    rotate_left
    · intro w hSw; (try dsimp only at hSw); go_simp; try with_reducible rfl
    try simp only [Act.put, List.setIfInBounds_toArray, List.set_cons_zero, List.set_cons_succ]
    refine wpAnyH_ready (rs := [12]) (by kernel_rfl) (by simp) ?_
    refine (AllReadyH.cons nth12 (fun K hK => ?_) AllReadyH.nil)
    go_simp
    refine hK.out _ _ ?_ (fun hHeld => ?_)
    · exact S6
    clear hK K
    try simp only [Act.put, List.setIfInBounds_toArray, List.set_cons_zero, List.set_cons_succ]
    refine wpAnyH_done (by kernel_rfl) ?_ _
    go_wp2_with fail
    go_end0
    exact .inr ⟨rfl, x0, x1, x2, r2, lo, hi, _, pw, cw, rfl, HLO.out, HHI.out, rfl, O6.out, R6.out, U6.out⟩
  · go_simp
    refine hK.out _ _ ?_ (fun hHeld => ?_)
    · exact SA.2
    clear hK K
    try simp only [Act.put, List.setIfInBounds_toArray, List.set_cons_zero, List.set_cons_succ]
    refine wpAnyH_ready (rs := [5]) (by kernel_rfl) (by simp) ?_
    refine (AllReadyH.cons nth5 (fun K hK => ?_) AllReadyH.nil)
    go_simp
    refine hK.out _ _ ?_ (fun hHeld => ?_)
    · exact SA.2
    clear hK K
    try simp only [Act.put, List.setIfInBounds_toArray, List.set_cons_zero, List.set_cons_succ]
    refine wpAnyH_ready (rs := [8]) (by kernel_rfl) (by simp) ?_
    refine (AllReadyH.cons nth8 (fun K hK => ?_) AllReadyH.nil)
    refine step_appT hr rfl (.tmp 24) (.tmp 26) rfl rfl rfl rfl ?_
    refine hK.out _ _ ?_ (fun hHeld => ?_)
    · exact S5.2
    clear hK K
    try simp only [Act.put, List.setIfInBounds_toArray, List.set_cons_zero, List.set_cons_succ]
    refine wpAnyH_take (i := 9) (v := ?_) nth9 (by kernel_rfl) (by kernel_rfl) (by kernel_rfl) (fun _ _ _ h => h) (Or.inl ⟨by rfl, ?_⟩) (by assumption) ?_
    rotate_left
    · intro w hSw; (try dsimp only at hSw); go_simp; try with_reducible rfl
    try simp only [Act.put, List.setIfInBounds_toArray, List.set_cons_zero, List.set_cons_succ]
    refine wpAnyH_take (i := 10) (v := ?_) nth10 (by kernel_rfl) (by kernel_rfl) (by kernel_rfl) (fun _ _ _ h => h) (Or.inl ⟨by rfl, ?_⟩) (by assumption) ?_
    rotate_left
    · intro w hSw; (try dsimp only at hSw); go_simp; try with_reducible rfl
    try simp only [Act.put, List.setIfInBounds_toArray, List.set_cons_zero, List.set_cons_succ]
    refine wpAnyH_take (i := 11) (v := ?_) nth11 (by kernel_rfl) (by kernel_rfl) (by kernel_rfl) (fun _ _ _ h => h) (Or.inl ⟨by rfl, ?_⟩) (by assumption) ?_
    rotate_left
    · intro w hSw; (try dsimp only at hSw); go_simp; try with_reducible rfl
    try simp only [Act.put, List.setIfInBounds_toArray, List.set_cons_zero, List.set_cons_succ]
    refine wpAnyH_ready (rs := [12]) (by kernel_rfl) (by simp) ?_
    refine (AllReadyH.cons nth12 (fun K hK => ?_) AllReadyH.nil)
    go_simp
    refine hK.out _ _ ?_ (fun hHeld => ?_)
    · exact S6
    clear hK K
    try simp only [Act.put, List.setIfInBounds_toArray, List.set_cons_zero, List.set_cons_succ]
    refine wpAnyH_done (by kernel_rfl) ?_ _
    go_wp2_with fail
    go_end0
    exact .inr ⟨rfl, x0, x1, x2, r2, lo, hi, _, pw, cw, rfl, HLO.out, HHI.out, rfl, O6.out, R6.out, U6.out⟩
end Go.Proofs.YtmeoepdmaffjjaaGreatDoor.text
