/-
  Several texts in one, part 4 of 6.
-/
import Derived.Test.YtdbgcbkmcbgdiaaGreatRows
import Derived.WalkKit
import Derived.ProofKit
import Derived.OpenShut
import Derived.Below
import Derived.ChangeSame
import Derived.ChangeSlices
import Derived.WideKeyArgs
import Derived.Lib.Hide
import Derived.RegionTactic
import Derived.BigRegion
import Derived.Deep.QuietTactic
import Derived.BigQuiet
import Derived.Outline
import Derived.OwnWalk
import Derived.Deep.RegionHeld3
import Derived.WalkSpells
import Derived.Maps.OwnSet
import Derived.Maps.OwnOps
import Derived.Deep.RegionHeldLaw
import Derived.Lib.ItoaNum
import Derived.Laws.IdiomStrings
import Derived.Lib.SmallJoins
import Derived.Deep.Slices
import Derived.Deep.Fields
import Derived.Laws.AppendOwn
import Derived.RangeFuncNested
import Derived.RangeFuncLeaves
import Derived.RangeFuncCalls
import Derived.Laws.CopyOwn
import Derived.Deep.Cut
import Derived.Deep.RegionLaw
import Derived.LoopIn
import Derived.TacticsIn
import Derived.RegionIn
import Derived.Shelf.SlicesE.Reverse
import Derived.Test.YtdbgcbkmcbgdiaaGreatLsr
import Derived.OwnWalkIn
import Derived.Sort.Grow
import Derived.Deep.WholeRow
import Derived.WalkMore
import Derived.Deep.MidRow
import Derived.Great.BuildSlice
import Derived.Deep.CutRange
import Derived.Deep.RegionWith
import Derived.Laws.StructEq
import Derived.StillTailTactics
import Derived.IntWalk
import Derived.Laws.EntriesVeiled
import Derived.Laws.ResultCell
import Derived.WideShapes
import Derived.Lib.MinMax
import Derived.Test.YtdbgcbkmcbgdiaaGreatLPr3

namespace Go.Proofs.YtdbgcbkmcbgdiaaGreat.mem
open Go.RowKit
set_option linter.unusedVariables false

/-- the cells of a network with flows -/
def nfc (s0 s1 : Value) (x : Nat → Int) (k : Nat) : Value := if k = 0 then s0 else if k = 1 then s1 else ia x (k - 2)
def nfL (s0 s1 : Value) (x : Nat → Int) : List Value := s0 :: s1 :: arrL x
theorem nfL_len (s0 s1 : Value) (x : Nat → Int) : (nfL s0 s1 x).length = 42 := by unfold nfL; rw [List.length_cons, List.length_cons, arr_len]
theorem nfL_get (s0 s1 : Value) (x : Nat → Int) (k : Nat) (hk : k < 42) : (nfL s0 s1 x)[k]? = some (nfc s0 s1 x k) := by
  unfold nfL nfc
  match k, hk with
  | 0, _ => rfl
  | 1, _ => rfl
  | k + 2, hk =>
    rw [List.getElem?_cons_succ, List.getElem?_cons_succ, arrL_get x k (by omega), if_neg (by omega), if_neg (by omega)]
    rfl
theorem nfL_one {s0 s1 : Value} (h0 : s0.oneCell' = true) (h1 : s1.oneCell' = true) (x : Nat → Int) : ∀ v ∈ nfL s0 s1 x, v.oneCell' = true := fun v hv => by
  unfold nfL at hv
  rcases List.mem_cons.1 hv with rfl | hv
  · exact h0
  rcases List.mem_cons.1 hv with rfl | hv
  · exact h1
  exact arr_oneL x v hv
theorem nfL_eq {cur : List Value} {s0 s1 : Value} {x : Nat → Int} (h1 : cur.length = 42) (h2 : ∀ k, k < 42 → cur[k]? = some (nfc s0 s1 x k)) : cur = nfL s0 s1 x := by
  apply List.ext_getElem?
  intro k
  by_cases h : k < 42
  · rw [h2 k h, nfL_get s0 s1 x k h]
  · rw [List.getElem?_eq_none (by omega), List.getElem?_eq_none (by rw [nfL_len]; omega)]
theorem nf_info : (Tryz.prog.info? 115).map (·.size) = some 42 := by kernel_rfl
theorem Ob.nrow {w : World} {b : Nat} {s0 s1 : Value} {x : Nat → Int} (h : Ob w b 42 (nfc s0 s1 x)) : ∃ t, w.heap[b]? = some (.cells (nfL s0 s1 x).toArray t (0, 0)) := by
  obtain ⟨cur, t, h1, h2, h3⟩ := h.ex
  have e : cur.toList = nfL s0 s1 x := nfL_eq (by rw [Array.length_toList, h2]) (fun k hk => by rw [Array.getElem?_toList]; exact h3 k hk)
  rw [← e, Array.toArray_toList]
  exact ⟨t, h1⟩
theorem Ob.newN (w : World) (s0 s1 : Value) (x : Nat → Int) (t : TypeId) : Ob (w.alloc (.cells (nfL s0 s1 x).toArray t)) w.heap.size 42 (nfc s0 s1 x) := Ob.new w _ t 42 _ (by rw [List.size_toArray, nfL_len]) (fun k hk => by rw [List.getElem?_toArray]; exact nfL_get s0 s1 x k hk)
theorem Ob.n0 {w : World} {b : Nat} {s0 s1 : Value} {x : Nat → Int} (h : Ob w b 42 (nfc s0 s1 x)) : w.cell? ⟨b, 0, none⟩ = some s0 := h.cell 0 (by omega)
theorem Ob.n1 {w : World} {b : Nat} {s0 s1 : Value} {x : Nat → Int} (h : Ob w b 42 (nfc s0 s1 x)) : w.cell? ⟨b, 1, none⟩ = some s1 := h.cell 1 (by omega)
theorem Ob.nx {w : World} {b : Nat} {s0 s1 : Value} {x : Nat → Int} (h : Ob w b 42 (nfc s0 s1 x)) (k : Nat) (hk : k < 40) : w.cell? ⟨b, 2 + k, none⟩ = some (.int .i64 (x k)) := by
  have := h.cell (2 + k) (by omega)
  unfold nfc at this
  rw [if_neg (by omega), if_neg (by omega), show 2 + k - 2 = k by omega] at this
  exact this
theorem Ob.nrange {w : World} {b : Nat} {s0 s1 : Value} {x : Nat → Int} (h : Ob w b 42 (nfc s0 s1 x)) : w.rangeAt b 2 (arrL x) := by
  intro j v hv
  have hj : j < 40 := by have := get_lt hv; rw [arr_len] at this; exact this
  rw [arrL_get x j hj] at hv
  injection hv with hv
  rw [h.nx j hj, ← hv]
  rfl
theorem Ob.nall {w : World} {b : Nat} {s0 s1 : Value} {x : Nat → Int} (h : Ob w b 42 (nfc s0 s1 x)) : w.rangeAt b 0 (nfL s0 s1 x) := by
  intro j v hv
  have hj : j < 42 := by have := get_lt hv; rw [nfL_len] at this; exact this
  rw [nfL_get s0 s1 x j hj] at hv
  injection hv with hv
  rw [Nat.zero_add, h.cell j hj, hv]
theorem Ob.nthere {w : World} {b : Nat} {d : Nat → Value} (h : Ob w b 42 d) : w.there b 2 40 := fun j hj => by
  exact ⟨by rw [h.cell (2 + j) (by omega)]; rfl, h.free (2 + j)⟩
theorem Ob.nset {w : World} {b : Nat} {s0 s1 : Value} {x : Nat → Int} (h : Ob w b 42 (nfc s0 s1 x)) (y : Nat → Int) : Ob (w.setCells b 2 (arrL y)) b 42 (nfc s0 s1 y) := by
  refine (h.setCs (arrL y) 2 (by rw [arr_len]; omega)).congr fun k hk => ?_
  unfold nfc
  by_cases g : 2 ≤ k
  · rw [if_pos g, arrL_get y (k - 2) (by omega), Option.getD_some, if_neg (by omega), if_neg (by omega)]
  · rw [if_neg g, Option.getD_none]
    by_cases e : k = 0
    · rw [if_pos e, if_pos e]
    · rw [if_neg e, if_neg e, if_pos (by omega), if_pos (by omega)]
theorem Ob.nput {w : World} {b : Nat} {d : Nat → Value} (h : Ob w b 42 d) (s0 s1 : Value) (y : Nat → Int) : Ob (w.setCells b 0 (nfL s0 s1 y)) b 42 (nfc s0 s1 y) := by
  refine (h.setCs (nfL s0 s1 y) 0 (by rw [nfL_len]; omega)).congr fun k hk => ?_
  rw [if_pos (Nat.zero_le k), Nat.sub_zero, nfL_get s0 s1 y k hk]
  rfl
theorem Ob.nsl {w : World} {b : Nat} {s0 s1 : Value} {x : Nat → Int} (h : Ob w b 42 (nfc s0 s1 x)) : Sl w (.slice (some ⟨b, 2, none⟩) 40 40) 40 x b (b + 1) :=
  ⟨some ⟨b, 2, none⟩, 40, rfl, .inr ⟨b, 2, rfl, Nat.le_refl _, by omega, fun k hk => h.nx k hk⟩⟩
theorem zeros42 (k : Nat) (hk : k < 42) : (#[Value.slice none 0 0, Value.slice none 0 0, Value.int IntKind.i64 0, Value.int IntKind.i64 0, Value.int IntKind.i64 0, Value.int IntKind.i64 0, Value.int IntKind.i64 0, Value.int IntKind.i64 0, Value.int IntKind.i64 0, Value.int IntKind.i64 0, Value.int IntKind.i64 0, Value.int IntKind.i64 0, Value.int IntKind.i64 0, Value.int IntKind.i64 0, Value.int IntKind.i64 0, Value.int IntKind.i64 0, Value.int IntKind.i64 0, Value.int IntKind.i64 0, Value.int IntKind.i64 0, Value.int IntKind.i64 0, Value.int IntKind.i64 0, Value.int IntKind.i64 0, Value.int IntKind.i64 0, Value.int IntKind.i64 0, Value.int IntKind.i64 0, Value.int IntKind.i64 0, Value.int IntKind.i64 0, Value.int IntKind.i64 0, Value.int IntKind.i64 0, Value.int IntKind.i64 0, Value.int IntKind.i64 0, Value.int IntKind.i64 0, Value.int IntKind.i64 0, Value.int IntKind.i64 0, Value.int IntKind.i64 0, Value.int IntKind.i64 0, Value.int IntKind.i64 0, Value.int IntKind.i64 0, Value.int IntKind.i64 0, Value.int IntKind.i64 0, Value.int IntKind.i64 0, Value.int IntKind.i64 0] : Array Value)[k]? = some (nfc (.slice none 0 0) (.slice none 0 0) (fun _ => 0) k) := by
  rcases (by omega : k = 0 ∨ k = 1 ∨ k = 2 ∨ k = 3 ∨ k = 4 ∨ k = 5 ∨ k = 6 ∨ k = 7 ∨ k = 8 ∨ k = 9 ∨ k = 10 ∨ k = 11 ∨ k = 12 ∨ k = 13 ∨ k = 14 ∨ k = 15 ∨ k = 16 ∨ k = 17 ∨ k = 18 ∨ k = 19 ∨ k = 20 ∨ k = 21 ∨ k = 22 ∨ k = 23 ∨ k = 24 ∨ k = 25 ∨ k = 26 ∨ k = 27 ∨ k = 28 ∨ k = 29 ∨ k = 30 ∨ k = 31 ∨ k = 32 ∨ k = 33 ∨ k = 34 ∨ k = 35 ∨ k = 36 ∨ k = 37 ∨ k = 38 ∨ k = 39 ∨ k = 40 ∨ k = 41) with rfl | rfl | rfl | rfl | rfl | rfl | rfl | rfl | rfl | rfl | rfl | rfl | rfl | rfl | rfl | rfl | rfl | rfl | rfl | rfl | rfl | rfl | rfl | rfl | rfl | rfl | rfl | rfl | rfl | rfl | rfl | rfl | rfl | rfl | rfl | rfl | rfl | rfl | rfl | rfl | rfl | rfl <;> rfl
theorem Ob.newZ (w : World) (t : TypeId) : Ob (w.alloc (.cells #[Value.slice none 0 0, Value.slice none 0 0, Value.int IntKind.i64 0, Value.int IntKind.i64 0, Value.int IntKind.i64 0, Value.int IntKind.i64 0, Value.int IntKind.i64 0, Value.int IntKind.i64 0, Value.int IntKind.i64 0, Value.int IntKind.i64 0, Value.int IntKind.i64 0, Value.int IntKind.i64 0, Value.int IntKind.i64 0, Value.int IntKind.i64 0, Value.int IntKind.i64 0, Value.int IntKind.i64 0, Value.int IntKind.i64 0, Value.int IntKind.i64 0, Value.int IntKind.i64 0, Value.int IntKind.i64 0, Value.int IntKind.i64 0, Value.int IntKind.i64 0, Value.int IntKind.i64 0, Value.int IntKind.i64 0, Value.int IntKind.i64 0, Value.int IntKind.i64 0, Value.int IntKind.i64 0, Value.int IntKind.i64 0, Value.int IntKind.i64 0, Value.int IntKind.i64 0, Value.int IntKind.i64 0, Value.int IntKind.i64 0, Value.int IntKind.i64 0, Value.int IntKind.i64 0, Value.int IntKind.i64 0, Value.int IntKind.i64 0, Value.int IntKind.i64 0, Value.int IntKind.i64 0, Value.int IntKind.i64 0, Value.int IntKind.i64 0, Value.int IntKind.i64 0, Value.int IntKind.i64 0] t)) w.heap.size 42 (nfc (.slice none 0 0) (.slice none 0 0) (fun _ => 0)) := Ob.new w _ t 42 _ rfl (fun k hk => zeros42 k hk)
theorem results_nf {fn : Func} {p : Tmp} {tmps : Array Value} {w : World} {b : Nat} {s0 s1 : Value} {x : Nat → Int} (h : fn.results = #[.cell p 115]) (hp : tmps.getD p undef = .pointer (some ⟨b, 0, none⟩)) (ho : Ob w b 42 (nfc s0 s1 x)) : (results fn tmps).run Tryz.prog w = .ok (.agg (nfL s0 s1 x).toArray) w := by
  obtain ⟨t, h1⟩ := ho.nrow
  exact results_cell_row h tmps w b t _ (0, 0) _ hp h1 Tryz.underlying115 rfl (by rw [List.size_toArray, nfL_len]; exact nf_info)
theorem yieldsIf_build {P : Program} {ops : Array Oper} {S : World → Prop} {op : Oper} {a : Act} (hw : Region.wanted op (yielded ops a.tmps) = true) (t : TypeId) (parts : Array (Nat × Operand)) (ho : op.op = .build t parts) (cells : Array Value) (hb : P.built t (parts.map fun (i, x) => (i, a.eval x)).toList = some cells) : YieldsIf P ops S op (.agg cells) a :=
  .inl ⟨hw, fun w _ => by
    unfold execOp
    simp only [ho, Sem.run_bind, run_build w t _ cells hb, Result.andThen_ok]
    rfl⟩
theorem nthe0 {o0 : Oper} {l : List Oper} : (List.toArray (o0 :: l))[0]? = some o0 := rfl
theorem nthe1 {o0 o1 : Oper} {l : List Oper} : (List.toArray (o0 :: o1 :: l))[1]? = some o1 := rfl
theorem nthe2 {o0 o1 o2 : Oper} {l : List Oper} : (List.toArray (o0 :: o1 :: o2 :: l))[2]? = some o2 := rfl
theorem nthe3 {o0 o1 o2 o3 : Oper} {l : List Oper} : (List.toArray (o0 :: o1 :: o2 :: o3 :: l))[3]? = some o3 := rfl
theorem nthe4 {o0 o1 o2 o3 o4 : Oper} {l : List Oper} : (List.toArray (o0 :: o1 :: o2 :: o3 :: o4 :: l))[4]? = some o4 := rfl
theorem nthe5 {o0 o1 o2 o3 o4 o5 : Oper} {l : List Oper} : (List.toArray (o0 :: o1 :: o2 :: o3 :: o4 :: o5 :: l))[5]? = some o5 := rfl
theorem nthe6 {o0 o1 o2 o3 o4 o5 o6 : Oper} {l : List Oper} : (List.toArray (o0 :: o1 :: o2 :: o3 :: o4 :: o5 :: o6 :: l))[6]? = some o6 := rfl
theorem nthe7 {o0 o1 o2 o3 o4 o5 o6 o7 : Oper} {l : List Oper} : (List.toArray (o0 :: o1 :: o2 :: o3 :: o4 :: o5 :: o6 :: o7 :: l))[7]? = some o7 := rfl
theorem nthe8 {o0 o1 o2 o3 o4 o5 o6 o7 o8 : Oper} {l : List Oper} : (List.toArray (o0 :: o1 :: o2 :: o3 :: o4 :: o5 :: o6 :: o7 :: o8 :: l))[8]? = some o8 := rfl
theorem nthe9 {o0 o1 o2 o3 o4 o5 o6 o7 o8 o9 : Oper} {l : List Oper} : (List.toArray (o0 :: o1 :: o2 :: o3 :: o4 :: o5 :: o6 :: o7 :: o8 :: o9 :: l))[9]? = some o9 := rfl
theorem nthe10 {o0 o1 o2 o3 o4 o5 o6 o7 o8 o9 o10 : Oper} {l : List Oper} : (List.toArray (o0 :: o1 :: o2 :: o3 :: o4 :: o5 :: o6 :: o7 :: o8 :: o9 :: o10 :: l))[10]? = some o10 := rfl
theorem nthe11 {o0 o1 o2 o3 o4 o5 o6 o7 o8 o9 o10 o11 : Oper} {l : List Oper} : (List.toArray (o0 :: o1 :: o2 :: o3 :: o4 :: o5 :: o6 :: o7 :: o8 :: o9 :: o10 :: o11 :: l))[11]? = some o11 := rfl
theorem nthe12 {o0 o1 o2 o3 o4 o5 o6 o7 o8 o9 o10 o11 o12 : Oper} {l : List Oper} : (List.toArray (o0 :: o1 :: o2 :: o3 :: o4 :: o5 :: o6 :: o7 :: o8 :: o9 :: o10 :: o11 :: o12 :: l))[12]? = some o12 := rfl
theorem nthe13 {o0 o1 o2 o3 o4 o5 o6 o7 o8 o9 o10 o11 o12 o13 : Oper} {l : List Oper} : (List.toArray (o0 :: o1 :: o2 :: o3 :: o4 :: o5 :: o6 :: o7 :: o8 :: o9 :: o10 :: o11 :: o12 :: o13 :: l))[13]? = some o13 := rfl
theorem nthe14 {o0 o1 o2 o3 o4 o5 o6 o7 o8 o9 o10 o11 o12 o13 o14 : Oper} {l : List Oper} : (List.toArray (o0 :: o1 :: o2 :: o3 :: o4 :: o5 :: o6 :: o7 :: o8 :: o9 :: o10 :: o11 :: o12 :: o13 :: o14 :: l))[14]? = some o14 := rfl
theorem nthe15 {o0 o1 o2 o3 o4 o5 o6 o7 o8 o9 o10 o11 o12 o13 o14 o15 : Oper} {l : List Oper} : (List.toArray (o0 :: o1 :: o2 :: o3 :: o4 :: o5 :: o6 :: o7 :: o8 :: o9 :: o10 :: o11 :: o12 :: o13 :: o14 :: o15 :: l))[15]? = some o15 := rfl
theorem range2 {w : World} {b : Nat} {s0 s1 : Value} (h0 : w.cell? ⟨b, 0, none⟩ = some s0) (h1 : w.cell? ⟨b, 1, none⟩ = some s1) : w.rangeAt b 0 [s0, s1] := by
  intro j v hv
  match j, hv with
  | 0, hv => injection hv with hv; rw [← hv]; exact h0
  | 1, hv => injection hv with hv; rw [← hv]; exact h1
theorem nf_one {p0 p1 : Option Addr} {n m c0 c1 : Nat} {x : Nat → Int} : ∀ v ∈ nfL (.slice p0 n c0) (.slice p1 m c1) x, v.oneCell' = true := nfL_one rfl rfl x
theorem there_blockN {w w' : World} {b o N : Nat} (h : w.there b o N) (e : w'.heap[b]? = w.heap[b]?) : w'.there b o N := fun j hj => by
  have := h j hj
  rw [World.cell?_of_block (a := ⟨b, o + j, none⟩) e, World.frozen?_of_block (a := ⟨b, o + j, none⟩) e]
  exact this
theorem range_blockN {w w' : World} {b o : Nat} {cs : List Value} (h : w.rangeAt b o cs) (e : w'.heap[b]? = w.heap[b]?) : w'.rangeAt b o cs := fun j v hv => by
  rw [World.cell?_of_block (a := ⟨b, o + j, none⟩) e]
  exact h j v hv
set_option maxRecDepth 100000 in
set_option maxHeartbeats 8000000 in
theorem energy_any (w : World) (p0 p1 : Option Addr) (c0 c1 : Nat) (n : Nat) (N : Nat → Nod) (m : Nat) (P : Nat → Pip) (lo hi : Nat) (h : NetAt w (.agg #[.slice p0 n c0, .slice p1 m c1]) n N m P lo hi) (hhi : hi ≤ w.heap.size) (hB : netB n N m P = true) (x : Nat → Int) (hx : ∀ k, k < m → -30000 ≤ x k ∧ x k ≤ 30000) :
    Calls Tryz.prog 180 #[.agg (nfL (.slice p0 n c0) (.slice p1 m c1) x).toArray] w fun e w' => e = .returned (.int .i64 (egS P x m)) ∧ Below w.heap.size w w' := by
  obtain ⟨hn1, hn24, hm40⟩ := net_sz hB
  have HV := Lib.hid h
  have HE := Lib.hid (show ∀ k, k < m → EgB (P k).k ((x k).natAbs : Int) from fun k hk => egB_of (net_pip hB hk) (hx k hk).1 (hx k hk).2)
  have HX := Lib.hid hx
  have A0 := Ob.newN w (.slice p0 n c0) (.slice p1 m c1) x 115
  have B0 := below_new w (.cells (nfL (.slice p0 n c0) (.slice p1 m c1) x).toArray 115)
  have hs0 : (w.alloc (.cells (nfL (.slice p0 n c0) (.slice p1 m c1) x).toArray 115)).heap.size = w.heap.size + 1 := by simp
  have e1 := A0.n1
  clear h hB hx
  go_enter Tryz.func180, Tryz.ntmps180
  go_wp2_with fail
  obtain ⟨w1, hw1⟩ : ∃ w1, w.alloc (.cells (nfL (.slice p0 n c0) (.slice p1 m c1) x).toArray 115) = w1 := ⟨_, rfl⟩
  rw [hw1] at A0 B0 hs0 e1 ⊢
  have HA := Lib.hid A0
  have HB := Lib.hid B0
  clear hw1 A0 B0 e1
  go_loopw [3, 11] (fun sv iv wr => ∃ k : Nat, sv = .int .i64 (egS P x k) ∧ iv = .int .i64 k ∧ k ≤ m ∧ w1.heap.size ≤ wr.heap.size ∧ Below w1.heap.size w1 wr) (fun _ iv _ => m - (intOf iv).toNat)
  case atStart => exact ⟨0, rfl, rfl, Nat.zero_le _, Nat.le_refl _, Below.refl _ _⟩
  case round =>
    obtain ⟨k, rfl, rfl, hk, hsz, hb⟩ := hrel
    have HBB := Lib.hid hb
    clear hb
    have k0 : (0 : Int) ≤ (k : Int) := Int.natCast_nonneg _
    by_cases hlt : k < m
    · have k1 : (k : Int) < (m : Int) := by omega
      have k2 : (k : Int) < 40 := by omega
      have BW := Lib.hid (HB.out.trans (HBB.out.mono (by omega)))
      have HAW := Lib.hid (HA.out.below HBB.out (by omega))
      obtain ⟨bp, op, rfl, q1, q2, r0, r1, r2, r3, r4⟩ := (HV.out.below BW.out hhi).pipe hlt
      have yx := HAW.out.nx k (by omega)
      have lwr : w.heap.size < wr.heap.size := by omega
      have lwp : bp < wr.heap.size := by omega
      have hz := HX.out k hlt
      have he := HE.out k hlt
      have h1 := he.one
      have h2 := he.two
      have h3 := he.thr
      have hs := egS_bnd (P := P) (x := x) (k := k) (fun j hj => HE.out j (by omega))
      have HS := Lib.hid (show egS P x (k + 1) = egS P x k + (P k).k * ((x k).natAbs : Int) * ((x k).natAbs : Int) * ((x k).natAbs : Int) from rfl)
      have hs1 : egS P x k ≤ 1080000000000000000 := by omega
      have hs2 := hs.1
      clear hs
      go_wp2_with (go_at_call 155; refine (absN_any _ _ (by omega) (by omega)).mono ?_; rintro e w' ⟨rfl, rfl⟩)
      go_roundw
      case rel => exact ⟨k + 1, by rw [HS.out], by go_num, hlt, by (first | omega | (simp only [World.size_alloc]; omega)), HBB.out.trans (((below_new _ _)).mono (by omega))⟩
      case measure => simp [intOf]; omega
    · have hkn : k = m := by omega
      have k1 : ¬ ((k : Int) < (m : Int)) := by omega
      have HF := Lib.hid (show egS P x k = egS P x m by rw [hkn])
      clear hkn
      go_wp2_with fail
      go_ret
      exact ⟨ret_i HF.out, HB.out.trans (HBB.out.mono (by omega))⟩

set_option maxRecDepth 100000 in
set_option maxHeartbeats 8000000 in
theorem areAllowed_any (w : World) (s0 s1 : Value) (x : Nat → Int) :
    Calls Tryz.prog 179 #[.agg (nfL s0 s1 x).toArray] w fun e w' => e = .returned (.bool (flB x 40)) ∧ Below w.heap.size w w' := by
  have A0 := Ob.newN w s0 s1 x 115
  have B0 := below_new w (.cells (nfL s0 s1 x).toArray 115)
  have HA := Lib.hid A0
  have HB := Lib.hid B0
  clear A0 B0
  go_enter Tryz.func179, Tryz.ntmps179
  go_wp2_with (go_at_call 106; refine (areFlows_any _ _ 40 x _ _ HA.out.nsl (by omega)).mono ?_; rintro e w' ⟨rfl, rfl⟩)
  go_ret
  exact ⟨rfl, HB.out⟩
end Go.Proofs.YtdbgcbkmcbgdiaaGreat.mem

namespace Go.Proofs.YtdbgcbkmcbgdiaaGreat.mem
open Go.RowKit
set_option linter.unusedVariables false

set_option maxRecDepth 100000 in
set_option maxHeartbeats 8000000 in
theorem withFlows_any (w : World) (p0 p1 : Option Addr) (c0 c1 n m : Nat) (va : Value) (K : Nat) (d : Nat → Int) (la ha : Nat) (hv : Sl w va K d la ha) (hha : ha ≤ w.heap.size) (hK : K ≤ 40) :
    Calls Tryz.prog 94 #[.agg #[.slice p0 n c0, .slice p1 m c1], va] w fun e w' => e = .returned (.agg (nfL (.slice p0 n c0) (.slice p1 m c1) (pad K d)).toArray) ∧ Below w.heap.size w w' := by
  have HSV := Lib.hid hv
  obtain ⟨pa, ca, rfl⟩ := hv.sh
  have A0 := (boxed w (.slice p0 n c0) (.slice p1 m c1) 27).keep (Below.heap_alloc _ (.cells #[Value.slice none 0 0, Value.slice none 0 0, Value.int IntKind.i64 0, Value.int IntKind.i64 0, Value.int IntKind.i64 0, Value.int IntKind.i64 0, Value.int IntKind.i64 0, Value.int IntKind.i64 0, Value.int IntKind.i64 0, Value.int IntKind.i64 0, Value.int IntKind.i64 0, Value.int IntKind.i64 0, Value.int IntKind.i64 0, Value.int IntKind.i64 0, Value.int IntKind.i64 0, Value.int IntKind.i64 0, Value.int IntKind.i64 0, Value.int IntKind.i64 0, Value.int IntKind.i64 0, Value.int IntKind.i64 0, Value.int IntKind.i64 0, Value.int IntKind.i64 0, Value.int IntKind.i64 0, Value.int IntKind.i64 0, Value.int IntKind.i64 0, Value.int IntKind.i64 0, Value.int IntKind.i64 0, Value.int IntKind.i64 0, Value.int IntKind.i64 0, Value.int IntKind.i64 0, Value.int IntKind.i64 0, Value.int IntKind.i64 0, Value.int IntKind.i64 0, Value.int IntKind.i64 0, Value.int IntKind.i64 0, Value.int IntKind.i64 0, Value.int IntKind.i64 0, Value.int IntKind.i64 0, Value.int IntKind.i64 0, Value.int IntKind.i64 0, Value.int IntKind.i64 0, Value.int IntKind.i64 0] 115) _ (by rw [szal]; omega))
  have Z0 := Ob.newZ (w.alloc (.cells #[.slice p0 n c0, .slice p1 m c1] 27)) 115
  simp only [szal] at Z0
  have B0 := (below_new w (.cells #[.slice p0 n c0, .slice p1 m c1] 27)).trans ((below_new _ (.cells #[Value.slice none 0 0, Value.slice none 0 0, Value.int IntKind.i64 0, Value.int IntKind.i64 0, Value.int IntKind.i64 0, Value.int IntKind.i64 0, Value.int IntKind.i64 0, Value.int IntKind.i64 0, Value.int IntKind.i64 0, Value.int IntKind.i64 0, Value.int IntKind.i64 0, Value.int IntKind.i64 0, Value.int IntKind.i64 0, Value.int IntKind.i64 0, Value.int IntKind.i64 0, Value.int IntKind.i64 0, Value.int IntKind.i64 0, Value.int IntKind.i64 0, Value.int IntKind.i64 0, Value.int IntKind.i64 0, Value.int IntKind.i64 0, Value.int IntKind.i64 0, Value.int IntKind.i64 0, Value.int IntKind.i64 0, Value.int IntKind.i64 0, Value.int IntKind.i64 0, Value.int IntKind.i64 0, Value.int IntKind.i64 0, Value.int IntKind.i64 0, Value.int IntKind.i64 0, Value.int IntKind.i64 0, Value.int IntKind.i64 0, Value.int IntKind.i64 0, Value.int IntKind.i64 0, Value.int IntKind.i64 0, Value.int IntKind.i64 0, Value.int IntKind.i64 0, Value.int IntKind.i64 0, Value.int IntKind.i64 0, Value.int IntKind.i64 0, Value.int IntKind.i64 0, Value.int IntKind.i64 0] 115)).mono (by rw [szal]; omega))
  have hs0 : ((w.alloc (.cells #[.slice p0 n c0, .slice p1 m c1] 27)).alloc (.cells #[Value.slice none 0 0, Value.slice none 0 0, Value.int IntKind.i64 0, Value.int IntKind.i64 0, Value.int IntKind.i64 0, Value.int IntKind.i64 0, Value.int IntKind.i64 0, Value.int IntKind.i64 0, Value.int IntKind.i64 0, Value.int IntKind.i64 0, Value.int IntKind.i64 0, Value.int IntKind.i64 0, Value.int IntKind.i64 0, Value.int IntKind.i64 0, Value.int IntKind.i64 0, Value.int IntKind.i64 0, Value.int IntKind.i64 0, Value.int IntKind.i64 0, Value.int IntKind.i64 0, Value.int IntKind.i64 0, Value.int IntKind.i64 0, Value.int IntKind.i64 0, Value.int IntKind.i64 0, Value.int IntKind.i64 0, Value.int IntKind.i64 0, Value.int IntKind.i64 0, Value.int IntKind.i64 0, Value.int IntKind.i64 0, Value.int IntKind.i64 0, Value.int IntKind.i64 0, Value.int IntKind.i64 0, Value.int IntKind.i64 0, Value.int IntKind.i64 0, Value.int IntKind.i64 0, Value.int IntKind.i64 0, Value.int IntKind.i64 0, Value.int IntKind.i64 0, Value.int IntKind.i64 0, Value.int IntKind.i64 0, Value.int IntKind.i64 0, Value.int IntKind.i64 0, Value.int IntKind.i64 0] 115)).heap.size = w.heap.size + 2 := by simp
  clear hv
  go_enter Tryz.func94, Tryz.ntmps94
  go_wp2_with fail
  obtain ⟨w1, hw1⟩ : ∃ w1, (w.alloc (.cells #[.slice p0 n c0, .slice p1 m c1] 27)).alloc (.cells #[Value.slice none 0 0, Value.slice none 0 0, Value.int IntKind.i64 0, Value.int IntKind.i64 0, Value.int IntKind.i64 0, Value.int IntKind.i64 0, Value.int IntKind.i64 0, Value.int IntKind.i64 0, Value.int IntKind.i64 0, Value.int IntKind.i64 0, Value.int IntKind.i64 0, Value.int IntKind.i64 0, Value.int IntKind.i64 0, Value.int IntKind.i64 0, Value.int IntKind.i64 0, Value.int IntKind.i64 0, Value.int IntKind.i64 0, Value.int IntKind.i64 0, Value.int IntKind.i64 0, Value.int IntKind.i64 0, Value.int IntKind.i64 0, Value.int IntKind.i64 0, Value.int IntKind.i64 0, Value.int IntKind.i64 0, Value.int IntKind.i64 0, Value.int IntKind.i64 0, Value.int IntKind.i64 0, Value.int IntKind.i64 0, Value.int IntKind.i64 0, Value.int IntKind.i64 0, Value.int IntKind.i64 0, Value.int IntKind.i64 0, Value.int IntKind.i64 0, Value.int IntKind.i64 0, Value.int IntKind.i64 0, Value.int IntKind.i64 0, Value.int IntKind.i64 0, Value.int IntKind.i64 0, Value.int IntKind.i64 0, Value.int IntKind.i64 0, Value.int IntKind.i64 0, Value.int IntKind.i64 0] 115) = w1 := ⟨_, rfl⟩
  rw [hw1] at A0 Z0 B0 hs0 ⊢
  clear hw1
  have e0 := A0.b0
  have e1 := A0.b1
  have UI := Tryz.underlying27
  have nN : (Tryz.prog.info? 27).map (·.size) = some 2 := by kernel_rfl
  have g1 := range2 e0 e1
  have t1 := Z0.there
  refine wp_region_noPanic ?_
  refine wp_region_held_drew (S := fun w' : World => w'.rangeAt w.heap.size 0 [.slice p0 n c0, .slice p1 m c1] ∧ w'.there (w.heap.size + 1) 0 42) (by kernel_rfl) ⟨range_blockN g1 rfl, there_blockN t1 rfl⟩ (fun s0 => ?_)
  refine wpAnyH_take (i := 0) (v := .agg #[.slice p0 n c0, .slice p1 m c1]) rfl (by kernel_rfl) (by kernel_rfl) (by kernel_rfl) (fun _ _ _ h => h) (yieldsIf_load_mid (by rfl) _ _ rfl _ _ rfl [.slice p0 n c0, .slice p1 m c1] _ (fun _ h => h.1) UI rfl (by exact nN)) s0 ?_
  try simp only [Act.put]
  refine wpAnyH_take (i := 1) (v := .slice pa K ca) rfl (by kernel_rfl) (by kernel_rfl) (by kernel_rfl) (fun _ _ _ h => h) (Or.inl ⟨by rfl, fun w' hSw => by rfl⟩) s0 ?_
  try simp only [Act.put, List.setIfInBounds_toArray]
  refine wpAnyH_ready (rs := [2]) (by kernel_rfl) (by simp) (AllReadyH.cons rfl (fun KX hKX => ?_) AllReadyH.nil)
  clear s0
  go_simp
  refine (arrayOf_any _ _ K d la ha (sl_dr (HSV.out.below B0 hha)) (show ha ≤ w1.heap.size by omega) hK).mono ?_
  rintro e wX ⟨rfl, hbX⟩
  have hbX' := below_dr0 hbX
  have l0 : w.heap.size < w1.heap.size := by omega
  have l1 : w.heap.size + 1 < w1.heap.size := by omega
  have SX : wX.rangeAt w.heap.size 0 [.slice p0 n c0, .slice p1 m c1] ∧ wX.there (w.heap.size + 1) 0 42 := ⟨range_blockN g1 (hbX'.block _ l0), there_blockN t1 (hbX'.block _ l1)⟩
  refine hKX.out _ _ SX (fun s2 => ?_)
  clear hKX
  try simp only [Act.put, List.set_cons_zero, List.set_cons_succ]
  refine wpAnyH_take (i := 3) (v := .agg (nfL (.slice p0 n c0) (.slice p1 m c1) (pad K d)).toArray) nthe3 (by kernel_rfl) (by kernel_rfl) (by kernel_rfl) (fun _ _ _ h => h) (yieldsIf_build (by rfl) _ _ rfl _ (by kernel_rfl)) s2 ?_
  try simp only [Act.put]
  refine wpAnyH_ready (rs := [4]) (by kernel_rfl) (by simp) (AllReadyH.cons rfl (fun KX hKX => ?_) AllReadyH.nil)
  rw [if_pos (by rfl)]
  refine wp_store_mid _ _ _ rfl _ _ (nfL (.slice p0 n c0) (.slice p1 m c1) (pad K d)).toArray rfl rfl (by show wX.there (w.heap.size + 1) 0 (nfL (.slice p0 n c0) (.slice p1 m c1) (pad K d)).length; rw [nfL_len]; exact SX.2) (by show _ = some (nfL (.slice p0 n c0) (.slice p1 m c1) (pad K d)).length; rw [nfL_len]; exact nf_info) (all_oneCell_toArray nf_one) ?_
  simp only [Act.put, List.setIfInBounds_toArray]
  refine hKX.out _ _ ⟨World.rangeAt_setCells_apart SX.1 _ _ _ (.inl (by omega)), World.there_setCells SX.2 _ _ _⟩ (fun s5 => ?_)
  refine wpAnyH_done (by kernel_rfl) ?_ _
  refine NoPanic.normal ?_
  have o5 := (Z0.below hbX' l1).nput (.slice p0 n c0) (.slice p1 m c1) (pad K d)
  go_wp2_with fail
  exact bodyPost_ret (results_nf rfl rfl o5) rfl ⟨rfl, (B0.trans (hbX'.mono (by omega))).trans (((Only.refl (w.heap.size + 1) wX).setCs _ 0).below (by omega))⟩
end Go.Proofs.YtdbgcbkmcbgdiaaGreat.mem

namespace Go.Proofs.YtdbgcbkmcbgdiaaGreat.mem
open Go.RowKit
set_option linter.unusedVariables false

set_option maxRecDepth 100000 in
set_option maxHeartbeats 400000 in
theorem plusCycle_any (w : World) (s0 s1 : Value) (h0 : s0.oneCell' = true) (h1 : s1.oneCell' = true) (x y : Nat → Int) (t : Int) (hb : ∀ k, k < 40 → -4611686018427387904 ≤ x k + y k * t ∧ x k + y k * t ≤ 4611686018427387904) (hm : ∀ k, k < 40 → -4611686018427387904 ≤ y k * t ∧ y k * t ≤ 4611686018427387904) :
    Calls Tryz.prog 146 #[.agg (nfL s0 s1 x).toArray, .agg (arr y), .int .i64 t] w fun e w' => e = .returned (.agg (nfL s0 s1 (fun k => x k + y k * t)).toArray) ∧ Below w.heap.size w w' := by
  have A0 := ((Ob.newN w s0 s1 x 115).keep (Below.heap_alloc _ (.cells (arr y) 111) _ (by rw [szal]; omega))).keep (Below.heap_alloc _ (.cells #[Value.slice none 0 0, Value.slice none 0 0, Value.int IntKind.i64 0, Value.int IntKind.i64 0, Value.int IntKind.i64 0, Value.int IntKind.i64 0, Value.int IntKind.i64 0, Value.int IntKind.i64 0, Value.int IntKind.i64 0, Value.int IntKind.i64 0, Value.int IntKind.i64 0, Value.int IntKind.i64 0, Value.int IntKind.i64 0, Value.int IntKind.i64 0, Value.int IntKind.i64 0, Value.int IntKind.i64 0, Value.int IntKind.i64 0, Value.int IntKind.i64 0, Value.int IntKind.i64 0, Value.int IntKind.i64 0, Value.int IntKind.i64 0, Value.int IntKind.i64 0, Value.int IntKind.i64 0, Value.int IntKind.i64 0, Value.int IntKind.i64 0, Value.int IntKind.i64 0, Value.int IntKind.i64 0, Value.int IntKind.i64 0, Value.int IntKind.i64 0, Value.int IntKind.i64 0, Value.int IntKind.i64 0, Value.int IntKind.i64 0, Value.int IntKind.i64 0, Value.int IntKind.i64 0, Value.int IntKind.i64 0, Value.int IntKind.i64 0, Value.int IntKind.i64 0, Value.int IntKind.i64 0, Value.int IntKind.i64 0, Value.int IntKind.i64 0, Value.int IntKind.i64 0, Value.int IntKind.i64 0] 115) _ (by simp only [szal]; omega))
  have A1 := (Ob.newA (w.alloc (.cells (nfL s0 s1 x).toArray 115)) y 111).keep (Below.heap_alloc _ (.cells #[Value.slice none 0 0, Value.slice none 0 0, Value.int IntKind.i64 0, Value.int IntKind.i64 0, Value.int IntKind.i64 0, Value.int IntKind.i64 0, Value.int IntKind.i64 0, Value.int IntKind.i64 0, Value.int IntKind.i64 0, Value.int IntKind.i64 0, Value.int IntKind.i64 0, Value.int IntKind.i64 0, Value.int IntKind.i64 0, Value.int IntKind.i64 0, Value.int IntKind.i64 0, Value.int IntKind.i64 0, Value.int IntKind.i64 0, Value.int IntKind.i64 0, Value.int IntKind.i64 0, Value.int IntKind.i64 0, Value.int IntKind.i64 0, Value.int IntKind.i64 0, Value.int IntKind.i64 0, Value.int IntKind.i64 0, Value.int IntKind.i64 0, Value.int IntKind.i64 0, Value.int IntKind.i64 0, Value.int IntKind.i64 0, Value.int IntKind.i64 0, Value.int IntKind.i64 0, Value.int IntKind.i64 0, Value.int IntKind.i64 0, Value.int IntKind.i64 0, Value.int IntKind.i64 0, Value.int IntKind.i64 0, Value.int IntKind.i64 0, Value.int IntKind.i64 0, Value.int IntKind.i64 0, Value.int IntKind.i64 0, Value.int IntKind.i64 0, Value.int IntKind.i64 0, Value.int IntKind.i64 0] 115) _ (by simp only [szal]; omega))
  have A2 := Ob.newZ ((w.alloc (.cells (nfL s0 s1 x).toArray 115)).alloc (.cells (arr y) 111)) 115
  simp only [szal] at A1 A2
  have B0 := ((below_new w (.cells (nfL s0 s1 x).toArray 115)).trans ((below_new _ (.cells (arr y) 111)).mono (by rw [szal]; omega))).trans ((below_new _ (.cells #[Value.slice none 0 0, Value.slice none 0 0, Value.int IntKind.i64 0, Value.int IntKind.i64 0, Value.int IntKind.i64 0, Value.int IntKind.i64 0, Value.int IntKind.i64 0, Value.int IntKind.i64 0, Value.int IntKind.i64 0, Value.int IntKind.i64 0, Value.int IntKind.i64 0, Value.int IntKind.i64 0, Value.int IntKind.i64 0, Value.int IntKind.i64 0, Value.int IntKind.i64 0, Value.int IntKind.i64 0, Value.int IntKind.i64 0, Value.int IntKind.i64 0, Value.int IntKind.i64 0, Value.int IntKind.i64 0, Value.int IntKind.i64 0, Value.int IntKind.i64 0, Value.int IntKind.i64 0, Value.int IntKind.i64 0, Value.int IntKind.i64 0, Value.int IntKind.i64 0, Value.int IntKind.i64 0, Value.int IntKind.i64 0, Value.int IntKind.i64 0, Value.int IntKind.i64 0, Value.int IntKind.i64 0, Value.int IntKind.i64 0, Value.int IntKind.i64 0, Value.int IntKind.i64 0, Value.int IntKind.i64 0, Value.int IntKind.i64 0, Value.int IntKind.i64 0, Value.int IntKind.i64 0, Value.int IntKind.i64 0, Value.int IntKind.i64 0, Value.int IntKind.i64 0, Value.int IntKind.i64 0] 115)).mono (by simp only [szal]; omega))
  have hs0 : (((w.alloc (.cells (nfL s0 s1 x).toArray 115)).alloc (.cells (arr y) 111)).alloc (.cells #[Value.slice none 0 0, Value.slice none 0 0, Value.int IntKind.i64 0, Value.int IntKind.i64 0, Value.int IntKind.i64 0, Value.int IntKind.i64 0, Value.int IntKind.i64 0, Value.int IntKind.i64 0, Value.int IntKind.i64 0, Value.int IntKind.i64 0, Value.int IntKind.i64 0, Value.int IntKind.i64 0, Value.int IntKind.i64 0, Value.int IntKind.i64 0, Value.int IntKind.i64 0, Value.int IntKind.i64 0, Value.int IntKind.i64 0, Value.int IntKind.i64 0, Value.int IntKind.i64 0, Value.int IntKind.i64 0, Value.int IntKind.i64 0, Value.int IntKind.i64 0, Value.int IntKind.i64 0, Value.int IntKind.i64 0, Value.int IntKind.i64 0, Value.int IntKind.i64 0, Value.int IntKind.i64 0, Value.int IntKind.i64 0, Value.int IntKind.i64 0, Value.int IntKind.i64 0, Value.int IntKind.i64 0, Value.int IntKind.i64 0, Value.int IntKind.i64 0, Value.int IntKind.i64 0, Value.int IntKind.i64 0, Value.int IntKind.i64 0, Value.int IntKind.i64 0, Value.int IntKind.i64 0, Value.int IntKind.i64 0, Value.int IntKind.i64 0, Value.int IntKind.i64 0, Value.int IntKind.i64 0] 115)).heap.size = w.heap.size + 3 := by simp
  have OS := nfL_one h0 h1 (fun k => x k + y k * t)
  go_enter Tryz.func146, Tryz.ntmps146
  go_upto_region 1 with (fail)
  obtain ⟨w1, hw1⟩ : ∃ w1, ((w.alloc (.cells (nfL s0 s1 x).toArray 115)).alloc (.cells (arr y) 111)).alloc (.cells #[Value.slice none 0 0, Value.slice none 0 0, Value.int IntKind.i64 0, Value.int IntKind.i64 0, Value.int IntKind.i64 0, Value.int IntKind.i64 0, Value.int IntKind.i64 0, Value.int IntKind.i64 0, Value.int IntKind.i64 0, Value.int IntKind.i64 0, Value.int IntKind.i64 0, Value.int IntKind.i64 0, Value.int IntKind.i64 0, Value.int IntKind.i64 0, Value.int IntKind.i64 0, Value.int IntKind.i64 0, Value.int IntKind.i64 0, Value.int IntKind.i64 0, Value.int IntKind.i64 0, Value.int IntKind.i64 0, Value.int IntKind.i64 0, Value.int IntKind.i64 0, Value.int IntKind.i64 0, Value.int IntKind.i64 0, Value.int IntKind.i64 0, Value.int IntKind.i64 0, Value.int IntKind.i64 0, Value.int IntKind.i64 0, Value.int IntKind.i64 0, Value.int IntKind.i64 0, Value.int IntKind.i64 0, Value.int IntKind.i64 0, Value.int IntKind.i64 0, Value.int IntKind.i64 0, Value.int IntKind.i64 0, Value.int IntKind.i64 0, Value.int IntKind.i64 0, Value.int IntKind.i64 0, Value.int IntKind.i64 0, Value.int IntKind.i64 0, Value.int IntKind.i64 0, Value.int IntKind.i64 0] 115) = w1 := ⟨_, rfl⟩
  rw [hw1] at A0 A1 A2 B0 hs0 ⊢
  clear hw1
  have g0 := A0.nrange
  have g1 := A1.range
  have l0 : w.heap.size < w1.heap.size := by omega
  have l2 : w.heap.size + 1 + 1 < w1.heap.size := by omega
  have HX := Lib.hid hb
  have HM := Lib.hid hm
  clear hb hm
  obtain ⟨Lx, hLx, eLx⟩ : ∃ L : List Value, arr x = List.toArray L ∧ L = arrL x := ⟨_, rfl, rfl⟩
  obtain ⟨Ly, hLy, eLy⟩ : ∃ L : List Value, arr y = List.toArray L ∧ L = arrL y := ⟨_, rfl, rfl⟩
  obtain ⟨Lz, hLz, eLz⟩ : ∃ L : List Value, arr (fun k => x k + y k * t) = List.toArray L ∧ L = arrL (fun k => x k + y k * t) := ⟨_, rfl, rfl⟩
  rw [← eLx] at g0
  rw [← eLy] at g1
  have nLx : Lx.length = 40 := by rw [eLx, arr_len]
  have nLy : Ly.length = 40 := by rw [eLy, arr_len]
  have nLz : Lz.length = 40 := by rw [eLz, arr_len]
  have oLz : ∀ v ∈ Lz, v.oneCell' = true := by rw [eLz]; exact arr_oneL _
  have HLx := Lib.hid hLx
  have HLy := Lib.hid hLy
  have HLz := Lib.hid hLz
  have HEz := Lib.hid eLz
  clear hLx hLy hLz eLx eLy eLz
  go_upto_region 2 with (first
    | (refine wpList_load_mid rfl 111 _ rfl w.heap.size 2 rfl Lx _ g0 Tryz.underlying111 rfl (by rw [nLx]; exact flow_info) ?_)
    | (refine wpList_load_mid rfl 111 _ rfl (w.heap.size + 1) 0 rfl Ly _ g1 Tryz.underlying111 rfl (by rw [nLy]; exact flow_info) ?_)
    | (go_at_call 92; rw [← HLx.out, ← HLy.out]; refine (plus_any _ x y t HX.out HM.out).mono ?_; rintro e wC ⟨rfl, hbC⟩; rw [HLz.out]; have a0 := A0.below hbC l0; have a2 := A2.below hbC l2; have t0 := a0.nthere)
    | (refine wpList_store_mid rfl 111 _ _ rfl w.heap.size 2 Lz.toArray rfl rfl (by show wC.there _ 2 Lz.length; rw [nLz]; exact t0) (by show _ = some Lz.length; rw [nLz]; exact flow_info) (all_oneCell_toArray oLz) ?_))
  have a3 := a0.nset (fun k => x k + y k * t)
  rw [← HEz.out] at a3
  have b3 := ((Only.refl w.heap.size wC).setCs Lz 2)
  have bC := B0.trans (hbC.mono (by omega))
  have sC := hbC.size
  have a4 := a2.only b3 (by omega)
  have b4 := bC.trans (b3.below (Nat.le_refl _))
  have l5 : w.heap.size < (wC.setCells w.heap.size 2 Lz).heap.size := a3.lt
  have l6 : w.heap.size + 1 + 1 < (wC.setCells w.heap.size 2 Lz).heap.size := a4.lt
  obtain ⟨w4, hw4⟩ : ∃ w4, wC.setCells w.heap.size 2 Lz = w4 := ⟨_, rfl⟩
  rw [hw4] at a3 a4 b4 l5 l6 ⊢
  clear hw4 b3 bC a0 a2 t0 hbC A0 A1 A2 B0 g0 g1
  have g5 := a3.nall
  have t5 := a4.there
  have HA4 := Lib.hid a4
  obtain ⟨Lw, eLw⟩ : ∃ L : List Value, nfL s0 s1 (fun k => x k + y k * t) = L := ⟨_, rfl⟩
  have nLw : Lw.length = 42 := by rw [← eLw, nfL_len]
  rw [eLw] at OS g5
  have HEw := Lib.hid eLw
  clear eLw a3 a4
  go_wp2_with (first
    | (refine wpList_load_mid rfl 115 _ rfl w.heap.size 0 rfl Lw _ g5 Tryz.underlying115 rfl (by rw [nLw]; exact nf_info) ?_)
    | (refine wpList_store_mid rfl 115 _ _ rfl (w.heap.size + 1 + 1) 0 Lw.toArray rfl rfl (by show w4.there _ 0 Lw.length; rw [nLw]; exact t5) (by show _ = some Lw.length; rw [nLw]; exact nf_info) (all_oneCell_toArray OS) ?_))
  have a6 := HA4.out.nput s0 s1 (fun k => x k + y k * t)
  rw [HEw.out] at a6
  exact bodyPost_ret (results_nf rfl rfl a6) rfl ⟨rfl, b4.trans (((Only.refl (w.heap.size + 1 + 1) w4).setCs Lw 0).below (by omega))⟩
end Go.Proofs.YtdbgcbkmcbgdiaaGreat.mem

namespace Go.Proofs.YtdbgcbkmcbgdiaaGreat.mem
open Go.RowKit
set_option linter.unusedVariables false

theorem pip_cells (w : World) (q : Pip) (t : TypeId) : (w.alloc (.cells #[.int .i64 q.f, .int .i64 q.t, .int .i64 q.k, .int .i64 q.v, .int .i64 q.l] t)).cell? ⟨w.heap.size, 0, none⟩ = some (.int .i64 q.f) ∧ (w.alloc (.cells #[.int .i64 q.f, .int .i64 q.t, .int .i64 q.k, .int .i64 q.v, .int .i64 q.l] t)).cell? ⟨w.heap.size, 1, none⟩ = some (.int .i64 q.t) ∧ (w.alloc (.cells #[.int .i64 q.f, .int .i64 q.t, .int .i64 q.k, .int .i64 q.v, .int .i64 q.l] t)).cell? ⟨w.heap.size, 2, none⟩ = some (.int .i64 q.k) ∧ (w.alloc (.cells #[.int .i64 q.f, .int .i64 q.t, .int .i64 q.k, .int .i64 q.v, .int .i64 q.l] t)).cell? ⟨w.heap.size, 3, none⟩ = some (.int .i64 q.v) ∧ (w.alloc (.cells #[.int .i64 q.f, .int .i64 q.t, .int .i64 q.k, .int .i64 q.v, .int .i64 q.l] t)).cell? ⟨w.heap.size, 4, none⟩ = some (.int .i64 q.l) := by
  have h := heap_alloc_new w (Obj.cells #[.int .i64 q.f, .int .i64 q.t, .int .i64 q.k, .int .i64 q.v, .int .i64 q.l] t)
  simp only [World.cell?, h]
  exact ⟨rfl, rfl, rfl, rfl, rfl⟩
set_option maxRecDepth 100000 in
set_option maxHeartbeats 8000000 in
theorem residual_any (w : World) (p0 p1 : Option Addr) (c0 c1 : Nat) (n : Nat) (N : Nat → Nod) (m : Nat) (P : Nat → Pip) (lo hi : Nat) (h : NetAt w (.agg #[.slice p0 n c0, .slice p1 m c1]) n N m P lo hi) (hhi : hi ≤ w.heap.size) (hB : netB n N m P = true) (x : Nat → Int) (hx : ∀ k, k < m → -30000 ≤ x k ∧ x k ≤ 30000) (c : Nat) (hc : c < m) (hch : chP n P m c = true) :
    Calls Tryz.prog 159 #[.agg (nfL (.slice p0 n c0) (.slice p1 m c1) x).toArray, .int .i64 (c : Nat)] w fun e w' => e = .returned (.int .i64 (rsS P x (cyc P (fE n P m) (fD n P m) c) m)) ∧ Below w.heap.size w w' := by
  obtain ⟨hn1, hn24, hm40⟩ := net_sz hB
  have HV := Lib.hid h
  have HE := Lib.hid (show ∀ k, k < m → EgB (P k).k ((x k).natAbs : Int) from fun k hk => egB_of (net_pip hB hk) (hx k hk).1 (hx k hk).2)
  have HX := Lib.hid hx
  have HBN := Lib.hid hB
  have HCR := Lib.hid (show ∀ k, -1 ≤ cyc P (fE n P m) (fD n P m) c k ∧ cyc P (fE n P m) (fD n P m) c k ≤ 1 from fun k => cyc_one hB hc hch k)
  have A0 := Ob.newN w (.slice p0 n c0) (.slice p1 m c1) x 115
  have B0 := below_new w (.cells (nfL (.slice p0 n c0) (.slice p1 m c1) x).toArray 115)
  have hs0 : (w.alloc (.cells (nfL (.slice p0 n c0) (.slice p1 m c1) x).toArray 115)).heap.size = w.heap.size + 1 := by simp
  have e0 := A0.n0
  have e1 := A0.n1
  clear h hB hx hch
  go_enter Tryz.func159, Tryz.ntmps159
  go_upto_region 2 with (fail)
  obtain ⟨w1, hw1⟩ : ∃ w1, w.alloc (.cells (nfL (.slice p0 n c0) (.slice p1 m c1) x).toArray 115) = w1 := ⟨_, rfl⟩
  rw [hw1] at A0 B0 hs0 e0 e1 ⊢
  have HA := Lib.hid A0
  have HB := Lib.hid B0
  clear hw1 A0 B0
  generalize hcy : cyc P (fE n P m) (fD n P m) c = y at *
  have HCY := Lib.hid hcy
  clear hcy
  obtain ⟨Ly, hLy, eLy⟩ : ∃ L : List Value, arr y = List.toArray L ∧ L = arrL y := ⟨_, rfl, rfl⟩
  have nLy : Ly.length = 40 := by rw [eLy, arr_len]
  have oLy : ∀ v ∈ Ly, v.oneCell' = true := by rw [eLy]; exact arr_oneL _
  have HLy := Lib.hid hLy
  have HEy := Lib.hid eLy
  clear hLy eLy
  have T0 : ∀ W : World, (W.alloc (.cells #[Value.int IntKind.i64 0, Value.int IntKind.i64 0, Value.int IntKind.i64 0, Value.int IntKind.i64 0, Value.int IntKind.i64 0, Value.int IntKind.i64 0, Value.int IntKind.i64 0, Value.int IntKind.i64 0, Value.int IntKind.i64 0, Value.int IntKind.i64 0, Value.int IntKind.i64 0, Value.int IntKind.i64 0, Value.int IntKind.i64 0, Value.int IntKind.i64 0, Value.int IntKind.i64 0, Value.int IntKind.i64 0, Value.int IntKind.i64 0, Value.int IntKind.i64 0, Value.int IntKind.i64 0, Value.int IntKind.i64 0, Value.int IntKind.i64 0, Value.int IntKind.i64 0, Value.int IntKind.i64 0, Value.int IntKind.i64 0, Value.int IntKind.i64 0, Value.int IntKind.i64 0, Value.int IntKind.i64 0, Value.int IntKind.i64 0, Value.int IntKind.i64 0, Value.int IntKind.i64 0, Value.int IntKind.i64 0, Value.int IntKind.i64 0, Value.int IntKind.i64 0, Value.int IntKind.i64 0, Value.int IntKind.i64 0, Value.int IntKind.i64 0, Value.int IntKind.i64 0, Value.int IntKind.i64 0, Value.int IntKind.i64 0, Value.int IntKind.i64 0] 111)).there W.heap.size 0 40 := fun W => (Ob.new0 W _).there
  go_upto_region 3 with (first
    | (go_at_call 167; refine (cycleOf_any _ _ n N m P lo hi (HV.out.below HB.out hhi) (by omega) HBN.out c hc).mono ?_; rintro e wC ⟨rfl, hbC⟩; rw [HCY.out, HLy.out]; have tC := T0 wC)
    | (refine wpList_store_mid rfl 111 _ _ rfl wC.heap.size 0 Ly.toArray rfl rfl (by show (wC.alloc _).there _ 0 Ly.length; rw [nLy]; exact tC) (by show _ = some Ly.length; rw [nLy]; exact flow_info) (all_oneCell_toArray oLy) ?_))
  clear T0 tC
  have sC := hbC.size
  have C0 := (Ob.new0 wC 111).setArr y
  rw [← HEy.out] at C0
  have lC : wC.heap.size < ((wC.alloc (.cells #[Value.int IntKind.i64 0, Value.int IntKind.i64 0, Value.int IntKind.i64 0, Value.int IntKind.i64 0, Value.int IntKind.i64 0, Value.int IntKind.i64 0, Value.int IntKind.i64 0, Value.int IntKind.i64 0, Value.int IntKind.i64 0, Value.int IntKind.i64 0, Value.int IntKind.i64 0, Value.int IntKind.i64 0, Value.int IntKind.i64 0, Value.int IntKind.i64 0, Value.int IntKind.i64 0, Value.int IntKind.i64 0, Value.int IntKind.i64 0, Value.int IntKind.i64 0, Value.int IntKind.i64 0, Value.int IntKind.i64 0, Value.int IntKind.i64 0, Value.int IntKind.i64 0, Value.int IntKind.i64 0, Value.int IntKind.i64 0, Value.int IntKind.i64 0, Value.int IntKind.i64 0, Value.int IntKind.i64 0, Value.int IntKind.i64 0, Value.int IntKind.i64 0, Value.int IntKind.i64 0, Value.int IntKind.i64 0, Value.int IntKind.i64 0, Value.int IntKind.i64 0, Value.int IntKind.i64 0, Value.int IntKind.i64 0, Value.int IntKind.i64 0, Value.int IntKind.i64 0, Value.int IntKind.i64 0, Value.int IntKind.i64 0, Value.int IntKind.i64 0] 111)).setCells wC.heap.size 0 Ly).heap.size := C0.lt
  have bC := (hbC.mono (Nat.le_refl _)).trans ((below_new wC (.cells #[Value.int IntKind.i64 0, Value.int IntKind.i64 0, Value.int IntKind.i64 0, Value.int IntKind.i64 0, Value.int IntKind.i64 0, Value.int IntKind.i64 0, Value.int IntKind.i64 0, Value.int IntKind.i64 0, Value.int IntKind.i64 0, Value.int IntKind.i64 0, Value.int IntKind.i64 0, Value.int IntKind.i64 0, Value.int IntKind.i64 0, Value.int IntKind.i64 0, Value.int IntKind.i64 0, Value.int IntKind.i64 0, Value.int IntKind.i64 0, Value.int IntKind.i64 0, Value.int IntKind.i64 0, Value.int IntKind.i64 0, Value.int IntKind.i64 0, Value.int IntKind.i64 0, Value.int IntKind.i64 0, Value.int IntKind.i64 0, Value.int IntKind.i64 0, Value.int IntKind.i64 0, Value.int IntKind.i64 0, Value.int IntKind.i64 0, Value.int IntKind.i64 0, Value.int IntKind.i64 0, Value.int IntKind.i64 0, Value.int IntKind.i64 0, Value.int IntKind.i64 0, Value.int IntKind.i64 0, Value.int IntKind.i64 0, Value.int IntKind.i64 0, Value.int IntKind.i64 0, Value.int IntKind.i64 0, Value.int IntKind.i64 0, Value.int IntKind.i64 0] 111)).mono sC)
  have bC2 := bC.trans (((Only.refl wC.heap.size (wC.alloc (.cells #[Value.int IntKind.i64 0, Value.int IntKind.i64 0, Value.int IntKind.i64 0, Value.int IntKind.i64 0, Value.int IntKind.i64 0, Value.int IntKind.i64 0, Value.int IntKind.i64 0, Value.int IntKind.i64 0, Value.int IntKind.i64 0, Value.int IntKind.i64 0, Value.int IntKind.i64 0, Value.int IntKind.i64 0, Value.int IntKind.i64 0, Value.int IntKind.i64 0, Value.int IntKind.i64 0, Value.int IntKind.i64 0, Value.int IntKind.i64 0, Value.int IntKind.i64 0, Value.int IntKind.i64 0, Value.int IntKind.i64 0, Value.int IntKind.i64 0, Value.int IntKind.i64 0, Value.int IntKind.i64 0, Value.int IntKind.i64 0, Value.int IntKind.i64 0, Value.int IntKind.i64 0, Value.int IntKind.i64 0, Value.int IntKind.i64 0, Value.int IntKind.i64 0, Value.int IntKind.i64 0, Value.int IntKind.i64 0, Value.int IntKind.i64 0, Value.int IntKind.i64 0, Value.int IntKind.i64 0, Value.int IntKind.i64 0, Value.int IntKind.i64 0, Value.int IntKind.i64 0, Value.int IntKind.i64 0, Value.int IntKind.i64 0, Value.int IntKind.i64 0] 111))).setCs Ly 0).below sC)
  obtain ⟨w3, hw3⟩ : ∃ w3, (wC.alloc (.cells #[Value.int IntKind.i64 0, Value.int IntKind.i64 0, Value.int IntKind.i64 0, Value.int IntKind.i64 0, Value.int IntKind.i64 0, Value.int IntKind.i64 0, Value.int IntKind.i64 0, Value.int IntKind.i64 0, Value.int IntKind.i64 0, Value.int IntKind.i64 0, Value.int IntKind.i64 0, Value.int IntKind.i64 0, Value.int IntKind.i64 0, Value.int IntKind.i64 0, Value.int IntKind.i64 0, Value.int IntKind.i64 0, Value.int IntKind.i64 0, Value.int IntKind.i64 0, Value.int IntKind.i64 0, Value.int IntKind.i64 0, Value.int IntKind.i64 0, Value.int IntKind.i64 0, Value.int IntKind.i64 0, Value.int IntKind.i64 0, Value.int IntKind.i64 0, Value.int IntKind.i64 0, Value.int IntKind.i64 0, Value.int IntKind.i64 0, Value.int IntKind.i64 0, Value.int IntKind.i64 0, Value.int IntKind.i64 0, Value.int IntKind.i64 0, Value.int IntKind.i64 0, Value.int IntKind.i64 0, Value.int IntKind.i64 0, Value.int IntKind.i64 0, Value.int IntKind.i64 0, Value.int IntKind.i64 0, Value.int IntKind.i64 0, Value.int IntKind.i64 0] 111)).setCells wC.heap.size 0 Ly = w3 := ⟨_, rfl⟩
  obtain ⟨bc, hbc⟩ : ∃ bc, wC.heap.size = bc := ⟨_, rfl⟩
  rw [hw3] at C0 bC2 lC ⊢
  rw [hbc] at C0 sC lC ⊢
  clear hw3 hbc bC hbC e0 e1
  have HA3 := Lib.hid (HA.out.below bC2 (by omega))
  have HB3 := Lib.hid (HB.out.trans (bC2.mono (by omega)))
  have HC3 := Lib.hid C0
  have e1 := HA3.out.n1
  clear bC2 C0 HA HB
  have HDR := Lib.hid (show ∀ k, k < m → -900000000000 ≤ drp (P k) (x k) ∧ drp (P k) (x k) ≤ 900000000000 from fun k hk => drp_bnd (net_pip HBN.out hk) (HX.out k hk).1 (HX.out k hk).2)
  go_upto_region 4 with (fail)
  go_loopw [5, 17] (fun sv iv wr => ∃ k : Nat, sv = .int .i64 (rsS P x y k) ∧ iv = .int .i64 k ∧ k ≤ m ∧ w3.heap.size ≤ wr.heap.size ∧ Below w3.heap.size w3 wr) (fun _ iv _ => m - (intOf iv).toNat)
  case atStart => exact ⟨0, rfl, rfl, Nat.zero_le _, Nat.le_refl _, Below.refl _ _⟩
  case round =>
    obtain ⟨k, rfl, rfl, hk, hsz, hb⟩ := hrel
    have HBB := Lib.hid hb
    clear hb
    have k0 : (0 : Int) ≤ (k : Int) := Int.natCast_nonneg _
    by_cases hlt : k < m
    · have k1 : (k : Int) < (m : Int) := by omega
      have k2 : (k : Int) < 40 := by omega
      have BW := Lib.hid (HB3.out.trans (HBB.out.mono (by omega)))
      have HAW := Lib.hid (HA3.out.below HBB.out (by omega))
      have HCW := Lib.hid (HC3.out.below HBB.out (by omega))
      obtain ⟨bp, op, rfl, q1, q2, r0, r1, r2, r3, r4⟩ := (HV.out.below BW.out hhi).pipe hlt
      have yx := HAW.out.nx k (by omega)
      have yc : wr.cell? ⟨bc, k, none⟩ = some (.int .i64 (y k)) := HCW.out.cell k (by omega)
      have lwr : w.heap.size < wr.heap.size := by omega
      have lwc : bc < wr.heap.size := by omega
      have lwp : bp < wr.heap.size := by omega
      have hpp := net_pip HBN.out hlt
      obtain ⟨z0, z1⟩ := HX.out k hlt
      have hd := mulc (HDR.out k hlt) (HCR.out k)
      have hs := rsS_bnd (P := P) (x := x) (y := y) (k := k) (fun j hj => HDR.out j (by omega)) (fun j _ => HCR.out j)
      have HS := Lib.hid (show rsS P x y (k + 1) = rsS P x y k + drp (P k) (x k) * y k from rfl)
      have wa : IntKind.i64.wrap (drp (P k) (x k) * y k) = drp (P k) (x k) * y k := IntWalk.i64_in _ (by omega)
      have wb : IntKind.i64.wrap (rsS P x y k + drp (P k) (x k) * y k) = rsS P x y k + drp (P k) (x k) * y k := IntWalk.i64_in _ (by omega)
      clear hd hs
      have G0 := pip_cells wr (P k) 121
      have G1 := (below_new wr (.cells #[.int .i64 (P k).f, .int .i64 (P k).t, .int .i64 (P k).k, .int .i64 (P k).v, .int .i64 (P k).l] 121)).cell (p := ⟨w.heap.size, 2 + k, none⟩) lwr
      have G2 := (below_new wr (.cells #[.int .i64 (P k).f, .int .i64 (P k).t, .int .i64 (P k).k, .int .i64 (P k).v, .int .i64 (P k).l] 121)).cell (p := ⟨bc, k, none⟩) lwc
      have G3 := below_new wr (.cells #[.int .i64 (P k).f, .int .i64 (P k).t, .int .i64 (P k).k, .int .i64 (P k).v, .int .i64 (P k).l] 121)
      have G4 : (wr.alloc (.cells #[.int .i64 (P k).f, .int .i64 (P k).t, .int .i64 (P k).k, .int .i64 (P k).v, .int .i64 (P k).l] 121)).heap.size = wr.heap.size + 1 := by simp
      go_upto_region 6 with (fail)
      obtain ⟨w6, hw6⟩ : ∃ w6, wr.alloc (.cells #[.int .i64 (P k).f, .int .i64 (P k).t, .int .i64 (P k).k, .int .i64 (P k).v, .int .i64 (P k).l] 121) = w6 := ⟨_, rfl⟩
      rw [hw6] at G0 G1 G2 G3 G4 ⊢
      clear hw6
      rw [yx] at G1
      rw [yc] at G2
      obtain ⟨f0, f1, f2, f3, f4⟩ := G0
      have l6 : wr.heap.size < w6.heap.size := by omega
      have l7 : w.heap.size < w6.heap.size := by omega
      have l8 : bc < w6.heap.size := by omega
      clear G4 r0 r1 r2 r3 r4 yx yc
      go_region_held3 (fun w' : World => (w'.cell? ⟨wr.heap.size, 0, none⟩ = some (.int .i64 (P k).f) ∧ w'.cell? ⟨wr.heap.size, 1, none⟩ = some (.int .i64 (P k).t) ∧ w'.cell? ⟨wr.heap.size, 2, none⟩ = some (.int .i64 (P k).k) ∧ w'.cell? ⟨wr.heap.size, 3, none⟩ = some (.int .i64 (P k).v) ∧ w'.cell? ⟨wr.heap.size, 4, none⟩ = some (.int .i64 (P k).l)) ∧ w'.cell? ⟨w.heap.size, 2 + k, none⟩ = some (.int .i64 (x k)) ∧ w'.cell? ⟨bc, k, none⟩ = some (.int .i64 (y k)))
        (first | exact ⟨⟨f0, f1, f2, f3, f4⟩, G1, G2⟩ | exact SA)
        (first
          | (go_at_call 115; refine (dropFor_any (P k) (x k) _ n hpp z0 z1).mono ?_; rintro e wA ⟨rfl, hbA⟩; have hbA' := below_dr0 hbA; have SA : (wA.cell? ⟨wr.heap.size, 0, none⟩ = some (.int .i64 (P k).f) ∧ wA.cell? ⟨wr.heap.size, 1, none⟩ = some (.int .i64 (P k).t) ∧ wA.cell? ⟨wr.heap.size, 2, none⟩ = some (.int .i64 (P k).k) ∧ wA.cell? ⟨wr.heap.size, 3, none⟩ = some (.int .i64 (P k).v) ∧ wA.cell? ⟨wr.heap.size, 4, none⟩ = some (.int .i64 (P k).l)) ∧ wA.cell? ⟨w.heap.size, 2 + k, none⟩ = some (.int .i64 (x k)) ∧ wA.cell? ⟨bc, k, none⟩ = some (.int .i64 (y k)) := ⟨⟨(hbA'.cell (p := ⟨wr.heap.size, 0, none⟩) l6).trans f0, (hbA'.cell (p := ⟨wr.heap.size, 1, none⟩) l6).trans f1, (hbA'.cell (p := ⟨wr.heap.size, 2, none⟩) l6).trans f2, (hbA'.cell (p := ⟨wr.heap.size, 3, none⟩) l6).trans f3, (hbA'.cell (p := ⟨wr.heap.size, 4, none⟩) l6).trans f4⟩, (hbA'.cell (p := ⟨w.heap.size, 2 + k, none⟩) l7).trans G1, (hbA'.cell (p := ⟨bc, k, none⟩) l8).trans G2⟩; have zA := hbA'.size))
      go_wp2_with fail
      go_roundw
      case rel => exact ⟨k + 1, by rw [HS.out], by go_num, hlt, by omega, HBB.out.trans ((G3.mono (by omega)).trans (hbA'.mono (by omega)))⟩
      case measure => simp [intOf]; omega
    · have hkn : k = m := by omega
      have k1 : ¬ ((k : Int) < (m : Int)) := by omega
      have HF := Lib.hid (show rsS P x y k = rsS P x (cyc P (fE n P m) (fD n P m) c) m by rw [hkn, HCY.out])
      clear hkn
      go_wp2_with fail
      go_ret
      exact ⟨ret_i HF.out, HB3.out.trans (HBB.out.mono (by omega))⟩
end Go.Proofs.YtdbgcbkmcbgdiaaGreat.mem

namespace Go.Proofs.YtdbgcbkmcbgdiaaGreat.mem
open Go.RowKit
set_option linter.unusedVariables false

set_option maxRecDepth 100000 in
set_option maxHeartbeats 8000000 in
theorem residualBound_any (w : World) (p0 p1 : Option Addr) (c0 c1 : Nat) (n : Nat) (N : Nat → Nod) (m : Nat) (P : Nat → Pip) (lo hi : Nat) (h : NetAt w (.agg #[.slice p0 n c0, .slice p1 m c1]) n N m P lo hi) (hhi : hi ≤ w.heap.size) (hB : netB n N m P = true) (x : Nat → Int) (hx : ∀ k, k < m → -30000 ≤ x k ∧ x k ≤ 30000) (c : Nat) (hc : c < m) (hch : chP n P m c = true) :
    Calls Tryz.prog 160 #[.agg (nfL (.slice p0 n c0) (.slice p1 m c1) x).toArray, .int .i64 (c : Nat)] w fun e w' => e = .returned (.int .i64 (bdS P x (cyc P (fE n P m) (fD n P m) c) m)) ∧ Below w.heap.size w w' := by
  obtain ⟨hn1, hn24, hm40⟩ := net_sz hB
  have HV := Lib.hid h
  have HE := Lib.hid (show ∀ k, k < m → EgB (P k).k ((x k).natAbs : Int) from fun k hk => egB_of (net_pip hB hk) (hx k hk).1 (hx k hk).2)
  have HX := Lib.hid hx
  have HBN := Lib.hid hB
  have HCR := Lib.hid (show ∀ k, -1 ≤ cyc P (fE n P m) (fD n P m) c k ∧ cyc P (fE n P m) (fD n P m) c k ≤ 1 from fun k => cyc_one hB hc hch k)
  have A0 := Ob.newN w (.slice p0 n c0) (.slice p1 m c1) x 115
  have B0 := below_new w (.cells (nfL (.slice p0 n c0) (.slice p1 m c1) x).toArray 115)
  have hs0 : (w.alloc (.cells (nfL (.slice p0 n c0) (.slice p1 m c1) x).toArray 115)).heap.size = w.heap.size + 1 := by simp
  have e0 := A0.n0
  have e1 := A0.n1
  clear h hB hx hch
  go_enter Tryz.func160, Tryz.ntmps160
  go_upto_region 2 with (fail)
  obtain ⟨w1, hw1⟩ : ∃ w1, w.alloc (.cells (nfL (.slice p0 n c0) (.slice p1 m c1) x).toArray 115) = w1 := ⟨_, rfl⟩
  rw [hw1] at A0 B0 hs0 e0 e1 ⊢
  have HA := Lib.hid A0
  have HB := Lib.hid B0
  clear hw1 A0 B0
  generalize hcy : cyc P (fE n P m) (fD n P m) c = y at *
  have HCY := Lib.hid hcy
  clear hcy
  obtain ⟨Ly, hLy, eLy⟩ : ∃ L : List Value, arr y = List.toArray L ∧ L = arrL y := ⟨_, rfl, rfl⟩
  have nLy : Ly.length = 40 := by rw [eLy, arr_len]
  have oLy : ∀ v ∈ Ly, v.oneCell' = true := by rw [eLy]; exact arr_oneL _
  have HLy := Lib.hid hLy
  have HEy := Lib.hid eLy
  clear hLy eLy
  have T0 : ∀ W : World, (W.alloc (.cells #[Value.int IntKind.i64 0, Value.int IntKind.i64 0, Value.int IntKind.i64 0, Value.int IntKind.i64 0, Value.int IntKind.i64 0, Value.int IntKind.i64 0, Value.int IntKind.i64 0, Value.int IntKind.i64 0, Value.int IntKind.i64 0, Value.int IntKind.i64 0, Value.int IntKind.i64 0, Value.int IntKind.i64 0, Value.int IntKind.i64 0, Value.int IntKind.i64 0, Value.int IntKind.i64 0, Value.int IntKind.i64 0, Value.int IntKind.i64 0, Value.int IntKind.i64 0, Value.int IntKind.i64 0, Value.int IntKind.i64 0, Value.int IntKind.i64 0, Value.int IntKind.i64 0, Value.int IntKind.i64 0, Value.int IntKind.i64 0, Value.int IntKind.i64 0, Value.int IntKind.i64 0, Value.int IntKind.i64 0, Value.int IntKind.i64 0, Value.int IntKind.i64 0, Value.int IntKind.i64 0, Value.int IntKind.i64 0, Value.int IntKind.i64 0, Value.int IntKind.i64 0, Value.int IntKind.i64 0, Value.int IntKind.i64 0, Value.int IntKind.i64 0, Value.int IntKind.i64 0, Value.int IntKind.i64 0, Value.int IntKind.i64 0, Value.int IntKind.i64 0] 111)).there W.heap.size 0 40 := fun W => (Ob.new0 W _).there
  go_upto_region 3 with (first
    | (go_at_call 167; refine (cycleOf_any _ _ n N m P lo hi (HV.out.below HB.out hhi) (by omega) HBN.out c hc).mono ?_; rintro e wC ⟨rfl, hbC⟩; rw [HCY.out, HLy.out]; have tC := T0 wC)
    | (refine wpList_store_mid rfl 111 _ _ rfl wC.heap.size 0 Ly.toArray rfl rfl (by show (wC.alloc _).there _ 0 Ly.length; rw [nLy]; exact tC) (by show _ = some Ly.length; rw [nLy]; exact flow_info) (all_oneCell_toArray oLy) ?_))
  clear T0 tC
  have sC := hbC.size
  have C0 := (Ob.new0 wC 111).setArr y
  rw [← HEy.out] at C0
  have lC : wC.heap.size < ((wC.alloc (.cells #[Value.int IntKind.i64 0, Value.int IntKind.i64 0, Value.int IntKind.i64 0, Value.int IntKind.i64 0, Value.int IntKind.i64 0, Value.int IntKind.i64 0, Value.int IntKind.i64 0, Value.int IntKind.i64 0, Value.int IntKind.i64 0, Value.int IntKind.i64 0, Value.int IntKind.i64 0, Value.int IntKind.i64 0, Value.int IntKind.i64 0, Value.int IntKind.i64 0, Value.int IntKind.i64 0, Value.int IntKind.i64 0, Value.int IntKind.i64 0, Value.int IntKind.i64 0, Value.int IntKind.i64 0, Value.int IntKind.i64 0, Value.int IntKind.i64 0, Value.int IntKind.i64 0, Value.int IntKind.i64 0, Value.int IntKind.i64 0, Value.int IntKind.i64 0, Value.int IntKind.i64 0, Value.int IntKind.i64 0, Value.int IntKind.i64 0, Value.int IntKind.i64 0, Value.int IntKind.i64 0, Value.int IntKind.i64 0, Value.int IntKind.i64 0, Value.int IntKind.i64 0, Value.int IntKind.i64 0, Value.int IntKind.i64 0, Value.int IntKind.i64 0, Value.int IntKind.i64 0, Value.int IntKind.i64 0, Value.int IntKind.i64 0, Value.int IntKind.i64 0] 111)).setCells wC.heap.size 0 Ly).heap.size := C0.lt
  have bC := (hbC.mono (Nat.le_refl _)).trans ((below_new wC (.cells #[Value.int IntKind.i64 0, Value.int IntKind.i64 0, Value.int IntKind.i64 0, Value.int IntKind.i64 0, Value.int IntKind.i64 0, Value.int IntKind.i64 0, Value.int IntKind.i64 0, Value.int IntKind.i64 0, Value.int IntKind.i64 0, Value.int IntKind.i64 0, Value.int IntKind.i64 0, Value.int IntKind.i64 0, Value.int IntKind.i64 0, Value.int IntKind.i64 0, Value.int IntKind.i64 0, Value.int IntKind.i64 0, Value.int IntKind.i64 0, Value.int IntKind.i64 0, Value.int IntKind.i64 0, Value.int IntKind.i64 0, Value.int IntKind.i64 0, Value.int IntKind.i64 0, Value.int IntKind.i64 0, Value.int IntKind.i64 0, Value.int IntKind.i64 0, Value.int IntKind.i64 0, Value.int IntKind.i64 0, Value.int IntKind.i64 0, Value.int IntKind.i64 0, Value.int IntKind.i64 0, Value.int IntKind.i64 0, Value.int IntKind.i64 0, Value.int IntKind.i64 0, Value.int IntKind.i64 0, Value.int IntKind.i64 0, Value.int IntKind.i64 0, Value.int IntKind.i64 0, Value.int IntKind.i64 0, Value.int IntKind.i64 0, Value.int IntKind.i64 0] 111)).mono sC)
  have bC2 := bC.trans (((Only.refl wC.heap.size (wC.alloc (.cells #[Value.int IntKind.i64 0, Value.int IntKind.i64 0, Value.int IntKind.i64 0, Value.int IntKind.i64 0, Value.int IntKind.i64 0, Value.int IntKind.i64 0, Value.int IntKind.i64 0, Value.int IntKind.i64 0, Value.int IntKind.i64 0, Value.int IntKind.i64 0, Value.int IntKind.i64 0, Value.int IntKind.i64 0, Value.int IntKind.i64 0, Value.int IntKind.i64 0, Value.int IntKind.i64 0, Value.int IntKind.i64 0, Value.int IntKind.i64 0, Value.int IntKind.i64 0, Value.int IntKind.i64 0, Value.int IntKind.i64 0, Value.int IntKind.i64 0, Value.int IntKind.i64 0, Value.int IntKind.i64 0, Value.int IntKind.i64 0, Value.int IntKind.i64 0, Value.int IntKind.i64 0, Value.int IntKind.i64 0, Value.int IntKind.i64 0, Value.int IntKind.i64 0, Value.int IntKind.i64 0, Value.int IntKind.i64 0, Value.int IntKind.i64 0, Value.int IntKind.i64 0, Value.int IntKind.i64 0, Value.int IntKind.i64 0, Value.int IntKind.i64 0, Value.int IntKind.i64 0, Value.int IntKind.i64 0, Value.int IntKind.i64 0, Value.int IntKind.i64 0] 111))).setCs Ly 0).below sC)
  obtain ⟨w3, hw3⟩ : ∃ w3, (wC.alloc (.cells #[Value.int IntKind.i64 0, Value.int IntKind.i64 0, Value.int IntKind.i64 0, Value.int IntKind.i64 0, Value.int IntKind.i64 0, Value.int IntKind.i64 0, Value.int IntKind.i64 0, Value.int IntKind.i64 0, Value.int IntKind.i64 0, Value.int IntKind.i64 0, Value.int IntKind.i64 0, Value.int IntKind.i64 0, Value.int IntKind.i64 0, Value.int IntKind.i64 0, Value.int IntKind.i64 0, Value.int IntKind.i64 0, Value.int IntKind.i64 0, Value.int IntKind.i64 0, Value.int IntKind.i64 0, Value.int IntKind.i64 0, Value.int IntKind.i64 0, Value.int IntKind.i64 0, Value.int IntKind.i64 0, Value.int IntKind.i64 0, Value.int IntKind.i64 0, Value.int IntKind.i64 0, Value.int IntKind.i64 0, Value.int IntKind.i64 0, Value.int IntKind.i64 0, Value.int IntKind.i64 0, Value.int IntKind.i64 0, Value.int IntKind.i64 0, Value.int IntKind.i64 0, Value.int IntKind.i64 0, Value.int IntKind.i64 0, Value.int IntKind.i64 0, Value.int IntKind.i64 0, Value.int IntKind.i64 0, Value.int IntKind.i64 0, Value.int IntKind.i64 0] 111)).setCells wC.heap.size 0 Ly = w3 := ⟨_, rfl⟩
  obtain ⟨bc, hbc⟩ : ∃ bc, wC.heap.size = bc := ⟨_, rfl⟩
  rw [hw3] at C0 bC2 lC ⊢
  rw [hbc] at C0 sC lC ⊢
  clear hw3 hbc bC hbC e0 e1
  have HA3 := Lib.hid (HA.out.below bC2 (by omega))
  have HB3 := Lib.hid (HB.out.trans (bC2.mono (by omega)))
  have HC3 := Lib.hid C0
  have e1 := HA3.out.n1
  clear bC2 C0 HA HB
  go_upto_region 4 with (fail)
  go_loopw [5, 17] (fun sv iv wr => ∃ k : Nat, sv = .int .i64 (bdS P x y k) ∧ iv = .int .i64 k ∧ k ≤ m ∧ w3.heap.size ≤ wr.heap.size ∧ Below w3.heap.size w3 wr) (fun _ iv _ => m - (intOf iv).toNat)
  case atStart => exact ⟨0, rfl, rfl, Nat.zero_le _, Nat.le_refl _, Below.refl _ _⟩
  case round =>
    obtain ⟨k, rfl, rfl, hk, hsz, hb⟩ := hrel
    have HBB := Lib.hid hb
    clear hb
    have k0 : (0 : Int) ≤ (k : Int) := Int.natCast_nonneg _
    by_cases hlt : k < m
    · have k1 : (k : Int) < (m : Int) := by omega
      have k2 : (k : Int) < 40 := by omega
      have BW := Lib.hid (HB3.out.trans (HBB.out.mono (by omega)))
      have HAW := Lib.hid (HA3.out.below HBB.out (by omega))
      have HCW := Lib.hid (HC3.out.below HBB.out (by omega))
      obtain ⟨bp, op, rfl, q1, q2, r0, r1, r2, r3, r4⟩ := (HV.out.below BW.out hhi).pipe hlt
      have yx := HAW.out.nx k (by omega)
      have yc : wr.cell? ⟨bc, k, none⟩ = some (.int .i64 (y k)) := HCW.out.cell k (by omega)
      have lwr : w.heap.size < wr.heap.size := by omega
      have lwc : bc < wr.heap.size := by omega
      have lwp : bp < wr.heap.size := by omega
      obtain ⟨z0, z1⟩ := HX.out k hlt
      have he := HE.out k hlt
      have hd := bdT_bnd (P := P) (x := x) he
      have hs := bdS_bnd (P := P) (x := x) (y := y) (k := k) (fun j hj => HE.out j (by omega))
      have he1 := he.a1
      have he0 := he.a0
      have wa : IntKind.i64.wrap (3 * ((x k).natAbs : Int)) = 3 * ((x k).natAbs : Int) := IntWalk.i64_in _ (by omega)
      have wb : IntKind.i64.wrap (3 * ((x k).natAbs : Int) + 1) = 3 * ((x k).natAbs : Int) + 1 := IntWalk.i64_in _ (by omega)
      have wc : IntKind.i64.wrap ((P k).k * (3 * ((x k).natAbs : Int) + 1)) = (P k).k * (3 * ((x k).natAbs : Int) + 1) := IntWalk.i64_in _ (by unfold bdT at hd; omega)
      have wd : IntKind.i64.wrap (bdS P x y k + (P k).k * (3 * ((x k).natAbs : Int) + 1)) = bdS P x y k + (P k).k * (3 * ((x k).natAbs : Int) + 1) := IntWalk.i64_in _ (by unfold bdT at hd; omega)
      have G3 := below_new wr (.cells #[.int .i64 (P k).f, .int .i64 (P k).t, .int .i64 (P k).k, .int .i64 (P k).v, .int .i64 (P k).l] 121)
      have G4 : (wr.alloc (.cells #[.int .i64 (P k).f, .int .i64 (P k).t, .int .i64 (P k).k, .int .i64 (P k).v, .int .i64 (P k).l] 121)).heap.size = wr.heap.size + 1 := by simp
      clear hd hs he he1 he0
      by_cases hz : y k = 0
      · have hy : (y k != 0) = false := by rw [hz]; rfl
        have HS := Lib.hid (show bdS P x y (k + 1) = bdS P x y k by rw [show bdS P x y (k + 1) = bdS P x y k + (if y k = 0 then 0 else bdT P x k) from rfl, if_pos hz, Int.add_zero])
        clear hz wa wb wc wd
        go_wp2_with fail
        go_roundw
        case rel => exact ⟨k + 1, by rw [HS.out], by go_num, hlt, by omega, HBB.out.trans (G3.mono (by omega))⟩
        case measure => simp [intOf]; omega
      · have hy : (y k != 0) = true := by simpa using hz
        have HS := Lib.hid (show bdS P x y (k + 1) = bdS P x y k + (P k).k * (3 * ((x k).natAbs : Int) + 1) by rw [show bdS P x y (k + 1) = bdS P x y k + (if y k = 0 then 0 else bdT P x k) from rfl, if_neg hz]; rfl)
        clear hz
        go_wp2_with fail
        go_quiet ((go_at_call 155; exact Calls.quiet_of_same ((absN_any _ _ (by omega) (by omega)).mono fun e w' h => ⟨h.1, h.2.symm⟩)))
        go_wp2_with fail
        go_roundw
        case rel => exact ⟨k + 1, by rw [HS.out], by go_num, hlt, by (first | omega | (simp; omega)), below_drN1 (HBB.out.trans (G3.mono (by omega))) _⟩
        case measure => simp [intOf]; omega
    · have hkn : k = m := by omega
      have k1 : ¬ ((k : Int) < (m : Int)) := by omega
      have HF := Lib.hid (show bdS P x y k = bdS P x (cyc P (fE n P m) (fD n P m) c) m by rw [hkn, HCY.out])
      clear hkn
      go_wp2_with fail
      go_ret
      exact ⟨ret_i HF.out, HB3.out.trans (HBB.out.mono (by omega))⟩
end Go.Proofs.YtdbgcbkmcbgdiaaGreat.mem

namespace Go.Proofs.YtdbgcbkmcbgdiaaGreat.mem
open Go.RowKit
set_option linter.unusedVariables false

end Go.Proofs.YtdbgcbkmcbgdiaaGreat.mem

namespace Go.Proofs.YtdbgcbkmcbgdiaaGreat.mem
open Go.RowKit
set_option linter.unusedVariables false

set_option maxRecDepth 100000 in
set_option maxHeartbeats 8000000 in
theorem isImprovedBy_any (w : World) (p0 p1 : Option Addr) (c0 c1 : Nat) (n : Nat) (N : Nat → Nod) (m : Nat) (P : Nat → Pip) (lo hi : Nat) (h : NetAt w (.agg #[.slice p0 n c0, .slice p1 m c1]) n N m P lo hi) (hhi : hi ≤ w.heap.size) (hB : netB n N m P = true) (x : Nat → Int) (hx : ∀ k, k < 40 → -30000 ≤ x k ∧ x k ≤ 30000) (y : Nat → Int) (hy : ∀ k, k < 40 → -1 ≤ y k ∧ y k ≤ 1) (t : Int) (ht : -100000 ≤ t ∧ t ≤ 100000) :
    Calls Tryz.prog 168 #[.agg (nfL (.slice p0 n c0) (.slice p1 m c1) x).toArray, .agg (arr y), .int .i64 t] w fun e w' => e = .returned (.bool (loA m P x y t)) ∧ Below w.heap.size w w' := by
  obtain ⟨hn1, hn24, hm40⟩ := net_sz hB
  have HV := Lib.hid h
  have HX := Lib.hid hx
  have HBN := Lib.hid hB
  have HYB := Lib.hid (show ∀ k, k < 40 → (-4611686018427387904 ≤ x k + y k * t ∧ x k + y k * t ≤ 4611686018427387904) ∧ (-4611686018427387904 ≤ y k * t ∧ y k * t ≤ 4611686018427387904) from fun k hk => by
    have h1 := mulc ht (hy k hk)
    rw [Int.mul_comm] at h1
    have h2 := hx k hk
    omega)
  have A0 := (Ob.newN w (.slice p0 n c0) (.slice p1 m c1) x 115).keep (Below.heap_alloc _ (.cells (arr y) 111) _ (by rw [szal]; omega))
  have A1 := Ob.newA (w.alloc (.cells (nfL (.slice p0 n c0) (.slice p1 m c1) x).toArray 115)) y 111
  simp only [szal] at A1
  have B0 := (below_new w (.cells (nfL (.slice p0 n c0) (.slice p1 m c1) x).toArray 115)).trans ((below_new _ (.cells (arr y) 111)).mono (by rw [szal]; omega))
  have hs0 : ((w.alloc (.cells (nfL (.slice p0 n c0) (.slice p1 m c1) x).toArray 115)).alloc (.cells (arr y) 111)).heap.size = w.heap.size + 2 := by simp
  clear h hB hx hy
  go_enter Tryz.func168, Tryz.ntmps168
  go_upto_region 1 with (fail)
  obtain ⟨w1, hw1⟩ : ∃ w1, (w.alloc (.cells (nfL (.slice p0 n c0) (.slice p1 m c1) x).toArray 115)).alloc (.cells (arr y) 111) = w1 := ⟨_, rfl⟩
  rw [hw1] at A0 A1 B0 hs0 ⊢
  clear hw1
  have g0 := A0.nall
  have g1 := A1.range
  have HA := Lib.hid A0
  have HB := Lib.hid B0
  obtain ⟨Ly, hLy, eLy⟩ : ∃ L : List Value, arr y = List.toArray L ∧ L = arrL y := ⟨_, rfl, rfl⟩
  rw [← eLy] at g1
  have nLy : Ly.length = 40 := by rw [eLy, arr_len]
  have HLy := Lib.hid hLy
  clear hLy eLy A0 A1 B0
  obtain ⟨z, hz⟩ : ∃ z : Nat → Int, (fun k => x k + y k * t) = z := ⟨_, rfl⟩
  have HZ := Lib.hid hz
  clear hz
  have T0 : ∀ W : World, (W.alloc (.cells #[Value.slice none 0 0, Value.slice none 0 0, Value.int IntKind.i64 0, Value.int IntKind.i64 0, Value.int IntKind.i64 0, Value.int IntKind.i64 0, Value.int IntKind.i64 0, Value.int IntKind.i64 0, Value.int IntKind.i64 0, Value.int IntKind.i64 0, Value.int IntKind.i64 0, Value.int IntKind.i64 0, Value.int IntKind.i64 0, Value.int IntKind.i64 0, Value.int IntKind.i64 0, Value.int IntKind.i64 0, Value.int IntKind.i64 0, Value.int IntKind.i64 0, Value.int IntKind.i64 0, Value.int IntKind.i64 0, Value.int IntKind.i64 0, Value.int IntKind.i64 0, Value.int IntKind.i64 0, Value.int IntKind.i64 0, Value.int IntKind.i64 0, Value.int IntKind.i64 0, Value.int IntKind.i64 0, Value.int IntKind.i64 0, Value.int IntKind.i64 0, Value.int IntKind.i64 0, Value.int IntKind.i64 0, Value.int IntKind.i64 0, Value.int IntKind.i64 0, Value.int IntKind.i64 0, Value.int IntKind.i64 0, Value.int IntKind.i64 0, Value.int IntKind.i64 0, Value.int IntKind.i64 0, Value.int IntKind.i64 0, Value.int IntKind.i64 0, Value.int IntKind.i64 0, Value.int IntKind.i64 0] 115)).there W.heap.size 0 42 := fun W => (Ob.newZ W _).there
  go_upto_region 2 with (first
    | (refine wpList_load_mid rfl 115 _ rfl w.heap.size 0 rfl (nfL (.slice p0 n c0) (.slice p1 m c1) x) _ g0 Tryz.underlying115 rfl (by rw [nfL_len]; exact nf_info) ?_)
    | (refine wpList_load_mid rfl 111 _ rfl (w.heap.size + 1) 0 rfl Ly _ g1 Tryz.underlying111 rfl (by rw [nLy]; exact flow_info) ?_)
    | (go_at_call 146; rw [← HLy.out]; refine (plusCycle_any _ (.slice p0 n c0) (.slice p1 m c1) rfl rfl x y t (fun k hk => (HYB.out k hk).1) (fun k hk => (HYB.out k hk).2)).mono ?_; rintro e wC ⟨rfl, hbC⟩; rw [HZ.out]; have tC := T0 wC)
    | (refine wpList_store_mid rfl 115 _ _ rfl wC.heap.size 0 (nfL (.slice p0 n c0) (.slice p1 m c1) z).toArray rfl rfl (by show (wC.alloc _).there _ 0 (nfL _ _ _).length; rw [nfL_len]; exact tC) (by show _ = some (nfL _ _ _).length; rw [nfL_len]; exact nf_info) (all_oneCell_toArray nf_one) ?_))
  clear T0 tC
  have sC := hbC.size
  have C0 := (Ob.newZ wC 115).nput (.slice p0 n c0) (.slice p1 m c1) z
  have lC : wC.heap.size < ((wC.alloc (.cells #[Value.slice none 0 0, Value.slice none 0 0, Value.int IntKind.i64 0, Value.int IntKind.i64 0, Value.int IntKind.i64 0, Value.int IntKind.i64 0, Value.int IntKind.i64 0, Value.int IntKind.i64 0, Value.int IntKind.i64 0, Value.int IntKind.i64 0, Value.int IntKind.i64 0, Value.int IntKind.i64 0, Value.int IntKind.i64 0, Value.int IntKind.i64 0, Value.int IntKind.i64 0, Value.int IntKind.i64 0, Value.int IntKind.i64 0, Value.int IntKind.i64 0, Value.int IntKind.i64 0, Value.int IntKind.i64 0, Value.int IntKind.i64 0, Value.int IntKind.i64 0, Value.int IntKind.i64 0, Value.int IntKind.i64 0, Value.int IntKind.i64 0, Value.int IntKind.i64 0, Value.int IntKind.i64 0, Value.int IntKind.i64 0, Value.int IntKind.i64 0, Value.int IntKind.i64 0, Value.int IntKind.i64 0, Value.int IntKind.i64 0, Value.int IntKind.i64 0, Value.int IntKind.i64 0, Value.int IntKind.i64 0, Value.int IntKind.i64 0, Value.int IntKind.i64 0, Value.int IntKind.i64 0, Value.int IntKind.i64 0, Value.int IntKind.i64 0, Value.int IntKind.i64 0, Value.int IntKind.i64 0] 115)).setCells wC.heap.size 0 (nfL (.slice p0 n c0) (.slice p1 m c1) z)).heap.size := C0.lt
  have bC := (hbC.mono (Nat.le_refl _)).trans ((below_new wC (.cells #[Value.slice none 0 0, Value.slice none 0 0, Value.int IntKind.i64 0, Value.int IntKind.i64 0, Value.int IntKind.i64 0, Value.int IntKind.i64 0, Value.int IntKind.i64 0, Value.int IntKind.i64 0, Value.int IntKind.i64 0, Value.int IntKind.i64 0, Value.int IntKind.i64 0, Value.int IntKind.i64 0, Value.int IntKind.i64 0, Value.int IntKind.i64 0, Value.int IntKind.i64 0, Value.int IntKind.i64 0, Value.int IntKind.i64 0, Value.int IntKind.i64 0, Value.int IntKind.i64 0, Value.int IntKind.i64 0, Value.int IntKind.i64 0, Value.int IntKind.i64 0, Value.int IntKind.i64 0, Value.int IntKind.i64 0, Value.int IntKind.i64 0, Value.int IntKind.i64 0, Value.int IntKind.i64 0, Value.int IntKind.i64 0, Value.int IntKind.i64 0, Value.int IntKind.i64 0, Value.int IntKind.i64 0, Value.int IntKind.i64 0, Value.int IntKind.i64 0, Value.int IntKind.i64 0, Value.int IntKind.i64 0, Value.int IntKind.i64 0, Value.int IntKind.i64 0, Value.int IntKind.i64 0, Value.int IntKind.i64 0, Value.int IntKind.i64 0, Value.int IntKind.i64 0, Value.int IntKind.i64 0] 115)).mono sC)
  have bC2 := bC.trans (((Only.refl wC.heap.size (wC.alloc (.cells #[Value.slice none 0 0, Value.slice none 0 0, Value.int IntKind.i64 0, Value.int IntKind.i64 0, Value.int IntKind.i64 0, Value.int IntKind.i64 0, Value.int IntKind.i64 0, Value.int IntKind.i64 0, Value.int IntKind.i64 0, Value.int IntKind.i64 0, Value.int IntKind.i64 0, Value.int IntKind.i64 0, Value.int IntKind.i64 0, Value.int IntKind.i64 0, Value.int IntKind.i64 0, Value.int IntKind.i64 0, Value.int IntKind.i64 0, Value.int IntKind.i64 0, Value.int IntKind.i64 0, Value.int IntKind.i64 0, Value.int IntKind.i64 0, Value.int IntKind.i64 0, Value.int IntKind.i64 0, Value.int IntKind.i64 0, Value.int IntKind.i64 0, Value.int IntKind.i64 0, Value.int IntKind.i64 0, Value.int IntKind.i64 0, Value.int IntKind.i64 0, Value.int IntKind.i64 0, Value.int IntKind.i64 0, Value.int IntKind.i64 0, Value.int IntKind.i64 0, Value.int IntKind.i64 0, Value.int IntKind.i64 0, Value.int IntKind.i64 0, Value.int IntKind.i64 0, Value.int IntKind.i64 0, Value.int IntKind.i64 0, Value.int IntKind.i64 0, Value.int IntKind.i64 0, Value.int IntKind.i64 0] 115))).setCs (nfL (.slice p0 n c0) (.slice p1 m c1) z) 0).below sC)
  obtain ⟨w3, hw3⟩ : ∃ w3, (wC.alloc (.cells #[Value.slice none 0 0, Value.slice none 0 0, Value.int IntKind.i64 0, Value.int IntKind.i64 0, Value.int IntKind.i64 0, Value.int IntKind.i64 0, Value.int IntKind.i64 0, Value.int IntKind.i64 0, Value.int IntKind.i64 0, Value.int IntKind.i64 0, Value.int IntKind.i64 0, Value.int IntKind.i64 0, Value.int IntKind.i64 0, Value.int IntKind.i64 0, Value.int IntKind.i64 0, Value.int IntKind.i64 0, Value.int IntKind.i64 0, Value.int IntKind.i64 0, Value.int IntKind.i64 0, Value.int IntKind.i64 0, Value.int IntKind.i64 0, Value.int IntKind.i64 0, Value.int IntKind.i64 0, Value.int IntKind.i64 0, Value.int IntKind.i64 0, Value.int IntKind.i64 0, Value.int IntKind.i64 0, Value.int IntKind.i64 0, Value.int IntKind.i64 0, Value.int IntKind.i64 0, Value.int IntKind.i64 0, Value.int IntKind.i64 0, Value.int IntKind.i64 0, Value.int IntKind.i64 0, Value.int IntKind.i64 0, Value.int IntKind.i64 0, Value.int IntKind.i64 0, Value.int IntKind.i64 0, Value.int IntKind.i64 0, Value.int IntKind.i64 0, Value.int IntKind.i64 0, Value.int IntKind.i64 0] 115)).setCells wC.heap.size 0 (nfL (.slice p0 n c0) (.slice p1 m c1) z) = w3 := ⟨_, rfl⟩
  obtain ⟨bc, hbc⟩ : ∃ bc, wC.heap.size = bc := ⟨_, rfl⟩
  rw [hw3] at C0 bC2 lC ⊢
  rw [hbc] at C0 sC lC ⊢
  clear hw3 hbc bC hbC g0 g1
  have HA3 := Lib.hid (HA.out.below bC2 (by omega))
  have HB3 := Lib.hid (HB.out.trans (bC2.mono (by omega)))
  have HC3 := Lib.hid C0
  have l3 : w.heap.size < w3.heap.size := by omega
  have hi3 : hi ≤ w3.heap.size := by omega
  have hw3 : w.heap.size ≤ w3.heap.size := by omega
  clear bC2 C0 HA HB
  have g0 := HA3.out.nall
  have g1 := HC3.out.nall
  cases hf : flB z 40
  · have KS : ∀ W : World, Below w3.heap.size w3 W → (Below w3.heap.size w3 W ∧ W.rangeAt bc 0 (nfL (.slice p0 n c0) (.slice p1 m c1) z) ∧ W.rangeAt w.heap.size 0 (nfL (.slice p0 n c0) (.slice p1 m c1) x)) := fun W hW => ⟨hW, range_blockN g1 (hW.block _ lC), range_blockN g0 (hW.block _ l3)⟩
    have HL := Lib.hid (show loA m P x y t = false by unfold loA; rw [HZ.out, hf]; rfl)
    refine wp_region_noPanic ?_
    refine wp_region_held_drew (S := fun w' : World => Below w3.heap.size w3 w' ∧ w'.rangeAt bc 0 (nfL (.slice p0 n c0) (.slice p1 m c1) z) ∧ w'.rangeAt w.heap.size 0 (nfL (.slice p0 n c0) (.slice p1 m c1) x)) (by kernel_rfl) (KS _ (below_drw (Below.refl _ _))) (fun sH => ?_)
    refine wpAnyH_take (i := 0) (v := .agg (nfL (.slice p0 n c0) (.slice p1 m c1) z).toArray) nthe0 (by kernel_rfl) (by kernel_rfl) (by kernel_rfl) (fun _ _ _ h => h) (yieldsIf_load_mid (by rfl) _ _ rfl bc 0 rfl (nfL (.slice p0 n c0) (.slice p1 m c1) z) _ (fun _ h => h.2.1) Tryz.underlying115 rfl (by rw [nfL_len]; exact nf_info)) sH ?_
    try simp only [Act.put, List.setIfInBounds_toArray]
    refine wpAnyH_ready (rs := [1]) (by kernel_rfl) (by simp) (AllReadyH.cons nthe1 (fun KX hKX => ?_) AllReadyH.nil)
    clear sH
    go_simp
    refine (areAllowed_any _ _ _ z).mono ?_
    rintro e wX ⟨rfl, hbX⟩
    rw [hf]
    have KX1 := below_dr0 hbX
    refine hKX.out _ _ (KS _ KX1) (fun sH => ?_)
    clear hKX KX
    try simp only [Act.put, List.setIfInBounds_toArray, List.set_cons_succ]
    refine wpAnyH_take (i := 2) (v := ?_) nthe2 (by kernel_rfl) (by kernel_rfl) (by kernel_rfl) (fun _ _ _ h => h) (Or.inl ⟨by rfl, ?_⟩) sH ?_
    rotate_left
    · intro wS hSw; (try dsimp only at hSw); go_simp; try with_reducible rfl
    try simp only [Act.put, List.setIfInBounds_toArray, List.set_cons_zero, List.set_cons_succ]
    refine wpAnyH_take (i := 3) (v := undef) nthe3 (by kernel_rfl) (by kernel_rfl) (by kernel_rfl) (fun _ _ _ h => h) (Or.inr ⟨by rfl, rfl⟩) sH ?_
    try simp only [Act.put, List.setIfInBounds_toArray, List.set_cons_zero, List.set_cons_succ]
    refine wpAnyH_take (i := 4) (v := undef) nthe4 (by kernel_rfl) (by kernel_rfl) (by kernel_rfl) (fun _ _ _ h => h) (Or.inr ⟨by rfl, rfl⟩) sH ?_
    try simp only [Act.put, List.setIfInBounds_toArray, List.set_cons_zero, List.set_cons_succ]
    refine wpAnyH_take (i := 5) (v := undef) nthe5 (by kernel_rfl) (by kernel_rfl) (by kernel_rfl) (fun _ _ _ h => h) (Or.inr ⟨by rfl, rfl⟩) sH ?_
    try simp only [Act.put, List.setIfInBounds_toArray, List.set_cons_zero, List.set_cons_succ]
    refine wpAnyH_take (i := 6) (v := undef) nthe6 (by kernel_rfl) (by kernel_rfl) (by kernel_rfl) (fun _ _ _ h => h) (Or.inr ⟨by rfl, rfl⟩) sH ?_
    try simp only [Act.put, List.setIfInBounds_toArray, List.set_cons_zero, List.set_cons_succ]
    refine wpAnyH_take (i := 7) (v := undef) nthe7 (by kernel_rfl) (by kernel_rfl) (by kernel_rfl) (fun _ _ _ h => h) (Or.inr ⟨by rfl, rfl⟩) sH ?_
    try simp only [Act.put, List.setIfInBounds_toArray, List.set_cons_zero, List.set_cons_succ]
    refine wpAnyH_take (i := 8) (v := ?_) nthe8 (by kernel_rfl) (by kernel_rfl) (by kernel_rfl) (fun _ _ _ h => h) (Or.inl ⟨by rfl, ?_⟩) sH ?_
    rotate_left
    · intro wS hSw; (try dsimp only at hSw); go_simp; try with_reducible rfl
    try simp only [Act.put, List.setIfInBounds_toArray, List.set_cons_zero, List.set_cons_succ]
    refine wpAnyH_take (i := 9) (v := ?_) nthe9 (by kernel_rfl) (by kernel_rfl) (by kernel_rfl) (fun _ _ _ h => h) (Or.inl ⟨by rfl, ?_⟩) sH ?_
    rotate_left
    · intro wS hSw; (try dsimp only at hSw); go_simp; try with_reducible rfl
    try simp only [Act.put, List.setIfInBounds_toArray, List.set_cons_zero, List.set_cons_succ]
    refine wpAnyH_done (by kernel_rfl) ?_ _
    refine NoPanic.normal ?_
    go_wp2_with fail
    go_ret
    exact ⟨ret_b HL.out.symm, HB3.out.trans (KX1.mono (by omega))⟩
  · have KS : ∀ W : World, Below w3.heap.size w3 W → (Below w3.heap.size w3 W ∧ W.rangeAt bc 0 (nfL (.slice p0 n c0) (.slice p1 m c1) z) ∧ W.rangeAt w.heap.size 0 (nfL (.slice p0 n c0) (.slice p1 m c1) x)) := fun W hW => ⟨hW, range_blockN g1 (hW.block _ lC), range_blockN g0 (hW.block _ l3)⟩
    have HL := Lib.hid (show loA m P x y t = decide (egS P z m < egS P x m) by unfold loA; rw [HZ.out, hf]; rfl)
    have HZR := Lib.hid (show ∀ k, k < m → -30000 ≤ z k ∧ z k ≤ 30000 from fun k hk => flQ_iff.1 (flB_iff.1 hf k (by omega)))
    have HX40 := Lib.hid (show ∀ k, k < m → -30000 ≤ x k ∧ x k ≤ 30000 from fun k hk => HX.out k (by omega))
    refine wp_region_noPanic ?_
    refine wp_region_held_drew (S := fun w' : World => Below w3.heap.size w3 w' ∧ w'.rangeAt bc 0 (nfL (.slice p0 n c0) (.slice p1 m c1) z) ∧ w'.rangeAt w.heap.size 0 (nfL (.slice p0 n c0) (.slice p1 m c1) x)) (by kernel_rfl) (KS _ (below_drw (Below.refl _ _))) (fun sH => ?_)
    refine wpAnyH_take (i := 0) (v := .agg (nfL (.slice p0 n c0) (.slice p1 m c1) z).toArray) nthe0 (by kernel_rfl) (by kernel_rfl) (by kernel_rfl) (fun _ _ _ h => h) (yieldsIf_load_mid (by rfl) _ _ rfl bc 0 rfl (nfL (.slice p0 n c0) (.slice p1 m c1) z) _ (fun _ h => h.2.1) Tryz.underlying115 rfl (by rw [nfL_len]; exact nf_info)) sH ?_
    try simp only [Act.put, List.setIfInBounds_toArray, List.set_cons_zero, List.set_cons_succ]
    refine wpAnyH_ready (rs := [1]) (by kernel_rfl) (by simp) (AllReadyH.cons nthe1 (fun KX hKX => ?_) AllReadyH.nil)
    clear sH
    go_simp
    refine (areAllowed_any _ _ _ z).mono ?_
    rintro e wX ⟨rfl, hbX⟩
    rw [hf]
    have KX1 := below_dr0 hbX
    have zX := KX1.size
    refine hKX.out _ _ (KS _ KX1) (fun sH => ?_)
    clear hKX KX
    try simp only [Act.put, List.setIfInBounds_toArray, List.set_cons_zero, List.set_cons_succ]
    refine wpAnyH_take (i := 2) (v := ?_) nthe2 (by kernel_rfl) (by kernel_rfl) (by kernel_rfl) (fun _ _ _ h => h) (Or.inl ⟨by rfl, ?_⟩) sH ?_
    rotate_left
    · intro wS hSw; (try dsimp only at hSw); go_simp; try with_reducible rfl
    try simp only [Act.put, List.setIfInBounds_toArray, List.set_cons_zero, List.set_cons_succ]
    refine wpAnyH_take (i := 3) (v := .agg (nfL (.slice p0 n c0) (.slice p1 m c1) z).toArray) nthe3 (by kernel_rfl) (by kernel_rfl) (by kernel_rfl) (fun _ _ _ h => h) (yieldsIf_load_mid (by rfl) _ _ rfl bc 0 rfl (nfL (.slice p0 n c0) (.slice p1 m c1) z) _ (fun _ h => h.2.1) Tryz.underlying115 rfl (by rw [nfL_len]; exact nf_info)) sH ?_
    try simp only [Act.put, List.setIfInBounds_toArray, List.set_cons_zero, List.set_cons_succ]
    refine wpAnyH_take (i := 5) (v := .agg (nfL (.slice p0 n c0) (.slice p1 m c1) x).toArray) nthe5 (by kernel_rfl) (by kernel_rfl) (by kernel_rfl) (fun _ _ _ h => h) (yieldsIf_load_mid (by rfl) _ _ rfl w.heap.size 0 rfl (nfL (.slice p0 n c0) (.slice p1 m c1) x) _ (fun _ h => h.2.2) Tryz.underlying115 rfl (by rw [nfL_len]; exact nf_info)) sH ?_
    try simp only [Act.put, List.setIfInBounds_toArray, List.set_cons_zero, List.set_cons_succ]
    refine wpAnyH_ready (rs := [4]) (by kernel_rfl) (by simp) (AllReadyH.cons nthe4 (fun KX hKX => ?_) AllReadyH.nil)
    clear sH
    go_simp
    refine (energy_any wX p0 p1 c0 c1 n N m P lo hi (HV.out.below (HB3.out.trans (KX1.mono (by omega))) hhi) (by omega) HBN.out z HZR.out).mono ?_
    rintro e wY ⟨rfl, hbY⟩
    have KX2 := KX1.trans (hbY.mono (by omega))
    have zY := KX2.size
    refine hKX.out _ _ (KS _ KX2) (fun sH => ?_)
    clear hKX KX
    try simp only [Act.put, List.setIfInBounds_toArray, List.set_cons_zero, List.set_cons_succ]
    refine wpAnyH_ready (rs := [6]) (by kernel_rfl) (by simp) (AllReadyH.cons nthe6 (fun KX hKX => ?_) AllReadyH.nil)
    clear sH
    go_simp
    refine (energy_any wY p0 p1 c0 c1 n N m P lo hi (HV.out.below (HB3.out.trans (KX2.mono (by omega))) hhi) (by omega) HBN.out x HX40.out).mono ?_
    rintro e wZ ⟨rfl, hbZ⟩
    have KX3 := KX2.trans (hbZ.mono (by omega))
    refine hKX.out _ _ (KS _ KX3) (fun sH => ?_)
    clear hKX KX
    try simp only [Act.put, List.setIfInBounds_toArray, List.set_cons_zero, List.set_cons_succ]
    refine wpAnyH_take (i := 7) (v := ?_) nthe7 (by kernel_rfl) (by kernel_rfl) (by kernel_rfl) (fun _ _ _ h => h) (Or.inl ⟨by rfl, ?_⟩) sH ?_
    rotate_left
    · intro wS hSw; (try dsimp only at hSw); go_simp; try with_reducible rfl
    try simp only [Act.put, List.setIfInBounds_toArray, List.set_cons_zero, List.set_cons_succ]
    refine wpAnyH_take (i := 8) (v := ?_) nthe8 (by kernel_rfl) (by kernel_rfl) (by kernel_rfl) (fun _ _ _ h => h) (Or.inl ⟨by rfl, ?_⟩) sH ?_
    rotate_left
    · intro wS hSw; (try dsimp only at hSw); go_simp; try with_reducible rfl
    try simp only [Act.put, List.setIfInBounds_toArray, List.set_cons_zero, List.set_cons_succ]
    refine wpAnyH_take (i := 9) (v := ?_) nthe9 (by kernel_rfl) (by kernel_rfl) (by kernel_rfl) (fun _ _ _ h => h) (Or.inl ⟨by rfl, ?_⟩) sH ?_
    rotate_left
    · intro wS hSw; (try dsimp only at hSw); go_simp; try with_reducible rfl
    try simp only [Act.put, List.setIfInBounds_toArray, List.set_cons_zero, List.set_cons_succ]
    refine wpAnyH_done (by kernel_rfl) ?_ _
    refine NoPanic.normal ?_
    go_wp2_with fail
    go_ret
    exact ⟨ret_b HL.out.symm, HB3.out.trans (KX3.mono (by omega))⟩
end Go.Proofs.YtdbgcbkmcbgdiaaGreat.mem

namespace Go.Proofs.YtdbgcbkmcbgdiaaGreat.mem
open Go.RowKit
set_option linter.unusedVariables false

end Go.Proofs.YtdbgcbkmcbgdiaaGreat.mem

namespace Go.Proofs.YtdbgcbkmcbgdiaaGreat.mem
open Go.RowKit
set_option linter.unusedVariables false

end Go.Proofs.YtdbgcbkmcbgdiaaGreat.mem

namespace Go.Proofs.YtdbgcbkmcbgdiaaGreat.mem
open Go.RowKit
set_option linter.unusedVariables false

end Go.Proofs.YtdbgcbkmcbgdiaaGreat.mem

namespace Go.Proofs.YtdbgcbkmcbgdiaaGreat.mem
open Go.RowKit
set_option linter.unusedVariables false

end Go.Proofs.YtdbgcbkmcbgdiaaGreat.mem

namespace Go.Proofs.YtdbgcbkmcbgdiaaGreat.mem
open Go.RowKit
set_option linter.unusedVariables false

end Go.Proofs.YtdbgcbkmcbgdiaaGreat.mem

namespace Go.Proofs.YtdbgcbkmcbgdiaaGreat.mem
open Go.RowKit
set_option linter.unusedVariables false

/-- one chord of a pass -/
def psT (m : Nat) (P : Nat → Pip) (y : Nat → Int) (step left : Int) (s : (Nat → Int) × Int) : (Nat → Int) × Int :=
  if s.2 < left then (if loB m P s.1 y step = true then (fun k => s.1 k + step * y k, s.2 + 1) else if loB m P s.1 y (-step) = true then (fun k => s.1 k + (-step) * y k, s.2 + 1) else s) else s
/-- a pass through the first chords -/
def psS (m : Nat) (P : Nat → Pip) (Y : Nat → Nat → Int) (x : Nat → Int) (step left : Int) : Nat → (Nat → Int) × Int
  | 0 => (x, 0)
  | j + 1 => psT m P (Y j) step left (psS m P Y x step left j)
theorem loB_rng {m : Nat} {P : Nat → Pip} {x y : Nat → Int} {t : Int} (h : loB m P x y t = true) : ∀ k, k < m → -30000 ≤ x k + t * y k ∧ x k + t * y k ≤ 30000 := by
  unfold loB at h
  rw [Bool.and_eq_true] at h
  exact fun k hk => flQ_iff.1 (flB_iff.1 h.1 k hk)
theorem psS_rng {m : Nat} {P : Nat → Pip} {Y : Nat → Nat → Int} {x : Nat → Int} {step left : Int} (hx : ∀ k, k < m → -30000 ≤ x k ∧ x k ≤ 30000) : ∀ j k, k < m → -30000 ≤ (psS m P Y x step left j).1 k ∧ (psS m P Y x step left j).1 k ≤ 30000
  | 0, k, hk => hx k hk
  | j + 1, k, hk => by
    unfold psS psT
    split
    · split
      · next h => exact loB_rng h k hk
      · split
        · next h => exact loB_rng h k hk
        · exact psS_rng hx j k hk
    · exact psS_rng hx j k hk
theorem psS_cnt {m : Nat} {P : Nat → Pip} {Y : Nat → Nat → Int} {x : Nat → Int} {step left : Int} (hl : 0 ≤ left) : ∀ j : Nat, 0 ≤ (psS m P Y x step left j).2 ∧ (psS m P Y x step left j).2 ≤ left ∧ (psS m P Y x step left j).2 ≤ j
  | 0 => by simp [psS, hl]
  | j + 1 => by
    have h := psS_cnt (m := m) (P := P) (Y := Y) (x := x) (step := step) hl j
    unfold psS psT
    split
    · split
      · dsimp only; omega
      · split
        · dsimp only; omega
        · omega
    · omega
theorem psS_stop {m : Nat} {P : Nat → Pip} {Y : Nat → Nat → Int} {x : Nat → Int} {step left : Int} {i : Nat} (h : ¬ (psS m P Y x step left i).2 < left) : ∀ {j : Nat}, i ≤ j → psS m P Y x step left j = psS m P Y x step left i
  | 0, hj => by rw [show i = 0 by omega]
  | j + 1, hj => by
    by_cases e : i = j + 1
    · rw [e]
    · have h1 := psS_stop h (by omega : i ≤ j)
      show psT m P (Y j) step left (psS m P Y x step left j) = _
      rw [h1]
      unfold psT
      rw [if_neg h]
/-- relaxing: so many passes at most -/
def rlS (m : Nat) (P : Nat → Pip) (Y : Nat → Nat → Int) (C : Nat) : Nat → (Nat → Int) → Int → Int → (Nat → Int) × Int
  | 0, x, tot, _ => (x, tot)
  | f + 1, x, tot, st => if 1 ≤ st ∧ tot < 5000 then rlS m P Y C f (psS m P Y x st (5000 - tot) C).1 (tot + (psS m P Y x st (5000 - tot) C).2) (if (psS m P Y x st (5000 - tot) C).2 = 0 then st / 2 else st) else (x, tot)
theorem rlS_stop {m : Nat} {P : Nat → Pip} {Y : Nat → Nat → Int} {C f : Nat} {x : Nat → Int} {tot st : Int} (h : ¬ (1 ≤ st ∧ tot < 5000)) : rlS m P Y C f x tot st = (x, tot) := by
  cases f with
  | zero => rfl
  | succ f => unfold rlS; rw [if_neg h]
theorem rlS_next {m : Nat} {P : Nat → Pip} {Y : Nat → Nat → Int} {C f : Nat} {x : Nat → Int} {tot st : Int} (h : 1 ≤ st ∧ tot < 5000) : rlS m P Y C (f + 1) x tot st = rlS m P Y C f (psS m P Y x st (5000 - tot) C).1 (tot + (psS m P Y x st (5000 - tot) C).2) (if (psS m P Y x st (5000 - tot) C).2 = 0 then st / 2 else st) := by
  show (if 1 ≤ st ∧ tot < 5000 then _ else _) = _
  rw [if_pos h]
/-- relaxing from a step -/
def rlx (m : Nat) (P : Nat → Pip) (Y : Nat → Nat → Int) (C : Nat) (x : Nat → Int) (st : Int) : (Nat → Int) × Int := rlS m P Y C (5000 + st.toNat) x 0 st
theorem rlS_rng {m : Nat} {P : Nat → Pip} {Y : Nat → Nat → Int} {C : Nat} : ∀ (f : Nat) {x : Nat → Int} {tot st : Int}, (∀ k, k < m → -30000 ≤ x k ∧ x k ≤ 30000) → ∀ k, k < m → -30000 ≤ (rlS m P Y C f x tot st).1 k ∧ (rlS m P Y C f x tot st).1 k ≤ 30000
  | 0, x, tot, st, hx, k, hk => hx k hk
  | f + 1, x, tot, st, hx, k, hk => by
    unfold rlS
    split
    · exact rlS_rng f (fun k hk => psS_rng hx C k hk) k hk
    · exact hx k hk


/-! What a pass and relaxing do -/
theorem psS_ind {m : Nat} {P : Nat → Pip} {Y : Nat → Nat → Int} {x : Nat → Int} {step left : Int} (Q : (Nat → Int) → Prop) : ∀ {C : Nat}, (∀ z j t, j < C → Q z → Q (fun k => z k + t * Y j k)) → Q x → Q (psS m P Y x step left C).1
  | 0, _, h => h
  | C + 1, g, h => by
    have ih := psS_ind (m := m) (P := P) (step := step) (left := left) Q (C := C) (fun z j t hj => g z j t (by omega)) h
    unfold psS psT
    split
    · split
      · exact g _ C _ (by omega) ih
      · split
        · exact g _ C _ (by omega) ih
        · exact ih
    · exact ih
theorem rlS_ind {m : Nat} {P : Nat → Pip} {Y : Nat → Nat → Int} {C : Nat} (Q : (Nat → Int) → Prop) (g : ∀ z j t, j < C → Q z → Q (fun k => z k + t * Y j k)) : ∀ (f : Nat) {x : Nat → Int} {tot st : Int}, Q x → Q (rlS m P Y C f x tot st).1
  | 0, x, tot, st, h => h
  | f + 1, x, tot, st, h => by
    unfold rlS
    split
    · exact rlS_ind Q g f (psS_ind Q g h)
    · exact h
theorem psS_none {m : Nat} {P : Nat → Pip} {Y : Nat → Nat → Int} {x : Nat → Int} {step left : Int} (hl : 0 < left) : ∀ {j : Nat}, (psS m P Y x step left j).2 = 0 → (psS m P Y x step left j).1 = x ∧ ∀ i, i < j → loB m P x (Y i) step = false ∧ loB m P x (Y i) (-step) = false
  | 0, _ => ⟨rfl, fun i hi => by omega⟩
  | j + 1, h => by
    have hc := psS_cnt (m := m) (P := P) (Y := Y) (x := x) (step := step) (show 0 ≤ left by omega) j
    have ih := psS_none (m := m) (P := P) (Y := Y) (x := x) (step := step) hl (j := j)
    unfold psS psT at h ⊢
    by_cases h0 : (psS m P Y x step left j).2 < left
    · rw [if_pos h0] at h ⊢
      by_cases h1 : loB m P (psS m P Y x step left j).1 (Y j) step = true
      · rw [if_pos h1] at h
        dsimp only at h
        omega
      · rw [if_neg h1] at h ⊢
        by_cases h2 : loB m P (psS m P Y x step left j).1 (Y j) (-step) = true
        · rw [if_pos h2] at h
          dsimp only at h
          omega
        · rw [if_neg h2] at h ⊢
          obtain ⟨e, ih⟩ := ih h
          rw [e] at h1 h2
          refine ⟨e, fun i hi => ?_⟩
          by_cases g : i = j
          · subst g
            exact ⟨by simpa using h1, by simpa using h2⟩
          · exact ih i (by omega)
    · rw [if_neg h0] at h
      omega
theorem rlS_cnt {m : Nat} {P : Nat → Pip} {Y : Nat → Nat → Int} {C : Nat} : ∀ (f : Nat) {x : Nat → Int} {tot st : Int}, 0 ≤ tot → tot ≤ 5000 → tot ≤ (rlS m P Y C f x tot st).2 ∧ (rlS m P Y C f x tot st).2 ≤ 5000
  | 0, x, tot, st, h0, h1 => ⟨Int.le_refl _, h1⟩
  | f + 1, x, tot, st, h0, h1 => by
    unfold rlS
    split
    · next h =>
      have hc := psS_cnt (m := m) (P := P) (Y := Y) (x := x) (step := st) (show 0 ≤ 5000 - tot by omega) C
      have ih := rlS_cnt (m := m) (P := P) (Y := Y) (C := C) f (x := (psS m P Y x st (5000 - tot) C).1) (tot := tot + (psS m P Y x st (5000 - tot) C).2) (st := if (psS m P Y x st (5000 - tot) C).2 = 0 then st / 2 else st) (by omega) (by omega)
      omega
    · omega
/-- where not all moves have been made, no cycle lowers the energy any more -/
theorem rlS_done {m : Nat} {P : Nat → Pip} {Y : Nat → Nat → Int} {C : Nat} : ∀ (f : Nat) {x : Nat → Int} {tot st : Int}, 0 ≤ tot → tot ≤ 5000 → 1 ≤ st → 5000 - tot + st ≤ f → (rlS m P Y C f x tot st).2 < 5000 → ∀ j, j < C → loB m P (rlS m P Y C f x tot st).1 (Y j) 1 = false ∧ loB m P (rlS m P Y C f x tot st).1 (Y j) (-1) = false
  | 0, x, tot, st, h0, h1, h2, h3, _ => by omega
  | f + 1, x, tot, st, h0, h1, h2, h3, h => by
    unfold rlS at h ⊢
    by_cases g : 1 ≤ st ∧ tot < 5000
    · rw [if_pos g] at h ⊢
      have hc := psS_cnt (m := m) (P := P) (Y := Y) (x := x) (step := st) (show 0 ≤ 5000 - tot by omega) C
      by_cases hz : (psS m P Y x st (5000 - tot) C).2 = 0
      · obtain ⟨e, hn⟩ := psS_none (show 0 < 5000 - tot by omega) hz
        rw [if_pos hz, hz, e, Int.add_zero] at h ⊢
        by_cases h4 : st = 1
        · subst h4
          rw [rlS_stop (by omega)]
          exact hn
        · exact rlS_done f h0 h1 (by omega) (by omega) h
      · rw [if_neg hz] at h ⊢
        exact rlS_done f (by omega) (by omega) h2 (by omega) h
    · rw [if_neg g] at h
      dsimp only at h
      omega

/-! Steps -/
/-- a power of two, by halving -/
def p2N : Nat → Nat → Bool
  | 0, _ => false
  | f + 1, x => x == 1 || (x % 2 == 0 && p2N f (x / 2))
/-- a step -/
def stB (x : Int) : Bool := p2N 16 x.toNat && decide (0 < x)
theorem and_pred (x : Nat) (h : 2 ≤ x) : x &&& (x - 1) = if x % 2 = 0 then 2 * ((x / 2) &&& (x / 2 - 1)) else x - 1 := by
  apply Nat.eq_of_testBit_eq
  intro i
  rw [Nat.testBit_and]
  by_cases hp : x % 2 = 0
  · rw [if_pos hp]
    cases i with
    | zero =>
      simp only [Nat.testBit_zero]
      rw [show 2 * (x / 2 &&& x / 2 - 1) % 2 = 0 by omega]
      simp [hp]
    | succ i =>
      rw [Nat.testBit_succ, Nat.testBit_succ, Nat.testBit_succ, show (x - 1) / 2 = x / 2 - 1 by omega, Nat.mul_div_cancel_left _ (by omega : 0 < 2), Nat.testBit_and]
  · rw [if_neg hp]
    cases i with
    | zero =>
      simp only [Nat.testBit_zero]
      rw [show (x - 1) % 2 = 0 by omega]
      simp
    | succ i =>
      rw [Nat.testBit_succ, Nat.testBit_succ, show (x - 1) / 2 = x / 2 by omega, Bool.and_self]
theorem and_p2 : ∀ (f x : Nat), 1 ≤ x → x < 2 ^ f → ((x &&& (x - 1)) = 0 ↔ p2N f x = true)
  | 0, x, h0, h1 => by omega
  | f + 1, x, h0, h1 => by
    unfold p2N
    by_cases e : x = 1
    · subst e
      simp
    · rw [and_pred x (by omega), show (x == 1) = false by simpa using e, Bool.false_or]
      by_cases hp : x % 2 = 0
      · rw [if_pos hp]
        have h2 : x / 2 < 2 ^ f := by rw [Nat.pow_succ] at h1; omega
        have ih := and_p2 f (x / 2) (by omega) h2
        rw [Bool.and_eq_true, ← ih]
        simp only [beq_iff_eq]
        omega
      · rw [if_neg hp, show (x % 2 == 0) = false by simpa using hp, Bool.false_and]
        constructor
        · intro h; omega
        · intro h; exact absurd h (by simp)
theorem p2N_pow : ∀ (f x : Nat), p2N f x = true ↔ ∃ k, k < f ∧ x = 2 ^ k
  | 0, x => by
    constructor
    · intro h; exact absurd h (by simp [p2N])
    · rintro ⟨k, hk, _⟩; omega
  | f + 1, x => by
    unfold p2N
    rw [Bool.or_eq_true, Bool.and_eq_true, p2N_pow f, beq_iff_eq, beq_iff_eq]
    constructor
    · rintro (h | ⟨h1, k, hk, h2⟩)
      · exact ⟨0, by omega, by rw [h]; try rfl⟩
      · exact ⟨k + 1, by omega, by rw [Nat.pow_succ]; omega⟩
    · rintro ⟨k, hk, h⟩
      cases k with
      | zero => left; rw [h]; try rfl
      | succ k =>
        rw [Nat.pow_succ] at h
        exact .inr ⟨by omega, k, by omega, by omega⟩
theorem stB_rng {x : Int} (h : stB x = true) : 1 ≤ x ∧ x ≤ 32768 := by
  unfold stB at h
  rw [Bool.and_eq_true, decide_eq_true_iff, p2N_pow] at h
  obtain ⟨⟨k, hk, e⟩, h0⟩ := h
  have h1 : 2 ^ k ≤ 2 ^ 15 := Nat.pow_le_pow_right (by omega) (by omega)
  have h2 : (2 : Nat) ^ 15 = 32768 := by decide
  omega

/-! The best multiple of a cycle -/
/-- the energy after adding a cycle so many times -/
def egC (P : Nat → Pip) (x y : Nat → Int) (m : Nat) (t : Int) : Int := egS P (fun k => x k + t * y k) m
theorem cube_conv (x s : Int) (hs : s = 1 ∨ s = -1) : 2 * (((x + s).natAbs : Int) * ((x + s).natAbs : Int) * ((x + s).natAbs : Int)) + 1 ≤ (x.natAbs : Int) * (x.natAbs : Int) * (x.natAbs : Int) + ((x + s + s).natAbs : Int) * ((x + s + s).natAbs : Int) * ((x + s + s).natAbs : Int) := by
  have key : ∀ a b : Int, 0 ≤ a → (b = a + 1) → 2 * (b * b * b) + 1 ≤ a * a * a + (b + 1) * (b + 1) * (b + 1) := by
    intro a b ha hb
    subst hb
    have e : a * a * a + (a + 1 + 1) * (a + 1 + 1) * (a + 1 + 1) = 2 * ((a + 1) * (a + 1) * (a + 1)) + 6 * a + 6 := by grind
    omega
  rcases (by omega : ((x + s).natAbs : Int) = (x.natAbs : Int) + 1 ∧ ((x + s + s).natAbs : Int) = ((x + s).natAbs : Int) + 1 ∨ (x.natAbs : Int) = ((x + s).natAbs : Int) + 1 ∧ ((x + s).natAbs : Int) = ((x + s + s).natAbs : Int) + 1 ∨ ((x + s).natAbs : Int) = 0 ∧ (x.natAbs : Int) = 1 ∧ ((x + s + s).natAbs : Int) = 1) with ⟨h1, h2⟩ | ⟨h1, h2⟩ | ⟨h1, h2, h3⟩
  · rw [h2]
    exact key _ _ (by omega) h1
  · have := key ((x + s + s).natAbs : Int) ((x + s).natAbs : Int) (by omega) h2
    rw [h1]
    omega
  · rw [h1, h2, h3]
    omega
/-- how many elements are not 0 -/
def nzC (y : Nat → Int) : Nat → Int
  | 0 => 0
  | k + 1 => nzC y k + (if y k = 0 then 0 else 1)
theorem nzC_pos {y : Nat → Int} {j : Nat} (hj : y j ≠ 0) : ∀ {k : Nat}, j < k → 1 ≤ nzC y k ∧ 0 ≤ nzC y k
  | 0, h => by omega
  | k + 1, h => by
    have h0 : ∀ i, 0 ≤ nzC y i := fun i => by
      induction i with
      | zero => exact Int.le_refl _
      | succ i ih => unfold nzC; split <;> omega
    unfold nzC
    by_cases e : j = k
    · subst e
      rw [if_neg hj]
      have := h0 j
      omega
    · have := (nzC_pos hj (k := k) (by omega)).1
      split <;> omega
theorem egT_conv {P : Nat → Pip} {x y : Nat → Int} {t : Int} {k : Nat} (hk : 1 ≤ (P k).k) (hy : -1 ≤ y k ∧ y k ≤ 1) :
    2 * egT P (fun j => x j + (t + 1) * y j) k + (if y k = 0 then 0 else 1) ≤ egT P (fun j => x j + t * y j) k + egT P (fun j => x j + (t + 1 + 1) * y j) k := by
  unfold egT
  dsimp only
  by_cases h0 : y k = 0
  · rw [if_pos h0, h0, Int.mul_zero, Int.mul_zero, Int.mul_zero]
    omega
  · rw [if_neg h0]
    have hs : y k = 1 ∨ y k = -1 := by omega
    have h1 := cube_conv (x k + t * y k) (y k) hs
    rw [show x k + (t + 1) * y k = x k + t * y k + y k by grind, show x k + (t + 1 + 1) * y k = x k + t * y k + y k + y k by grind]
    generalize ((x k + t * y k).natAbs : Int) = a at h1 ⊢
    generalize ((x k + t * y k + y k).natAbs : Int) = b at h1 ⊢
    generalize ((x k + t * y k + y k + y k).natAbs : Int) = c at h1 ⊢
    have h2 := Int.mul_le_mul_of_nonneg_left h1 (show 0 ≤ (P k).k by omega)
    have e1 : (P k).k * (2 * (b * b * b) + 1) = 2 * ((P k).k * b * b * b) + (P k).k := by grind
    have e2 : (P k).k * (a * a * a + c * c * c) = (P k).k * a * a * a + (P k).k * c * c * c := by grind
    rw [e1, e2] at h2
    omega
theorem egS_conv {P : Nat → Pip} {x y : Nat → Int} {t : Int} : ∀ {k : Nat}, (∀ j, j < k → 1 ≤ (P j).k) → (∀ j, j < k → -1 ≤ y j ∧ y j ≤ 1) →
    2 * egC P x y k (t + 1) + nzC y k ≤ egC P x y k t + egC P x y k (t + 1 + 1)
  | 0, _, _ => by simp [egC, egS, nzC]
  | k + 1, h, g => by
    have h1 := egS_conv (k := k) (x := x) (t := t) (fun j hj => h j (by omega : j < k + 1)) (fun j hj => g j (by omega : j < k + 1))
    have h2 := egT_conv (x := x) (t := t) (h k (by omega)) (g k (by omega))
    unfold egC at h1 ⊢
    rw [show egS P (fun j => x j + (t + 1) * y j) (k + 1) = egS P (fun j => x j + (t + 1) * y j) k + egT P (fun j => x j + (t + 1) * y j) k from rfl, show egS P (fun j => x j + t * y j) (k + 1) = egS P (fun j => x j + t * y j) k + egT P (fun j => x j + t * y j) k from rfl, show egS P (fun j => x j + (t + 1 + 1) * y j) (k + 1) = egS P (fun j => x j + (t + 1 + 1) * y j) k + egT P (fun j => x j + (t + 1 + 1) * y j) k from rfl, show nzC y (k + 1) = nzC y k + (if y k = 0 then 0 else 1) from rfl]
    omega
/-- what a cycle is: its elements are -1, 0 and 1, one is not 0, and the resistances are positive -/
structure CyO (P : Nat → Pip) (y : Nat → Int) (m : Nat) : Prop where
  k1 : ∀ j, j < m → 1 ≤ (P j).k
  y1 : ∀ j, j < m → -1 ≤ y j ∧ y j ≤ 1
  nz : ∃ j, j < m ∧ y j ≠ 0
theorem CyO.step {P : Nat → Pip} {x y : Nat → Int} {m : Nat} (h : CyO P y m) (t : Int) : egC P x y m (t + 1) - egC P x y m t < egC P x y m (t + 1 + 1) - egC P x y m (t + 1) := by
  obtain ⟨j, hj, hn⟩ := h.nz
  have h1 := (nzC_pos hn hj).1
  have h2 := egS_conv (x := x) (t := t) h.k1 h.y1
  omega
theorem CyO.grow {P : Nat → Pip} {x y : Nat → Int} {m : Nat} (h : CyO P y m) (t : Int) : ∀ i : Nat, egC P x y m (t + 1) - egC P x y m t + i ≤ egC P x y m (t + i + 1) - egC P x y m (t + i)
  | 0 => by simp
  | i + 1 => by
    have h1 := h.grow (x := x) t i
    have h2 := h.step (x := x) (t + i)
    rw [show t + ((i + 1 : Nat) : Int) = t + (i : Int) + 1 by omega]
    omega
theorem CyO.lt {P : Nat → Pip} {x y : Nat → Int} {m : Nat} (h : CyO P y m) {t u : Int} (htu : t < u) : egC P x y m (t + 1) - egC P x y m t < egC P x y m (u + 1) - egC P x y m u := by
  have h1 := h.grow (x := x) t (u - t).toNat
  rw [show t + ((u - t).toNat : Int) = u by omega] at h1
  omega
/-- the multiple is enough -/
def bePr (P : Nat → Pip) (x y : Nat → Int) (m : Nat) (t : Int) : Prop := egC P x y m (t + 1) - egC P x y m t > 0 ∨ egC P x y m (t + 1) - egC P x y m t = 0 ∧ t ≥ 0
/-- from here on the energy does not fall -/
def bfPr (P : Nat → Pip) (x y : Nat → Int) (m : Nat) (t : Int) : Prop := egC P x y m t ≤ egC P x y m (t + 1)
theorem CyO.be_mono {P : Nat → Pip} {x y : Nat → Int} {m : Nat} (h : CyO P y m) {t u : Int} (htu : t ≤ u) (hp : bePr P x y m t) : bePr P x y m u := by
  unfold bePr at *
  rcases Int.lt_or_eq_of_le htu with g | g
  · have := h.lt (x := x) g
    omega
  · rw [← g]; exact hp
/-- r is the least number from lo on that passes, or hi -/
structure Lst (p : Int → Prop) (lo hi r : Int) : Prop where
  ge : lo ≤ r
  le : r ≤ hi
  no : ∀ x, lo ≤ x → x < r → ¬ p x
  yes : r < hi → p r
theorem Lst.uniq {p : Int → Prop} {lo hi r s : Int} (h : Lst p lo hi r) (g : Lst p lo hi s) : r = s := by
  rcases Int.lt_trichotomy r s with e | e | e
  · exact absurd (h.yes (by have := g.le; omega)) (g.no r h.ge e)
  · exact e
  · exact absurd (g.yes (by have := h.le; omega)) (h.no s g.ge e)
/-- what halving keeps -/
structure Hlv (p : Int → Prop) (lo hi l h : Int) : Prop where
  a : lo ≤ l
  b : l ≤ h
  c : h ≤ hi
  no : ∀ x, lo ≤ x → x < l → ¬ p x
  yes : h < hi → p h
theorem Hlv.start (p : Int → Prop) {lo hi : Int} (h : lo ≤ hi) : Hlv p lo hi lo hi := ⟨Int.le_refl _, h, Int.le_refl _, fun x h1 h2 => by omega, fun h2 => by omega⟩
theorem Hlv.done {p : Int → Prop} {lo hi l h : Int} (g : Hlv p lo hi l h) (e : ¬ l < h) : Lst p lo hi l := by
  have e2 : l = h := by have := g.b; omega
  subst e2
  exact ⟨g.a, g.c, g.no, g.yes⟩
theorem Hlv.up {p : Int → Prop} {lo hi l h m : Int} (hm : ∀ x y, x ≤ y → p x → p y) (g : Hlv p lo hi l h) (h1 : l ≤ m) (h2 : m < h) (hp : ¬ p m) : Hlv p lo hi (m + 1) h :=
  ⟨by have := g.a; omega, by omega, g.c, fun x a b hx => hp (hm x m (by omega) hx), g.yes⟩
theorem Hlv.down {p : Int → Prop} {lo hi l h m : Int} (g : Hlv p lo hi l h) (h1 : l ≤ m) (h2 : m < h) (hp : p m) : Hlv p lo hi l m :=
  ⟨g.a, h1, by have := g.c; omega, g.no, fun _ => hp⟩

/-- the specification's number: the first one from which on the energy does not fall, or the one behind it -/
theorem CyO.best {P : Nat → Pip} {x y : Nat → Int} {m : Nat} (h : CyO P y m) {lo hi f : Int} (g : Lst (bfPr P x y m) lo hi f) : Lst (bePr P x y m) lo hi (if f < hi ∧ egC P x y m (f + 1) = egC P x y m f ∧ f < 0 then f + 1 else f) := by
  have hge := g.ge
  have hle := g.le
  by_cases e : f < hi ∧ egC P x y m (f + 1) = egC P x y m f ∧ f < 0
  · rw [if_pos e]
    obtain ⟨e1, e2, e3⟩ := e
    refine ⟨by omega, by omega, fun z z0 z1 hz => ?_, fun _ => ?_⟩
    · have := h.be_mono (x := x) (show z ≤ f by omega) hz
      unfold bePr at this
      omega
    · have := h.step (x := x) f
      unfold bePr
      omega
  · rw [if_neg e]
    refine ⟨hge, hle, fun z z0 z1 hz => ?_, fun hf => ?_⟩
    · have := g.no z z0 z1
      unfold bfPr at this
      unfold bePr at hz
      omega
    · have := g.yes hf
      unfold bfPr at this
      unfold bePr
      omega
/-- no multiple of a cycle has a smaller energy -/
theorem CyO.least {P : Nat → Pip} {x y : Nat → Int} {m : Nat} (h : CyO P y m) {lo hi r : Int} (g : Lst (bePr P x y m) lo hi r) : ∀ t, lo ≤ t → t ≤ hi → egC P x y m r ≤ egC P x y m t := by
  have down : ∀ i : Nat, lo ≤ r - i → egC P x y m r ≤ egC P x y m (r - i) := by
    intro i
    induction i with
    | zero => intro _; rw [show r - ((0 : Nat) : Int) = r by omega]; exact Int.le_refl _
    | succ i ih =>
      intro hl
      have h1 := ih (by omega)
      have h2 := g.no (r - ((i + 1 : Nat) : Int)) hl (by omega)
      unfold bePr at h2
      rw [show r - ((i + 1 : Nat) : Int) + 1 = r - (i : Int) by omega] at h2
      omega
  have up : ∀ i : Nat, r + i ≤ hi → egC P x y m r ≤ egC P x y m (r + i) := by
    intro i
    induction i with
    | zero => intro _; rw [show r + ((0 : Nat) : Int) = r by omega]; exact Int.le_refl _
    | succ i ih =>
      intro hl
      have h1 := ih (by omega)
      have h2 := h.be_mono (x := x) (show r ≤ r + i by omega) (g.yes (by omega))
      unfold bePr at h2
      rw [show r + ((i + 1 : Nat) : Int) = r + (i : Int) + 1 by omega]
      omega
  intro t t0 t1
  by_cases e : t ≤ r
  · have := down (r - t).toNat (by omega)
    rwa [show r - ((r - t).toNat : Int) = t by omega] at this
  · have := up (t - r).toNat (by omega)
    rwa [show r + ((t - r).toNat : Int) = t by omega] at this

/-! What the program's loops keep -/
/-- the number of times that a move adds a cycle -/
def mvB (m : Nat) (P : Nat → Pip) (x y : Nat → Int) (st : Int) : Int := if loB m P x y st = true then st else if loB m P x y (-st) = true then -st else 0
theorem ps_move {m : Nat} {P : Nat → Pip} {Y : Nat → Nat → Int} {x x' : Nat → Int} {st left mo : Int} {k : Nat} (h : (x', mo) = psS m P Y x st left k) (hl : mo < left) (hn : mvB m P x' (Y k) st ≠ 0) : psS m P Y x st left (k + 1) = (fun a => x' a + mvB m P x' (Y k) st * Y k a, mo + 1) := by
  show psT m P (Y k) st left (psS m P Y x st left k) = _
  rw [← h]
  unfold psT mvB at *
  rw [if_pos hl]
  by_cases h1 : loB m P x' (Y k) st = true
  · rw [if_pos h1, if_pos h1]
  · rw [if_neg h1] at hn ⊢
    rw [if_neg h1]
    by_cases h2 : loB m P x' (Y k) (-st) = true
    · rw [if_pos h2, if_pos h2]
    · rw [if_neg h2] at hn
      exact absurd rfl hn
theorem ps_stay {m : Nat} {P : Nat → Pip} {Y : Nat → Nat → Int} {x x' : Nat → Int} {st left mo : Int} {k : Nat} (h : (x', mo) = psS m P Y x st left k) (hl : mo < left) (hs : st ≠ 0) (hn : mvB m P x' (Y k) st = 0) : psS m P Y x st left (k + 1) = (x', mo) := by
  show psT m P (Y k) st left (psS m P Y x st left k) = _
  rw [← h]
  unfold psT mvB at *
  rw [if_pos hl]
  by_cases h1 : loB m P x' (Y k) st = true
  · rw [if_pos h1] at hn
    exact absurd hn hs
  · rw [if_neg h1] at hn ⊢
    by_cases h2 : loB m P x' (Y k) (-st) = true
    · rw [if_pos h2] at hn
      omega
    · rw [if_neg h2]
theorem mvB_rng {m : Nat} {P : Nat → Pip} {x y : Nat → Int} {st : Int} (hs : 1 ≤ st ∧ st ≤ 32768) : -32768 ≤ mvB m P x y st ∧ mvB m P x y st ≤ 32768 := by
  unfold mvB
  split
  · omega
  · split <;> omega
theorem mvB_in {m : Nat} {P : Nat → Pip} {x y : Nat → Int} {st : Int} (hx : ∀ k, k < m → -30000 ≤ x k ∧ x k ≤ 30000) : ∀ k, k < m → -30000 ≤ x k + mvB m P x y st * y k ∧ x k + mvB m P x y st * y k ≤ 30000 := by
  intro k hk
  unfold mvB
  split
  · next h => exact loB_rng h k hk
  · split
    · next h => exact loB_rng h k hk
    · rw [Int.zero_mul, Int.add_zero]
      exact hx k hk
theorem rl_break {m : Nat} {P : Nat → Pip} {Y : Nat → Nat → Int} {C f k : Nat} {x x' : Nat → Int} {tot st mo : Int} (hs : 1 ≤ st) (ht : 0 ≤ tot ∧ tot ≤ 5000) (hk : k ≤ C) (h : (x', mo) = psS m P Y x st (5000 - tot) k) (hm : tot + mo = 5000) : rlS m P Y C (f + 1) x tot st = (x', 5000) := by
  have h0 : psS m P Y x st (5000 - tot) C = (x', mo) := by
    rw [psS_stop (i := k) (by rw [← h]; dsimp only; omega) hk]
    exact h.symm
  by_cases g : tot < 5000
  · rw [rlS_next ⟨hs, g⟩, h0]
    dsimp only
    rw [hm, rlS_stop (by omega)]
  · rw [rlS_stop (by omega)]
    have h1 : psS m P Y x st (5000 - tot) C = (x, 0) := by
      rw [psS_stop (i := 0) (by show ¬ (0 : Int) < 5000 - tot; omega) (Nat.zero_le _)]
      rfl
    rw [h0] at h1
    injection h1 with e1 e2
    rw [e1, show tot = 5000 by omega]
theorem rl_pass {m : Nat} {P : Nat → Pip} {Y : Nat → Nat → Int} {C f : Nat} {x x' : Nat → Int} {tot st mo : Int} (hs : 1 ≤ st) (ht : 0 ≤ tot ∧ tot ≤ 5000) (h : (x', mo) = psS m P Y x st (5000 - tot) C) : rlS m P Y C (f + 1) x tot st = rlS m P Y C f x' (tot + mo) (if mo = 0 then st / 2 else st) := by
  by_cases g : tot < 5000
  · rw [rlS_next ⟨hs, g⟩, ← h]
  · have h1 : psS m P Y x st (5000 - tot) C = (x, 0) := by
      rw [psS_stop (i := 0) (by show ¬ (0 : Int) < 5000 - tot; omega) (Nat.zero_le _)]
      rfl
    rw [h1] at h
    injection h with e1 e2
    rw [rlS_stop (by omega), rlS_stop (by omega), e1, e2, Int.add_zero]
end Go.Proofs.YtdbgcbkmcbgdiaaGreat.mem

namespace Go.Proofs.YtdbgcbkmcbgdiaaGreat.mem
open Go.RowKit
set_option linter.unusedVariables false

/-- loads and stores of arrays and of flows with their network -/
theorem wpList_ldN {ops : Array Oper} {rest : List Oper} {o : Oper} {a : Act} {w : World} {Q : Exit → Act → World → Prop} (hg : o.guard = none) (x : Operand) (ho : o.op = .load 115 x) (b : Nat) (s0 s1 : Value) (z : Nat → Int) (hx : a.eval x = .pointer (some ⟨b, 0, none⟩)) (hc : w.rangeAt b 0 (nfL s0 s1 z))
    (h : wpList Tryz.prog ops Q rest (a.put o.dst (.agg (nfL s0 s1 z).toArray)) w) : wpList Tryz.prog ops Q (o :: rest) a w :=
  wpList_load_mid hg 115 x ho b 0 hx (nfL s0 s1 z) _ hc Tryz.underlying115 rfl (by rw [nfL_len]; exact nf_info) h
theorem wpList_stN {ops : Array Oper} {rest : List Oper} {o : Oper} {a : Act} {w : World} {Q : Exit → Act → World → Prop} (hg : o.guard = none) (x y : Operand) (ho : o.op = .store 115 x y) (b : Nat) (s0 s1 : Value) (z : Nat → Int) (hx : a.eval x = .pointer (some ⟨b, 0, none⟩)) (hy : a.eval y = .agg (nfL s0 s1 z).toArray) (h0 : s0.oneCell' = true) (h1 : s1.oneCell' = true) (ht : w.there b 0 42)
    (h : wpList Tryz.prog ops Q rest (a.put o.dst undef) (w.setCells b 0 (nfL s0 s1 z))) : wpList Tryz.prog ops Q (o :: rest) a w :=
  wpList_store_mid hg 115 x y ho b 0 (nfL s0 s1 z).toArray hx hy (by rw [List.size_toArray, nfL_len]; exact ht) (by rw [List.size_toArray, nfL_len]; exact nf_info) (all_oneCell_toArray (nfL_one h0 h1 z)) h
/-- an element of an array of numbers by value -/
theorem run_indexV (w : World) (t : TypeId) (len : Nat) (cs : Array Value) (k : IntKind) (i : Int) (v : Value) (hu : Tryz.prog.underlying t = some (.array len 2)) (h0 : 0 ≤ i) (h1 : i < len) (hv : cs[i.toNat]? = some v) : (Instr.index t (.agg cs) (.int k i)).run Tryz.prog w = .ok v w := by
  obtain ⟨i0, hi0, hz0, hz1, hz2⟩ := info_parts info_make_int64
  simp [Instr.index, run_underlying hu, run_underlying Tryz.underlying2, asIntOf, h0, h1, part, isAgg, sizeOf, typeInfo, hi0, hz1, hv]
theorem wpList_indexV {ops : Array Oper} {rest : List Oper} {o : Oper} {a : Act} {w : World} {Q : Exit → Act → World → Prop} (hg : o.guard = none) (t : TypeId) (len : Nat) (x y : Operand) (ho : o.op = .index t x y) (cs : Array Value) (k : IntKind) (i : Int) (v : Value) (hx : a.eval x = .agg cs) (hy : a.eval y = .int k i) (hu : Tryz.prog.underlying t = some (.array len 2)) (h0 : 0 ≤ i) (h1 : i < len) (hv : cs[i.toNat]? = some v)
    (h : wpList Tryz.prog ops Q rest (a.put o.dst v) w) : wpList Tryz.prog ops Q (o :: rest) a w := by
  refine wpList_plain hg fun K hK => ?_
  unfold Oper.wp execOp
  simp only [ho, Sem.run_bind, hx, hy, run_indexV w t len cs k i v hu h0 h1 hv, Result.andThen_ok]
  exact hK _ _ h
/-- the number of times that a move adds a cycle, as arrays -/
def mvT (m : Nat) (P : Nat → Pip) (x y : Nat → Int) (st : Int) : Int := if loA m P x y st = true then st else if loA m P x y (-st) = true then -st else 0
set_option maxRecDepth 100000 in
set_option maxHeartbeats 8000000 in
theorem moveOf_any (w : World) (p0 p1 : Option Addr) (c0 c1 : Nat) (n : Nat) (N : Nat → Nod) (m : Nat) (P : Nat → Pip) (lo hi : Nat) (h : NetAt w (.agg #[.slice p0 n c0, .slice p1 m c1]) n N m P lo hi) (hhi : hi ≤ w.heap.size) (hB : netB n N m P = true) (x : Nat → Int) (hx : ∀ k, k < 40 → -30000 ≤ x k ∧ x k ≤ 30000) (y : Nat → Int) (hy : ∀ k, k < 40 → -1 ≤ y k ∧ y k ≤ 1) (st : Int) (hst : 1 ≤ st ∧ st ≤ 32768) :
    Calls Tryz.prog 145 #[.agg (nfL (.slice p0 n c0) (.slice p1 m c1) x).toArray, .agg (arr y), .int .i64 st] w fun e w' => e = .returned (.int .i64 (mvT m P x y st)) ∧ Below w.heap.size w w' := by
  have HV := Lib.hid h
  have HX := Lib.hid hx
  have HYB := Lib.hid hy
  have HBN := Lib.hid hB
  have A0 := (Ob.newN w (.slice p0 n c0) (.slice p1 m c1) x 115).keep (Below.heap_alloc _ (.cells (arr y) 111) _ (by rw [szal]; omega))
  have A1 := Ob.newA (w.alloc (.cells (nfL (.slice p0 n c0) (.slice p1 m c1) x).toArray 115)) y 111
  simp only [szal] at A1
  have B0 := (below_new w (.cells (nfL (.slice p0 n c0) (.slice p1 m c1) x).toArray 115)).trans ((below_new _ (.cells (arr y) 111)).mono (by rw [szal]; omega))
  have hs0 : ((w.alloc (.cells (nfL (.slice p0 n c0) (.slice p1 m c1) x).toArray 115)).alloc (.cells (arr y) 111)).heap.size = w.heap.size + 2 := by simp
  have hng : IntKind.i64.wrap (-st) = -st := IntWalk.i64_in _ (by omega)
  clear h hB hx hy
  go_enter Tryz.func145, Tryz.ntmps145
  go_upto_region 1 with (fail)
  obtain ⟨w1, hw1⟩ : ∃ w1, (w.alloc (.cells (nfL (.slice p0 n c0) (.slice p1 m c1) x).toArray 115)).alloc (.cells (arr y) 111) = w1 := ⟨_, rfl⟩
  rw [hw1] at A0 A1 B0 hs0 ⊢
  clear hw1
  have HA := Lib.hid A0
  have HA1 := Lib.hid A1
  have HB := Lib.hid B0
  obtain ⟨Ly, hLy, eLy⟩ : ∃ L : List Value, arr y = List.toArray L ∧ L = arrL y := ⟨_, rfl, rfl⟩
  have nLy : Ly.length = 40 := by rw [eLy, arr_len]
  have HLy := Lib.hid hLy
  have HEy := Lib.hid eLy
  clear hLy eLy A0 A1 B0
  have hs1 := Nat.le_antisymm_iff.1 hs0
  clear hs0
  go_wp2_with fail
  go_loopw [13] (fun iv wr => ∃ k : Nat, iv = .int .i64 k ∧ k ≤ 2 ∧ (0 < k → loA m P x y st = false) ∧ (1 < k → loA m P x y (-st) = false) ∧ w1.heap.size ≤ wr.heap.size ∧ Below w1.heap.size w1 wr) (fun iv _ => 2 - (intOf iv).toNat)
  case atStart => exact ⟨0, rfl, by omega, fun h => by omega, fun h => by omega, Nat.le_refl _, Below.refl _ _⟩
  case round =>
    obtain ⟨k, rfl, hk, hf1, hf2, hsz, hb⟩ := hrel
    have HBB := Lib.hid hb
    have BW := Lib.hid (HB.out.trans (HBB.out.mono (by omega)))
    have g0 := (HA.out.below HBB.out (by omega)).nall
    have g1 : wr.rangeAt (w.heap.size + 1) 0 Ly := by rw [HEy.out]; exact (HA1.out.below HBB.out (by omega)).range
    clear hb
    rcases (by omega : k = 0 ∨ k = 1 ∨ k = 2) with rfl | rfl | rfl
    · cases ht : loA m P x y st
      · have HT := Lib.hid ht
        clear ht hf1 hf2
        go_wp2_with (first
          | (refine wpList_indexV rfl 166 2 _ _ rfl #[.int .i64 st, .int .i64 (-st)] _ _ (.int .i64 (st)) rfl rfl Tryz.underlying166 (by omega) (by omega) rfl ?_)
          | (refine wpList_ldN rfl _ rfl w.heap.size (.slice p0 n c0) (.slice p1 m c1) x rfl g0 ?_)
          | (refine wpList_ldF rfl _ rfl (w.heap.size + 1) 0 Ly rfl nLy g1 ?_)
          | (go_at_call 168; rw [← HLy.out]; refine (isImprovedBy_any wr p0 p1 c0 c1 n N m P lo hi (HV.out.below BW.out hhi) (by omega) HBN.out x HX.out y HYB.out (st) (by omega)).mono ?_; rintro e wX ⟨rfl, hbX⟩; rw [HT.out]; have zX := hbX.size))
        go_roundw
        case rel => exact ⟨1, by go_num, by omega, (fun _ => by first | exact HT.out | trivial), fun h => by omega, by omega, HBB.out.trans (hbX.mono (by omega))⟩
        case measure => simp [intOf]
      · have HT := Lib.hid ht
        have HR := Lib.hid (show mvT m P x y st = st by unfold mvT; rw [if_pos ht])
        clear ht hf1 hf2
        go_wp2_with (first
          | (refine wpList_indexV rfl 166 2 _ _ rfl #[.int .i64 st, .int .i64 (-st)] _ _ (.int .i64 (st)) rfl rfl Tryz.underlying166 (by omega) (by omega) rfl ?_)
          | (refine wpList_ldN rfl _ rfl w.heap.size (.slice p0 n c0) (.slice p1 m c1) x rfl g0 ?_)
          | (refine wpList_ldF rfl _ rfl (w.heap.size + 1) 0 Ly rfl nLy g1 ?_)
          | (go_at_call 168; rw [← HLy.out]; refine (isImprovedBy_any wr p0 p1 c0 c1 n N m P lo hi (HV.out.below BW.out hhi) (by omega) HBN.out x HX.out y HYB.out (st) (by omega)).mono ?_; rintro e wX ⟨rfl, hbX⟩; rw [HT.out]; have zX := hbX.size))
        go_ret
        exact ⟨ret_i HR.out.symm, BW.out.trans (hbX.mono (by omega))⟩
    · have hf := hf1 (by omega)
      cases ht : loA m P x y (-st)
      · have HT := Lib.hid ht
        have HT0 := Lib.hid hf
        clear ht hf1 hf2 hf
        go_wp2_with (first
          | (refine wpList_indexV rfl 166 2 _ _ rfl #[.int .i64 st, .int .i64 (-st)] _ _ (.int .i64 (-st)) rfl rfl Tryz.underlying166 (by omega) (by omega) rfl ?_)
          | (refine wpList_ldN rfl _ rfl w.heap.size (.slice p0 n c0) (.slice p1 m c1) x rfl g0 ?_)
          | (refine wpList_ldF rfl _ rfl (w.heap.size + 1) 0 Ly rfl nLy g1 ?_)
          | (go_at_call 168; rw [← HLy.out]; refine (isImprovedBy_any wr p0 p1 c0 c1 n N m P lo hi (HV.out.below BW.out hhi) (by omega) HBN.out x HX.out y HYB.out (-st) (by omega)).mono ?_; rintro e wX ⟨rfl, hbX⟩; rw [HT.out]; have zX := hbX.size))
        go_roundw
        case rel => exact ⟨2, by go_num, by omega, (fun _ => by first | exact HT0.out | trivial), (fun _ => by first | exact HT.out | trivial), by omega, HBB.out.trans (hbX.mono (by omega))⟩
        case measure => simp [intOf]
      · have HT := Lib.hid ht
        have HR := Lib.hid (show mvT m P x y st = -st by unfold mvT; rw [if_neg (by rw [hf]; simp), if_pos ht])
        clear ht hf1 hf2 hf
        go_wp2_with (first
          | (refine wpList_indexV rfl 166 2 _ _ rfl #[.int .i64 st, .int .i64 (-st)] _ _ (.int .i64 (-st)) rfl rfl Tryz.underlying166 (by omega) (by omega) rfl ?_)
          | (refine wpList_ldN rfl _ rfl w.heap.size (.slice p0 n c0) (.slice p1 m c1) x rfl g0 ?_)
          | (refine wpList_ldF rfl _ rfl (w.heap.size + 1) 0 Ly rfl nLy g1 ?_)
          | (go_at_call 168; rw [← HLy.out]; refine (isImprovedBy_any wr p0 p1 c0 c1 n N m P lo hi (HV.out.below BW.out hhi) (by omega) HBN.out x HX.out y HYB.out (-st) (by omega)).mono ?_; rintro e wX ⟨rfl, hbX⟩; rw [HT.out]; have zX := hbX.size))
        go_ret
        exact ⟨ret_i HR.out.symm, BW.out.trans (hbX.mono (by omega))⟩
    · have h1 := hf1 (by omega)
      have h2 := hf2 (by omega)
      have HR := Lib.hid (show mvT m P x y st = 0 by unfold mvT; rw [if_neg (by rw [h1]; simp), if_neg (by rw [h2]; simp)])
      clear h1 h2 hf1 hf2
      go_wp2_with fail
      go_ret
      exact ⟨ret_i HR.out.symm, BW.out⟩
end Go.Proofs.YtdbgcbkmcbgdiaaGreat.mem

namespace Go.Proofs.YtdbgcbkmcbgdiaaGreat.mem
open Go.RowKit
set_option linter.unusedVariables false

theorem results_nf2 {fn : Func} {p u : Tmp} {tmps : Array Value} {w : World} {b : Nat} {s0 s1 v : Value} {x : Nat → Int} (h : fn.results = #[.cell p 115, .tmp u]) (hp : tmps.getD p undef = .pointer (some ⟨b, 0, none⟩)) (hv : tmps.getD u undef = v) (ho : Ob w b 42 (nfc s0 s1 x)) : (results fn tmps).run Tryz.prog w = .ok (.tuple #[.agg (nfL s0 s1 x).toArray, v]) w := by
  obtain ⟨t, h1⟩ := ho.nrow
  rw [results_cell_tmp h, hp, hv]
  simp [asAddr, run_loadVar_row w b t 115 _ (0, 0) _ h1 Tryz.underlying115 rfl (by rw [List.size_toArray, nfL_len]; exact nf_info), Result.andThen]
theorem pad_cyc {n : Nat} {N : Nat → Nod} {P : Nat → Pip} {m : Nat} (hN : netB n N m P = true) {c : Nat} (hc : c < m) (x : Nat → Int) (t : Int) : (fun a => pad m x a + cyc P (fE n P m) (fD n P m) c a * t) = pad m (fun a => x a + t * cyc P (fE n P m) (fD n P m) c a) := by
  funext a
  by_cases h : a < m
  · rw [pad_at h, pad_at h, Int.mul_comm]
  · rw [cyc_off hN hc (by omega)]
    unfold pad
    rw [if_neg h, if_neg h]
    omega
theorem mvT_pad {n : Nat} {N : Nat → Nod} {P : Nat → Pip} {m : Nat} (hN : netB n N m P = true) {d : Nat → Int} {c : Nat} {st : Int} (hc : c < m) : mvT m P (pad m d) (cyc P (fE n P m) (fD n P m) c) st = mvB m P d (cyc P (fE n P m) (fD n P m) c) st := by
  unfold mvT mvB
  rw [loA_pad hN hc, loA_pad hN hc]
set_option maxRecDepth 100000 in
set_option maxHeartbeats 8000000 in
theorem relaxedFrom_any (w : World) (p0 p1 : Option Addr) (c0 c1 : Nat) (n : Nat) (N : Nat → Nod) (m : Nat) (P : Nat → Pip) (lo hi : Nat) (h : NetAt w (.agg #[.slice p0 n c0, .slice p1 m c1]) n N m P lo hi) (hhi : hi ≤ w.heap.size) (hB : netB n N m P = true) (x0 : Nat → Int) (hx : ∀ k, k < m → -30000 ≤ x0 k ∧ x0 k ≤ 30000) (st0 : Int) (hst : 1 ≤ st0 ∧ st0 ≤ 32768) :
    Calls Tryz.prog 95 #[.agg (nfL (.slice p0 n c0) (.slice p1 m c1) (pad m x0)).toArray, .int .i64 st0] w fun e w' => e = .returned (.tuple #[.agg (nfL (.slice p0 n c0) (.slice p1 m c1) (pad m (rlx m P (fun i => cyc P (fE n P m) (fD n P m) (chS n P m i)) (chN n P m) x0 st0).1)).toArray, .int .i64 (rlx m P (fun i => cyc P (fE n P m) (fD n P m) (chS n P m i)) (chN n P m) x0 st0).2]) ∧ Below w.heap.size w w' := by
  obtain ⟨hn1, hn24, hm40⟩ := net_sz hB
  have hcn := chN_le n P m
  have HV := Lib.hid h
  have HX0 := Lib.hid hx
  have HBN := Lib.hid hB
  have A0 := (Ob.newN w (.slice p0 n c0) (.slice p1 m c1) (pad m x0) 115).keep (Below.heap_alloc _ (.cells #[Value.slice none 0 0, Value.slice none 0 0, Value.int IntKind.i64 0, Value.int IntKind.i64 0, Value.int IntKind.i64 0, Value.int IntKind.i64 0, Value.int IntKind.i64 0, Value.int IntKind.i64 0, Value.int IntKind.i64 0, Value.int IntKind.i64 0, Value.int IntKind.i64 0, Value.int IntKind.i64 0, Value.int IntKind.i64 0, Value.int IntKind.i64 0, Value.int IntKind.i64 0, Value.int IntKind.i64 0, Value.int IntKind.i64 0, Value.int IntKind.i64 0, Value.int IntKind.i64 0, Value.int IntKind.i64 0, Value.int IntKind.i64 0, Value.int IntKind.i64 0, Value.int IntKind.i64 0, Value.int IntKind.i64 0, Value.int IntKind.i64 0, Value.int IntKind.i64 0, Value.int IntKind.i64 0, Value.int IntKind.i64 0, Value.int IntKind.i64 0, Value.int IntKind.i64 0, Value.int IntKind.i64 0, Value.int IntKind.i64 0, Value.int IntKind.i64 0, Value.int IntKind.i64 0, Value.int IntKind.i64 0, Value.int IntKind.i64 0, Value.int IntKind.i64 0, Value.int IntKind.i64 0, Value.int IntKind.i64 0, Value.int IntKind.i64 0, Value.int IntKind.i64 0, Value.int IntKind.i64 0] 115) _ (by rw [szal]; omega))
  have A1 := Ob.newZ (w.alloc (.cells (nfL (.slice p0 n c0) (.slice p1 m c1) (pad m x0)).toArray 115)) 115
  simp only [szal] at A1
  have B0 := (below_new w (.cells (nfL (.slice p0 n c0) (.slice p1 m c1) (pad m x0)).toArray 115)).trans ((below_new _ (.cells #[Value.slice none 0 0, Value.slice none 0 0, Value.int IntKind.i64 0, Value.int IntKind.i64 0, Value.int IntKind.i64 0, Value.int IntKind.i64 0, Value.int IntKind.i64 0, Value.int IntKind.i64 0, Value.int IntKind.i64 0, Value.int IntKind.i64 0, Value.int IntKind.i64 0, Value.int IntKind.i64 0, Value.int IntKind.i64 0, Value.int IntKind.i64 0, Value.int IntKind.i64 0, Value.int IntKind.i64 0, Value.int IntKind.i64 0, Value.int IntKind.i64 0, Value.int IntKind.i64 0, Value.int IntKind.i64 0, Value.int IntKind.i64 0, Value.int IntKind.i64 0, Value.int IntKind.i64 0, Value.int IntKind.i64 0, Value.int IntKind.i64 0, Value.int IntKind.i64 0, Value.int IntKind.i64 0, Value.int IntKind.i64 0, Value.int IntKind.i64 0, Value.int IntKind.i64 0, Value.int IntKind.i64 0, Value.int IntKind.i64 0, Value.int IntKind.i64 0, Value.int IntKind.i64 0, Value.int IntKind.i64 0, Value.int IntKind.i64 0, Value.int IntKind.i64 0, Value.int IntKind.i64 0, Value.int IntKind.i64 0, Value.int IntKind.i64 0, Value.int IntKind.i64 0, Value.int IntKind.i64 0] 115)).mono (by rw [szal]; omega))
  have hs0 : ((w.alloc (.cells (nfL (.slice p0 n c0) (.slice p1 m c1) (pad m x0)).toArray 115)).alloc (.cells #[Value.slice none 0 0, Value.slice none 0 0, Value.int IntKind.i64 0, Value.int IntKind.i64 0, Value.int IntKind.i64 0, Value.int IntKind.i64 0, Value.int IntKind.i64 0, Value.int IntKind.i64 0, Value.int IntKind.i64 0, Value.int IntKind.i64 0, Value.int IntKind.i64 0, Value.int IntKind.i64 0, Value.int IntKind.i64 0, Value.int IntKind.i64 0, Value.int IntKind.i64 0, Value.int IntKind.i64 0, Value.int IntKind.i64 0, Value.int IntKind.i64 0, Value.int IntKind.i64 0, Value.int IntKind.i64 0, Value.int IntKind.i64 0, Value.int IntKind.i64 0, Value.int IntKind.i64 0, Value.int IntKind.i64 0, Value.int IntKind.i64 0, Value.int IntKind.i64 0, Value.int IntKind.i64 0, Value.int IntKind.i64 0, Value.int IntKind.i64 0, Value.int IntKind.i64 0, Value.int IntKind.i64 0, Value.int IntKind.i64 0, Value.int IntKind.i64 0, Value.int IntKind.i64 0, Value.int IntKind.i64 0, Value.int IntKind.i64 0, Value.int IntKind.i64 0, Value.int IntKind.i64 0, Value.int IntKind.i64 0, Value.int IntKind.i64 0, Value.int IntKind.i64 0, Value.int IntKind.i64 0] 115)).heap.size = w.heap.size + 2 := by simp
  have e0 := A0.n0
  have e1 := A0.n1
  clear h hB hx
  go_enter Tryz.func95, Tryz.ntmps95
  go_upto_region 1 with (fail)
  obtain ⟨w1, hw1⟩ : ∃ w1, (w.alloc (.cells (nfL (.slice p0 n c0) (.slice p1 m c1) (pad m x0)).toArray 115)).alloc (.cells #[Value.slice none 0 0, Value.slice none 0 0, Value.int IntKind.i64 0, Value.int IntKind.i64 0, Value.int IntKind.i64 0, Value.int IntKind.i64 0, Value.int IntKind.i64 0, Value.int IntKind.i64 0, Value.int IntKind.i64 0, Value.int IntKind.i64 0, Value.int IntKind.i64 0, Value.int IntKind.i64 0, Value.int IntKind.i64 0, Value.int IntKind.i64 0, Value.int IntKind.i64 0, Value.int IntKind.i64 0, Value.int IntKind.i64 0, Value.int IntKind.i64 0, Value.int IntKind.i64 0, Value.int IntKind.i64 0, Value.int IntKind.i64 0, Value.int IntKind.i64 0, Value.int IntKind.i64 0, Value.int IntKind.i64 0, Value.int IntKind.i64 0, Value.int IntKind.i64 0, Value.int IntKind.i64 0, Value.int IntKind.i64 0, Value.int IntKind.i64 0, Value.int IntKind.i64 0, Value.int IntKind.i64 0, Value.int IntKind.i64 0, Value.int IntKind.i64 0, Value.int IntKind.i64 0, Value.int IntKind.i64 0, Value.int IntKind.i64 0, Value.int IntKind.i64 0, Value.int IntKind.i64 0, Value.int IntKind.i64 0, Value.int IntKind.i64 0, Value.int IntKind.i64 0, Value.int IntKind.i64 0] 115) = w1 := ⟨_, rfl⟩
  rw [hw1] at A0 A1 B0 hs0 e0 e1 ⊢
  clear hw1
  have HA := Lib.hid A0
  have HA1 := Lib.hid A1
  have HB := Lib.hid B0
  replace hs0 := Nat.le_antisymm_iff.1 hs0
  clear A0 A1 B0
  go_step3
  go_wp2_with fail
  refine (cycles_any w1 _ n N m P lo hi (HV.out.below HB.out hhi) (by omega) HBN.out).mono ?_
  rintro e w3 ⟨vc, gc, rfl, oc, hgc, b3⟩
  obtain ⟨pc, cc, rfl⟩ := ownS_shE oc
  have hs3 := b3.size
  have HB3 := Lib.hid (HB.out.trans (b3.mono (by omega)))
  have HA3 := Lib.hid (HA.out.below b3 (by omega))
  have HA4 := Lib.hid (HA1.out.below b3 (by omega))
  generalize hY : (fun i => cyc P (fE n P m) (fD n P m) (chS n P m i)) = Y at *
  have HYE := Lib.hid hY
  have HC := Lib.hid (show OwnS w3 (.slice pc (chN n P m) cc) (chN n P m) 40 (fun j => ia (Y j)) gc by rw [← hY]; exact oc)
  clear oc b3 HB HA HA1 e0 e1 hY
  have hgc2 : gc ≠ w.heap.size ∧ gc ≠ w.heap.size + 1 ∨ chN n P m = 0 := by omega
  go_wp2_with fail
  go_step3
  go_wp2_with fail
  go_loopw [1, 6] (fun sv mv wr => ∃ (f : Nat) (x : Nat → Int) (tot st : Int), sv = .int .i64 st ∧ mv = .int .i64 tot ∧ 0 ≤ st ∧ st ≤ 32768 ∧ 0 ≤ tot ∧ tot ≤ 5000 ∧ 5000 - tot + st ≤ f ∧ rlS m P Y (chN n P m) f x tot st = rlx m P Y (chN n P m) x0 st0 ∧ (∀ k, k < m → -30000 ≤ x k ∧ x k ≤ 30000) ∧ Ob wr w.heap.size 42 (nfc (.slice p0 n c0) (.slice p1 m c1) (pad m x)) ∧ Ob wr (w.heap.size + 1) 42 (nfc (.slice none 0 0) (.slice none 0 0) (fun _ => 0)) ∧ OwnS wr (.slice pc (chN n P m) cc) (chN n P m) 40 (fun j => ia (Y j)) gc ∧ w3.heap.size ≤ wr.heap.size ∧ Below w.heap.size w wr) (fun sv mv _ => (5000 - intOf mv + intOf sv).toNat)
  case atStart => exact ⟨5000 + st0.toNat, x0, 0, st0, rfl, rfl, by omega, by omega, by omega, by omega, by omega, rfl, HX0.out, HA3.out, HA4.out, HC.out, Nat.le_refl _, HB3.out⟩
  case round =>
    obtain ⟨f, x, tot, st, rfl, rfl, s0, s1, t0, t1, hf, hrl, hxr, hob, ho1, hoc, hsz, hb⟩ := hrel
    have HRL := Lib.hid hrl
    have HXR := Lib.hid hxr
    have HOB := Lib.hid hob
    have HO1 := Lib.hid ho1
    have HOC := Lib.hid hoc
    have HBB := Lib.hid hb
    clear hrl hxr hob ho1 hoc hb HA3 HA4 HC HB3
    by_cases hs1 : 0 < st
    · have hd1 : decide (0 < st) = true := decide_eq_true hs1
      obtain ⟨f', rfl⟩ : ∃ f', f = f' + 1 := ⟨f - 1, by omega⟩
      have htot := And.intro t0 t1
      go_wp2_with fail
      go_loopw [6, 20] (fun mv iv wr2 => ∃ (k : Nat) (x' : Nat → Int) (mo : Int), mv = .int .i64 (tot + mo) ∧ iv = .int .i64 k ∧ k ≤ chN n P m ∧ (x', mo) = psS m P Y x st (5000 - tot) k ∧ Ob wr2 w.heap.size 42 (nfc (.slice p0 n c0) (.slice p1 m c1) (pad m x')) ∧ Ob wr2 (w.heap.size + 1) 42 (nfc (.slice none 0 0) (.slice none 0 0) (fun _ => 0)) ∧ OwnS wr2 (.slice pc (chN n P m) cc) (chN n P m) 40 (fun j => ia (Y j)) gc ∧ w3.heap.size ≤ wr2.heap.size ∧ Below w.heap.size w wr2) (fun _ iv _ => chN n P m - (intOf iv).toNat)
      case atStart => exact ⟨0, x, 0, by rw [Int.add_zero], rfl, Nat.zero_le _, rfl, HOB.out, HO1.out, HOC.out, hsz, HBB.out⟩
      case round =>
        obtain ⟨k, x', mo, rfl, rfl, hk, hps, hob, ho1, hoc, hsz2, hb⟩ := hrel
        have HPS := Lib.hid hps
        have hcnt : 0 ≤ mo ∧ mo ≤ 5000 - tot ∧ mo ≤ k := by
          have := psS_cnt (m := m) (P := P) (Y := Y) (x := x) (step := st) (show 0 ≤ 5000 - tot by omega) k
          rw [← hps] at this
          exact this
        have HXP := Lib.hid (show ∀ a, a < m → -30000 ≤ x' a ∧ x' a ≤ 30000 from fun a ha => by
          have := psS_rng (P := P) (Y := Y) (step := st) (left := 5000 - tot) HXR.out k a ha
          rw [← hps] at this
          exact this)
        have HOB := Lib.hid hob
        have HO1 := Lib.hid ho1
        have HC := Lib.hid hoc
        have BW := Lib.hid hb
        clear hps hob ho1 hoc hb HOC HBB
        have k0 : (0 : Int) ≤ (k : Int) := Int.natCast_nonneg _
        have hir : hi ≤ wr.heap.size := by omega
        by_cases hlt : k < chN n P m
        · have k1 : (k : Int) < (chN n P m : Int) := by omega
          obtain ⟨hcm, hcp⟩ := chS_at (n := n) (P := P) (m := m) hlt
          have HCR := Lib.hid (show ∀ a, a < 40 → -1 ≤ Y k a ∧ Y k a ≤ 1 from fun a _ => by rw [← HYE.out]; exact cyc_one HBN.out hcm hcp a)
          have HPC := Lib.hid (show ∀ t, (fun a => pad m x' a + Y k a * t) = pad m (fun a => x' a + t * Y k a) from fun t => by rw [← HYE.out]; exact pad_cyc HBN.out hcm x' t)
          have HMT := Lib.hid (show mvT m P (pad m x') (Y k) st = mvB m P x' (Y k) st by rw [← HYE.out]; exact mvT_pad HBN.out hcm)
          have HP1 := Lib.hid (show mo < 5000 - tot → mvB m P x' (Y k) st ≠ 0 → psS m P Y x st (5000 - tot) (k + 1) = (fun a => x' a + mvB m P x' (Y k) st * Y k a, mo + 1) from fun h1 h2 => ps_move HPS.out h1 h2)
          have HP2 := Lib.hid (show mo < 5000 - tot → mvB m P x' (Y k) st = 0 → psS m P Y x st (5000 - tot) (k + 1) = (x', mo) from fun h1 h2 => ps_stay HPS.out h1 (by omega) h2)
          have hmv := mvB_rng (m := m) (P := P) (x := x') (y := Y k) (st := st) (by omega)
          have HVI := Lib.hid (mvB_in (P := P) (x := x') (y := Y k) (st := st) HXP.out)
          have HMX := Lib.hid (rl_break (f := f') (by omega) htot hk HPS.out)
          obtain ⟨eq5, lg5, hKc, g5⟩ := own_rng HC.out hlt
          subst eq5
          generalize hy : Y k = y at *
          clear hy
          obtain ⟨Ly, hLy, eLy⟩ : ∃ L : List Value, arr y = List.toArray L ∧ L = arrL y := ⟨_, rfl, rfl⟩
          rw [← eLy] at g5
          have nLy : Ly.length = 40 := by rw [eLy, arr_len]
          have oLy : ∀ v ∈ Ly, v.oneCell' = true := by rw [eLy]; exact arr_oneL _
          have HLy := Lib.hid hLy
          have HEy := Lib.hid eLy
          clear hLy eLy
          have tC : (wr.alloc (.cells (arr fun _ => 0) 111)).there wr.heap.size 0 40 := (Ob.newA wr _ _).there
          generalize hmq : mvB m P x' y st = t at *
          clear hmq
          go_upto_region 8 with (first
            | (refine wpList_ixF rfl _ _ rfl gc _ _ k rfl rfl hlt ?_)
            | (refine wpList_ldF rfl _ rfl gc (k * 40) Ly rfl nLy g5 ?_)
            | (refine wpList_allocF rfl rfl ?_)
            | (refine wpList_stF rfl _ _ rfl wr.heap.size Ly rfl rfl nLy oLy tC ?_))
          clear tC g5
          have C0 := (Ob.newA wr (fun _ => 0) 111).setArr y
          rw [← HEy.out] at C0
          have bC := (below_new wr (.cells (arr fun _ => 0) 111)).trans (((Only.refl wr.heap.size (wr.alloc (.cells (arr fun _ => 0) 111))).setCs Ly 0).below (Nat.le_refl _))
          have lC := C0.lt
          obtain ⟨w5, hw5⟩ : ∃ w5, (wr.alloc (.cells (arr fun _ => 0) 111)).setCells wr.heap.size 0 Ly = w5 := ⟨_, rfl⟩
          obtain ⟨bc, hbc⟩ : ∃ bc, wr.heap.size = bc := ⟨_, rfl⟩
          rw [hw5] at C0 bC lC ⊢
          have s5 := bC.size
          rw [hbc] at C0 lC ⊢
          have hbc2 := Nat.le_antisymm_iff.1 hbc
          clear hw5 hbc
          have HC5 := Lib.hid C0
          have g1 : w5.rangeAt bc 0 Ly := by rw [HEy.out]; exact (HC5.out.congr (fun k _ => by rfl)).range
          clear C0
          have HB5 := Lib.hid (BW.out.trans (bC.mono (by omega)))
          have HOB5 := Lib.hid (HOB.out.below bC (by omega))
          have HO15 := Lib.hid (HO1.out.below bC (by omega))
          have HOC5 := Lib.hid (HC.out.below bC (by omega))
          have l5 : w.heap.size + 1 < w5.heap.size := by omega
          have gne : gc ≠ w.heap.size ∧ gc ≠ w.heap.size + 1 := by omega
          have hbd : ∀ a, a < 40 → -90000 ≤ y a * t ∧ y a * t ≤ 90000 := fun a ha => by
            have := mulc (b := 32768) hmv (HCR.out a ha)
            rw [Int.mul_comm]
            omega
          have HBD := Lib.hid hbd
          have HPR := Lib.hid (show ∀ a, -30000 ≤ pad m x' a ∧ pad m x' a ≤ 30000 from fun a => pad_rng HXP.out a)
          clear bC hbd HOB HO1 HC BW
          by_cases hmx : tot + mo = 5000
          · have hb5 : (tot + mo == 5000) = true := by simpa using hmx
            have HR := Lib.hid (show rlx m P Y (chN n P m) x0 st0 = (x', 5000) by rw [← HRL.out]; exact HMX.out hmx)
            clear HP1 HP2 HMX
            have g0 := HOB5.out.nall
            have t5 := HO15.out.there
            go_wp2_with (first
              | (refine wpList_ldN rfl _ rfl w.heap.size (.slice p0 n c0) (.slice p1 m c1) (pad m x') rfl g0 ?_)
              | (refine wpList_stN rfl _ _ rfl (w.heap.size + 1) (.slice p0 n c0) (.slice p1 m c1) (pad m x') rfl rfl rfl rfl t5 ?_))
            have a6 := HO15.out.nput (.slice p0 n c0) (.slice p1 m c1) (pad m x')
            try rw [Exit.noGoto_ret]
            refine bodyPost_ret (results_nf2 rfl rfl rfl a6) rfl ⟨by (first | rw [HYE.out, HR.out] | rw [HR.out]); try rfl, HB5.out.trans (((Only.refl (w.heap.size + 1) w5).setCs (nfL (.slice p0 n c0) (.slice p1 m c1) (pad m x')) 0).below (by omega))⟩
          · have hb5 : (tot + mo == 5000) = false := by simpa using hmx
            have hml : mo < 5000 - tot := by omega
            have hw1 : IntKind.i64.wrap (tot + mo + 1) = tot + mo + 1 := IntWalk.i64_in _ (by omega)
            have g0 := HOB5.out.nall
            by_cases ht0 : t = 0
            · have hb6 : (t != 0) = false := by simpa using ht0
              have HN := Lib.hid (HP2.out hml ht0)
              clear HP1 HP2 HMX ht0
              go_wp2_with (first
                | (refine wpList_ldN rfl _ rfl w.heap.size (.slice p0 n c0) (.slice p1 m c1) (pad m x') rfl g0 ?_)
                | (refine wpList_ldF rfl _ rfl bc 0 Ly rfl nLy g1 ?_)
                | (go_at_call 145; rw [← HLy.out]; refine (moveOf_any w5 p0 p1 c0 c1 n N m P lo hi (HV.out.below HB5.out hhi) (by omega) HBN.out (pad m x') (fun a _ => HPR.out a) y HCR.out st (by omega)).mono ?_; rintro e wX ⟨rfl, hbX⟩; rw [HMT.out]; have zX := hbX.size))
              go_roundw
              case rel => exact ⟨k + 1, x', mo, rfl, by go_num, hlt, HN.out.symm, HOB5.out.below hbX (by omega), HO15.out.below hbX (by omega), HOC5.out.below hbX (Nat.le_refl _), by omega, HB5.out.trans (hbX.mono (by omega))⟩
              case measure => simp [intOf]; omega
            · have hb6 : (t != 0) = true := by simpa using ht0
              have HN := Lib.hid (HP1.out hml ht0)
              have HPC2 := Lib.hid (HPC.out t)
              clear HP1 HP2 HMX ht0 HPC
              generalize hz : (fun a => x' a + t * y a) = z at *
              clear hz
              have HKS := Lib.hid (show ∀ W : World, Below w5.heap.size w5 W → W.rangeAt w.heap.size 0 (nfL (.slice p0 n c0) (.slice p1 m c1) (pad m x')) ∧ W.rangeAt bc 0 Ly from fun W hW => ⟨range_blockN g0 (hW.block _ (by omega)), range_blockN g1 (hW.block _ lC)⟩)
              go_upto_region 12 with (first
                | (refine wpList_ldN rfl _ rfl w.heap.size (.slice p0 n c0) (.slice p1 m c1) (pad m x') rfl g0 ?_)
                | (refine wpList_ldF rfl _ rfl bc 0 Ly rfl nLy g1 ?_)
                | (refine wpList_ldN rfl _ rfl w.heap.size (.slice p0 n c0) (.slice p1 m c1) (pad m x') rfl g2 ?_)
                | (refine wpList_ldF rfl _ rfl bc 0 Ly rfl nLy g3 ?_)
                | (go_at_call 145; rw [← HLy.out]; refine (moveOf_any w5 p0 p1 c0 c1 n N m P lo hi (HV.out.below HB5.out hhi) (by omega) HBN.out (pad m x') (fun a _ => HPR.out a) y HCR.out st (by omega)).mono ?_; rintro e wX ⟨rfl, hbX⟩; rw [HMT.out]; have zX := hbX.size; have g2 := (HKS.out wX hbX).1; have g3 := (HKS.out wX hbX).2)
                | (go_at_call 146; have hpc := plusCycle_any wX (.slice p0 n c0) (.slice p1 m c1) rfl rfl (pad m x') y t (fun a ha => by have h1 := HBD.out a ha; have h2 := HPR.out a; omega) (fun a ha => by have h1 := HBD.out a ha; omega); rw [HPC2.out, HLy.out] at hpc; refine hpc.mono ?_; clear hpc; rintro e wC ⟨rfl, hbC⟩; have zC := hbC.size; have hC5 := hbX.trans (hbC.mono zX); have t5 := (HOB5.out.below hC5 (by omega)).there)
                | (refine wpList_stN rfl _ _ rfl w.heap.size (.slice p0 n c0) (.slice p1 m c1) (pad m z) rfl rfl rfl rfl t5 ?_))
              have oy := (Only.refl w.heap.size wC).setCs (nfL (.slice p0 n c0) (.slice p1 m c1) (pad m z)) 0
              have zz : wC.heap.size ≤ (wC.setCells w.heap.size 0 (nfL (.slice p0 n c0) (.slice p1 m c1) (pad m z))).heap.size := (oy.below (B := 0) (Nat.zero_le _)).size
              have q1 := Lib.hid ((HOB5.out.below hC5 (by omega)).nput (.slice p0 n c0) (.slice p1 m c1) (pad m z))
              have q2 := Lib.hid ((HO15.out.below hC5 (by omega)).only oy (by omega))
              have q3 := Lib.hid ((HOC5.out.below hC5 (Nat.le_refl _)).keep (.inr (oy.block gc gne.1)))
              have q4 := Lib.hid ((HB5.out.trans (hC5.mono (by omega))).trans (oy.below (Nat.le_refl _)))
              obtain ⟨wS, hwS⟩ : ∃ wS, wC.setCells w.heap.size 0 (nfL (.slice p0 n c0) (.slice p1 m c1) (pad m z)) = wS := ⟨_, rfl⟩
              rw [hwS] at q1 q2 q3 q4 zz ⊢
              have zS : w3.heap.size ≤ wS.heap.size := by omega
              clear hwS oy zz g2 g3 g0 g1 hbX hbC hC5 t5
              go_wp2_with fail
              go_roundw
              case rel => exact ⟨k + 1, z, mo + 1, by rw [Int.add_assoc], by go_num, hlt, HN.out.symm, q1.out, q2.out, q3.out, zS, q4.out⟩
              case measure => simp [intOf]; omega
        · have hkn : k = chN n P m := by omega
          have HRN := Lib.hid (show rlS m P Y (chN n P m) f' x' (tot + mo) (if mo = 0 then st / 2 else st) = rlx m P Y (chN n P m) x0 st0 by rw [← rl_pass (by omega) htot (by rw [← hkn]; exact HPS.out)]; exact HRL.out)
          have k1 : ¬ ((k : Int) < (chN n P m : Int)) := by omega
          clear hkn
          by_cases hm0 : mo = 0
          · subst hm0
            have hR2 := HRN.out
            rw [if_pos rfl] at hR2
            have HR2 := Lib.hid hR2
            have hb5 : (tot + 0 == tot) = true := by simp
            have hd4 : st.tdiv 2 = st / 2 := Int.tdiv_eq_ediv_of_nonneg s0
            have hq0 : 0 ≤ st / 2 ∧ st / 2 < st := by omega
            clear hR2
            go_wp2_with fail
            go_roundw
            case rel => exact ⟨f', x', tot + 0, st / 2, rfl, rfl, by omega, by omega, by omega, by omega, by omega, HR2.out, HXP.out, HOB.out, HO1.out, HC.out, hsz2, BW.out⟩
            case measure => simp [intOf]; omega
          · have hR2 := HRN.out
            rw [if_neg hm0] at hR2
            have HR2 := Lib.hid hR2
            have hb5 : (tot + mo == tot) = false := by simpa using (show ¬ tot + mo = tot by omega)
            clear hR2
            go_wp2_with fail
            go_roundw
            case rel => exact ⟨f', x', tot + mo, st, rfl, rfl, by omega, by omega, by omega, by omega, by omega, HR2.out, HXP.out, HOB.out, HO1.out, HC.out, hsz2, BW.out⟩
            case measure => simp [intOf]; omega
    · have hd1 : decide (0 < st) = false := decide_eq_false hs1
      have HR := Lib.hid (show rlx m P Y (chN n P m) x0 st0 = (x, tot) by rw [← HRL.out, rlS_stop (by omega)])
      have g0 := HOB.out.nall
      have t5 := HO1.out.there
      go_wp2_with (first
        | (refine wpList_ldN rfl _ rfl w.heap.size (.slice p0 n c0) (.slice p1 m c1) (pad m x) rfl g0 ?_)
        | (refine wpList_stN rfl _ _ rfl (w.heap.size + 1) (.slice p0 n c0) (.slice p1 m c1) (pad m x) rfl rfl rfl rfl t5 ?_))
      have a6 := HO1.out.nput (.slice p0 n c0) (.slice p1 m c1) (pad m x)
      try rw [Exit.noGoto_ret]
      refine bodyPost_ret (results_nf2 rfl rfl rfl a6) rfl ⟨by (first | rw [HYE.out, HR.out] | rw [HR.out]); try rfl, HBB.out.trans (((Only.refl (w.heap.size + 1) wr).setCs (nfL (.slice p0 n c0) (.slice p1 m c1) (pad m x)) 0).below (by omega))⟩
end Go.Proofs.YtdbgcbkmcbgdiaaGreat.mem

namespace Go.Proofs.YtdbgcbkmcbgdiaaGreat.mem
open Go.RowKit
set_option linter.unusedVariables false

theorem inF_has {n : Nat} {P : Nat → Pip} {m a : Nat} (ha : a < m) : hasB (forest n P m).length (lD (forest n P m)) ((a : Nat) : Int) = inF n P m (fl (rts n P m) n) a := by
  cases hp : inF n P m (fl (rts n P m) n) a
  · refine hasB_no fun k hk e => ?_
    obtain ⟨b, hb, hb2, hb3, _⟩ := forest_at hk
    obtain rfl : b = a := by omega
    rw [hp] at hb2
    cases hb2
  · obtain ⟨h1, h2⟩ := forest_idx ha hp
    exact hasB_yes h1 h2
set_option maxRecDepth 100000 in
set_option maxHeartbeats 8000000 in
theorem l05Chords_any (w : World) (v : Value) (n : Nat) (N : Nat → Nod) (m : Nat) (P : Nat → Pip) (lo hi : Nat) (h : NetAt w v n N m P lo hi) (hhi : hi ≤ w.heap.size) (hN : ∀ i, i < n → (N i).s.size ≤ 9223372036854775807) (hB : netB n N m P = true) :
    Calls Tryz.prog 129 #[v] w fun e w' => ∃ v2 g, e = .returned v2 ∧ Own w' v2 (chN n P m) (fd (chP n P m) m) g ∧ w.heap.size ≤ g ∧ Below w.heap.size w w' := by
  have hm40 := (net_sz hB).2.2
  have HB := Lib.hid hB
  clear hB
  obtain ⟨p0, c0, p1, c1, rfl, hn9, hm9⟩ := h.parts
  have HV := Lib.hid h
  have HN := Lib.hid hN
  have A0 := boxed w (.slice p0 n c0) (.slice p1 m c1) 27
  have B0 := below_new w (.cells #[.slice p0 n c0, .slice p1 m c1] 27)
  have hs0 : (w.alloc (.cells #[.slice p0 n c0, .slice p1 m c1] 27)).heap.size = w.heap.size + 1 := by simp
  clear h hN
  go_enter Tryz.func129, Tryz.ntmps129
  have e0' := A0.b0
  have e1' := A0.b1
  go_wp2_with fail
  refine (l04Forest_any _ _ n N m P lo hi (HV.out.below B0 hhi) (by omega) HN.out HB.out).mono ?_
  rintro e w1 ⟨vf, gf, rfl, hgf, of, b1⟩
  obtain ⟨cf, rfl⟩ := of.shape
  have A1 := A0.below b1 (by omega)
  have B1 := B0.trans (b1.mono (by omega))
  have hs1 := b1.size
  have b2 := below_new w1 (.cells #[] 2)
  have HA := Lib.hid (A1.below b2 (by omega))
  have HBB := Lib.hid (B1.trans (b2.mono (by omega)))
  have HF := Lib.hid (of.below b2 (Nat.le_refl _))
  have HO := Lib.hid (Own.nilled w1 (fd (chP n P m) 0))
  have hgl := of.lt
  have hs2 : (w1.alloc (.cells #[] 2)).heap.size = w1.heap.size + 1 := by simp
  clear A0 B0 A1 B1 b1 b2 of e0' e1'
  go_wp2_with fail
  generalize hW : w1.alloc (.cells #[] 2) = w2 at *
  clear hW
  have hfm := forest_le n P m
  go_loopw [4, 5] (fun ov iv wr => ∃ (k g : Nat) (ov' : Value), ov' = ov ∧ iv = .int .i64 k ∧ k ≤ m ∧ Own wr ov' (fl (chP n P m) k).length (fd (chP n P m) k) g ∧ w.heap.size < g ∧ g ≠ gf ∧ Own wr (.slice (some ⟨gf, 0, none⟩) (forest n P m).length cf) (forest n P m).length (lD (forest n P m)) gf ∧ Ob wr w.heap.size 2 (bx (.slice p0 n c0) (.slice p1 m c1)) ∧ Below w.heap.size w wr) (fun _ iv _ => m - (intOf iv).toNat)
  case atStart => exact ⟨0, w1.heap.size, _, rfl, rfl, Nat.zero_le _, HO.out, by omega, by omega, HF.out, HA.out, HBB.out⟩
  case round =>
    obtain ⟨k, g, ov, rfl, rfl, hk, ho, hg, hne, of, oa, hb⟩ := hrel
    obtain ⟨co, rfl⟩ := ho.shape
    clear HF HO HA HBB
    have HO := Lib.hid ho
    have HF := Lib.hid of
    have HA := Lib.hid oa
    have HBB := Lib.hid hb
    have lg := ho.lt
    have lf := of.lt
    have la := oa.lt
    have e1 : wr.cell? ⟨w.heap.size, 1, none⟩ = some (.slice p1 m c1) := oa.b1
    clear ho of oa hb
    have k0 : (0 : Int) ≤ (k : Int) := Int.natCast_nonneg _
    generalize hQ : Exit.then _ _ = Q
    have HQ := Lib.hid hQ
    clear hQ
    by_cases hlt : k < m
    · have k1 : (k : Int) < (m : Int) := by omega
      have hih := inF_has (n := n) (P := P) hlt
      cases hp : inF n P m (fl (rts n P m) n) k
      · have hpc : chP n P m k = true := by unfold chP; rw [hp]; rfl
        rw [hp] at hih
        obtain ⟨v7, w7, g7, hr, ap⟩ := coll_run wr _ (chP n P m) k g HO.out (by omega)
        have Y := coll_below ap (B := w.heap.size + 1) (by omega) lg
        have O7 := Lib.hid (fl_app hpc ap)
        have hoth := ap.other (c := gf) (fun e => hne e.symm) (by rw [szal]; omega)
        have hotA := ap.other (c := w.heap.size) (by omega) (by rw [szal]; omega)
        have HF7 := Lib.hid ((HF.out.alloc _).keep hoth.1)
        have HA7 := Lib.hid ((HA.out.keep (Below.heap_alloc _ (.cells #[.int .i64 (k : Nat)] 2) _ la)).keep hotA.1)
        have HB7 := Lib.hid (HBB.out.trans (Y.1.mono (by omega)))
        have hg7 := Y.2
        have hne7 := hoth.2
        clear ap hoth hotA Y hp hpc
        go_wp2_with (first | (go_at_call 161; refine (l02Has_any _ _ _ (lD (forest n P m)) 0 _ (HF.out.ownS.cs (.inr rfl) (Nat.le_refl _)) _).mono ?_; rintro e w' ⟨rfl, rfl⟩; rw [hih]) | (at_builtin; refine wpList_app hr rfl _ _ rfl rfl rfl rfl ?_))
        rw [← HQ.out]
        refine ⟨⟨_, _, _, _, _, _, _, _, _, _, _, _, _, _, _, _, _, ?rel, rfl⟩, ?measure⟩
        case rel => exact ⟨k + 1, g7, _, rfl, by go_num, hlt, O7.out, by omega, fun e => hne7 e.symm, HF7.out, HA7.out, HB7.out⟩
        case measure => simp [intOf]; omega
      · have HPC := Lib.hid (show chP n P m k = false by unfold chP; rw [hp]; rfl)
        rw [hp] at hih
        clear hp
        go_wp2_with (go_at_call 161; refine (l02Has_any _ _ _ (lD (forest n P m)) 0 _ (HF.out.ownS.cs (.inr rfl) (Nat.le_refl _)) _).mono ?_; rintro e w' ⟨rfl, rfl⟩; rw [hih])
        rw [← HQ.out]
        refine ⟨⟨_, _, _, _, _, _, _, _, _, _, _, _, _, _, _, _, _, ?rel, rfl⟩, ?measure⟩
        case rel => exact ⟨k + 1, g, _, rfl, by go_num, hlt, fl_keep HPC.out HO.out, hg, hne, HF.out, HA.out, HBB.out⟩
        case measure => simp [intOf]; omega
    · have hkn : m = k := by omega
      subst hkn
      have k1 : ¬ ((m : Int) < (m : Int)) := by omega
      go_wp2_with fail
      rw [← HQ.out]
      go_wp2_with fail
      go_ret
      exact ⟨_, g, rfl, HO.out, by omega, HBB.out⟩
theorem l05Flow_any (w : World) (x : Int) : Calls Tryz.prog 102 #[.int .i64 x] w fun e w' => e = .returned (.bool (flQ x)) ∧ w = w' := by
  unfold flQ
  go_enter Tryz.func102, Tryz.ntmps102
  go_wp2_with (go_at_call 117; refine (l01In_any _ _ _ _).mono ?_; rintro e w' ⟨rfl, rfl⟩)
  go_ret
  exact ⟨rfl, rfl⟩
/-- is a list one of flows of a network with m pipes? -/
def liB (m K : Nat) (d : Nat → Int) : Bool := flB d K && decide (K = m)
set_option maxRecDepth 100000 in
set_option maxHeartbeats 8000000 in
theorem l05List_any (w : World) (p0 p1 : Option Addr) (n m c0 c1 : Nat) (va : Value) (K : Nat) (d : Nat → Int) (la ha : Nat) (hv : Sl w va K d la ha) (hha : ha ≤ w.heap.size) (hK9 : K ≤ 9223372036854775807) (hm9 : m ≤ 9223372036854775807) :
    Calls Tryz.prog 52 #[.agg #[.slice p0 n c0, .slice p1 m c1], va] w fun e w' => e = .returned (.bool (liB m K d)) ∧ Below w.heap.size w w' := by
  have A0 := boxed w (.slice p0 n c0) (.slice p1 m c1) 27
  have B0 := Lib.hid (below_new w (.cells #[.slice p0 n c0, .slice p1 m c1] 27))
  have H1 := Lib.hid (hv.below B0.out hha)
  obtain ⟨p, cap, rfl, hc⟩ := hv.below B0.out hha
  have HC := Lib.hid hc
  have e1 := A0.b1
  clear hc A0 hv
  go_enter Tryz.func52, Tryz.ntmps52
  go_wp2_with fail
  obtain ⟨w1, hw1⟩ : ∃ w1, w.alloc (.cells #[.slice p0 n c0, .slice p1 m c1] 27) = w1 := ⟨_, rfl⟩
  rw [hw1] at B0 HC e1 ⊢
  clear hw1 H1
  go_loopw [5] (fun iv wr => ∃ k : Nat, iv = .int .i64 k ∧ k ≤ K ∧ flB d k = true ∧ wr = w1) (fun iv _ => K - (intOf iv).toNat)
  case atStart => exact ⟨0, rfl, Nat.zero_le _, rfl, rfl⟩
  case round =>
    obtain ⟨k, rfl, hk, hb, rfl⟩ := hrel
    generalize hQ : Exit.then _ _ = Q
    have HQ := Lib.hid hQ
    clear hQ
    have HF := Lib.hid hb
    clear hb
    have k0 : (0 : Int) ≤ (k : Int) := Int.natCast_nonneg _
    by_cases hlt : k < K
    · have k1 : (k : Int) < (K : Int) := by omega
      obtain ⟨b, o, rfl, _, _, hx⟩ : ∃ b o, p = some ⟨b, o, none⟩ ∧ la ≤ b ∧ b < ha ∧ ∀ k, k < K → wr.cell? ⟨b, o + k, none⟩ = some (.int .i64 (d k)) := by
        rcases HC.out with e | e
        · omega
        · exact e
      have y0 := hx k hlt
      have HX := Lib.hid hx
      clear hx
      cases hq : flQ (d k)
      · have HR := Lib.hid (show liB m K d = false by unfold liB; rw [flB_no hlt hq]; rfl)
        go_wp2_with (go_at_call 102; refine (l05Flow_any _ _).mono ?_; rintro e w' ⟨rfl, rfl⟩; rw [hq])
        rw [← HQ.out]
        go_wp2_with fail
        go_ret
        exact ⟨ret_b HR.out.symm, B0.out⟩
      · have HR := Lib.hid (show flB d (k + 1) = true by unfold flB; rw [HF.out, hq]; rfl)
        go_wp2_with (go_at_call 102; refine (l05Flow_any _ _).mono ?_; rintro e w' ⟨rfl, rfl⟩; rw [hq])
        rw [← HQ.out]
        refine ⟨⟨_, _, _, _, _, _, _, _, _, _, _, _, _, _, ?rel, rfl⟩, ?measure⟩
        case rel => exact ⟨k + 1, by go_num, hlt, HR.out, rfl⟩
        case measure => simp [intOf]; omega
    · have hkn : K = k := by omega
      have HR := Lib.hid (show liB m K d = decide (K = m) by unfold liB; rw [hkn, HF.out]; rfl)
      have hb2 : ((K : Int) == (m : Int)) = decide (K = m) := by
        by_cases e : K = m
        · simp [e]
        · rw [decide_eq_false e]; simp; omega
      subst hkn
      have k1 : ¬ ((K : Int) < (K : Int)) := by omega
      go_wp2_with fail
      rw [← HQ.out]
      go_wp2_with fail
      go_ret
      refine ⟨ret_b ?_, B0.out⟩
      first | exact HR.out.symm | (rw [HR.out, ← hb2])
theorem liB_iff {m K : Nat} {d : Nat → Int} : liB m K d = true ↔ K = m ∧ flB d K = true := by
  unfold liB
  rw [Bool.and_eq_true, decide_eq_true_eq]
  exact And.comm
end Go.Proofs.YtdbgcbkmcbgdiaaGreat.mem

namespace Go.Proofs.YtdbgcbkmcbgdiaaGreat.mem
open Go.RowKit
set_option linter.unusedVariables false

theorem Ob.zeros (w : World) (n : Nat) : Ob (w.alloc (.cells (zeros n) 2)) w.heap.size n (ia (fun _ => 0)) := Ob.new w _ _ n _ (by unfold mem.zeros; simp [madeCells]) (fun k hk => zeros_get n k hk)
theorem Ob.setIn {w : World} {b n : Nat} {x : Nat → Int} (h : Ob w b n (ia x)) (i : Nat) (v : Int) (hi : i < n) : Ob (w.setCell ⟨b, i, none⟩ (.int .i64 v)) b n (ia (upd x i v)) := by
  refine (h.set i (.int .i64 v) hi).congr fun k _ => ?_
  unfold updV ia upd
  split <;> rfl
theorem dv_bd {P : Nat → Pip} {x : Nat → Int} {z : Int} : ∀ {k : Nat}, (∀ i, i < k → -30000 ≤ x i ∧ x i ≤ 30000) → -60000 * (k : Int) ≤ dv P x k z ∧ dv P x k z ≤ 60000 * (k : Int)
  | 0, _ => by unfold dv; omega
  | k + 1, h => by
    have ih := dv_bd (P := P) (x := x) (z := z) (k := k) (fun i hi => h i (by omega))
    have h1 := h k (by omega)
    unfold dv
    split <;> split <;> omega

set_option maxRecDepth 100000 in
set_option maxHeartbeats 8000000 in
theorem l05Zero_any (w : World) (v : Value) (n : Nat) (d : Nat → Int) (lo hi : Nat) (h : Sl w v n d lo hi) (hn : n ≤ 9223372036854775807) :
    Calls Tryz.prog 99 #[v] w fun e w' => e = .returned (.bool ((List.range n).all (fun z => d z == 0))) ∧ w = w' := by
  obtain ⟨p, cap, rfl, hc⟩ := h
  have HC := Lib.hid hc
  clear hc
  go_enter Tryz.func99, Tryz.ntmps99
  go_wp2_with fail
  go_loopw [3] (fun iv wr => ∃ k : Nat, iv = .int .i64 k ∧ k ≤ n ∧ (∀ i, i < k → d i = 0) ∧ w = wr) (fun iv _ => n - (intOf iv).toNat)
  case atStart => exact ⟨0, rfl, Nat.zero_le _, fun i hi => by omega, rfl⟩
  case round =>
    obtain ⟨k, rfl, hk, hb, rfl⟩ := hrel
    generalize hQ : Exit.then _ _ = Q
    have HQ := Lib.hid hQ
    clear hQ
    have HF := Lib.hid hb
    clear hb
    have k0 : (0 : Int) ≤ (k : Int) := Int.natCast_nonneg _
    by_cases hlt : k < n
    · have k1 : (k : Int) < (n : Int) := by omega
      obtain ⟨b, o, rfl, _, _, hx⟩ : ∃ b o, p = some ⟨b, o, none⟩ ∧ lo ≤ b ∧ b < hi ∧ ∀ k, k < n → w.cell? ⟨b, o + k, none⟩ = some (.int .i64 (d k)) := by
        rcases HC.out with e | e
        · omega
        · exact e
      have y0 := hx k hlt
      have HX := Lib.hid hx
      clear hx
      by_cases hq : d k = 0
      · have h1 : (d k != 0) = false := by simp [hq]
        have HR := Lib.hid (show ∀ i, i < k + 1 → d i = 0 from fun i hi => by
          by_cases e : i = k
          · subst e; exact hq
          · exact HF.out i (by omega))
        clear hq
        go_wp2_with fail
        rw [← HQ.out]
        refine ⟨⟨_, _, _, _, _, _, _, _, _, _, _, _, _, ?rel, rfl⟩, ?measure⟩
        case rel => exact ⟨k + 1, by go_num, hlt, HR.out, rfl⟩
        case measure => simp [intOf]; omega
      · have h1 : (d k != 0) = true := by simpa using hq
        have HR := Lib.hid (show (List.range n).all (fun z => d z == 0) = false by
          rw [Bool.eq_false_iff]
          intro g
          have := List.all_eq_true.1 g k (List.mem_range.2 hlt)
          rw [beq_iff_eq] at this
          exact hq this)
        clear hq
        go_wp2_with fail
        rw [← HQ.out]
        go_wp2_with fail
        go_ret
        exact ⟨ret_b HR.out.symm, rfl⟩
    · have hkn : n = k := by omega
      subst hkn
      have k1 : ¬ ((n : Int) < (n : Int)) := by omega
      have HR := Lib.hid (show (List.range n).all (fun z => d z == 0) = true by
        rw [List.all_eq_true]
        intro z hz
        rw [beq_iff_eq]
        exact HF.out z (List.mem_range.1 hz))
      go_wp2_with fail
      rw [← HQ.out]
      go_wp2_with fail
      go_ret
      exact ⟨ret_b HR.out.symm, rfl⟩

set_option maxRecDepth 100000 in
set_option maxHeartbeats 8000000 in
theorem l05Out_any (w : World) (v : Value) (n : Nat) (N : Nat → Nod) (m : Nat) (P : Nat → Pip) (lo hi : Nat) (h : NetAt w v n N m P lo hi) (hhi : hi ≤ w.heap.size) (hN : ∀ i, i < n → (N i).s.size ≤ 9223372036854775807) (hB : netB n N m P = true) (va : Value) (d : Nat → Int) (la ha : Nat) (hv : Sl w va m d la ha) (hha : ha ≤ w.heap.size) (hf : flB d m = true) :
    Calls Tryz.prog 48 #[v, va] w fun e w' => ∃ v2 g, e = .returned v2 ∧ Sl w' v2 n (fun z => dv P d m ((z : Nat) : Int)) g (g + 1) ∧ w.heap.size ≤ g ∧ g < w'.heap.size ∧ Below w.heap.size w w' := by
  obtain ⟨p0, c0, p1, c1, rfl, hn9, hm9⟩ := h.parts
  obtain ⟨hn1, hn24, hm40⟩ := net_sz hB
  have HV := Lib.hid h
  have HPI := Lib.hid (fun a (ha : a < m) => pip_end (net_pip hB ha))
  have HFR := Lib.hid (show ∀ i, i < m → -30000 ≤ d i ∧ d i ≤ 30000 from fun i hi => flQ_iff.1 (flB_iff.1 hf i hi))
  obtain ⟨pa, ca, rfl, hva⟩ := hv
  have HVZ := Lib.hid hva
  have A0 := (boxed w (.slice p0 n c0) (.slice p1 m c1) 27).keep (Below.heap_alloc _ (.cells (zeros n) 2) _ (by simp only [World.size_alloc]; omega))
  have G0 := Ob.zeros (w.alloc (.cells #[.slice p0 n c0, .slice p1 m c1] 27)) n
  simp only [World.size_alloc] at G0
  have B0 := (below_new w (.cells #[.slice p0 n c0, .slice p1 m c1] 27)).trans ((below_new _ (.cells (zeros n) 2)).mono (by simp only [World.size_alloc]; omega))
  have e0' := (boxed w (.slice p0 n c0) (.slice p1 m c1) 27).b0
  have m1 := fun W => make_int64 W n (by omega)
  have n0 : (0 : Int) ≤ (n : Int) := Int.natCast_nonneg _
  have HA := Lib.hid A0
  have HG := Lib.hid G0
  have HBB := Lib.hid B0
  clear h hN hB A0 G0 B0 hva hf
  go_enter Tryz.func48, Tryz.ntmps48
  go_wp2_with fail
  generalize hW : (w.alloc (.cells #[.slice p0 n c0, .slice p1 m c1] 27)).alloc (.cells (zeros n) 2) = w2 at *
  clear hW m1 e0'
  go_loopw [6] (fun iv wr => ∃ k : Nat, iv = .int .i64 k ∧ k ≤ m ∧ Ob wr (w.heap.size + 1) n (ia (fun z => dv P d k ((z : Nat) : Int))) ∧ Ob wr w.heap.size 2 (bx (.slice p0 n c0) (.slice p1 m c1)) ∧ Below w.heap.size w wr) (fun iv _ => m - (intOf iv).toNat)
  case atStart => exact ⟨0, rfl, Nat.zero_le _, HG.out.congr (fun k _ => rfl), HA.out, HBB.out⟩
  case round =>
    obtain ⟨k, rfl, hk, og, oa, hb⟩ := hrel
    clear HA HG HBB
    have HG := Lib.hid og
    have HA := Lib.hid oa
    have HBB := Lib.hid hb
    clear og oa hb
    generalize hQ : Exit.then _ _ = Q
    have HQ := Lib.hid hQ
    clear hQ
    have k0 : (0 : Int) ≤ (k : Int) := Int.natCast_nonneg _
    have lg := HG.out.lt
    by_cases hlt : k < m
    · have k1 : (k : Int) < (m : Int) := by omega
      obtain ⟨bp, op, rfl, q1, q2, r0, r1, r2, r3, r4⟩ := (HV.out.below HBB.out hhi).pipe hlt
      obtain ⟨ba, oa, rfl, g1, g2, hx⟩ : ∃ b o, pa = some ⟨b, o, none⟩ ∧ la ≤ b ∧ b < ha ∧ ∀ k, k < m → w.cell? ⟨b, o + k, none⟩ = some (.int .i64 (d k)) := by
        rcases HVZ.out with e | e
        · omega
        · exact e
      have ya : wr.cell? ⟨ba, oa + k, none⟩ = some (.int .i64 (d k)) := (HBB.out.cell (p := ⟨ba, oa + k, none⟩) (by show ba < w.heap.size; omega)).trans (hx k hlt)
      have HX := Lib.hid hx
      clear hx r2 r3 r4
      obtain ⟨hf0, ht0, hne⟩ := HPI.out k hlt
      obtain ⟨f, hf⟩ := Int.eq_ofNat_of_zero_le hf0.1
      obtain ⟨t, ht⟩ := Int.eq_ofNat_of_zero_le ht0.1
      rw [hf] at r0 hf0 hne
      rw [ht] at r1 ht0 hne
      have HFE := Lib.hid hf
      have HTE := Lib.hid ht
      clear hf ht
      have f0 := hf0.1
      have f1 := hf0.2
      have t0 := ht0.1
      have t1 := ht0.2
      have hfn : f < n := by omega
      have htn : t < n := by omega
      have e1 : wr.cell? ⟨w.heap.size, 1, none⟩ = some (.slice (some ⟨bp, op, none⟩) m c1) := HA.out.b1
      have yf : wr.cell? ⟨w.heap.size + 1, f, none⟩ = some (.int .i64 (dv P d k ((f : Nat) : Int))) := HG.out.cell f hfn
      have yz := HG.out.free f
      have hd := HFR.out k hlt
      have hb1 := dv_bd (P := P) (x := d) (z := ((f : Nat) : Int)) (k := k) (fun i hi => HFR.out i (by omega))
      have hb2 := dv_bd (P := P) (x := d) (z := ((t : Nat) : Int)) (k := k) (fun i hi => HFR.out i (by omega))
      have a1 : -4611686018427387904 ≤ dv P d k ((f : Nat) : Int) + d k ∧ dv P d k ((f : Nat) : Int) + d k ≤ 4611686018427387904 := by omega
      have a2 : -4611686018427387904 ≤ dv P d k ((t : Nat) : Int) - d k ∧ dv P d k ((t : Nat) : Int) - d k ≤ 4611686018427387904 := by omega
      clear hb1 hb2 hd hf0 ht0
      have hftN : f ≠ t := by omega
      have bne : bp ≠ w.heap.size + 1 := by omega
      have bna : ba ≠ w.heap.size + 1 := by omega
      have o1 := (Only.refl (w.heap.size + 1) wr).setCell f (.int .i64 (dv P d k ((f : Nat) : Int) + d k))
      have G1 := HG.out.setIn f (dv P d k ((f : Nat) : Int) + d k) hfn
      have wne : w.heap.size ≠ w.heap.size + 1 := by omega
      have z1 := (o1.cell (a := ⟨w.heap.size, 1, none⟩) wne).trans e1
      have z2 := (o1.cell (a := ⟨bp, op + k * 5, none⟩) bne).trans r0
      have z3 := (o1.cell (a := ⟨bp, op + k * 5 + 1, none⟩) bne).trans r1
      have z4 := (o1.cell (a := ⟨ba, oa + k, none⟩) bna).trans ya
      have Z1 := Lib.hid z1
      have Z2 := Lib.hid z2
      have Z3 := Lib.hid z3
      have Z4 := Lib.hid z4
      have H1 := Lib.hid a2
      have HR1 := Lib.hid r1
      clear z1 z2 z3 z4 a2 r1
      go_wp2_with fail
      go_still_tail 22, (by kernel_rfl)
      change wpList _ _ _ _ _ wr.drew
      go_wp2_with fail
      have ht2 : (ia (upd (fun z => dv P d k ((z : Nat) : Int)) f (dv P d k ((f : Nat) : Int) + d k))) t = .int .i64 (dv P d k ((t : Nat) : Int)) := by
        unfold ia upd
        rw [if_neg (fun e => hftN e.symm)]
      have G1d : Ob (wr.setCell ⟨w.heap.size + 1, f, none⟩ (.int .i64 (dv P d k ((f : Nat) : Int) + d k))).drew (w.heap.size + 1) n (ia (upd (fun z => dv P d k ((z : Nat) : Int)) f (dv P d k ((f : Nat) : Int) + d k))) := G1.keep rfl
      have OD := o1.below (B := w.heap.size) (by omega)
      obtain ⟨w3, hw3⟩ : ∃ w3, (wr.setCell ⟨w.heap.size + 1, f, none⟩ (.int .i64 (dv P d k ((f : Nat) : Int) + d k))).drew = w3 := ⟨_, rfl⟩
      have e1' : w3.cell? ⟨w.heap.size, 1, none⟩ = some (.slice (some ⟨bp, op, none⟩) m c1) := by rw [← hw3]; exact Z1.out
      have r1' : w3.cell? ⟨bp, op + k * 5 + 1, none⟩ = some (.int .i64 (t : Nat)) := by rw [← hw3]; exact Z3.out
      have ya' : w3.cell? ⟨ba, oa + k, none⟩ = some (.int .i64 (d k)) := by rw [← hw3]; exact Z4.out
      have yf' : w3.cell? ⟨w.heap.size + 1, t, none⟩ = some (.int .i64 (dv P d k ((t : Nat) : Int))) := by rw [← hw3, G1d.cell t htn, ht2]
      have oa3 : Ob w3 w.heap.size 2 (bx (.slice p0 n c0) (.slice (some ⟨bp, op, none⟩) m c1)) := by rw [← hw3]; exact (HA.out.only o1 (by omega)).keep rfl
      have b3 : Below w.heap.size w w3 := by rw [← hw3]; exact below_drw (HBB.out.trans OD)
      rw [hw3] at G1d ⊢
      clear hw3 e1 r0 ya yf yz o1 G1 Z1 Z2 Z3 Z4 HR1 OD a1 ht2
      have yz := G1d.free t
      have a2 := H1.out
      have HA3 := Lib.hid oa3
      have HB3 := Lib.hid b3
      have HG3 := Lib.hid G1d
      clear oa3 b3 G1d
      have o2 := (Only.refl (w.heap.size + 1) w3).setCell t (.int .i64 (dv P d k ((t : Nat) : Int) - d k))
      have z1 := Lib.hid ((o2.cell (a := ⟨w.heap.size, 1, none⟩) wne).trans e1')
      have z2 := Lib.hid ((o2.cell (a := ⟨bp, op + k * 5 + 1, none⟩) bne).trans r1')
      have z4 := Lib.hid ((o2.cell (a := ⟨ba, oa + k, none⟩) bna).trans ya')
      have G2 := Lib.hid (HG3.out.setIn t (dv P d k ((t : Nat) : Int) - d k) htn)
      have OA2 := Lib.hid (HA3.out.only o2 (by omega))
      have OB2 := Lib.hid (HB3.out.trans (o2.below (B := w.heap.size) (by omega)))
      clear o2
      go_still_tail 22, (by kernel_rfl)
      change wpList _ _ _ _ _ w3.drew
      go_wp2_with fail
      clear e1' r1' ya' yf' yz a2
      rw [← HQ.out]
      refine ⟨⟨_, _, _, _, _, _, _, _, _, _, _, _, _, _, _, _, _, _, _, _, _, _, _, _, _, _, _, _, _, _, _, _, _, _, _, _, _, _, _, _, _, _, _, _, _, _, _, _, _, _, _, ?rel, rfl⟩, ?measure⟩
      case rel =>
        refine ⟨k + 1, by go_num, hlt, (G2.out.congr (fun z _ => ?_)).keep rfl, OA2.out.keep rfl, below_drw OB2.out⟩
        unfold ia upd
        dsimp only
        rw [dv, HFE.out, HTE.out]
        by_cases e : z = t
        · subst e
          rw [if_pos rfl, if_neg (show ¬ ((f : Nat) : Int) = ((z : Nat) : Int) by omega), if_pos rfl]
          congr 1
          omega
        · rw [if_neg e, if_neg (show ¬ ((t : Nat) : Int) = ((z : Nat) : Int) by omega)]
          by_cases e2 : z = f
          · subst e2
            rw [if_pos rfl, if_pos rfl]
            congr 1
            omega
          · rw [if_neg e2, if_neg (show ¬ ((f : Nat) : Int) = ((z : Nat) : Int) by omega)]
            congr 1
            omega
      case measure => simp [intOf]; omega
    · have hkn : m = k := by omega
      subst hkn
      have k1 : ¬ ((m : Int) < (m : Int)) := by omega
      go_wp2_with fail
      rw [← HQ.out]
      go_wp2_with fail
      go_ret
      exact ⟨_, w.heap.size + 1, rfl, HG.out.sl n n (Nat.le_refl _), by omega, HG.out.lt, HBB.out⟩
end Go.Proofs.YtdbgcbkmcbgdiaaGreat.mem

namespace Go.Proofs.YtdbgcbkmcbgdiaaGreat.mem
open Go.RowKit
set_option linter.unusedVariables false

end Go.Proofs.YtdbgcbkmcbgdiaaGreat.mem

namespace Go.Proofs.YtdbgcbkmcbgdiaaGreat.mem
open Go.RowKit
set_option linter.unusedVariables false

/-- a pipe is appended to a row that holds the pipes of another list so far -/
theorem appFr (B : Nat) (W : World) (v : Value) (n : Nat) (F : Nat → Pip) (q : Pip) (hq : F n = q) (h : RowE B 121 5 W v n (pipC F)) (hB : B ≤ W.heap.size) (hn : n ≤ 1000000) :
    ∃ v' w', Sem.run Tryz.prog (Builtin.append_ #[25, 25] 25 #[v, .slice (some ⟨W.heap.size, 0, none⟩) 1 1]) (W.alloc (.cells #[.int .i64 q.f, .int .i64 q.t, .int .i64 q.k, .int .i64 q.v, .int .i64 q.l] 121)) = .ok v' w' ∧ RowE B 121 5 w' v' (n + 1) (pipC F) ∧ Upd (fun x => some x = v.ownBlock) W w' := by
  subst hq
  exact appOne Tryz.underlying25 info_make_pipe (by omega) rfl (by omega) B W v n _ _ h hB [.int .i64 (F n).f, .int .i64 (F n).t, .int .i64 (F n).k, .int .i64 (F n).v, .int .i64 (F n).l] rfl (by intro u hu; simp at hu; rcases hu with rfl | rfl | rfl | rfl | rfl <;> rfl)
    (fun i j hi hj => rfl) (fun j hj => by rcases (by omega : j = 0 ∨ j = 1 ∨ j = 2 ∨ j = 3 ∨ j = 4) with rfl | rfl | rfl | rfl | rfl <;> rfl) hn
theorem row_below {B : Nat} {e : TypeId} {z : Nat} {w w' : World} {v : Value} {n : Nat} {c : Nat → Nat → Value} (h : RowE B e z w v n c) (u : Upd (fun x => some x = v.ownBlock) w w') (hB : B ≤ w.heap.size) : Below B w w' :=
  u.below hB (fun k _ hk => (h.own.lt k hk.symm).1)
set_option maxRecDepth 100000 in
set_option maxHeartbeats 8000000 in
theorem l05Tree_any (w : World) (v : Value) (n : Nat) (N : Nat → Nod) (m : Nat) (P : Nat → Pip) (lo hi : Nat) (h : NetAt w v n N m P lo hi) (hhi : hi ≤ w.heap.size) (hN : ∀ i, i < n → (N i).s.size ≤ 9223372036854775807) (hB : netB n N m P = true) :
    Calls Tryz.prog 118 #[v] w fun e w' => ∃ u1 u2 u3 u4 vf gf, e = .returned (.tuple #[.agg #[.slice u1 n u2, .slice u3 (forest n P m).length u4], vf]) ∧ (∃ gR, Cs w' (.slice u1 n u2) n 3 (nodC N) lo hi ∧ OwnS w' (.slice u3 (forest n P m).length u4) (forest n P m).length 5 (pipC (frP n P m)) gR ∧ (w.heap.size ≤ gR ∨ (forest n P m).length = 0)) ∧ Own w' vf (forest n P m).length (lD (forest n P m)) gf ∧ w.heap.size ≤ gf ∧ Below w.heap.size w w' := by
  obtain ⟨p0, c0, p1, c1, rfl, hn9, hm9⟩ := h.parts
  obtain ⟨hn1, hn24, hm40⟩ := net_sz hB
  have hfm := forest_le n P m
  have HV := Lib.hid h
  have HN := Lib.hid hN
  have HB := Lib.hid hB
  have A0 := (boxed w (.slice p0 n c0) (.slice p1 m c1) 27).keep (Below.heap_alloc _ (.cells #[.slice none 0 0, .slice none 0 0] 27) _ (by simp only [World.size_alloc]; omega))
  have R0 := boxed (w.alloc (.cells #[.slice p0 n c0, .slice p1 m c1] 27)) (.slice none 0 0) (.slice none 0 0) 27
  simp only [World.size_alloc] at R0
  have B0 := (below_new w (.cells #[.slice p0 n c0, .slice p1 m c1] 27)).trans ((below_new _ (.cells #[.slice none 0 0, .slice none 0 0] 27)).mono (by simp only [World.size_alloc]; omega))
  have hs0 : ((w.alloc (.cells #[.slice p0 n c0, .slice p1 m c1] 27)).alloc (.cells #[.slice none 0 0, .slice none 0 0] 27)).heap.size = w.heap.size + 1 + 1 := by simp
  have e0 := A0.b0
  have e1 := A0.b1
  clear h hN hB
  go_enter Tryz.func118, Tryz.ntmps118
  go_wp2_with fail
  refine (l04Forest_any _ _ n N m P lo hi (HV.out.below B0 hhi) (by omega) HN.out HB.out).mono ?_
  rintro e w1 ⟨vf, gf, rfl, hgf, of, b1⟩
  obtain ⟨cf, rfl⟩ := of.shape
  have A1 := A0.below b1 (by omega)
  have R1 := R0.below b1 (by omega)
  have B1 := B0.trans (b1.mono (by omega))
  have hs1 := b1.size
  have hgf' : w.heap.size + 1 + 1 ≤ gf := by omega
  have rn := rowE_nil (B := w1.heap.size) (e := 121) (z := 5) w1 (pipC (frP n P m)) (Nat.le_refl _)
  have b2 := below_new w1 (.cells #[] 121)
  have lf := of.lt
  have la := A1.lt
  have lr := R1.lt
  have HA := Lib.hid A1
  have HR := Lib.hid R1
  have HBB := Lib.hid B1
  have HF := Lib.hid of
  have HRW := Lib.hid rn
  have HB0 := Lib.hid b2
  clear A0 R0 B0 A1 R1 B1 b1 b2 rn of e0 e1 hs0
  go_wp2_with fail
  generalize hW : w1.alloc (.cells #[] 121) = w2 at *
  clear hW
  go_loopw [5, 6] (fun pv iv wr => ∃ (k : Nat) (pv' : Value), pv' = pv ∧ iv = .int .i64 k ∧ k ≤ (forest n P m).length ∧ RowE w1.heap.size 121 5 wr pv' k (pipC (frP n P m)) ∧ Below w1.heap.size w1 wr) (fun _ iv _ => (forest n P m).length - (intOf iv).toNat)
  case atStart => exact ⟨0, _, rfl, rfl, Nat.zero_le _, HRW.out, HB0.out⟩
  case round =>
    obtain ⟨k, pv, rfl, rfl, hk, hrow, bb⟩ := hrel
    obtain ⟨pp, cp, rfl⟩ := hrow.shape
    clear HRW HB0
    have HL := Lib.hid bb
    have HRW := Lib.hid hrow
    have hs7 := bb.size
    clear bb hrow
    have k0 : (0 : Int) ≤ (k : Int) := Int.natCast_nonneg _
    generalize hQ : Exit.then _ _ = Q
    have HQ := Lib.hid hQ
    clear hQ
    by_cases hlt : k < (forest n P m).length
    · have k1 : (k : Int) < ((forest n P m).length : Int) := by omega
      obtain ⟨a, ham, _, hla, _, hFa⟩ := forest_at hlt
      obtain ⟨bp, op, rfl, q1, q2, r0, r1, r2, r3, r4⟩ := (((HV.out.below HBB.out hhi).below HL.out (by omega))).pipe ham
      have a0 : (0 : Int) ≤ (a : Int) := Int.natCast_nonneg _
      have a1 : (a : Int) < (m : Int) := by omega
      have yf : wr.cell? ⟨gf, k, none⟩ = some (.int .i64 (a : Int)) := by
        have h1 := (HL.out.cell (p := ⟨gf, k, none⟩) lf).trans (HF.out.row.cell k hlt)
        rwa [hla] at h1
      have e1 : wr.cell? ⟨w.heap.size, 1, none⟩ = some (.slice (some ⟨bp, op, none⟩) m c1) := (HA.out.below HL.out la).b1
      have HFA := Lib.hid hFa
      clear hla hFa
      have hbw : bp < w1.heap.size := by omega
      have hAny : ∀ X : World, Below w1.heap.size wr X → (fun w' : World => w'.cell? ⟨w.heap.size, 1, none⟩ = some (.slice (some ⟨bp, op, none⟩) m c1) ∧ w'.cell? ⟨gf, k, none⟩ = some (.int .i64 (a : Int)) ∧ w'.cell? ⟨bp, op + a * 5, none⟩ = some (.int .i64 (P a).f) ∧ w'.cell? ⟨bp, op + a * 5 + 1, none⟩ = some (.int .i64 (P a).t) ∧ w'.cell? ⟨bp, op + a * 5 + 2, none⟩ = some (.int .i64 (P a).k) ∧ w'.cell? ⟨bp, op + a * 5 + 3, none⟩ = some (.int .i64 (P a).v) ∧ w'.cell? ⟨bp, op + a * 5 + 4, none⟩ = some (.int .i64 (P a).l)) X := fun X h => ⟨(h.cell (p := ⟨w.heap.size, 1, none⟩) la).trans e1, (h.cell (p := ⟨gf, k, none⟩) lf).trans yf, (h.cell (p := ⟨bp, op + a * 5, none⟩) hbw).trans r0, (h.cell (p := ⟨bp, op + a * 5 + 1, none⟩) hbw).trans r1, (h.cell (p := ⟨bp, op + a * 5 + 2, none⟩) hbw).trans r2, (h.cell (p := ⟨bp, op + a * 5 + 3, none⟩) hbw).trans r3, (h.cell (p := ⟨bp, op + a * 5 + 4, none⟩) hbw).trans r4⟩
      have K0 : Below wr.heap.size wr wr.drew := ⟨rfl, rfl, rfl, Nat.le_refl _, fun _ _ => rfl⟩
      have K1 : Below w1.heap.size wr wr.drew := K0.mono hs7
      have K2 : Below w1.heap.size wr (wr.drew.alloc (.cells #[.int .i64 (P a).f, .int .i64 (P a).t, .int .i64 (P a).k, .int .i64 (P a).v, .int .i64 (P a).l] 121)) := K1.alloc hs7 _
      obtain ⟨v7, wz, hr, hrow7, u7⟩ := appFr w1.heap.size wr.drew _ k (frP n P m) (P a) HFA.out (HRW.out.next K0) hs7 (by omega)
      have K3 : Below w1.heap.size wr wz := K1.trans (row_below (HRW.out.next K0) u7 hs7)
      go_wp2_with fail
      go_region_held3 (fun w' : World => w'.cell? ⟨w.heap.size, 1, none⟩ = some (.slice (some ⟨bp, op, none⟩) m c1) ∧ w'.cell? ⟨gf, k, none⟩ = some (.int .i64 (a : Int)) ∧ w'.cell? ⟨bp, op + a * 5, none⟩ = some (.int .i64 (P a).f) ∧ w'.cell? ⟨bp, op + a * 5 + 1, none⟩ = some (.int .i64 (P a).t) ∧ w'.cell? ⟨bp, op + a * 5 + 2, none⟩ = some (.int .i64 (P a).k) ∧ w'.cell? ⟨bp, op + a * 5 + 3, none⟩ = some (.int .i64 (P a).v) ∧ w'.cell? ⟨bp, op + a * 5 + 4, none⟩ = some (.int .i64 (P a).l)) (first | exact hAny _ K1 | exact hAny _ K2 | exact hAny _ K3)
        (first | (refine step_appT hr rfl (.tmp 16) (.tmp 25) rfl rfl rfl rfl ?_))
      have HR7 := Lib.hid hrow7
      have HL7 := Lib.hid (HL.out.trans K3)
      clear hAny K0 K1 K2 K3 hr hrow7 u7 e1 yf r0 r1 r2 r3 r4
      go_wp2_with fail
      rw [← HQ.out]
      refine ⟨⟨_, _, _, _, _, _, _, _, _, _, _, _, _, _, _, _, _, _, _, ?rel, rfl⟩, ?measure⟩
      case rel => exact ⟨k + 1, v7, rfl, by go_num, hlt, HR7.out, HL7.out⟩
      case measure => simp [intOf]; omega
    · have hkn : (forest n P m).length = k := by omega
      have k1 : ¬ ((k : Int) < ((forest n P m).length : Int)) := by omega
      have HKN := Lib.hid hkn
      clear hkn
      obtain ⟨gR, hrS, hgR⟩ := HRW.out.ownS
      have HRS := Lib.hid hrS
      clear hrS
      have ra := HR.out.below HL.out lr
      have e0 : wr.cell? ⟨w.heap.size, 0, none⟩ = some (.slice p0 n c0) := (HA.out.below HL.out la).b0
      have f0 := ra.free 0
      have f1 := ra.free 1
      have g0 := ra.b0
      have g1 := ra.b1
      have o2 := ((ra.set 0 (.slice p0 n c0) (by omega)).set 1 (.slice pp k cp) (by omega))
      have q0 : ((wr.setCell ⟨w.heap.size + 1, 0, none⟩ (.slice p0 n c0)).setCell ⟨w.heap.size + 1, 1, none⟩ (.slice pp k cp)).cell? ⟨w.heap.size + 1, 0, none⟩ = some (.slice p0 n c0) := by
        have := o2.cell 0 (by omega)
        unfold updV at this
        simpa using this
      have q1 : ((wr.setCell ⟨w.heap.size + 1, 0, none⟩ (.slice p0 n c0)).setCell ⟨w.heap.size + 1, 1, none⟩ (.slice pp k cp)).cell? ⟨w.heap.size + 1, 1, none⟩ = some (.slice pp k cp) := by
        have := o2.cell 1 (by omega)
        unfold updV at this
        simpa using this
      have on := ((Only.refl (w.heap.size + 1) wr).setCell 0 (.slice p0 n c0)).setCell 1 (.slice pp k cp)
      have BF := Lib.hid (on.below (B := w.heap.size) (by omega))
      have HON := Lib.hid on
      clear o2 ra on
      go_wp2_with fail
      rw [← HQ.out]
      go_wp2_with fail
      have hkn := HKN.out
      subst hkn
      refine bodyPost_ret (v := .tuple #[.agg #[.slice p0 n c0, .slice pp (forest n P m).length cp], .slice (some ⟨gf, 0, none⟩) (forest n P m).length cf]) ?_ rfl ?_
      · rw [results_cell_tmp rfl]
        go_simp
      · have hbl : Below w.heap.size w _ := (HBB.out.trans (HL.out.mono (by omega))).trans BF.out
        refine ⟨p0, c0, pp, cp, _, gf, rfl, ?_, (HF.out.keep (HL.out.block _ lf)).keep (HON.out.block gf (by omega)), by omega, hbl⟩
        have hv := HV.out.below hbl hhi
        obtain ⟨v0, v1, he, g0', g1'⟩ := hv.ex
        simp only [Value.agg.injEq, Array.mk.injEq, List.cons.injEq, and_true] at he
        obtain ⟨rfl, rfl⟩ := he
        exact ⟨gR, g0', HRS.out.upd (Upd.of_only HON.out) (by
          rcases hgR with h | h
          · right
            omega
          · exact .inl h), by
          rcases hgR with h | h
          · left
            omega
          · exact .inr h⟩
end Go.Proofs.YtdbgcbkmcbgdiaaGreat.mem

namespace Go.Proofs.YtdbgcbkmcbgdiaaGreat.mem
open Go.RowKit
set_option linter.unusedVariables false

theorem Own.made (w : World) (n : Nat) (hn : n ≤ 1000000) : Own (w.alloc (.cells (zeros n) 2)) (.slice (some ⟨w.heap.size, 0, none⟩) n n) n (fun _ => 0) w.heap.size :=
  ⟨n, zeros n, rfl, heap_alloc_new w _, Nat.le_refl _, by unfold maxLen; omega, by unfold zeros; simp [madeCells], fun k hk => zeros_get n k hk⟩
theorem Own.put1 {w : World} {v : Value} {n g : Nat} {d : Nat → Int} (h : Own w v n d g) (i : Nat) (x : Int) (hi : i < n) : Own (w.setCell ⟨g, i, none⟩ (.int .i64 x)) v n (upd d i x) g := by
  obtain ⟨cap, cur, h0, h1, h2, h3, h4, h5⟩ := h.ex
  refine ⟨cap, cur.setIfInBounds i (.int .i64 x), h0, ?_, h2, h3, by simpa using h4, fun k hk => ?_⟩
  · simp [World.setCell, Array.getElem?_modify, h1]
  · unfold upd
    by_cases e : k = i
    · subst e
      rw [if_pos rfl]
      simp [h4, show k < cap by omega]
    · rw [if_neg e, Array.getElem?_setIfInBounds, if_neg (by omega)]
      exact h5 k hk
theorem Own.free {w : World} {v : Value} {n g : Nat} {d : Nat → Int} (h : Own w v n d g) (i : Nat) : w.frozen? ⟨g, i, none⟩ = false := by
  obtain ⟨cap, cur, h0, h1, _⟩ := h.ex
  simp [World.frozen?, h1]
theorem Own.made1 (w : World) (n c : Nat) (x : Int) (hn : n ≤ 1000000) (hc : c < n) : Own (w.alloc (.cells ((zeros n).setIfInBounds c (.int .i64 x)) 2)) (.slice (some ⟨w.heap.size, 0, none⟩) n n) n (upd (fun _ => 0) c x) w.heap.size := by
  refine ⟨n, _, rfl, heap_alloc_new w _, Nat.le_refl _, by unfold maxLen; omega, by unfold zeros; simp [madeCells], fun k hk => ?_⟩
  unfold upd
  have hz : (zeros n).size = n := by unfold zeros; simp [madeCells]
  by_cases e : k = c
  · subst e
    rw [if_pos rfl]
    simp [hz, hk]
  · rw [if_neg e, Array.getElem?_setIfInBounds, if_neg (by omega)]
    exact zeros_get n k hk
theorem upd_dwX {X : Nat → Prop} {w w' : World} (h : Upd X w w') : Upd X w w'.drew := ⟨h.os, h.tape, h.output, h.size, h.block⟩
theorem treeAt {w : World} {u1 u3 : Option Addr} {n L u2 u4 lo hi gR : Nat} {N : Nat → Nod} {F : Nat → Pip} (h1 : Cs w (.slice u1 n u2) n 3 (nodC N) lo hi) (h2 : OwnS w (.slice u3 L u4) L 5 (pipC F) gR) (hh : hi ≤ w.heap.size) : NetAt w (.agg #[.slice u1 n u2, .slice u3 L u4]) n N L F 0 w.heap.size :=
  ⟨_, _, rfl, h1.mono (Nat.zero_le _) hh, h2.cs (.inr rfl) (Nat.le_refl _)⟩
set_option maxRecDepth 100000 in
set_option maxHeartbeats 8000000 in
theorem l05Cycle_any (w : World) (v : Value) (n : Nat) (N : Nat → Nod) (m : Nat) (P : Nat → Pip) (lo hi : Nat) (h : NetAt w v n N m P lo hi) (hhi : hi ≤ w.heap.size) (hN : ∀ i, i < n → (N i).s.size ≤ 9223372036854775807) (hB : netB n N m P = true) (c : Nat) (hc : c < m) (hch : chP n P m c = true) :
    Calls Tryz.prog 130 #[v, .int .i64 (c : Nat)] w fun e w' => ∃ v2 g, e = .returned v2 ∧ Own w' v2 m (cyc P (fE n P m) (fD n P m) c) g ∧ w.heap.size ≤ g ∧ Below w.heap.size w w' := by
  obtain ⟨p0, c0, p1, c1, rfl, hn9, hm9⟩ := h.parts
  obtain ⟨hn1, hn24, hm40⟩ := net_sz hB
  have hfm := forest_le n P m
  have hinF : inF n P m (fl (rts n P m) n) c = false := by
    unfold chP at hch
    simpa using hch
  obtain ⟨hpf, hpt, _⟩ := pip_end (net_pip hB hc)
  have HV := Lib.hid h
  have HN := Lib.hid hN
  have HB := Lib.hid hB
  have HTB := Lib.hid (net_forest hB)
  have HHAS := Lib.hid (tree_has hB hc)
  have HEND := Lib.hid (scy_end hB hc hinF)
  have HST := Lib.hid (fun a => scy_start hB hc a)
  have HNX := Lib.hid (fun (y z : Int) (j b : Nat) (hy : 0 ≤ y ∧ y < n) (hj : j < (forest n P m).length) (hb : lD (forest n P m) j = ((b : Nat) : Int)) (he : vval (·.en) (vis n (frP n P m) (forest n P m).length (P c).t) y = ((j : Nat) : Int)) (ho : othV (frP n P m j) y = z) (hbz : endB (frP n P m j) y = true) (a : Nat) => scy_next hB hc hinF hy hj hb he ho hbz a)
  have A0 := (boxed w (.slice p0 n c0) (.slice p1 m c1) 27).keep (Below.heap_alloc _ (.cells ((zeros m).setIfInBounds c (.int .i64 1)) 2) _ (by simp only [World.size_alloc]; omega))
  have O0 := Own.made1 (w.alloc (.cells #[.slice p0 n c0, .slice p1 m c1] 27)) m c 1 (by omega) hc
  simp only [World.size_alloc] at O0
  have B0 := (below_new w (.cells #[.slice p0 n c0, .slice p1 m c1] 27)).trans ((below_new _ (.cells ((zeros m).setIfInBounds c (.int .i64 1)) 2)).mono (by simp only [World.size_alloc]; omega))
  have hs0 : ((w.alloc (.cells #[.slice p0 n c0, .slice p1 m c1] 27)).alloc (.cells ((zeros m).setIfInBounds c (.int .i64 1)) 2)).heap.size = w.heap.size + 1 + 1 := by simp
  have e1' := (boxed w (.slice p0 n c0) (.slice p1 m c1) 27).b1
  have m1 := fun W => make_int64 W m (by omega)
  have zs : (zeros m).size = m := by unfold zeros; simp [madeCells]
  have k0 : (0 : Int) ≤ (c : Int) := Int.natCast_nonneg _
  have k1 : (c : Int) < (m : Int) := by omega
  have m0 : (0 : Int) ≤ (m : Int) := Int.natCast_nonneg _
  have e0 := A0.b0
  have e1 := A0.b1
  obtain ⟨t, ht⟩ := Int.eq_ofNat_of_zero_le hpt.1
  have HTN := Lib.hid ht
  have htn : t < n := by omega
  clear h hN hB ht
  go_enter Tryz.func130, Tryz.ntmps130
  go_wp2_with fail
  refine (l05Tree_any _ _ n N m P lo hi (HV.out.below B0 hhi) (by omega) HN.out HB.out).mono ?_
  rintro e w1 ⟨u1, u2, u3, u4, vf, gf, rfl, ⟨gR, tn, tp, hgR⟩, oi, hgf, b1⟩
  obtain ⟨ci, rfl⟩ := oi.shape
  have hgf' : w.heap.size + 1 + 1 ≤ gf := by omega
  have hgR' : w.heap.size + 1 + 1 ≤ gR ∨ (forest n P m).length = 0 := by
    rcases hgR with h | h
    · left; omega
    · exact .inr h
  have A1 := A0.below b1 (by omega)
  have O1 := O0.keep (b1.block _ (by omega))
  have B1 := B0.trans (b1.mono (by omega))
  have hs1 : w.heap.size + 1 + 1 ≤ w1.heap.size := by have := b1.size; omega
  have b2 := below_new w1 (.cells #[.slice u1 n u2, .slice u3 (forest n P m).length u4] 27)
  have T2 := boxed w1 (.slice u1 n u2) (.slice u3 (forest n P m).length u4) 27
  have hs2 : (w1.alloc (.cells #[.slice u1 n u2, .slice u3 (forest n P m).length u4] 27)).heap.size = w1.heap.size + 1 := by simp
  have li := oi.lt
  have HA := Lib.hid (A1.below b2 (by omega))
  have HO := Lib.hid (O1.below b2 (Nat.le_refl _))
  have HBB := Lib.hid (B1.trans (b2.mono (by omega)))
  have HTN2 := Lib.hid (tn.below b2 (by omega))
  have HTP2 := Lib.hid (tp.below b2 (Nat.le_refl _))
  have HI := Lib.hid (oi.below b2 (Nat.le_refl _))
  have H6 := Lib.hid T2
  clear A0 O0 B0 b1 A1 O1 B1 b2 tn tp oi T2 e0 e1 e1' m1 zs hgR hgf
  obtain ⟨bp, op, rfl, q1, q2, r0, r1, r2, r3, r4⟩ := (HV.out.below HBB.out hhi).pipe hc
  have e0 := HA.out.b0
  have e1 := HA.out.b1
  rw [HTN.out] at r1
  clear r2 r3 r4
  go_wp2_with fail
  obtain ⟨w2, hw2⟩ : ∃ w2, w1.alloc (.cells #[.slice u1 n u2, .slice u3 (forest n P m).length u4] 27) = w2 := ⟨_, rfl⟩
  rw [hw2] at HA HO HBB HTN2 HTP2 HI H6 hs2 e0 e1 r0 r1 ⊢
  clear hw2
  have h60 := H6.out.b0
  have h61 := H6.out.b1
  have hwz : w.heap.size ≤ w2.heap.size := by omega
  have hwn : hi ≤ w2.heap.size := by omega
  have NT := Lib.hid (treeAt HTN2.out HTP2.out hwn)
  have HHAS2 := Lib.hid (show vhas (vis n (frP n P m) (forest n P m).length ((t : Nat) : Int)) (P c).f = true by rw [← HTN.out]; exact HHAS.out)
  have bpl : bp < w2.heap.size := by omega
  go_region_held3 (fun w' : World => w'.cell? ⟨w1.heap.size, 0, none⟩ = some (.slice u1 n u2) ∧ w'.cell? ⟨w1.heap.size, 1, none⟩ = some (.slice u3 (forest n P m).length u4) ∧ w'.cell? ⟨w.heap.size, 1, none⟩ = some (.slice (some ⟨bp, op, none⟩) m c1) ∧ w'.cell? ⟨bp, op + c * 5, none⟩ = some (.int .i64 (P c).f))
    (first | exact ⟨h60, h61, e1, r0⟩ | exact SX)
    (first
      | (go_at_call 162; refine (l04Path_any _ _ n N (forest n P m).length (frP n P m) 0 w2.heap.size NT.out.drew (Nat.le_refl _) HN.out HTB.out t htn (P c).f HHAS2.out).mono ?_; rintro e w3 ⟨vp, gp, rfl, op3, hgp, hb3⟩; have hb3' := below_dr0 hb3; have SX : w3.cell? ⟨w1.heap.size, 0, none⟩ = some (.slice u1 n u2) ∧ w3.cell? ⟨w1.heap.size, 1, none⟩ = some (.slice u3 (forest n P m).length u4) ∧ w3.cell? ⟨w.heap.size, 1, none⟩ = some (.slice (some ⟨bp, op, none⟩) m c1) ∧ w3.cell? ⟨bp, op + c * 5, none⟩ = some (.int .i64 (P c).f) := ⟨(hb3'.cell (p := ⟨w1.heap.size, 0, none⟩) (by show w1.heap.size < _; omega)).trans h60, (hb3'.cell (p := ⟨w1.heap.size, 1, none⟩) (by show w1.heap.size < _; omega)).trans h61, (hb3'.cell (p := ⟨w.heap.size, 1, none⟩) (by show w.heap.size < _; omega)).trans e1, (hb3'.cell (p := ⟨bp, op + c * 5, none⟩) bpl).trans r0⟩))
  have hs3 := hb3'.size
  have hgp' : w2.heap.size ≤ gp := hgp
  have HA3 := Lib.hid (HA.out.below hb3' (by omega))
  have HO3 := Lib.hid (HO.out.below hb3' (Nat.le_refl _))
  have HB3 := Lib.hid (HBB.out.trans (hb3'.mono hwz))
  have HTN3 := Lib.hid (HTN2.out.below hb3' hwn)
  have HTP3 := Lib.hid (HTP2.out.below hb3' (Nat.le_refl _))
  have HI3 := Lib.hid (HI.out.below hb3' (Nat.le_refl _))
  have H63 := Lib.hid (H6.out.below hb3' (by omega))
  have HP3 := Lib.hid op3
  have lp := op3.lt
  obtain ⟨cp3, rfl⟩ := op3.shape
  clear HA HO HBB HTN2 HTP2 HI H6 op3 hb3 hb3' SX h60 h61 e0 e1 r0 r1 hgp NT
  go_wp2_with fail
  obtain ⟨w4, hw4⟩ : ∃ w4, w4 = w3 := ⟨_, rfl⟩
  subst hw4
  have hpl : (spL n (frP n P m) (forest n P m).length (t : Nat) (P c).f).length < n := (vis_ok (P := frP n P m) (m := (forest n P m).length) (x := ((t : Nat) : Int)) HTB.out ⟨Int.natCast_nonneg _, by omega⟩).plen HTB.out HHAS2.out
  go_loopw [8, 10] (fun av iv wr => ∃ (k : Nat) (z : Int), av = .int .i64 z ∧ iv = .int .i64 k ∧ k ≤ (spL n (frP n P m) (forest n P m).length (t : Nat) (P c).f).length ∧ z = anc (frP n P m) (vis n (frP n P m) (forest n P m).length ((t : Nat) : Int)) (P c).f ((spL n (frP n P m) (forest n P m).length (t : Nat) (P c).f).length - k) ∧ Own wr (.slice (some ⟨w.heap.size + 1, 0, none⟩) m m) m (scy n P m c z) (w.heap.size + 1) ∧ Upd (fun q => q = w.heap.size + 1) w4 wr) (fun _ iv _ => (spL n (frP n P m) (forest n P m).length (t : Nat) (P c).f).length - (intOf iv).toNat)
  case atStart =>
    refine ⟨0, ((t : Nat) : Int), rfl, rfl, Nat.zero_le _, ?_, HO3.out.congr (fun a _ => ?_), Upd.refl _ _⟩
    · exact ((vis_ok (P := frP n P m) (m := (forest n P m).length) (x := ((t : Nat) : Int)) HTB.out ⟨Int.natCast_nonneg _, by omega⟩).anc_end HTB.out HHAS2.out).symm
    · rw [← HTN.out, HST.out]
      unfold upd one1
      rfl
  case round =>
    obtain ⟨k, z, rfl, rfl, hk, hz, ho, hu⟩ := hrel
    have HOW := Lib.hid ho
    have HU := Lib.hid hu
    have HZ := Lib.hid hz
    have hsz := hu.size
    clear ho hu hz HO3
    have k0' : (0 : Int) ≤ (k : Int) := Int.natCast_nonneg _
    generalize hQ : Exit.then _ _ = Q
    have HQ := Lib.hid hQ
    clear hQ
    by_cases hlt : k < (spL n (frP n P m) (forest n P m).length (t : Nat) (P c).f).length
    · have k1' : (k : Int) < ((spL n (frP n P m) (forest n P m).length (t : Nat) (P c).f).length : Int) := by omega
      obtain ⟨j, Z, Y, w1j, hjL, hzZ, hZn, hyY, hYn, heZ, hoZ, hvY, heY, hoY⟩ := sp_walk2 HTB.out ⟨Int.natCast_nonneg t, by omega⟩ HHAS2.out hlt
      obtain ⟨b, hbm, hbF, hbL, hbI, hFb⟩ := forest_at hjL
      have hzZ2 : z = ((Z : Nat) : Int) := by rw [HZ.out, hzZ]
      subst hzZ2
      have j0 : (0 : Int) ≤ (j : Int) := Int.natCast_nonneg _
      have j1 : (j : Int) < ((forest n P m).length : Int) := by omega
      have b0' : (0 : Int) ≤ (b : Int) := Int.natCast_nonneg _
      have b1' : (b : Int) < (m : Int) := by omega
      have hNX := fun a => HNX.out (Y : Int) (Z : Int) j b ⟨Int.natCast_nonneg Y, by omega⟩ hjL hbL (by rw [HTN.out]; exact hvY) hoY heY a
      have HNXX := Lib.hid hNX
      have yp : wr.cell? ⟨gp, k, none⟩ = some (.int .i64 (j : Nat)) := by
        have h1 := (HP3.out.keep (HU.out.block gp lp (by omega))).row.cell k hlt
        rwa [w1j] at h1
      have yi : wr.cell? ⟨gf, j, none⟩ = some (.int .i64 (b : Nat)) := by
        have h1 := (HI3.out.keep (HU.out.block gf (by omega) (by omega))).row.cell j hjL
        rwa [hbL] at h1
      have h6r := H63.out.keep (HU.out.block w1.heap.size (by omega) (by omega))
      have NTR := Lib.hid (treeAt (HTN3.out.upd HU.out (by omega) (fun q _ hq => by omega)) (HTP3.out.upd HU.out (by
        rcases hgR' with g | g
        · exact .inr (by omega)
        · exact .inl g)) (show hi ≤ wr.heap.size by omega))
      obtain ⟨tb, tu, rfl, _, _, r0, _, _, _, _⟩ := NTR.out.pipe hjL
      have y6a := h6r.b0
      have y6b := h6r.b1
      have HYS := Lib.hid (sum_other (net_pip HTB.out hjL) heZ)
      have HOZ := Lib.hid hoZ
      have HYY := Lib.hid hyY
      have HPN := Lib.hid (net_pip HTB.out hjL)
      clear hNX w1j hzZ hyY hvY heY hoY heZ hoZ hbF hbI hFb h6r hbL
      by_cases hcase : (frP n P m j).f = ((Z : Nat) : Int)
      ·
        have hb1 : ((frP n P m j).f != ((Z : Nat) : Int)) = false := by simp [hcase]
        have hsg : sgn (frP n P m j) ((Z : Nat) : Int) = 1 := by unfold sgn; rw [if_pos hcase]
        have HSG := Lib.hid hsg
        clear hcase hsg
        go_wp2_with fail
        go_region_held3 (fun w' : World => w'.cell? ⟨w1.heap.size, 1, none⟩ = some (.slice (some ⟨tb, tu, none⟩) (forest n P m).length u4) ∧ w'.cell? ⟨gp, k, none⟩ = some (.int .i64 (j : Nat)) ∧ w'.cell? ⟨tb, tu + j * 5, none⟩ = some (.int .i64 (frP n P m j).f))
          (first | exact ⟨y6b, yp, r0⟩ | exact ⟨by assumption, by assumption, by assumption⟩)
          (fail)
        have X := Lib.hid (show wr.cell? ⟨w1.heap.size, 0, none⟩ = some (.slice u1 n u2) ∧ wr.cell? ⟨w1.heap.size, 1, none⟩ = some (.slice (some ⟨tb, tu, none⟩) (forest n P m).length u4) ∧ wr.cell? ⟨gp, k, none⟩ = some (.int .i64 (j : Nat)) from ⟨y6a, y6b, yp⟩)
        have o1 := (Only.refl (w.heap.size + 1) wr).setCell b (.int .i64 (1))
        have hOd : Own (wr.setCell ⟨w.heap.size + 1, b, none⟩ (.int .i64 (1))).drew _ _ _ _ := (HOW.out.put1 b (1) hbm).keep rfl
        have ypd : wr.drew.cell? ⟨gp, k, none⟩ = some (.int .i64 (j : Nat)) := yp
        have yid : wr.drew.cell? ⟨gf, j, none⟩ = some (.int .i64 (b : Nat)) := yi
        have yfd : wr.drew.frozen? ⟨w.heap.size + 1, b, none⟩ = false := HOW.out.free b
        have ycd := (HOW.out.keep rfl : Own wr.drew _ _ _ _).row.cell b hbm
        have z1 : (wr.setCell ⟨w.heap.size + 1, b, none⟩ (.int .i64 (1))).drew.cell? ⟨w1.heap.size, 0, none⟩ = some (.slice u1 n u2) := (o1.cell (a := ⟨w1.heap.size, 0, none⟩) (by show w1.heap.size ≠ _; omega)).trans y6a
        have z2 : (wr.setCell ⟨w.heap.size + 1, b, none⟩ (.int .i64 (1))).drew.cell? ⟨w1.heap.size, 1, none⟩ = some (.slice (some ⟨tb, tu, none⟩) (forest n P m).length u4) := (o1.cell (a := ⟨w1.heap.size, 1, none⟩) (by show w1.heap.size ≠ _; omega)).trans y6b
        have z3 : (wr.setCell ⟨w.heap.size + 1, b, none⟩ (.int .i64 (1))).drew.cell? ⟨gp, k, none⟩ = some (.int .i64 (j : Nat)) := (o1.cell (a := ⟨gp, k, none⟩) (by show gp ≠ _; omega)).trans yp
        have Z1 := Lib.hid z1
        have Z2 := Lib.hid z2
        have Z3 := Lib.hid z3
        have U1 : Upd (fun q => q = w.heap.size + 1) w4 (wr.setCell ⟨w.heap.size + 1, b, none⟩ (.int .i64 (1))).drew := upd_dwX (HU.out.trans (Upd.of_only o1))
        have hzz : (wr.setCell ⟨w.heap.size + 1, b, none⟩ (.int .i64 (1))).drew.heap.size = wr.heap.size := sz_set _ _ _
        have HUU := Lib.hid U1
        have HOO := Lib.hid hOd
        clear z1 z2 z3 o1 hOd U1 X
        go_wp2_with fail
        obtain ⟨w5, hw5⟩ : ∃ w5, (wr.setCell ⟨w.heap.size + 1, b, none⟩ (.int .i64 (1))).drew = w5 := ⟨_, rfl⟩
        have hs5 : w5.heap.size = wr.heap.size := by rw [← hw5]; exact hzz
        rw [hw5] at Z1 Z2 Z3 HUU HOO ⊢
        clear hw5 hzz
        have s1 := Z1.out
        have s2 := Z2.out
        have s3 := Z3.out
        have hn5 : n ≤ 2000000 := by omega
        have hL5 : (forest n P m).length ≤ 2000000 := by omega
        have hzr : inR ((Z : Nat) : Int) 0 (n - 1) = true := inR_iff.2 ⟨by omega, by omega⟩
        have NT5 := Lib.hid (treeAt (HTN3.out.upd HUU.out (by omega) (fun q _ hq => by omega)) (HTP3.out.upd HUU.out (by
          rcases hgR' with g | g
          · exact .inr (by omega)
          · exact .inl g)) (show hi ≤ w5.heap.size by omega))
        clear ypd yid yfd ycd y6a y6b yp yi r0
        go_region_held3 (fun w' : World => w'.cell? ⟨w1.heap.size, 0, none⟩ = some (.slice u1 n u2) ∧ w'.cell? ⟨w1.heap.size, 1, none⟩ = some (.slice (some ⟨tb, tu, none⟩) (forest n P m).length u4) ∧ w'.cell? ⟨gp, k, none⟩ = some (.int .i64 (j : Nat)))
          (first | exact ⟨s1, s2, s3⟩ | exact SX)
          (first
            | (go_at_call 101; refine (l02Other_any _ _ n N (forest n P m).length (frP n P m) 0 w5.heap.size NT5.out.drew (Nat.le_refl _) HN.out hL5 j hjL (Z : Int) HPN.out hn5 hzr).mono ?_; rintro e w6 ⟨rfl, hb6⟩; rw [HYS.out, HOZ.out]; have hb6' := below_dr0 hb6; have SX : w6.cell? ⟨w1.heap.size, 0, none⟩ = some (.slice u1 n u2) ∧ w6.cell? ⟨w1.heap.size, 1, none⟩ = some (.slice (some ⟨tb, tu, none⟩) (forest n P m).length u4) ∧ w6.cell? ⟨gp, k, none⟩ = some (.int .i64 (j : Nat)) := ⟨(hb6'.cell (p := ⟨w1.heap.size, 0, none⟩) (by show w1.heap.size < _; omega)).trans s1, (hb6'.cell (p := ⟨w1.heap.size, 1, none⟩) (by show w1.heap.size < _; omega)).trans s2, (hb6'.cell (p := ⟨gp, k, none⟩) (by show gp < _; omega)).trans s3⟩))
        have HO6 := Lib.hid ((HOO.out.keep (hb6'.block _ (by omega))).congr (e := scy n P m c ((Y : Nat) : Int)) (fun a _ => by
          unfold upd
          rw [HNXX.out a, HSG.out]))
        have HU6 := Lib.hid (HUU.out.trans (Upd.of_below hb6'))
        have hY0 : (0 : Int) ≤ (Y : Int) := Int.natCast_nonneg _
        clear s1 s2 s3 SX hb6 hb6'
        go_wp2_with fail
        rw [← HQ.out]
        refine ⟨⟨_, _, _, _, _, _, _, _, _, _, _, _, _, _, _, _, _, _, _, _, _, _, _, _, _, _, _, _, _, _, _, _, _, _, _, _, _, ?rel, rfl⟩, ?measure⟩
        case rel => exact ⟨k + 1, _, rfl, by go_num, hlt, HYY.out.symm, HO6.out, HU6.out⟩
        case measure => simp [intOf]; omega
      ·
        have hb1 : ((frP n P m j).f != ((Z : Nat) : Int)) = true := by simp [hcase]
        have hsg : sgn (frP n P m j) ((Z : Nat) : Int) = -1 := by unfold sgn; rw [if_neg hcase]
        have HSG := Lib.hid hsg
        clear hcase hsg
        go_wp2_with fail
        go_region_held3 (fun w' : World => w'.cell? ⟨w1.heap.size, 1, none⟩ = some (.slice (some ⟨tb, tu, none⟩) (forest n P m).length u4) ∧ w'.cell? ⟨gp, k, none⟩ = some (.int .i64 (j : Nat)) ∧ w'.cell? ⟨tb, tu + j * 5, none⟩ = some (.int .i64 (frP n P m j).f))
          (first | exact ⟨y6b, yp, r0⟩ | exact ⟨by assumption, by assumption, by assumption⟩)
          (fail)
        have X := Lib.hid (show wr.cell? ⟨w1.heap.size, 0, none⟩ = some (.slice u1 n u2) ∧ wr.cell? ⟨w1.heap.size, 1, none⟩ = some (.slice (some ⟨tb, tu, none⟩) (forest n P m).length u4) ∧ wr.cell? ⟨gp, k, none⟩ = some (.int .i64 (j : Nat)) from ⟨y6a, y6b, yp⟩)
        have o1 := (Only.refl (w.heap.size + 1) wr).setCell b (.int .i64 (-1))
        have hOd : Own (wr.setCell ⟨w.heap.size + 1, b, none⟩ (.int .i64 (-1))).drew _ _ _ _ := (HOW.out.put1 b (-1) hbm).keep rfl
        have ypd : wr.drew.cell? ⟨gp, k, none⟩ = some (.int .i64 (j : Nat)) := yp
        have yid : wr.drew.cell? ⟨gf, j, none⟩ = some (.int .i64 (b : Nat)) := yi
        have yfd : wr.drew.frozen? ⟨w.heap.size + 1, b, none⟩ = false := HOW.out.free b
        have ycd := (HOW.out.keep rfl : Own wr.drew _ _ _ _).row.cell b hbm
        have z1 : (wr.setCell ⟨w.heap.size + 1, b, none⟩ (.int .i64 (-1))).drew.cell? ⟨w1.heap.size, 0, none⟩ = some (.slice u1 n u2) := (o1.cell (a := ⟨w1.heap.size, 0, none⟩) (by show w1.heap.size ≠ _; omega)).trans y6a
        have z2 : (wr.setCell ⟨w.heap.size + 1, b, none⟩ (.int .i64 (-1))).drew.cell? ⟨w1.heap.size, 1, none⟩ = some (.slice (some ⟨tb, tu, none⟩) (forest n P m).length u4) := (o1.cell (a := ⟨w1.heap.size, 1, none⟩) (by show w1.heap.size ≠ _; omega)).trans y6b
        have z3 : (wr.setCell ⟨w.heap.size + 1, b, none⟩ (.int .i64 (-1))).drew.cell? ⟨gp, k, none⟩ = some (.int .i64 (j : Nat)) := (o1.cell (a := ⟨gp, k, none⟩) (by show gp ≠ _; omega)).trans yp
        have Z1 := Lib.hid z1
        have Z2 := Lib.hid z2
        have Z3 := Lib.hid z3
        have U1 : Upd (fun q => q = w.heap.size + 1) w4 (wr.setCell ⟨w.heap.size + 1, b, none⟩ (.int .i64 (-1))).drew := upd_dwX (HU.out.trans (Upd.of_only o1))
        have hzz : (wr.setCell ⟨w.heap.size + 1, b, none⟩ (.int .i64 (-1))).drew.heap.size = wr.heap.size := sz_set _ _ _
        have HUU := Lib.hid U1
        have HOO := Lib.hid hOd
        clear z1 z2 z3 o1 hOd U1 X
        go_wp2_with fail
        obtain ⟨w5, hw5⟩ : ∃ w5, (wr.setCell ⟨w.heap.size + 1, b, none⟩ (.int .i64 (-1))).drew = w5 := ⟨_, rfl⟩
        have hs5 : w5.heap.size = wr.heap.size := by rw [← hw5]; exact hzz
        rw [hw5] at Z1 Z2 Z3 HUU HOO ⊢
        clear hw5 hzz
        have s1 := Z1.out
        have s2 := Z2.out
        have s3 := Z3.out
        have hn5 : n ≤ 2000000 := by omega
        have hL5 : (forest n P m).length ≤ 2000000 := by omega
        have hzr : inR ((Z : Nat) : Int) 0 (n - 1) = true := inR_iff.2 ⟨by omega, by omega⟩
        have NT5 := Lib.hid (treeAt (HTN3.out.upd HUU.out (by omega) (fun q _ hq => by omega)) (HTP3.out.upd HUU.out (by
          rcases hgR' with g | g
          · exact .inr (by omega)
          · exact .inl g)) (show hi ≤ w5.heap.size by omega))
        clear ypd yid yfd ycd y6a y6b yp yi r0
        go_region_held3 (fun w' : World => w'.cell? ⟨w1.heap.size, 0, none⟩ = some (.slice u1 n u2) ∧ w'.cell? ⟨w1.heap.size, 1, none⟩ = some (.slice (some ⟨tb, tu, none⟩) (forest n P m).length u4) ∧ w'.cell? ⟨gp, k, none⟩ = some (.int .i64 (j : Nat)))
          (first | exact ⟨s1, s2, s3⟩ | exact SX)
          (first
            | (go_at_call 101; refine (l02Other_any _ _ n N (forest n P m).length (frP n P m) 0 w5.heap.size NT5.out.drew (Nat.le_refl _) HN.out hL5 j hjL (Z : Int) HPN.out hn5 hzr).mono ?_; rintro e w6 ⟨rfl, hb6⟩; rw [HYS.out, HOZ.out]; have hb6' := below_dr0 hb6; have SX : w6.cell? ⟨w1.heap.size, 0, none⟩ = some (.slice u1 n u2) ∧ w6.cell? ⟨w1.heap.size, 1, none⟩ = some (.slice (some ⟨tb, tu, none⟩) (forest n P m).length u4) ∧ w6.cell? ⟨gp, k, none⟩ = some (.int .i64 (j : Nat)) := ⟨(hb6'.cell (p := ⟨w1.heap.size, 0, none⟩) (by show w1.heap.size < _; omega)).trans s1, (hb6'.cell (p := ⟨w1.heap.size, 1, none⟩) (by show w1.heap.size < _; omega)).trans s2, (hb6'.cell (p := ⟨gp, k, none⟩) (by show gp < _; omega)).trans s3⟩))
        have HO6 := Lib.hid ((HOO.out.keep (hb6'.block _ (by omega))).congr (e := scy n P m c ((Y : Nat) : Int)) (fun a _ => by
          unfold upd
          rw [HNXX.out a, HSG.out]))
        have HU6 := Lib.hid (HUU.out.trans (Upd.of_below hb6'))
        have hY0 : (0 : Int) ≤ (Y : Int) := Int.natCast_nonneg _
        clear s1 s2 s3 SX hb6 hb6'
        go_wp2_with fail
        rw [← HQ.out]
        refine ⟨⟨_, _, _, _, _, _, _, _, _, _, _, _, _, _, _, _, _, _, _, _, _, _, _, _, _, _, _, _, _, _, _, _, _, _, _, _, _, ?rel, rfl⟩, ?measure⟩
        case rel => exact ⟨k + 1, _, rfl, by go_num, hlt, HYY.out.symm, HO6.out, HU6.out⟩
        case measure => simp [intOf]; omega
    · have hkn : (spL n (frP n P m) (forest n P m).length (t : Nat) (P c).f).length = k := by omega
      have k1' : ¬ ((k : Int) < ((spL n (frP n P m) (forest n P m).length (t : Nat) (P c).f).length : Int)) := by omega
      have HOF := Lib.hid (HOW.out.congr (e := cyc P (fE n P m) (fD n P m) c) (fun a ha => by
        rw [HZ.out, hkn, Nat.sub_self, ← HEND.out a ha]
        rfl))
      have HBF := Lib.hid (HB3.out.trans (HU.out.below (show w.heap.size ≤ w4.heap.size by omega) (fun q _ hq => by omega)))
      clear hkn
      go_wp2_with fail
      rw [← HQ.out]
      go_wp2_with fail
      go_ret
      exact ⟨_, w.heap.size + 1, rfl, HOF.out, by omega, HBF.out⟩
end Go.Proofs.YtdbgcbkmcbgdiaaGreat.mem

namespace Go.Proofs.YtdbgcbkmcbgdiaaGreat.mem
open Go.RowKit
set_option linter.unusedVariables false

set_option maxRecDepth 100000 in
set_option maxHeartbeats 8000000 in
theorem l05Add_any (w : World) (va vb : Value) (m : Nat) (d y : Nat → Int) (c : Int) (la ha lb hb : Nat) (hv : Sl w va m d la ha) (hha : ha ≤ w.heap.size) (hu : Sl w vb m y lb hb) (hhb : hb ≤ w.heap.size) (hm : m ≤ 1000000)
    (h1 : ∀ k, k < m → -4611686018427387904 ≤ d k + c * y k ∧ d k + c * y k ≤ 4611686018427387904) (h2 : ∀ k, k < m → -4611686018427387904 ≤ c * y k ∧ c * y k ≤ 4611686018427387904) :
    Calls Tryz.prog 51 #[va, vb, .int .i64 c] w fun e w' => ∃ v2 g, e = .returned v2 ∧ Own w' v2 m (fun k => d k + c * y k) g ∧ w.heap.size ≤ g ∧ Below w.heap.size w w' := by
  have b0 := below_new w (.cells #[] 2)
  have HO := Lib.hid (Own.nilled w (fun k => d k + c * y k))
  have HBB := Lib.hid b0
  have hs0 : (w.alloc (.cells #[] 2)).heap.size = w.heap.size + 1 := by simp
  obtain ⟨pa, ca, rfl, hva⟩ := hv
  obtain ⟨pb, cb, rfl, hvb⟩ := hu
  have HVZ := Lib.hid hva
  have HUZ := Lib.hid hvb
  have H1 := Lib.hid h1
  have H2 := Lib.hid h2
  clear hva hvb h1 h2 b0
  go_enter Tryz.func51, Tryz.ntmps51
  go_wp2_with fail
  generalize hW : w.alloc (.cells #[] 2) = w1 at *
  clear hW
  go_loopw [7, 8] (fun ov iv wr => ∃ (k g : Nat) (ov' : Value), ov' = ov ∧ iv = .int .i64 k ∧ k ≤ m ∧ Own wr ov' k (fun k => d k + c * y k) g ∧ w.heap.size ≤ g ∧ Below w.heap.size w wr) (fun _ iv _ => m - (intOf iv).toNat)
  case atStart => exact ⟨0, w.heap.size, _, rfl, rfl, Nat.zero_le _, HO.out, Nat.le_refl _, HBB.out⟩
  case round =>
    obtain ⟨k, g, ov, rfl, rfl, hk, ho, hg, hb'⟩ := hrel
    obtain ⟨co, rfl⟩ := ho.shape
    clear HO HBB
    have HO := Lib.hid ho
    have HBB := Lib.hid hb'
    have lg := ho.lt
    have hsz := hb'.size
    clear ho hb'
    have k0 : (0 : Int) ≤ (k : Int) := Int.natCast_nonneg _
    generalize hQ : Exit.then _ _ = Q
    have HQ := Lib.hid hQ
    clear hQ
    by_cases hlt : k < m
    · have k1 : (k : Int) < (m : Int) := by omega
      obtain ⟨ba, oa, rfl, g1, g2, hx⟩ : ∃ b o, pa = some ⟨b, o, none⟩ ∧ la ≤ b ∧ b < ha ∧ ∀ k, k < m → w.cell? ⟨b, o + k, none⟩ = some (.int .i64 (d k)) := by
        rcases HVZ.out with e | e
        · omega
        · exact e
      obtain ⟨bb, ob, rfl, g3, g4, hy⟩ : ∃ b o, pb = some ⟨b, o, none⟩ ∧ lb ≤ b ∧ b < hb ∧ ∀ k, k < m → w.cell? ⟨b, o + k, none⟩ = some (.int .i64 (y k)) := by
        rcases HUZ.out with e | e
        · omega
        · exact e
      have ya : wr.cell? ⟨ba, oa + k, none⟩ = some (.int .i64 (d k)) := (HBB.out.cell (p := ⟨ba, oa + k, none⟩) (by show ba < w.heap.size; omega)).trans (hx k hlt)
      have yb : wr.cell? ⟨bb, ob + k, none⟩ = some (.int .i64 (y k)) := (HBB.out.cell (p := ⟨bb, ob + k, none⟩) (by show bb < w.heap.size; omega)).trans (hy k hlt)
      have HX := Lib.hid hx
      have HY := Lib.hid hy
      clear hx hy
      have a1 := H1.out k hlt
      have a2 := H2.out k hlt
      obtain ⟨v7, w7, g7, hr, ap⟩ := app_run (wr.drew.alloc (.cells #[.int .i64 (d k + c * y k)] 2)) _ k _ g (d k + c * y k) wr.heap.size ((HO.out.keep (w' := wr.drew) rfl).alloc _) (cell_new1 wr.drew _) (by omega)
      obtain ⟨c7, rfl⟩ := ap.own.shape
      have bl := ap.below (B := w.heap.size) hg (by rw [szal]; show g ≤ wr.heap.size + 1; omega)
      have HO7 := Lib.hid ap.own'
      have K7 : Below w.heap.size wr w7 := (below_alloc (below_drw (Below.refl w.heap.size wr)) hsz (.cells #[.int .i64 (d k + c * y k)] 2)).trans bl.1
      have HB7 := Lib.hid (HBB.out.trans K7)
      have hg7 := bl.2
      clear ap bl
      have X0 := Lib.hid (show wr.cell? ⟨ba, oa + k, none⟩ = some (.int .i64 (d k)) ∧ wr.cell? ⟨bb, ob + k, none⟩ = some (.int .i64 (y k)) from ⟨ya, yb⟩)
      have hba : ba < w.heap.size := by omega
      have hbb : bb < w.heap.size := by omega
      have KA : ∀ W', Below w.heap.size wr W' → W'.cell? ⟨ba, oa + k, none⟩ = some (.int .i64 (d k)) ∧ W'.cell? ⟨bb, ob + k, none⟩ = some (.int .i64 (y k)) := fun W' h => ⟨(h.cell (p := ⟨ba, oa + k, none⟩) hba).trans ya, (h.cell (p := ⟨bb, ob + k, none⟩) hbb).trans yb⟩
      have hw2 : IntKind.i64.wrap (c * y k) = c * y k := IntWalk.i64_in _ (by omega)
      have hw1 : IntKind.i64.wrap (d k + c * y k) = d k + c * y k := IntWalk.i64_in _ (by omega)
      have Q1 : Below w.heap.size wr wr.drew := below_drw (Below.refl _ _)
      have Q2 : Below w.heap.size wr (wr.drew.alloc (.cells #[.int .i64 (d k + c * y k)] 2)) := below_alloc Q1 hsz _
      go_wp2_with fail
      go_region_held3 (fun w' : World => w'.cell? ⟨ba, oa + k, none⟩ = some (.int .i64 (d k)) ∧ w'.cell? ⟨bb, ob + k, none⟩ = some (.int .i64 (y k)))
        (first | exact KA _ Q1 | exact KA _ Q2 | exact KA _ K7)
        (first | (refine step_appT hr rfl (.tmp 16) (.tmp 28) rfl rfl rfl rfl ?_))
      clear ya yb KA Q1 Q2 K7 hr a1 a2 hw1 hw2
      go_wp2_with fail
      rw [← HQ.out]
      refine ⟨⟨_, _, _, _, _, _, _, _, _, _, _, _, _, _, _, _, _, _, _, _, _, _, ?rel, rfl⟩, ?measure⟩
      case rel => exact ⟨k + 1, g7, _, rfl, by go_num, hlt, HO7.out, hg7, HB7.out⟩
      case measure => simp [intOf]; omega
    · have hkn : m = k := by omega
      subst hkn
      have k1 : ¬ ((m : Int) < (m : Int)) := by omega
      go_wp2_with fail
      rw [← HQ.out]
      go_wp2_with fail
      go_ret
      exact ⟨_, g, rfl, HO.out, hg, HBB.out⟩
end Go.Proofs.YtdbgcbkmcbgdiaaGreat.mem

namespace Go.Proofs.YtdbgcbkmcbgdiaaGreat.mem
open Go.RowKit
set_option linter.unusedVariables false

end Go.Proofs.YtdbgcbkmcbgdiaaGreat.mem

namespace Go.Proofs.YtdbgcbkmcbgdiaaGreat.mem
open Go.RowKit
set_option linter.unusedVariables false

theorem l06Supply_any (w : World) (x : Int) : Calls Tryz.prog 97 #[.int .i64 x] w fun e w' => e = .returned (.bool (flQ x)) ∧ w = w' := by
  unfold flQ
  go_enter Tryz.func97, Tryz.ntmps97
  go_wp2_with (go_at_call 117; refine (l01In_any _ _ _ _).mono ?_; rintro e w' ⟨rfl, rfl⟩)
  go_ret
  exact ⟨rfl, rfl⟩
set_option maxRecDepth 100000 in
set_option maxHeartbeats 8000000 in
theorem l06List_any (w : World) (p0 p1 : Option Addr) (n m c0 c1 : Nat) (va : Value) (K : Nat) (d : Nat → Int) (la ha : Nat) (hv : Sl w va K d la ha) (hha : ha ≤ w.heap.size) (hK9 : K ≤ 9223372036854775807) (hn9 : n ≤ 9223372036854775807) :
    Calls Tryz.prog 47 #[.agg #[.slice p0 n c0, .slice p1 m c1], va] w fun e w' => e = .returned (.bool (liB n K d)) ∧ Below w.heap.size w w' := by
  have A0 := boxed w (.slice p0 n c0) (.slice p1 m c1) 27
  have B0 := Lib.hid (below_new w (.cells #[.slice p0 n c0, .slice p1 m c1] 27))
  have H1 := Lib.hid (hv.below B0.out hha)
  obtain ⟨p, cap, rfl, hc⟩ := hv.below B0.out hha
  have HC := Lib.hid hc
  have e1 := A0.b0
  clear hc A0 hv
  go_enter Tryz.func47, Tryz.ntmps47
  go_wp2_with fail
  obtain ⟨w1, hw1⟩ : ∃ w1, w.alloc (.cells #[.slice p0 n c0, .slice p1 m c1] 27) = w1 := ⟨_, rfl⟩
  rw [hw1] at B0 HC e1 ⊢
  clear hw1 H1
  go_loopw [5] (fun iv wr => ∃ k : Nat, iv = .int .i64 k ∧ k ≤ K ∧ flB d k = true ∧ wr = w1) (fun iv _ => K - (intOf iv).toNat)
  case atStart => exact ⟨0, rfl, Nat.zero_le _, rfl, rfl⟩
  case round =>
    obtain ⟨k, rfl, hk, hb, rfl⟩ := hrel
    generalize hQ : Exit.then _ _ = Q
    have HQ := Lib.hid hQ
    clear hQ
    have HF := Lib.hid hb
    clear hb
    have k0 : (0 : Int) ≤ (k : Int) := Int.natCast_nonneg _
    by_cases hlt : k < K
    · have k1 : (k : Int) < (K : Int) := by omega
      obtain ⟨b, o, rfl, _, _, hx⟩ : ∃ b o, p = some ⟨b, o, none⟩ ∧ la ≤ b ∧ b < ha ∧ ∀ k, k < K → wr.cell? ⟨b, o + k, none⟩ = some (.int .i64 (d k)) := by
        rcases HC.out with e | e
        · omega
        · exact e
      have y0 := hx k hlt
      have HX := Lib.hid hx
      clear hx
      cases hq : flQ (d k)
      · have HR := Lib.hid (show liB n K d = false by unfold liB; rw [flB_no hlt hq]; rfl)
        go_wp2_with (go_at_call 97; refine (l06Supply_any _ _).mono ?_; rintro e w' ⟨rfl, rfl⟩; rw [hq])
        rw [← HQ.out]
        go_wp2_with fail
        go_ret
        exact ⟨ret_b HR.out.symm, B0.out⟩
      · have HR := Lib.hid (show flB d (k + 1) = true by unfold flB; rw [HF.out, hq]; rfl)
        go_wp2_with (go_at_call 97; refine (l06Supply_any _ _).mono ?_; rintro e w' ⟨rfl, rfl⟩; rw [hq])
        rw [← HQ.out]
        refine ⟨⟨_, _, _, _, _, _, _, _, _, _, _, _, _, _, ?rel, rfl⟩, ?measure⟩
        case rel => exact ⟨k + 1, by go_num, hlt, HR.out, rfl⟩
        case measure => simp [intOf]; omega
    · have hkn : K = k := by omega
      have HR := Lib.hid (show liB n K d = decide (K = n) by unfold liB; rw [hkn, HF.out]; rfl)
      have hb2 : ((K : Int) == (n : Int)) = decide (K = n) := by
        by_cases e : K = n
        · simp [e]
        · rw [decide_eq_false e]; simp; omega
      subst hkn
      have k1 : ¬ ((K : Int) < (K : Int)) := by omega
      go_wp2_with fail
      rw [← HQ.out]
      go_wp2_with fail
      go_ret
      refine ⟨ret_b ?_, B0.out⟩
      first | exact HR.out.symm | (rw [HR.out, ← hb2])
theorem l06Code_any (w : World) (v : Value) (n : Nat) (N : Nat → Nod) (m : Nat) (P : Nat → Pip) (lo hi : Nat) (h : NetAt w v n N m P lo hi) (hhi : hi ≤ w.heap.size) (hN : ∀ i, i < n → (N i).s.size ≤ 9223372036854775807) (va : Value) (K : Nat) (d : Nat → Int) (la ha : Nat) (hv : Sl w va K d la ha) (hha : ha ≤ w.heap.size) (hK9 : K ≤ 9223372036854775807) :
    Calls Tryz.prog 116 #[v, va] w fun e w' => e = .returned (.int .i64 (svC n N m P K d)) ∧ Below w.heap.size w w' := by
  obtain ⟨p0, c0, p1, c1, rfl, hn9, hm9⟩ := h.parts
  have HV := Lib.hid h
  have HN := Lib.hid hN
  have A0 := boxed w (.slice p0 n c0) (.slice p1 m c1) 27
  have B0 := below_new w (.cells #[.slice p0 n c0, .slice p1 m c1] 27)
  have hs0 : (w.alloc (.cells #[.slice p0 n c0, .slice p1 m c1] 27)).heap.size = w.heap.size + 1 := by simp
  clear h hN
  go_enter Tryz.func116, Tryz.ntmps116
  have e0' := A0.b0
  have e1' := A0.b1
  go_wp2_with fail
  refine (sIsNetwork_any _ _ n N m P lo hi (HV.out.below B0 hhi) (by omega) HN.out).mono ?_
  rintro e w1 ⟨rfl, b1⟩
  have A1 := A0.below b1 (by omega)
  have B1 := B0.trans (b1.mono (by omega))
  have hs1 := b1.size
  have e0 := A1.b0
  have e1 := A1.b1
  have e2 : w.heap.size < w1.heap.size := by omega
  clear A0 B0 b1 e0' e1'
  cases hB : netB n N m P
  · have H2 := Lib.hid (show svC n N m P K d = 1 by unfold svC; rw [hB]; rfl)
    clear hB
    go_wp2_with fail
    go_ret
    exact ⟨ret_i H2.out.symm, B1⟩
  · have H1 := Lib.hid (hv.below B1 hha)
    cases hl : liB n K d
    · have H2 := Lib.hid (show svC n N m P K d = 3 by
        unfold svC
        rw [hB, if_pos rfl, if_neg (fun g => by rw [liB_iff.2 g] at hl; cases hl)])
      clear hB
      go_wp2_with (go_at_call 47; refine (l06List_any _ p0 p1 n m c0 c1 _ K d _ _ H1.out (by omega) hK9 hn9).mono ?_; rintro e w4 ⟨rfl, hb4⟩; rw [hl])
      go_ret
      exact ⟨ret_i H2.out.symm, B1.trans (hb4.mono (by omega))⟩
    · have H2 := Lib.hid (show svC n N m P K d = 0 by
        unfold svC
        rw [hB, if_pos rfl, if_pos (liB_iff.1 hl)])
      clear hB
      go_wp2_with (go_at_call 47; refine (l06List_any _ p0 p1 n m c0 c1 _ K d _ _ H1.out (by omega) hK9 hn9).mono ?_; rintro e w4 ⟨rfl, hb4⟩; rw [hl])
      go_ret
      exact ⟨ret_i H2.out.symm, B1.trans (hb4.mono (by omega))⟩
/-- are the first k elements the same? -/
def smB (d e : Nat → Int) (k : Nat) : Bool := (List.range k).all (fun z => d z == e z)
theorem smB_succ (d e : Nat → Int) (k : Nat) : smB d e (k + 1) = (smB d e k && (d k == e k)) := by
  unfold smB
  rw [List.range_succ, List.all_append]
  simp
theorem smB_no {d e : Nat → Int} {n k : Nat} (hk : k < n) (h : (d k == e k) = false) : smB d e n = false := by
  unfold smB
  rw [List.all_eq_false]
  exact ⟨k, List.mem_range.2 hk, by simpa using h⟩
set_option maxRecDepth 100000 in
set_option maxHeartbeats 8000000 in
theorem l06Same_any (w : World) (va vb : Value) (n : Nat) (d : Nat → Int) (la ha : Nat) (hv : Sl w va n d la ha) (e : Nat → Int) (lb hb : Nat) (hu : Sl w vb n e lb hb) (hn : n ≤ 9223372036854775807) :
    Calls Tryz.prog 68 #[va, vb] w fun e' w' => e' = .returned (.bool (smB d e n)) ∧ Below w.heap.size w w' := by
  obtain ⟨pa, ca, rfl, hva⟩ := hv
  obtain ⟨pb, cb, rfl, hvb⟩ := hu
  have HVA := Lib.hid hva
  have HVB := Lib.hid hvb
  have hb0 : ((n : Int) != (n : Int)) = false := by simp
  clear hva hvb
  go_enter Tryz.func68, Tryz.ntmps68
  go_wp2_with fail
  go_loopw [5] (fun iv wr => ∃ k : Nat, iv = .int .i64 k ∧ k ≤ n ∧ smB d e k = true ∧ (∀ b o, wr.cell? ⟨b, o, none⟩ = w.cell? ⟨b, o, none⟩) ∧ Below w.heap.size w wr) (fun iv _ => n - (intOf iv).toNat)
  case atStart => exact ⟨0, rfl, Nat.zero_le _, rfl, fun _ _ => rfl, Below.refl _ _⟩
  case round =>
    obtain ⟨k, rfl, hk, hb', hce, hbl⟩ := hrel
    generalize hQ : Exit.then _ _ = Q
    have HQ := Lib.hid hQ
    clear hQ
    have HF := Lib.hid hb'
    have HCE := Lib.hid hce
    have HBL := Lib.hid hbl
    clear hb' hce hbl
    have k0 : (0 : Int) ≤ (k : Int) := Int.natCast_nonneg _
    by_cases hlt : k < n
    · have k1 : (k : Int) < (n : Int) := by omega
      obtain ⟨ba, oa, rfl, _, _, hx⟩ : ∃ b o, pa = some ⟨b, o, none⟩ ∧ la ≤ b ∧ b < ha ∧ ∀ k, k < n → w.cell? ⟨b, o + k, none⟩ = some (.int .i64 (d k)) := by
        rcases HVA.out with e | e
        · omega
        · exact e
      obtain ⟨bb, ob, rfl, _, _, hz⟩ : ∃ b o, pb = some ⟨b, o, none⟩ ∧ lb ≤ b ∧ b < hb ∧ ∀ k, k < n → w.cell? ⟨b, o + k, none⟩ = some (.int .i64 (e k)) := by
        rcases HVB.out with e | e
        · omega
        · exact e
      have y0 := (HCE.out ba (oa + k)).trans (hx k hlt)
      have y1 := (HCE.out bb (ob + k)).trans (hz k hlt)
      have HX := Lib.hid hx
      have HZ := Lib.hid hz
      clear hx hz
      cases hq : (d k == e k)
      · have HR := Lib.hid (smB_no hlt hq)
        have hq2 : (d k != e k) = true := by unfold bne; rw [hq]; rfl
        clear hq
        go_wp2_with fail
        go_quiet (fail)
        go_wp2_with fail
        rw [← HQ.out]
        go_wp2_with fail
        go_ret
        exact ⟨ret_b HR.out.symm, below_dN HBL.out _⟩
      · have HR := Lib.hid (show smB d e (k + 1) = true by rw [smB_succ, HF.out, hq]; rfl)
        have hq2 : (d k != e k) = false := by unfold bne; rw [hq]; rfl
        clear hq
        go_wp2_with fail
        go_quiet (fail)
        go_wp2_with fail
        rw [← HQ.out]
        refine ⟨⟨_, _, _, _, _, _, _, _, _, _, _, _, _, _, _, _, _, ?rel, rfl⟩, ?measure⟩
        case rel => exact ⟨k + 1, by go_num, hlt, HR.out, fun b o => HCE.out b o, below_dN HBL.out _⟩
        case measure => simp [intOf]; omega
    · have hkn : n = k := by omega
      have HR := Lib.hid (show smB d e n = true by rw [hkn]; exact HF.out)
      have k1 : ¬ ((k : Int) < (n : Int)) := by omega
      clear hkn
      go_wp2_with fail
      rw [← HQ.out]
      go_wp2_with fail
      go_ret
      exact ⟨ret_b HR.out.symm, HBL.out⟩
end Go.Proofs.YtdbgcbkmcbgdiaaGreat.mem

namespace Go.Proofs.YtdbgcbkmcbgdiaaGreat.mem
open Go.RowKit
set_option linter.unusedVariables false

set_option maxRecDepth 100000 in
set_option maxHeartbeats 8000000 in
theorem l06Even_any (w : World) (v : Value) (n : Nat) (N : Nat → Nod) (m : Nat) (P : Nat → Pip) (lo hi : Nat) (h : NetAt w v n N m P lo hi) (hhi : hi ≤ w.heap.size) (hN : ∀ i, i < n → (N i).s.size ≤ 9223372036854775807) (hB : netB n N m P = true) (va : Value) (s : Nat → Int) (la ha : Nat) (hv : Sl w va n s la ha) (hha : ha ≤ w.heap.size) (hf : flB s n = true) :
    Calls Tryz.prog 49 #[v, va] w fun e w' => e = .returned (.bool (evB n P m s)) ∧ Below w.heap.size w w' := by
  obtain ⟨p0, c0, p1, c1, rfl, hn9, hm9⟩ := h.parts
  obtain ⟨hn1, hn24, hm40⟩ := net_sz hB
  have HV := Lib.hid h
  have HN := Lib.hid hN
  have HB := Lib.hid hB
  have HFR := Lib.hid (show ∀ i, i < n → -30000 ≤ s i ∧ s i ≤ 30000 from fun i hi => flQ_iff.1 (flB_iff.1 hf i hi))
  obtain ⟨pa, ca, rfl, hva⟩ := hv
  have HVZ := Lib.hid hva
  have A0 := boxed w (.slice p0 n c0) (.slice p1 m c1) 27
  have B0 := below_new w (.cells #[.slice p0 n c0, .slice p1 m c1] 27)
  have hs0 : (w.alloc (.cells #[.slice p0 n c0, .slice p1 m c1] 27)).heap.size = w.heap.size + 1 := by simp
  have m1 := fun W => make_int64 W n (by omega)
  have n0 : (0 : Int) ≤ (n : Int) := Int.natCast_nonneg _
  clear h hN hB hva hf
  go_enter Tryz.func49, Tryz.ntmps49
  have e0' := A0.b0
  have e1' := A0.b1
  go_wp2_with fail
  refine (l04Components_any _ _ n N m P lo hi (HV.out.below B0 hhi) (by omega) HN.out HB.out).mono ?_
  rintro e w1 ⟨gc, rfl, hgc, oc, b1⟩
  have B1 := B0.trans (b1.mono (by omega))
  have hs1 := b1.size
  have b2 := below_new w1 (.cells (zeros n) 2)
  have lc := oc.lt
  have HS := Lib.hid (Ob.zeros w1 n)
  have HC := Lib.hid (oc.below b2 lc)
  have HBB := Lib.hid (B1.trans (b2.mono (by omega)))
  have hgl : w.heap.size < w1.heap.size := by omega
  clear A0 B0 e0' e1' b1 b2 oc B1 hs0 hs1 hgc
  go_wp2_with fail
  obtain ⟨w2, hw2⟩ : ∃ w2, w1.alloc (.cells (zeros n) 2) = w2 := ⟨_, rfl⟩
  obtain ⟨gs, hgs⟩ : ∃ gs, w1.heap.size = gs := ⟨_, rfl⟩
  rw [hw2] at HC HBB HS ⊢
  rw [hgs] at HS lc hgl ⊢
  clear hw2 hgs m1
  go_loopw [7] (fun iv wr => ∃ k : Nat, iv = .int .i64 k ∧ k ≤ n ∧ Ob wr gs n (ia (fun z => csm (cmpN n P m) s k ((z : Nat) : Int))) ∧ Ob wr gc n (tabC (cmp n P m n)) ∧ Below w.heap.size w wr) (fun iv _ => n - (intOf iv).toNat)
  case atStart => exact ⟨0, rfl, Nat.zero_le _, HS.out.congr (fun k _ => rfl), HC.out, HBB.out⟩
  case round =>
    obtain ⟨k, rfl, hk, os, oc, hb⟩ := hrel
    clear HS HC HBB
    have HS := Lib.hid os
    have HC := Lib.hid oc
    have HBB := Lib.hid hb
    clear os oc hb
    generalize hQ : Exit.then _ _ = Q
    have HQ := Lib.hid hQ
    clear hQ
    have k0 : (0 : Int) ≤ (k : Int) := Int.natCast_nonneg _
    by_cases hlt : k < n
    · have k1 : (k : Int) < (n : Int) := by omega
      obtain ⟨r, hr, hcr⟩ := cmp_nat (P := P) (m := m) HB.out hlt
      have yc : wr.cell? ⟨gc, k, none⟩ = some (.int .i64 (r : Nat)) := by rw [← hcr]; exact HC.out.cell k hlt
      obtain ⟨ba, oa, rfl, g1, g2, hx⟩ : ∃ b o, pa = some ⟨b, o, none⟩ ∧ la ≤ b ∧ b < ha ∧ ∀ k, k < n → w.cell? ⟨b, o + k, none⟩ = some (.int .i64 (s k)) := by
        rcases HVZ.out with e | e
        · omega
        · exact e
      have ya : wr.cell? ⟨ba, oa + k, none⟩ = some (.int .i64 (s k)) := (HBB.out.cell (p := ⟨ba, oa + k, none⟩) (by show ba < w.heap.size; omega)).trans (hx k hlt)
      have HX := Lib.hid hx
      clear hx
      have ys : wr.cell? ⟨gs, r, none⟩ = some (.int .i64 (csm (cmpN n P m) s k ((r : Nat) : Int))) := HS.out.cell r hr
      have yz := HS.out.free r
      have hb1 := csm_bd (R := cmpN n P m) (s := s) (z := ((r : Nat) : Int)) (k := k) (fun i hi => HFR.out i (by omega))
      have hd := HFR.out k hlt
      have a1 : -4611686018427387904 ≤ csm (cmpN n P m) s k ((r : Nat) : Int) + s k ∧ csm (cmpN n P m) s k ((r : Nat) : Int) + s k ≤ 4611686018427387904 := by omega
      have r0 : (0 : Int) ≤ (r : Int) := Int.natCast_nonneg _
      have r1 : (r : Int) < (n : Int) := by omega
      have HU := Lib.hid (show ∀ z : Nat, upd (fun z => csm (cmpN n P m) s k ((z : Nat) : Int)) r (csm (cmpN n P m) s k ((r : Nat) : Int) + s k) z = csm (cmpN n P m) s (k + 1) ((z : Nat) : Int) from fun z => by
        simp only [upd]
        rw [csm]
        unfold cmpN
        rw [hcr]
        by_cases e : z = r
        · subst e; rw [if_pos rfl, if_pos rfl]
        · rw [if_neg e, if_neg (show ¬ ((r : Nat) : Int) = ((z : Nat) : Int) by omega), Int.add_zero])
      have o1 := (Only.refl gs wr).setCell r (.int .i64 (csm (cmpN n P m) s k ((r : Nat) : Int) + s k))
      have HS1 := Lib.hid (HS.out.setIn r (csm (cmpN n P m) s k ((r : Nat) : Int) + s k) hr)
      have HC1 := Lib.hid (HC.out.only o1 (by omega))
      have HB1 := Lib.hid (HBB.out.trans (o1.below (B := w.heap.size) (by omega)))
      clear hb1 hd hcr o1
      go_wp2_with fail
      go_still_tail 18, (by kernel_rfl)
      change wpList _ _ _ _ _ wr.drew
      go_wp2_with fail
      rw [← HQ.out]
      refine ⟨⟨_, _, _, _, _, _, _, _, _, _, _, _, _, _, _, _, _, _, _, _, _, _, _, _, _, ?rel, rfl⟩, ?measure⟩
      case rel => exact ⟨k + 1, by go_num, hlt, (HS1.out.congr (fun z _ => by unfold ia; rw [HU.out z])).keep rfl, HC1.out.keep rfl, below_drw HB1.out⟩
      case measure => simp [intOf]; omega
    · have hkn : n = k := by omega
      have hr : Ob wr gs n (ia (fun z => csm (cmpN n P m) s n ((z : Nat) : Int))) := by
        have := HS.out
        rwa [← hkn] at this
      have HR := Lib.hid hr
      have k1 : ¬ ((k : Int) < (n : Int)) := by omega
      clear hkn hr
      go_wp2_with fail
      rw [← HQ.out]
      go_wp2_with fail
      refine (l05Zero_any _ _ n _ _ _ (HR.out.sl n n (Nat.le_refl _)) (by omega)).mono ?_
      rintro e w9 ⟨rfl, rfl⟩
      go_wp2_with fail
      go_ret
      exact ⟨rfl, HBB.out⟩
theorem absS_any (x : Int) (w : World) (h1 : -9223372036854775807 ≤ x) (h2 : x ≤ 9223372036854775807) : Calls Tryz.prog 126 #[.int .i64 x] w fun e w' => e = .returned (.int .i64 (x.natAbs : Int)) ∧ w = w' := by
  by_cases h : x < 0
  all_goals
    go_enter Tryz.func126, Tryz.ntmps126
    go_wp2
    go_ret
    exact ⟨ret_i2 (by omega), rfl⟩
end Go.Proofs.YtdbgcbkmcbgdiaaGreat.mem

namespace Go.Proofs.YtdbgcbkmcbgdiaaGreat.mem
open Go.RowKit
set_option linter.unusedVariables false

end Go.Proofs.YtdbgcbkmcbgdiaaGreat.mem

namespace Go.Proofs.YtdbgcbkmcbgdiaaGreat.mem
open Go.RowKit
set_option linter.unusedVariables false

theorem oth_sum {q : Pip} {z : Int} (h : endB q z = true) : q.f + q.t - z = othV q z := by
  unfold endB at h
  simp only [Bool.or_eq_true, beq_iff_eq] at h
  unfold othV
  by_cases hf : q.f = z
  · rw [if_pos hf]; omega
  · rw [if_neg hf]
    have := h.resolve_left hf
    omega
theorem fo_end {n : Nat} {N : Nat → Nod} {P : Nat → Pip} {m : Nat} (hN : netB n N m P = true) {V a : Nat} (hV : V < n) (h : fE n P m ((V : Nat) : Int) = ((a : Nat) : Int)) : endB (P a) ((V : Nat) : Int) = true := by
  rcases (fo_net (P := P) (m := m) hN).par ((V : Nat) : Int) (by omega) (by omega) with e | ⟨b, hb, e, g, _⟩
  · omega
  · obtain rfl : b = a := by omega
    exact g
theorem vis_len (n : Nat) (P : Nat → Pip) (m : Nat) (x : Int) : 1 ≤ (vis n P m x).length := by
  have := vis_self n P m x
  unfold vhas at this
  rcases Nat.eq_zero_or_pos (vis n P m x).length with h | h
  · rw [List.eq_nil_of_length_eq_zero h] at this
    cases this
  · exact h
set_option maxRecDepth 100000 in
set_option maxHeartbeats 16000000 in
theorem l06Forest_any (w : World) (v : Value) (n : Nat) (N : Nat → Nod) (m : Nat) (P : Nat → Pip) (lo hi : Nat) (h : NetAt w v n N m P lo hi) (hhi : hi ≤ w.heap.size) (hN : ∀ i, i < n → (N i).s.size ≤ 9223372036854775807) (hB : netB n N m P = true) (va : Value) (s : Nat → Int) (la ha : Nat) (hv : Sl w va n s la ha) (hha : ha ≤ w.heap.size) (hf : flB s n = true) (hev : evB n P m s = true) :
    Calls Tryz.prog 50 #[v, va] w fun e w' => ∃ v2 g, e = .returned v2 ∧ Own w' v2 m (fflN n P m s) g ∧ w.heap.size ≤ g ∧ Below w.heap.size w w' := by
  obtain ⟨p0, c0, p1, c1, rfl, hn9, hm9⟩ := h.parts
  obtain ⟨hn1, hn24, hm40⟩ := net_sz hB
  have HV := Lib.hid h
  have HN := Lib.hid hN
  have HB := Lib.hid hB
  have HEV := Lib.hid hev
  have HPB := Lib.hid (fun a (ha : a < m) => net_pip hB ha)
  have HFR := Lib.hid (show ∀ i, i < n → -30000 ≤ s i ∧ s i ≤ 30000 from fun i hi => flQ_iff.1 (flB_iff.1 hf i hi))
  obtain ⟨pa, ca, rfl, hva⟩ := hv
  obtain ⟨ba, oa, rfl, g1, g2', hx⟩ : ∃ b o, pa = some ⟨b, o, none⟩ ∧ la ≤ b ∧ b < ha ∧ ∀ k, k < n → w.cell? ⟨b, o + k, none⟩ = some (.int .i64 (s k)) := by
    rcases hva with e | e
    · omega
    · exact e
  have A0 := boxed w (.slice p0 n c0) (.slice p1 m c1) 27
  have B0 := below_new w (.cells #[.slice p0 n c0, .slice p1 m c1] 27)
  obtain ⟨w1, hw1⟩ : ∃ w1, w.alloc (.cells #[.slice p0 n c0, .slice p1 m c1] 27) = w1 := ⟨_, rfl⟩
  have hs1 : w1.heap.size = w.heap.size + 1 := by rw [← hw1]; simp
  have e1 : w1.cell? ⟨w.heap.size, 1, none⟩ = some (.slice p1 m c1) := by rw [← hw1]; exact A0.b1
  rw [hw1] at A0 B0
  have O2 := Own.made w1 m (by omega)
  obtain ⟨w2, hw2⟩ : ∃ w2, w1.alloc (.cells (zeros m) 2) = w2 := ⟨_, rfl⟩
  have hs2 : w2.heap.size = w.heap.size + 1 + 1 := by rw [← hw2]; simp [hs1]
  have b2 : Below w1.heap.size w1 w2 := by rw [← hw2]; exact below_new _ _
  rw [hw2] at O2
  have A2 := A0.below b2 (by omega)
  have B2 := B0.trans (b2.mono (by omega))
  have O3 := Own.nilled w2 s
  obtain ⟨w3, hw3⟩ : ∃ w3, w2.alloc (.cells #[] 2) = w3 := ⟨_, rfl⟩
  have hs3 : w3.heap.size = w.heap.size + 3 := by rw [← hw3]; simp [hs2]
  have b3 : Below w2.heap.size w2 w3 := by rw [← hw3]; exact below_new _ _
  rw [hw3] at O3
  have A3 := A2.below b3 (by omega)
  have B3 := B2.trans (b3.mono (by omega))
  have O23 := O2.below b3 (by omega)
  rw [hs2] at O3
  obtain ⟨v4, w4, gl, hr, ap⟩ := apm_run w3 _ 0 s (w.heap.size + 1 + 1) ba oa n ca s O3 (fun k hk => (B3.cell (p := ⟨ba, oa + k, none⟩) (by show ba < w.heap.size; omega)).trans (hx k hk)) (by omega)
  have bl := ap.below (B := w.heap.size + 2) (Nat.le_refl _) (by omega)
  have O4 := ap.own.congr (e := s) (fun k hk => by unfold catD; rw [if_neg (by omega), Nat.sub_zero])
  rw [Nat.zero_add] at O4
  obtain ⟨cl, rfl⟩ := O4.shape
  have O24 := O23.keep (bl.1.block _ (by omega))
  have A4 := A3.below bl.1 (by omega)
  have B4 := B3.trans (bl.1.mono (by omega))
  have f0 : w4.cell? ⟨w.heap.size, 0, none⟩ = some (.slice p0 n c0) := A4.b0
  have f1 : w4.cell? ⟨w.heap.size, 1, none⟩ = some (.slice p1 m c1) := A4.b1
  have hlg : w.heap.size + 1 < gl := by have := bl.2; omega
  have hs4 := B4.size
  have l4 := O24.lt
  have lL := O4.lt
  have m1 := fun W => make_int64 W m (by omega)
  have n0 : (0 : Int) ≤ (n : Int) := Int.natCast_nonneg _
  have m0 : (0 : Int) ≤ (m : Int) := Int.natCast_nonneg _
  have HO := Lib.hid O24
  have HL := Lib.hid O4
  have HA := Lib.hid A4
  have HBB := Lib.hid B4
  have HX := Lib.hid hx
  rw [hs1] at HO
  have hs2' := Lib.hid hs2
  clear h hN hB hva hf hev A0 B0 O2 b2 A2 B2 O3 b3 A3 B3 O23 ap bl O4 O24 A4 B4 hx hs3 hs2
  subst hw3 hw2 hw1
  go_enter Tryz.func50, Tryz.ntmps50
  go_wp2_with (at_builtin; refine wpList_app hr rfl _ _ rfl rfl rfl rfl ?_)
  clear hr e1 m1
  refine (l04Components_any _ _ n N m P lo hi (HV.out.below HBB.out hhi) (by omega) HN.out HB.out).mono ?_
  rintro e w5 ⟨gc, rfl, hgc, oc, b5⟩
  have HC := Lib.hid oc
  have HO5 := Lib.hid (HO.out.below b5 (by omega))
  have HL5 := Lib.hid (HL.out.below b5 (Nat.le_refl _))
  have HA5 := Lib.hid (HA.out.below b5 (by omega))
  have HB5 := Lib.hid (HBB.out.trans (b5.mono (by omega)))
  have hgl2 : gl < gc := by omega
  obtain ⟨go, hgo⟩ : ∃ go, w.heap.size + 1 = go := ⟨_, rfl⟩
  simp only [szal] at *
  rw [hgo] at HO5 hlg ⊢
  have hgo2 : w.heap.size < go := by omega
  have HST := Lib.hid (St.start (n := n) (P := P) (m := m) (E := fE n P m) (s := s) (DnR_zero n P m))
  clear oc b5 HO HL HA HBB hgc f0 f1 hs1 hs4 l4 lL hgo hs2'
  go_wp2_with fail
  go_loopw [8] (fun iv wr => ∃ (k : Nat) (x l : Nat → Int), iv = .int .i64 k ∧ k ≤ n ∧ St n P m (fE n P m) s (DnR n P m k) x l ∧ Own wr (.slice (some ⟨go, 0, none⟩) m m) m x go ∧ Own wr (.slice (some ⟨gl, 0, none⟩) n cl) n l gl ∧ Ob wr gc n (tabC (cmp n P m n)) ∧ Ob wr w.heap.size 2 (bx (.slice p0 n c0) (.slice p1 m c1)) ∧ Below w.heap.size w wr) (fun iv _ => n - (intOf iv).toNat)
  case atStart => exact ⟨0, _, _, rfl, Nat.zero_le _, HST.out, HO5.out, HL5.out, HC.out, HA5.out, HB5.out⟩
  case round =>
    obtain ⟨k, x, l, rfl, hk, st, ho, hl, hc, ha', hb⟩ := hrel
    clear HST HO5 HL5 HC HA5 HB5
    have ST := Lib.hid st
    have HO := Lib.hid ho
    have HL := Lib.hid hl
    have HC := Lib.hid hc
    have HA := Lib.hid ha'
    have HBB := Lib.hid hb
    have lo1 := ho.lt
    have ll := hl.lt
    have lc := hc.lt
    have la1 := ha'.lt
    clear st ho hl hc ha' hb
    have k0 : (0 : Int) ≤ (k : Int) := Int.natCast_nonneg _
    generalize hQ : Exit.then _ _ = Q
    have HQ := Lib.hid hQ
    clear hQ
    by_cases hlt : k < n
    · have k1 : (k : Int) < (n : Int) := by omega
      have y0 : wr.cell? ⟨gc, k, none⟩ = some (.int .i64 (cmp n P m n k)) := HC.out.cell k hlt
      have HRE := Lib.hid (rts_eq n P m k)
      cases hr : rts n P m k
      · have hb1 : (cmp n P m n k != ((k : Nat) : Int)) = true := by
          have := HRE.out
          rw [hr, beq_eq_false_iff_ne] at this
          simpa using fun e => this e.symm
        have ST1 := Lib.hid (ST.out.same (DnR_skip hr))
        clear hr
        go_wp2_with fail
        rw [← HQ.out]
        refine ⟨⟨_, _, _, _, _, _, _, _, _, _, _, _, _, _, _, _, _, _, _, _, _, _, _, _, _, _, _, _, _, _, _, _, _, _, _, _, _, _, _, _, _, _, _, _, _, _, _, _, _, _, _, _, _, _, _, _, _, _, _, _, _, _, _, _, _, _, _, _, _, _, _, _, _, _, _, _, _, _, ?rel, rfl⟩, ?measure⟩
        case rel => exact ⟨k + 1, x, l, by go_num, hlt, ST1.out, HO.out, HL.out, HC.out, HA.out, HBB.out⟩
        case measure => simp [intOf]; omega
      · have hce : cmp n P m n k = ((k : Nat) : Int) := by
          have := HRE.out
          rw [hr, beq_iff_eq] at this
          exact this.symm
        have hb1 : (cmp n P m n k != ((k : Nat) : Int)) = false := by simp [hce]
        have HRT := Lib.hid hr
        have y1 : wr.cell? ⟨w.heap.size, 0, none⟩ = some (.slice p0 n c0) := HA.out.b0
        have y2 : wr.cell? ⟨w.heap.size, 1, none⟩ = some (.slice p1 m c1) := HA.out.b1
        clear hr hce
        go_wp2_with fail
        refine (l04Search_any _ _ n N m P lo hi (HV.out.below HBB.out hhi) (by omega) HN.out HB.out k hlt).mono ?_
        rintro e w5 ⟨v2, g2, rfl, oe, oo, hg2, b5⟩
        obtain ⟨co, rfl⟩ := oo.shape
        obtain ⟨ge, hge⟩ : ∃ ge, wr.heap.size + 1 = ge := ⟨_, rfl⟩
        rw [hge] at oe
        rw [hge]
        obtain ⟨L, hL⟩ : ∃ L, (vis n P m ((k : Nat) : Int)).length = L := ⟨_, rfl⟩
        have hL1 : 1 ≤ L := by rw [← hL]; exact vis_len n P m _
        have HLE := Lib.hid hL
        rw [hL] at oo ⊢
        have ST5 := Lib.hid (ST.out.same (DnI_top (k := k) (j := L - 1 + 1) (show (vis n P m ((k : Nat) : Int)).length ≤ L - 1 + 1 by rw [hL]; omega)))
        have hne1 : go ≠ ge := by omega
        have hne2 : gl ≠ ge := by omega
        have hne3 : go ≠ g2 := by omega
        have hne4 : gl ≠ g2 := by omega
        have HO5 := Lib.hid (HO.out.below b5 (by omega))
        have HL5 := Lib.hid (HL.out.below b5 (by omega))
        have HC5 := Lib.hid (HC.out.below b5 lc)
        have HA5 := Lib.hid (HA.out.below b5 la1)
        have HB5 := Lib.hid (HBB.out.trans (b5.mono (by have := HBB.out.size; omega)))
        have HE5 := Lib.hid oe
        have HR5 := Lib.hid oo
        have hLL : (L : Int) - 1 = ((L - 1 : Nat) : Int) := by omega
        have HLL := Lib.hid hLL
        have L0 : (0 : Int) ≤ (L : Int) - 1 := by omega
        have L9 : (L : Int) ≤ 1000 := by have := (vis_ok (P := P) (m := m) (x := ((k : Nat) : Int)) HB.out (by omega)).len; rw [hL] at this; omega
        clear hL oe oo b5 y0 y1 y2 hge ST hLL
        go_wp2_with fail
        go_loopw [11] (fun jv wr => ∃ (j : Nat) (x l : Nat → Int), jv = .int .i64 j ∧ j ≤ L - 1 ∧ St n P m (fE n P m) s (DnI n P m k (j + 1)) x l ∧ Own wr (.slice (some ⟨go, 0, none⟩) m m) m x go ∧ Own wr (.slice (some ⟨gl, 0, none⟩) n cl) n l gl ∧ Ob wr ge n (tabC (vval (·.en) (vis n P m ((k : Nat) : Int)))) ∧ Own wr (.slice (some ⟨g2, 0, none⟩) L co) L (ordD (vis n P m ((k : Nat) : Int))) g2 ∧ Ob wr gc n (tabC (cmp n P m n)) ∧ Ob wr w.heap.size 2 (bx (.slice p0 n c0) (.slice p1 m c1)) ∧ Below w.heap.size w wr) (fun jv _ => (intOf jv).toNat)
        case atStart => exact ⟨L - 1, _, _, by rw [← HLL.out], Nat.le_refl _, ST5.out, HO5.out, HL5.out, HE5.out, HR5.out, HC5.out, HA5.out, HB5.out⟩
        case round =>
          obtain ⟨j, x, l, rfl, hj, st, ho, hl, he, hr, hc, ha', hb⟩ := hrel
          clear ST5 HO5 HL5 HE5 HR5 HC5 HA5 HB5 HO HL HC HA HBB lo1 ll lc la1
          have HST := Lib.hid st
          have HO := Lib.hid ho
          have HL := Lib.hid hl
          have HE := Lib.hid he
          have HR := Lib.hid hr
          have HC := Lib.hid hc
          have HA := Lib.hid ha'
          have HBB := Lib.hid hb
          have lo1 := ho.lt
          have ll := hl.lt
          have le1 := he.lt
          have lr := hr.lt
          have lc := hc.lt
          have la1 := ha'.lt
          have hsz := hb.size
          clear st ho hl he hr hc ha' hb
          generalize hQ3 : Exit.then _ _ = Q3
          have HQ3 := Lib.hid hQ3
          clear hQ3
          rcases Nat.eq_zero_or_pos j with rfl | hj0
          · have ST1 := Lib.hid (HST.out.same (DnI_end HB.out hlt HRT.out))
            go_wp2_with fail
            rw [← HQ3.out]
            go_wp2_with fail
            rw [← HQ.out]
            refine ⟨⟨_, _, _, _, _, _, _, _, _, _, _, _, _, _, _, _, _, _, _, _, _, _, _, _, _, _, _, _, _, _, _, _, _, _, _, _, _, _, _, _, _, _, _, _, _, _, _, _, _, _, _, _, _, _, _, _, _, _, _, _, _, _, _, _, _, _, _, _, _, _, _, _, _, _, _, _, _, _, ?rel, rfl⟩, ?measure⟩
            case rel => exact ⟨k + 1, x, l, by go_num, hlt, ST1.out, HO.out, HL.out, HC.out, HA.out, HBB.out⟩
            case measure => simp [intOf]; omega
          · obtain ⟨j, rfl⟩ : ∃ i, j = i + 1 := ⟨j - 1, by omega⟩
            have hjL : j + 1 < L := by omega
            obtain ⟨v, hv⟩ : ∃ v, (vis n P m ((k : Nat) : Int))[j + 1]? = some v := ⟨_, List.getElem?_eq_getElem (by rw [HLE.out]; exact hjL)⟩
            obtain ⟨V, a, U, i, u, hV, hVn, ham, hen, hE, hoth, hUn, hij, hui, hU, hval⟩ := vis_en HB.out hlt HRT.out hv (by omega)
            have hend := fo_end HB.out hVn hE
            have hsum := (oth_sum hend).trans hoth
            have STX := St.step (fo_net HB.out) HST.out hVn ham hE hoth hUn (DnI_not HB.out hlt HRT.out hv hV (by omega)) (DnI_not HB.out hlt HRT.out hui hU (by omega))
            have ST := Lib.hid (STX.same (DnI_step hv (by omega) hV))
            have hbV := HST.out.bd HFR.out hn24 hVn
            have hbU := HST.out.bd HFR.out hn24 hUn
            have hUV : U ≠ V := by
              intro e
              have := (oth_oth (HPB.out a ham) hend).2.2
              rw [hoth, e] at this
              exact this rfl
            have hyV : inR ((V : Nat) : Int) 0 ((n : Nat) - 1) = true := by rw [inR_iff]; omega
            obtain ⟨lv, hlv⟩ : ∃ lv, l V = lv := ⟨_, rfl⟩
            have HLV := Lib.hid hlv
            rw [hlv] at hbV
            have y0 : wr.cell? ⟨g2, j + 1, none⟩ = some (.int .i64 (V : Nat)) := by rw [← hV, ← ordD_some hv]; exact HR.out.row.cell (j + 1) hjL
            have y1 : wr.cell? ⟨ge, V, none⟩ = some (.int .i64 (a : Nat)) := by rw [← hval]; exact HE.out.cell V hVn
            have y2 : wr.cell? ⟨gl, V, none⟩ = some (.int .i64 lv) := by rw [← hlv]; exact HL.out.row.cell V hVn
            obtain ⟨bp, op, rfl, q1, q2, y3, _⟩ := (HV.out.below HBB.out hhi).pipe ham
            have yz := HO.out.free a
            have yo : wr.cell? ⟨go, a, none⟩ = some (.int .i64 (x a)) := HO.out.row.cell a ham
            have f0 : wr.cell? ⟨w.heap.size, 0, none⟩ = some (.slice p0 n c0) := HA.out.b0
            have f1 : wr.cell? ⟨w.heap.size, 1, none⟩ = some (.slice (some ⟨bp, op, none⟩) m c1) := HA.out.b1
            have y4 : (0 : Int) < ((j + 1 : Nat) : Int) := by omega
            have j0 : (0 : Int) ≤ (j : Int) := Int.natCast_nonneg _
            have j1 : ((j + 1 : Nat) : Int) < (L : Int) := by omega
            have j9 : (j : Int) ≤ 1000 := by omega
            have V0 : (0 : Int) ≤ (V : Int) := Int.natCast_nonneg _
            have V1 : (V : Int) < (n : Int) := by omega
            have U0 : (0 : Int) ≤ (U : Int) := Int.natCast_nonneg _
            have U1 : (U : Int) < (n : Int) := by omega
            have a0 : (0 : Int) ≤ (a : Int) := Int.natCast_nonneg _
            have a1 : (a : Int) < (m : Int) := by omega
            have bnd1 : -4611686018427387904 ≤ l U + lv ∧ l U + lv ≤ 4611686018427387904 := by omega
            clear STX hlv hV hU hen hE hoth hend hui hv hval HST L0 L9
            by_cases hf : (P a).f = ((V : Nat) : Int)
            · have hb2 : ((P a).f != ((V : Nat) : Int)) = false := by simp [hf]
              have HSG := Lib.hid (show sgv (P a) ((V : Nat) : Int) (l V) = l V from if_pos hf)
              clear hf
              have o1 := (Only.refl go wr).setCell a (.int .i64 (lv))
              have HO5 := Lib.hid (HO.out.put1 a (lv) ham)
              have HL5 := Lib.hid (HL.out.keep (o1.block gl (by omega)))
              have HE5 := Lib.hid (HE.out.only o1 (by omega))
              have HR5 := Lib.hid (HR.out.keep (o1.block g2 (by omega)))
              have HC5 := Lib.hid (HC.out.only o1 (by omega))
              have HA5 := Lib.hid (HA.out.only o1 (by omega))
              have HB5 := Lib.hid (HBB.out.trans (o1.below (B := w.heap.size) (by omega)))
              have hz5 : wr.heap.size ≤ (wr.setCell ⟨go, a, none⟩ (.int .i64 (lv))).heap.size := by simp
              have z1 := (o1.cell (a := ⟨w.heap.size, 0, none⟩) (by show w.heap.size ≠ _; omega)).trans f0
              have z2 := (o1.cell (a := ⟨w.heap.size, 1, none⟩) (by show w.heap.size ≠ _; omega)).trans f1
              have HZ1 := Lib.hid z1
              have HZ2 := Lib.hid z2
              clear z1 z2
              clear o1
              go_upto_region 18 with (fail)
              obtain ⟨w5, hw5⟩ : ∃ w5, wr.setCell ⟨go, a, none⟩ (.int .i64 (lv)) = w5 := ⟨_, rfl⟩
              rw [hw5] at HO5 HL5 HE5 HR5 HC5 HA5 HB5 hz5 HZ1 HZ2 ⊢
              clear hw5 f0 f1 y0 y1 y2 y3 y4 yz yo
              have f0 := HZ1.out
              have f1 := HZ2.out
              go_wp2_with fail
              refine (l02Other_any w5 _ n N m P lo hi (HV.out.below HB5.out hhi) (by omega) HN.out (by omega) a ham ((V : Nat) : Int) (HPB.out a ham) (by omega) hyV).mono ?_
              rintro e w6 ⟨rfl, b6⟩
              rw [hsum]
              have hz6 := b6.size
              have HO6 := Lib.hid (HO5.out.below b6 (by omega))
              have HL6 := Lib.hid (HL5.out.below b6 (by omega))
              have HE6 := Lib.hid (HE5.out.below b6 (by omega))
              have HR6 := Lib.hid (HR5.out.below b6 (by omega))
              have HC6 := Lib.hid (HC5.out.below b6 (by omega))
              have HA6 := Lib.hid (HA5.out.below b6 (by omega))
              have HB6 := Lib.hid (HB5.out.trans (b6.mono (by omega)))
              clear b6 HO5 HL5 HE5 HR5 HC5 HA5 HB5 f0 f1 HZ1 HZ2
              have yu : w6.cell? ⟨gl, U, none⟩ = some (.int .i64 (l U)) := HL6.out.row.cell U hUn
              have yv : w6.cell? ⟨gl, V, none⟩ = some (.int .i64 lv) := by rw [← HLV.out]; exact HL6.out.row.cell V hVn
              have yz := HL6.out.free U
              have yz2 := HL6.out.free V
              have o7 := (Only.refl gl w6).setCell U (.int .i64 (l U + lv))
              have HO7 := Lib.hid ((HO6.out.keep (o7.block go (by omega))).keep (w' := (w6.setCell ⟨gl, U, none⟩ (.int .i64 (l U + lv))).drew) rfl)
              have HL7 := Lib.hid ((HL6.out.put1 U (l U + lv) hUn).keep (w' := (w6.setCell ⟨gl, U, none⟩ (.int .i64 (l U + lv))).drew) rfl)
              have HE7 := Lib.hid ((HE6.out.only o7 (by omega)).keep (w' := (w6.setCell ⟨gl, U, none⟩ (.int .i64 (l U + lv))).drew) rfl)
              have HR7 := Lib.hid ((HR6.out.keep (o7.block g2 (by omega))).keep (w' := (w6.setCell ⟨gl, U, none⟩ (.int .i64 (l U + lv))).drew) rfl)
              have HC7 := Lib.hid ((HC6.out.only o7 (by omega)).keep (w' := (w6.setCell ⟨gl, U, none⟩ (.int .i64 (l U + lv))).drew) rfl)
              have HA7 := Lib.hid ((HA6.out.only o7 (by omega)).keep (w' := (w6.setCell ⟨gl, U, none⟩ (.int .i64 (l U + lv))).drew) rfl)
              have HB7 := Lib.hid (below_drw (HB6.out.trans (o7.below (B := w.heap.size) (by omega))))
              clear o7
              go_wp2_with fail
              go_still_tail 12, (by kernel_rfl)
              change wpList _ _ _ _ _ w6.drew
              go_upto_region 20 with (fail)
              obtain ⟨w7, hw7⟩ : ∃ w7, (w6.setCell ⟨gl, U, none⟩ (.int .i64 (l U + lv))).drew = w7 := ⟨_, rfl⟩
              rw [hw7] at HO7 HL7 HE7 HR7 HC7 HA7 HB7
              rw [hw7]
              clear hw7 yu yv yz yz2 HO6 HL6 HE6 HR6 HC6 HA6 HB6
              have yz := HL7.out.free V
              have yo : w7.cell? ⟨gl, V, none⟩ = some (.int .i64 (upd l U (l U + lv) V)) := HL7.out.row.cell V hVn
              have o8 := (Only.refl gl w7).setCell V (.int .i64 0)
              have HO8 := Lib.hid (HO7.out.keep (o8.block go (by omega)))
              have HL8 := Lib.hid (HL7.out.put1 V 0 hVn)
              have HE8 := Lib.hid (HE7.out.only o8 (by omega))
              have HR8 := Lib.hid (HR7.out.keep (o8.block g2 (by omega)))
              have HC8 := Lib.hid (HC7.out.only o8 (by omega))
              have HA8 := Lib.hid (HA7.out.only o8 (by omega))
              have HB8 := Lib.hid (HB7.out.trans (o8.below (B := w.heap.size) (by omega)))
              clear o8 HO7 HL7 HE7 HR7 HC7 HA7 HB7
              go_wp2_with fail
              rw [← HQ3.out]
              refine ⟨⟨_, _, _, _, _, _, _, _, _, _, _, _, _, _, _, _, _, _, _, _, _, _, _, _, _, _, _, _, _, _, _, _, _, _, _, _, _, _, _, _, _, _, _, _, _, _, _, _, _, _, _, _, _, _, ?rel, rfl⟩, ?measure⟩
              case rel =>
                refine ⟨j, _, _, by go_num, by omega, ?_, HO8.out, HL8.out, HE8.out, HR8.out, HC8.out, HA8.out, HB8.out⟩
                have := ST.out
                rw [HSG.out, HLV.out] at this
                exact this
              case measure => simp [intOf]
            · have hb2 : ((P a).f != ((V : Nat) : Int)) = true := by simpa using hf
              have HSG := Lib.hid (show sgv (P a) ((V : Nat) : Int) (l V) = -(l V) from if_neg hf)
              clear hf
              have o1 := (Only.refl go wr).setCell a (.int .i64 (-lv))
              have HO5 := Lib.hid (HO.out.put1 a (-lv) ham)
              have HL5 := Lib.hid (HL.out.keep (o1.block gl (by omega)))
              have HE5 := Lib.hid (HE.out.only o1 (by omega))
              have HR5 := Lib.hid (HR.out.keep (o1.block g2 (by omega)))
              have HC5 := Lib.hid (HC.out.only o1 (by omega))
              have HA5 := Lib.hid (HA.out.only o1 (by omega))
              have HB5 := Lib.hid (HBB.out.trans (o1.below (B := w.heap.size) (by omega)))
              have hz5 : wr.heap.size ≤ (wr.setCell ⟨go, a, none⟩ (.int .i64 (-lv))).heap.size := by simp
              have z1 := (o1.cell (a := ⟨w.heap.size, 0, none⟩) (by show w.heap.size ≠ _; omega)).trans f0
              have z2 := (o1.cell (a := ⟨w.heap.size, 1, none⟩) (by show w.heap.size ≠ _; omega)).trans f1
              have HZ1 := Lib.hid z1
              have HZ2 := Lib.hid z2
              clear z1 z2
              clear o1
              go_upto_region 18 with (fail)
              obtain ⟨w5, hw5⟩ : ∃ w5, wr.setCell ⟨go, a, none⟩ (.int .i64 (-lv)) = w5 := ⟨_, rfl⟩
              rw [hw5] at HO5 HL5 HE5 HR5 HC5 HA5 HB5 hz5 HZ1 HZ2 ⊢
              clear hw5 f0 f1 y0 y1 y2 y3 y4 yz yo
              have f0 := HZ1.out
              have f1 := HZ2.out
              go_wp2_with fail
              refine (l02Other_any w5 _ n N m P lo hi (HV.out.below HB5.out hhi) (by omega) HN.out (by omega) a ham ((V : Nat) : Int) (HPB.out a ham) (by omega) hyV).mono ?_
              rintro e w6 ⟨rfl, b6⟩
              rw [hsum]
              have hz6 := b6.size
              have HO6 := Lib.hid (HO5.out.below b6 (by omega))
              have HL6 := Lib.hid (HL5.out.below b6 (by omega))
              have HE6 := Lib.hid (HE5.out.below b6 (by omega))
              have HR6 := Lib.hid (HR5.out.below b6 (by omega))
              have HC6 := Lib.hid (HC5.out.below b6 (by omega))
              have HA6 := Lib.hid (HA5.out.below b6 (by omega))
              have HB6 := Lib.hid (HB5.out.trans (b6.mono (by omega)))
              clear b6 HO5 HL5 HE5 HR5 HC5 HA5 HB5 f0 f1 HZ1 HZ2
              have yu : w6.cell? ⟨gl, U, none⟩ = some (.int .i64 (l U)) := HL6.out.row.cell U hUn
              have yv : w6.cell? ⟨gl, V, none⟩ = some (.int .i64 lv) := by rw [← HLV.out]; exact HL6.out.row.cell V hVn
              have yz := HL6.out.free U
              have yz2 := HL6.out.free V
              have o7 := (Only.refl gl w6).setCell U (.int .i64 (l U + lv))
              have HO7 := Lib.hid ((HO6.out.keep (o7.block go (by omega))).keep (w' := (w6.setCell ⟨gl, U, none⟩ (.int .i64 (l U + lv))).drew) rfl)
              have HL7 := Lib.hid ((HL6.out.put1 U (l U + lv) hUn).keep (w' := (w6.setCell ⟨gl, U, none⟩ (.int .i64 (l U + lv))).drew) rfl)
              have HE7 := Lib.hid ((HE6.out.only o7 (by omega)).keep (w' := (w6.setCell ⟨gl, U, none⟩ (.int .i64 (l U + lv))).drew) rfl)
              have HR7 := Lib.hid ((HR6.out.keep (o7.block g2 (by omega))).keep (w' := (w6.setCell ⟨gl, U, none⟩ (.int .i64 (l U + lv))).drew) rfl)
              have HC7 := Lib.hid ((HC6.out.only o7 (by omega)).keep (w' := (w6.setCell ⟨gl, U, none⟩ (.int .i64 (l U + lv))).drew) rfl)
              have HA7 := Lib.hid ((HA6.out.only o7 (by omega)).keep (w' := (w6.setCell ⟨gl, U, none⟩ (.int .i64 (l U + lv))).drew) rfl)
              have HB7 := Lib.hid (below_drw (HB6.out.trans (o7.below (B := w.heap.size) (by omega))))
              clear o7
              go_wp2_with fail
              go_still_tail 12, (by kernel_rfl)
              change wpList _ _ _ _ _ w6.drew
              go_upto_region 20 with (fail)
              obtain ⟨w7, hw7⟩ : ∃ w7, (w6.setCell ⟨gl, U, none⟩ (.int .i64 (l U + lv))).drew = w7 := ⟨_, rfl⟩
              rw [hw7] at HO7 HL7 HE7 HR7 HC7 HA7 HB7
              rw [hw7]
              clear hw7 yu yv yz yz2 HO6 HL6 HE6 HR6 HC6 HA6 HB6
              have yz := HL7.out.free V
              have yo : w7.cell? ⟨gl, V, none⟩ = some (.int .i64 (upd l U (l U + lv) V)) := HL7.out.row.cell V hVn
              have o8 := (Only.refl gl w7).setCell V (.int .i64 0)
              have HO8 := Lib.hid (HO7.out.keep (o8.block go (by omega)))
              have HL8 := Lib.hid (HL7.out.put1 V 0 hVn)
              have HE8 := Lib.hid (HE7.out.only o8 (by omega))
              have HR8 := Lib.hid (HR7.out.keep (o8.block g2 (by omega)))
              have HC8 := Lib.hid (HC7.out.only o8 (by omega))
              have HA8 := Lib.hid (HA7.out.only o8 (by omega))
              have HB8 := Lib.hid (HB7.out.trans (o8.below (B := w.heap.size) (by omega)))
              clear o8 HO7 HL7 HE7 HR7 HC7 HA7 HB7
              go_wp2_with fail
              rw [← HQ3.out]
              refine ⟨⟨_, _, _, _, _, _, _, _, _, _, _, _, _, _, _, _, _, _, _, _, _, _, _, _, _, _, _, _, _, _, _, _, _, _, _, _, _, _, _, _, _, _, _, _, _, _, _, _, _, _, _, _, _, _, ?rel, rfl⟩, ?measure⟩
              case rel =>
                refine ⟨j, _, _, by go_num, by omega, ?_, HO8.out, HL8.out, HE8.out, HR8.out, HC8.out, HA8.out, HB8.out⟩
                have := ST.out
                rw [HSG.out, HLV.out] at this
                exact this
              case measure => simp [intOf]
    · have hkn : n = k := by omega
      have STF := Lib.hid (ST.out.fin HB.out HEV.out (fun z hz he => by rw [← hkn]; exact DnR_all HB.out z hz he))
      have k1 : ¬ ((k : Int) < (n : Int)) := by omega
      clear hkn
      go_wp2_with fail
      rw [← HQ.out]
      go_wp2_with fail
      go_ret
      exact ⟨_, go, rfl, HO.out.congr (fun a ha => STF.out a ha), by omega, HBB.out⟩
set_option maxRecDepth 100000 in
set_option maxHeartbeats 8000000 in
theorem forestFlowsS_any (w : World) (v : Value) (n : Nat) (N : Nat → Nod) (m : Nat) (P : Nat → Pip) (lo hi : Nat) (h : NetAt w v n N m P lo hi) (hhi : hi ≤ w.heap.size) (hN : ∀ i, i < n → (N i).s.size ≤ 9223372036854775807) (va : Value) (K : Nat) (d : Nat → Int) (la ha : Nat) (hv : Sl w va K d la ha) (hha : ha ≤ w.heap.size) (hK9 : K ≤ 9223372036854775807) :
    Calls Tryz.prog 87 #[v, va] w (LIPost w (ffN n N m P K d) (fflN n P m d) (ffC n N m P K d)) := by
  obtain ⟨p0, c0, p1, c1, rfl, hn9, hm9⟩ := h.parts
  have HV := Lib.hid h
  have HN := Lib.hid hN
  obtain ⟨pa, ca, rfl⟩ := hv.sh
  have A0 := boxed w (.slice p0 n c0) (.slice p1 m c1) 27
  have B0 := below_new w (.cells #[.slice p0 n c0, .slice p1 m c1] 27)
  have hs0 : (w.alloc (.cells #[.slice p0 n c0, .slice p1 m c1] 27)).heap.size = w.heap.size + 1 := by simp
  clear h hN
  go_enter Tryz.func87, Tryz.ntmps87
  have e0' := A0.b0
  have e1' := A0.b1
  go_wp2_with fail
  refine (l06Code_any _ _ n N m P lo hi (HV.out.below B0 hhi) (by omega) HN.out _ K d la ha (hv.below B0 hha) (by omega) hK9).mono ?_
  rintro e w1 ⟨rfl, b1⟩
  have A1 := A0.below b1 (by omega)
  have B1 := B0.trans (b1.mono (by omega))
  have hs1 := b1.size
  have e0 := A1.b0
  have e1 := A1.b1
  have e2 : w.heap.size < w1.heap.size := by omega
  clear A0 B0 b1 e0' e1'
  by_cases hc : svC n N m P K d = 0
  · obtain ⟨hB, rfl, hf⟩ := svC_ok hc
    obtain ⟨hn1, hn24, hm40⟩ := net_sz hB
    have HB := Lib.hid hB
    have HF := Lib.hid hf
    have H1 := Lib.hid (hv.below B1 hha)
    have HFC := Lib.hid (show ffC K N m P K d = if evB K P m d = true then (if flB (fflN K P m d) m = true then 0 else 2) else 5 by unfold ffC; rw [if_pos hc])
    rw [hc]
    clear hc hB hf hv
    go_wp2_with fail
    refine (l06Even_any w1 _ K N m P lo hi (HV.out.below B1 hhi) (by omega) HN.out HB.out _ d la ha H1.out (by omega) HF.out).mono ?_
    rintro e w2 ⟨rfl, b2⟩
    have A2 := A1.below b2 e2
    have B2 := B1.trans (b2.mono (by omega))
    have hs2 := b2.size
    have H2 := Lib.hid (H1.out.below b2 (by omega))
    have f0 := A2.b0
    have f1 := A2.b1
    clear e0 e1 A1 b2 H1
    cases hev : evB K P m d
    · have H4 := Lib.hid (show ffC K N m P K d = 5 by rw [HFC.out, hev]; rfl)
      have H3 := Lib.hid (show ffN K N m P K d = 0 by unfold ffN; rw [H4.out]; rfl)
      clear hev
      go_wp2_with fail
      go_ret2
      exact li_err H3.out H4.out.symm rfl B2
    · have HFD := Lib.hid (show ffC K N m P K d = if flB (fflN K P m d) m = true then 0 else 2 by rw [HFC.out, hev]; rfl)
      have HEV := Lib.hid hev
      clear hev
      go_wp2_with fail
      refine (l06Forest_any w2 _ K N m P lo hi (HV.out.below B2 hhi) (by omega) HN.out HB.out _ d la ha H2.out (by omega) HF.out HEV.out).mono ?_
      rintro e w3 ⟨v3, g3, rfl, o3, hg3, b3⟩
      have A3 := A2.below b3 (by omega)
      have B3 := B2.trans (b3.mono (by omega))
      have hs3 := b3.size
      have lo3 := o3.lt
      have HO3 := Lib.hid o3
      clear f0 f1 A2 b3 o3
      have f0 := A3.b0
      have f1 := A3.b1
      cases hq : flB (fflN K P m d) m
      all_goals
        have HQF := Lib.hid hq
        clear hq
        go_wp2_with (go_at_call 52; refine (l05List_any _ p0 p1 K m c0 c1 _ m _ _ _ HO3.out.sl (by omega) hm9 hm9).mono ?_; rintro e w7 ⟨rfl, hb7⟩; rw [show liB m m (fflN K P m d) = flB (fflN K P m d) m from by unfold liB; simp, HQF.out])
        go_ret2
      · have H4 := Lib.hid (show ffC K N m P K d = 2 by rw [HFD.out, HQF.out]; rfl)
        exact li_err (show _ = 0 by unfold ffN; rw [H4.out]; rfl) H4.out.symm rfl (B3.trans (hb7.mono (by omega)))
      · have H4 := Lib.hid (show ffC K N m P K d = 0 by rw [HFD.out, HQF.out]; rfl)
        exact li_ok (show m = _ by unfold ffN; rw [H4.out]; rfl) (by rw [H4.out]; rfl) (HO3.out.below hb7 (by omega)) (by omega) (B3.trans (hb7.mono (by omega)))
  · have hb1 : (svC n N m P K d != 0) = true := by simpa using hc
    have H4 := Lib.hid (show ffC n N m P K d = svC n N m P K d by unfold ffC; rw [if_neg hc])
    have H3 := Lib.hid (show ffN n N m P K d = 0 by unfold ffN; rw [H4.out, if_neg hc])
    clear hc
    go_wp2_with fail
    go_ret2
    exact li_err H3.out H4.out.symm rfl B1
end Go.Proofs.YtdbgcbkmcbgdiaaGreat.mem
