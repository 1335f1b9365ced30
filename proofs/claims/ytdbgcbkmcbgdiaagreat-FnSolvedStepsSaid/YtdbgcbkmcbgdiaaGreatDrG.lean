/-
  l02DrawAny: the contract (AnyOK). Conditions: the source lies in memory as l01From lays it.
-/
import Derived.Test.YtdbgcbkmcbgdiaaGreatRows
import Derived.Test.YtdbgcbkmcbgdiaaGreatDrZ
import Derived.WalkKit
import Derived.ProofKit
import Derived.Lib.Hide
import Derived.OwnWalk
import Derived.Outline
import Derived.Deep.RegionHeld3
import Derived.Deep.Cut
import Derived.Deep.RegionHeldLaw
import Derived.Deep.RegionWith
namespace Go.Proofs.YtdbgcbkmcbgdiaaGreat.draw
open Go.RowKit
set_option linter.unusedVariables false

theorem any_post {w X : World} {b len n m b1 b2 : Nat} {cv u0 u1 v0 v1 : Value} {N : Nat → mem.Nod} {P : Nat → mem.Pip} {i s : Int} (hO : mem.NetOwn X (.agg #[v0, v1]) n N m P b1 b2) (hb1 : w.heap.size < b1) (hb2 : w.heap.size < b2) (hn : n ≤ 1000) (hm : m ≤ 1000) (hnm : ∀ i, i < n → (N i).s.size ≤ 9223372036854775807)
    (hS : Src X b cv len i s) (hU : mem.Upd (· = b) w X) (hlt : b < w.heap.size) : AnyPost w b cv len (.returned (.agg #[v0, v1])) ((X.setCell ⟨w.heap.size, 0, none⟩ u0).setCell ⟨w.heap.size, 1, none⟩ u1) := by
  have hO2 := ((mem.Only.refl w.heap.size X).setCell 0 u0).setCell 1 u1
  exact ⟨_, n, m, N, P, b1, b2, i, s, rfl, hn, hm, hnm, hO.upd (mem.Upd.of_only hO2) (.inr (by omega)) (.inr (by omega)), by omega, by omega, src_upd hS (hO2.block b (by omega)), upd_own hU hO2 (Nat.le_refl _)⟩

theorem upd_dw' {X : Nat → Prop} {w w' : World} (h : mem.Upd X w w') : mem.Upd X w w'.drew := ⟨h.os, h.tape, h.output, h.size, h.block⟩
theorem tabI (W : World) (t : TypeId) (c : Array Value) (hc : ∀ j, j < c.size → ∃ y : Int, c[j]? = some (.int .i64 y)) (j : Nat) (hj : j < c.size) : ∃ y : Int, (W.alloc (.cells c t)).cell? ⟨W.heap.size, j, none⟩ = some (.int .i64 y) := by
  obtain ⟨y, hy⟩ := hc j hj
  refine ⟨y, ?_⟩
  have e := heap_alloc_new W (.cells c t)
  simp only [World.cell?, e]
  simpa using hy
theorem setP_row {w : World} {b m j : Nat} {P : Nat → mem.Pip} {y : Int} (h : mem.Rw w b m 5 (mem.pipC P)) (hm : 0 < m) (hj : j < 5) : ∃ P', mem.Rw (w.setCell ⟨b, j, none⟩ (.int .i64 y)) b m 5 (mem.pipC P') := by
  have h2 := h.set 0 j (.int .i64 y) hm hj
  rw [Nat.zero_mul, Nat.zero_add] at h2
  refine ⟨fun i => if i = 0 then ⟨if j = 0 then y else (P 0).f, if j = 1 then y else (P 0).t, if j = 2 then y else (P 0).k, if j = 3 then y else (P 0).v, if j = 4 then y else (P 0).l⟩ else P i, h2.congr fun i l hi hl => ?_⟩
  unfold mem.updC
  by_cases e : i = 0
  · subst e
    rcases (by omega : j = 0 ∨ j = 1 ∨ j = 2 ∨ j = 3 ∨ j = 4) with rfl | rfl | rfl | rfl | rfl <;> rcases (by omega : l = 0 ∨ l = 1 ∨ l = 2 ∨ l = 3 ∨ l = 4) with rfl | rfl | rfl | rfl | rfl <;> simp [mem.pipC]
  · rcases (by omega : l = 0 ∨ l = 1 ∨ l = 2 ∨ l = 3 ∨ l = 4) with rfl | rfl | rfl | rfl | rfl <;> simp [mem.pipC, e]

theorem pip_own {w : World} {v0 : Value} {n m b1 b2 c1 j : Nat} {N : Nat → mem.Nod} {P : Nat → mem.Pip} {y : Int} (h : mem.NetOwn w (.agg #[v0, .slice (some ⟨b2, 0, none⟩) m c1]) n N m P b1 b2) (hn : 0 < n) (hm : 0 < m) (hj : j < 5) :
    ∃ P', mem.NetOwn (w.setCell ⟨b2, j, none⟩ (.int .i64 y)) (.agg #[v0, .slice (some ⟨b2, 0, none⟩) m c1]) n N m P' b1 b2 := by
  obtain ⟨z0, z1, he, g0, g1, hd⟩ := h.ex
  simp only [Value.agg.injEq, Array.mk.injEq, List.cons.injEq, and_true] at he
  obtain ⟨rfl, rfl⟩ := he
  obtain ⟨p, q, hv, h1, h2, h3⟩ := g1.ex
  injection hv with _ _ e3
  subst e3
  rcases h3 with h3 | ⟨_, h3⟩
  · omega
  obtain ⟨P', hP⟩ := setP_row (y := y) h3 hm hj
  exact ⟨P', _, _, rfl, g0.upd (mem.Upd.of_only ((mem.Only.refl b2 w).setCell j (.int .i64 y))) (.inr (by omega)), hP.own h1 h2, hd⟩
theorem pip_at {w : World} {v0 : Value} {p1 : Option Addr} {n m b1 b2 c1 : Nat} {N : Nat → mem.Nod} {P : Nat → mem.Pip} (h : mem.NetOwn w (.agg #[v0, .slice p1 m c1]) n N m P b1 b2) (hm : 0 < m) : p1 = some ⟨b2, 0, none⟩ ∧ mem.Rw w b2 m 5 (mem.pipC P) := by
  obtain ⟨z0, z1, he, g0, g1, hd⟩ := h.ex
  simp only [Value.agg.injEq, Array.mk.injEq, List.cons.injEq, and_true] at he
  obtain ⟨rfl, rfl⟩ := he
  obtain ⟨p, q, hv, h1, h2, h3⟩ := g1.ex
  injection hv with e1 _ e3
  subst e1
  rcases h3 with h3 | ⟨h3, h4⟩
  · omega
  exact ⟨h3, h4⟩

theorem pip_step {w X : World} {v0 : Value} {dT dR : Nat → Value} {b n m b1 b2 c1 j T len : Nat} {cv : Value} {i s : Int} {N : Nat → mem.Nod} {P : Nat → mem.Pip} {y : Int} (OZ : mem.NetOwn X (.agg #[v0, .slice (some ⟨b2, 0, none⟩) m c1]) n N m P b1 b2) (hn : 0 < n) (hm : 0 < m) (hj : j < 5)
    (SZ : Src X b cv len i s) (UZ : mem.Upd (· = b) w X) (TZ : mem.Ob X T 2 dT) (RZ : mem.Ob X w.heap.size 2 dR) (hb : b ≠ b2) (hT : T ≠ b2) (hw : w.heap.size < b2) :
    ∃ P', mem.NetOwn (X.setCell ⟨b2, j, none⟩ (.int .i64 y)) (.agg #[v0, .slice (some ⟨b2, 0, none⟩) m c1]) n N m P' b1 b2 ∧ Src (X.setCell ⟨b2, j, none⟩ (.int .i64 y)) b cv len i s ∧ mem.Upd (· = b) w (X.setCell ⟨b2, j, none⟩ (.int .i64 y)) ∧ mem.Ob (X.setCell ⟨b2, j, none⟩ (.int .i64 y)) T 2 dT ∧ mem.Ob (X.setCell ⟨b2, j, none⟩ (.int .i64 y)) w.heap.size 2 dR := by
  obtain ⟨P', hN⟩ := pip_own (j := j) (y := y) OZ hn hm hj
  have hO2 := (mem.Only.refl b2 X).setCell j (.int .i64 y)
  exact ⟨P', hN, src_upd SZ (hO2.block b hb), upd_own UZ hO2 (by omega), TZ.only hO2 hT, RZ.only hO2 (by omega)⟩

theorem nod_at {w : World} {v1 : Value} {p0 : Option Addr} {n m b1 b2 c0 : Nat} {N : Nat → mem.Nod} {P : Nat → mem.Pip} (h : mem.NetOwn w (.agg #[.slice p0 n c0, v1]) n N m P b1 b2) (hn : 0 < n) : p0 = some ⟨b1, 0, none⟩ ∧ mem.Rw w b1 n 3 (mem.nodC N) := by
  obtain ⟨z0, z1, he, g0, g1, hd⟩ := h.ex
  simp only [Value.agg.injEq, Array.mk.injEq, List.cons.injEq, and_true] at he
  obtain ⟨rfl, rfl⟩ := he
  obtain ⟨p, q, hv, h1, h2, h3⟩ := g0.ex
  injection hv with e1 _ e3
  subst e1
  rcases h3 with h3 | ⟨h3, h4⟩
  · omega
  exact ⟨h3, h4⟩
theorem nod_own {w : World} {v1 : Value} {n m b1 b2 c0 k j : Nat} {N : Nat → mem.Nod} {P : Nat → mem.Pip} {y : Value} (h : mem.NetOwn w (.agg #[.slice (some ⟨b1, 0, none⟩) n c0, v1]) n N m P b1 b2) (hk : k < n) (hj : j < 3) (q : mem.Nod) (hq : ∀ l, l < 3 → mem.nodC (fun _ => q) 0 l = if l = j then y else mem.nodC N k l) :
    mem.NetOwn (w.setCell ⟨b1, k * 3 + j, none⟩ y) (.agg #[.slice (some ⟨b1, 0, none⟩) n c0, v1]) n (fun i => if i = k then q else N i) m P b1 b2 := by
  obtain ⟨rfl', hR⟩ := nod_at h (by omega)
  obtain ⟨z0, z1, he, g0, g1, hd⟩ := h.ex
  simp only [Value.agg.injEq, Array.mk.injEq, List.cons.injEq, and_true] at he
  obtain ⟨rfl, rfl⟩ := he
  obtain ⟨p, c, hv, h1, h2, h3⟩ := g0.ex
  injection hv with e1 _ e3
  subst e1 e3
  have hS := (hR.set k j y hk hj).congr (c' := mem.nodC (fun i => if i = k then q else N i)) (fun i l hi hl => by
    unfold mem.updC
    by_cases e : i = k
    · subst e
      have e2 := hq l hl
      have e3 : mem.nodC (fun i' => if i' = i then q else N i') i l = mem.nodC (fun _ => q) 0 l := by
        rcases (by omega : l = 0 ∨ l = 1 ∨ l = 2) with rfl | rfl | rfl <;> simp [mem.nodC]
      rw [e3, e2]
      simp
    · rw [if_neg (by simp [e])]
      rcases (by omega : l = 0 ∨ l = 1 ∨ l = 2) with rfl | rfl | rfl <;> simp [mem.nodC, e])
  exact ⟨_, _, rfl, hS.own h1 h2, g1.upd (mem.Upd.of_only ((mem.Only.refl b1 w).setCell (k * 3 + j) y)) (by omega), hd⟩
theorem nod_step {w X : World} {v1 : Value} {dT dR : Nat → Value} {b n m b1 b2 c0 k j T len : Nat} {cv : Value} {i s : Int} {N : Nat → mem.Nod} {P : Nat → mem.Pip} {y : Value} (OZ : mem.NetOwn X (.agg #[.slice (some ⟨b1, 0, none⟩) n c0, v1]) n N m P b1 b2) (hk : k < n) (hj : j < 3) (q : mem.Nod) (hq : ∀ l, l < 3 → mem.nodC (fun _ => q) 0 l = if l = j then y else mem.nodC N k l) (hqs : q.s.size ≤ 9223372036854775807)
    (hnm : ∀ i, i < n → (N i).s.size ≤ 9223372036854775807) (SZ : Src X b cv len i s) (UZ : mem.Upd (· = b) w X) (TZ : mem.Ob X T 2 dT) (RZ : mem.Ob X w.heap.size 2 dR) (hb : b ≠ b1) (hT : T ≠ b1) (hw : w.heap.size < b1) :
    ∃ N', (∀ i, i < n → (N' i).s.size ≤ 9223372036854775807) ∧ mem.NetOwn (X.setCell ⟨b1, k * 3 + j, none⟩ y) (.agg #[.slice (some ⟨b1, 0, none⟩) n c0, v1]) n N' m P b1 b2 ∧ Src (X.setCell ⟨b1, k * 3 + j, none⟩ y) b cv len i s ∧ mem.Upd (· = b) w (X.setCell ⟨b1, k * 3 + j, none⟩ y) ∧ mem.Ob (X.setCell ⟨b1, k * 3 + j, none⟩ y) T 2 dT ∧ mem.Ob (X.setCell ⟨b1, k * 3 + j, none⟩ y) w.heap.size 2 dR := by
  have hO2 := (mem.Only.refl b1 X).setCell (k * 3 + j) y
  refine ⟨_, fun x hx => ?_, nod_own OZ hk hj q hq, src_upd SZ (hO2.block b hb), upd_own UZ hO2 (by omega), TZ.only hO2 hT, RZ.only hO2 (by omega)⟩
  split
  · exact hqs
  · exact hnm x hx
theorem row_type {B g : Nat} {e : TypeId} {z : Nat} {w : World} {v : Value} {n : Nat} {c : Nat → Nat → Value} (h : mem.RowE B e z w v n c) (hv : v.ownBlock = some g) : ∃ cur, w.heap[g]? = some (.cells cur e (0, 0)) := by
  rcases h.own.2 with ⟨rfl, _⟩ | ⟨q, cap, cur, rfl, _, h3, _⟩
  · simp [Value.ownBlock] at hv
  · simp [Value.ownBlock] at hv
    subst hv
    exact ⟨cur, h3⟩
theorem tabS (W : World) (t : TypeId) (c : Array Value) (hc : ∀ j, j < c.size → ∃ y : ByteArray, y.size ≤ 9223372036854775807 ∧ c[j]? = some (.string y)) (j : Nat) (hj : j < c.size) : ∃ y : ByteArray, y.size ≤ 9223372036854775807 ∧ (W.alloc (.cells c t)).cell? ⟨W.heap.size, j, none⟩ = some (.string y) := by
  obtain ⟨y, hs, hy⟩ := hc j hj
  refine ⟨y, hs, ?_⟩
  have e := heap_alloc_new W (.cells c t)
  simp only [World.cell?, e]
  simpa using hy

theorem nth0 {o : Oper} {l : List Oper} : (List.toArray (o :: l))[0]? = some o := rfl
theorem nth1 {o0 o1 : Oper} {l : List Oper} : (List.toArray (o0 :: o1 :: l))[1]? = some o1 := rfl
theorem nth2 {o0 o1 o2 : Oper} {l : List Oper} : (List.toArray (o0 :: o1 :: o2 :: l))[2]? = some o2 := rfl
theorem nth3 {o0 o1 o2 o3 : Oper} {l : List Oper} : (List.toArray (o0 :: o1 :: o2 :: o3 :: l))[3]? = some o3 := rfl
theorem nth4 {o0 o1 o2 o3 o4 : Oper} {l : List Oper} : (List.toArray (o0 :: o1 :: o2 :: o3 :: o4 :: l))[4]? = some o4 := rfl
theorem nth5 {o0 o1 o2 o3 o4 o5 : Oper} {l : List Oper} : (List.toArray (o0 :: o1 :: o2 :: o3 :: o4 :: o5 :: l))[5]? = some o5 := rfl
theorem nth6 {o0 o1 o2 o3 o4 o5 o6 : Oper} {l : List Oper} : (List.toArray (o0 :: o1 :: o2 :: o3 :: o4 :: o5 :: o6 :: l))[6]? = some o6 := rfl
theorem nth7 {o0 o1 o2 o3 o4 o5 o6 o7 : Oper} {l : List Oper} : (List.toArray (o0 :: o1 :: o2 :: o3 :: o4 :: o5 :: o6 :: o7 :: l))[7]? = some o7 := rfl
theorem nth8 {o0 o1 o2 o3 o4 o5 o6 o7 o8 : Oper} {l : List Oper} : (List.toArray (o0 :: o1 :: o2 :: o3 :: o4 :: o5 :: o6 :: o7 :: o8 :: l))[8]? = some o8 := rfl
theorem nth9 {o0 o1 o2 o3 o4 o5 o6 o7 o8 o9 : Oper} {l : List Oper} : (List.toArray (o0 :: o1 :: o2 :: o3 :: o4 :: o5 :: o6 :: o7 :: o8 :: o9 :: l))[9]? = some o9 := rfl
theorem nth10 {o0 o1 o2 o3 o4 o5 o6 o7 o8 o9 o10 : Oper} {l : List Oper} : (List.toArray (o0 :: o1 :: o2 :: o3 :: o4 :: o5 :: o6 :: o7 :: o8 :: o9 :: o10 :: l))[10]? = some o10 := rfl
theorem nth11 {o0 o1 o2 o3 o4 o5 o6 o7 o8 o9 o10 o11 : Oper} {l : List Oper} : (List.toArray (o0 :: o1 :: o2 :: o3 :: o4 :: o5 :: o6 :: o7 :: o8 :: o9 :: o10 :: o11 :: l))[11]? = some o11 := rfl
theorem nth12 {o0 o1 o2 o3 o4 o5 o6 o7 o8 o9 o10 o11 o12 : Oper} {l : List Oper} : (List.toArray (o0 :: o1 :: o2 :: o3 :: o4 :: o5 :: o6 :: o7 :: o8 :: o9 :: o10 :: o11 :: o12 :: l))[12]? = some o12 := rfl
theorem nth13 {o0 o1 o2 o3 o4 o5 o6 o7 o8 o9 o10 o11 o12 o13 : Oper} {l : List Oper} : (List.toArray (o0 :: o1 :: o2 :: o3 :: o4 :: o5 :: o6 :: o7 :: o8 :: o9 :: o10 :: o11 :: o12 :: o13 :: l))[13]? = some o13 := rfl
theorem nth14 {o0 o1 o2 o3 o4 o5 o6 o7 o8 o9 o10 o11 o12 o13 o14 : Oper} {l : List Oper} : (List.toArray (o0 :: o1 :: o2 :: o3 :: o4 :: o5 :: o6 :: o7 :: o8 :: o9 :: o10 :: o11 :: o12 :: o13 :: o14 :: l))[14]? = some o14 := rfl
theorem nth15 {o0 o1 o2 o3 o4 o5 o6 o7 o8 o9 o10 o11 o12 o13 o14 o15 : Oper} {l : List Oper} : (List.toArray (o0 :: o1 :: o2 :: o3 :: o4 :: o5 :: o6 :: o7 :: o8 :: o9 :: o10 :: o11 :: o12 :: o13 :: o14 :: o15 :: l))[15]? = some o15 := rfl
theorem nth16 {o0 o1 o2 o3 o4 o5 o6 o7 o8 o9 o10 o11 o12 o13 o14 o15 o16 : Oper} {l : List Oper} : (List.toArray (o0 :: o1 :: o2 :: o3 :: o4 :: o5 :: o6 :: o7 :: o8 :: o9 :: o10 :: o11 :: o12 :: o13 :: o14 :: o15 :: o16 :: l))[16]? = some o16 := rfl
theorem nth17 {o0 o1 o2 o3 o4 o5 o6 o7 o8 o9 o10 o11 o12 o13 o14 o15 o16 o17 : Oper} {l : List Oper} : (List.toArray (o0 :: o1 :: o2 :: o3 :: o4 :: o5 :: o6 :: o7 :: o8 :: o9 :: o10 :: o11 :: o12 :: o13 :: o14 :: o15 :: o16 :: o17 :: l))[17]? = some o17 := rfl
theorem nth18 {o0 o1 o2 o3 o4 o5 o6 o7 o8 o9 o10 o11 o12 o13 o14 o15 o16 o17 o18 : Oper} {l : List Oper} : (List.toArray (o0 :: o1 :: o2 :: o3 :: o4 :: o5 :: o6 :: o7 :: o8 :: o9 :: o10 :: o11 :: o12 :: o13 :: o14 :: o15 :: o16 :: o17 :: o18 :: l))[18]? = some o18 := rfl
theorem nth19 {o0 o1 o2 o3 o4 o5 o6 o7 o8 o9 o10 o11 o12 o13 o14 o15 o16 o17 o18 o19 : Oper} {l : List Oper} : (List.toArray (o0 :: o1 :: o2 :: o3 :: o4 :: o5 :: o6 :: o7 :: o8 :: o9 :: o10 :: o11 :: o12 :: o13 :: o14 :: o15 :: o16 :: o17 :: o18 :: o19 :: l))[19]? = some o19 := rfl
theorem nth20 {o0 o1 o2 o3 o4 o5 o6 o7 o8 o9 o10 o11 o12 o13 o14 o15 o16 o17 o18 o19 o20 : Oper} {l : List Oper} : (List.toArray (o0 :: o1 :: o2 :: o3 :: o4 :: o5 :: o6 :: o7 :: o8 :: o9 :: o10 :: o11 :: o12 :: o13 :: o14 :: o15 :: o16 :: o17 :: o18 :: o19 :: o20 :: l))[20]? = some o20 := rfl
theorem nth21 {o0 o1 o2 o3 o4 o5 o6 o7 o8 o9 o10 o11 o12 o13 o14 o15 o16 o17 o18 o19 o20 o21 : Oper} {l : List Oper} : (List.toArray (o0 :: o1 :: o2 :: o3 :: o4 :: o5 :: o6 :: o7 :: o8 :: o9 :: o10 :: o11 :: o12 :: o13 :: o14 :: o15 :: o16 :: o17 :: o18 :: o19 :: o20 :: o21 :: l))[21]? = some o21 := rfl
theorem nth22 {o0 o1 o2 o3 o4 o5 o6 o7 o8 o9 o10 o11 o12 o13 o14 o15 o16 o17 o18 o19 o20 o21 o22 : Oper} {l : List Oper} : (List.toArray (o0 :: o1 :: o2 :: o3 :: o4 :: o5 :: o6 :: o7 :: o8 :: o9 :: o10 :: o11 :: o12 :: o13 :: o14 :: o15 :: o16 :: o17 :: o18 :: o19 :: o20 :: o21 :: o22 :: l))[22]? = some o22 := rfl
theorem nth23 {o0 o1 o2 o3 o4 o5 o6 o7 o8 o9 o10 o11 o12 o13 o14 o15 o16 o17 o18 o19 o20 o21 o22 o23 : Oper} {l : List Oper} : (List.toArray (o0 :: o1 :: o2 :: o3 :: o4 :: o5 :: o6 :: o7 :: o8 :: o9 :: o10 :: o11 :: o12 :: o13 :: o14 :: o15 :: o16 :: o17 :: o18 :: o19 :: o20 :: o21 :: o22 :: o23 :: l))[23]? = some o23 := rfl

set_option maxRecDepth 100000 in
set_option maxHeartbeats 8000000 in
theorem any_ok : AnyOK := by
  intro w b B cv len i s h hc hB
  have hlt := src_lt h
  have h' := src_alloc h hlt (.cells #[.slice none 0 0, .slice none 0 0] 27)
  have hc' := codeAt_below hc ((Below.refl B w).alloc (by omega) (.cells #[.slice none 0 0, .slice none 0 0] 27))
  have R1 := mem.boxed w (.slice none 0 0) (.slice none 0 0) 27
  have U0 : mem.Upd (· = b) w (w.alloc (.cells #[.slice none 0 0, .slice none 0 0] 27)) := mem.Upd.of_below (mem.below_new w _)
  have hsz : w.heap.size + 1 ≤ (w.alloc (.cells #[.slice none 0 0, .slice none 0 0] 27)).heap.size := by simp
  have HC := Lib.hid hc
  go_enter Tryz.func85, Tryz.ntmps85
  go_wp2_with fail
  generalize hW : w.alloc (.cells #[.slice none 0 0, .slice none 0 0] 27) = Wa at *
  clear hW h hc
  refine (net_any Wa b B cv len i s h' hc' hB).mono ?_
  rintro e w1 ⟨v, n, m, N, P, b1, b2, i1, s1, rfl, hn, hm, hn0, hnm, hO, l1, l2, hS1, U1, q0, q1, hq, rN1, rP1⟩
  obtain ⟨p0, c0, p1, c1, rfl⟩ := hO.shape
  simp only [Value.agg.injEq, Array.mk.injEq, List.cons.injEq, and_true] at hq
  obtain ⟨rfl, rfl⟩ := hq
  have hpT := rP1.own.lt
  have hnT := rN1.own.lt
  have ty2 := heap_alloc_new w1 (.cells #[.slice p0 n c0, .slice p1 m c1] 27)
  have hbW : b < Wa.heap.size := by omega
  have bl := mem.below_new w1 (.cells #[.slice p0 n c0, .slice p1 m c1] 27)
  have T2 := mem.boxed w1 (.slice p0 n c0) (.slice p1 m c1) 27
  have R2 := (R1.keep (U1.block w.heap.size (by omega) (by omega))).next bl
  have U2 := (U0.trans U1).trans (mem.Upd.of_below bl)
  have O2 := hO.next bl
  have S2 := src_alloc hS1 (src_lt hS1) (.cells #[.slice p0 n c0, .slice p1 m c1] 27)
  have hs1 := U1.size
  have rN2 := rN1.next bl
  have rP2 := rP1.next bl
  have hbT : b ≠ w1.heap.size := by have := src_lt hS1; omega
  have hRT : w.heap.size ≠ w1.heap.size := by omega
  have hb1 : w.heap.size < b1 := by omega
  have hb2 : w.heap.size < b2 := by omega
  have hl1 : b1 < w1.heap.size := by rcases hO.lt1 with h | h <;> omega
  have hl2 : m = 0 ∨ b2 < w1.heap.size := hO.lt2
  have t0 := T2.b0
  clear U0 U1 h' hc' R1 hO hS1 l1 l2 bl rN1 rP1
  go_wp2_with fail
  generalize hW : w1.alloc (.cells #[.slice p0 n c0, .slice p1 m c1] 27) = W2 at *
  clear hW t0
  refine (next_any W2 b B cv len i1 s1 n S2 (code_of HC.out U2 hB hlt) hB (by omega)).mono ?_
  rintro e w3 ⟨v3, i3, s3, rfl, v0, hv3, S3, o3⟩
  obtain ⟨k, rfl⟩ := Int.eq_ofNat_of_zero_le v0
  have hkn : k < n := by omega
  have T3 := T2.keep (o3.block w1.heap.size (by omega))
  have R3 := R2.keep (o3.block w.heap.size (by omega))
  have U3 := U2.trans (upd_of o3)
  have O3 := O2.upd (upd_of o3) (.inr (by omega)) (.inr (by omega))
  have rN3 := rN2.low (upd_of o3) hbW
  have rP3 := rP2.low (upd_of o3) hbW
  have ty3 := (o3.block w1.heap.size (by omega)).trans ty2
  clear ty2 v0 hv3 S2 T2 R2 U2 O2 o3 rN2 rP2
  go_wp2_with fail
  refine (next_any w3 b B cv len i3 s3 30 S3 (code_of HC.out U3 hB hlt) hB (by omega)).mono ?_
  rintro e w4 ⟨v4, i4, s4, rfl, v0, hv4, S4, o4⟩
  have T4 := T3.keep (o4.block w1.heap.size (by omega))
  have R4 := R3.keep (o4.block w.heap.size (by omega))
  have U4 := U3.trans (upd_of o4)
  have O4 := O3.upd (upd_of o4) (.inr (by omega)) (.inr (by omega))
  have rN4 := rN3.low (upd_of o4) hbW
  have rP4 := rP3.low (upd_of o4) hbW
  have z4 := o4.size
  have ty4 := Lib.hid ((o4.block w1.heap.size (by omega)).trans ty3)
  clear ty3 S3 T3 R3 U3 O3 o4 rN3 rP3
  have t0 := T4.b0
  have t1 := T4.b1
  have u0 := T4.free 0
  have u1 := T4.free 1
  have f0 := R4.b0
  have f1 := R4.b1
  have k0 := R4.free 0
  have k1 := R4.free 1
  have hsW : Wa.heap.size ≤ w4.heap.size := by have := U4.size; have := T4.lt; omega
  have RN4 := Lib.hid rN4
  have RP4 := Lib.hid rP4
  have HPT := Lib.hid hpT
  have HNT := Lib.hid hnT
  clear rN4 rP4 hpT hnT z4
  by_cases hbig : 6 < v4
  · have q0 : (v4 == 0) = false := by simp; omega
    have q1 : (v4 == 1) = false := by simp; omega
    have q2 : (v4 == 2) = false := by simp; omega
    have q3 : (v4 == 3) = false := by simp; omega
    have q4 : (v4 == 4) = false := by simp; omega
    have q5 : (v4 == 5) = false := by simp; omega
    have q6 : (v4 == 6) = false := by simp; omega
    have H := Lib.hid (any_post (u0 := .slice p0 n c0) (u1 := .slice p1 m c1) O4 hb1 hb2 (by omega) (by omega) hnm S4 U4 hlt)
    clear O4 S4 U4 T4 R4
    go_wp2_with fail
    refine bodyPost_ret (v := .agg #[.slice p0 n c0, .slice p1 m c1]) (by simp [results, Tryz.results85, go_sem, f0, f1]) rfl H.out
  rcases (by omega : v4 = 6 ∨ v4 = 4 ∨ v4 = 5 ∨ v4 = 2 ∨ v4 = 3 ∨ v4 = 0 ∨ v4 = 1) with rfl | rfl | rfl | rfl | rfl | rfl | rfl
  · have hO2 := (mem.Only.refl w1.heap.size w4).setCell 0 (.slice none 0 0)
    have O5 : mem.NetOwn (w4.setCell ⟨w1.heap.size, 0, none⟩ (.slice none 0 0)) (.agg #[.slice none 0 0, .slice p1 m c1]) 0 N m P b1 b2 := by
      obtain ⟨z0, z1, he, _, g1, _⟩ := (O4.upd (mem.Upd.of_only hO2) (.inr (by omega)) (by omega)).ex
      simp only [Value.agg.injEq, Array.mk.injEq, List.cons.injEq, and_true] at he
      rw [← he.2] at g1
      exact ⟨_, _, rfl, mem.OwnS.none_ _ _ _ _, g1, .inl rfl⟩
    have U5 := upd_own U4 hO2 (by omega)
    have S5 := src_upd S4 (hO2.block b (by omega))
    have T5 := T4.set 0 (.slice none 0 0) (by omega)
    have R5 := R4.only hO2 (by omega)
    clear O4 S4 U4 T4 R4 hO2 f0 f1 k0 k1
    go_upto_region 20 with (fail)
    clear t0 t1 u0 u1
    generalize hW : w4.setCell ⟨w1.heap.size, 0, none⟩ (.slice none 0 0) = w5 at *
    have t0 : w5.cell? ⟨w1.heap.size, 0, none⟩ = some (.slice none 0 0) := T5.cell 0 (by omega)
    have t1 : w5.cell? ⟨w1.heap.size, 1, none⟩ = some (.slice p1 m c1) := T5.cell 1 (by omega)
    have f0 := R5.b0
    have f1 := R5.b1
    have k0 := R5.free 0
    have k1 := R5.free 1
    have H := Lib.hid (any_post (u0 := .slice none 0 0) (u1 := .slice p1 m c1) O5 hb1 hb2 (by omega) (by omega) (fun i hi => by omega) S5 U5 hlt)
    clear O5 S5 U5 T5 R5 hW
    go_wp2_with fail
    refine bodyPost_ret (v := .agg #[.slice none 0 0, .slice p1 m c1]) (by simp [results, Tryz.results85, go_sem, f0, f1]) rfl H.out
  · rcases Nat.eq_zero_or_pos m with hm0 | hm0
    · subst hm0
      have H := Lib.hid (any_post (u0 := .slice p0 n c0) (u1 := .slice p1 0 c1) O4 hb1 hb2 (by omega) (by omega) hnm S4 U4 hlt)
      clear O4 S4 U4 T4 R4
      go_wp2_with fail
      refine bodyPost_ret (v := .agg #[.slice p0 n c0, .slice p1 0 c1]) (by simp [results, Tryz.results85, go_sem, f0, f1]) rfl H.out
    · have hmI : (0 : Int) < (m : Int) := by omega
      go_wp2_with fail
      obtain ⟨rfl, hR⟩ := pip_at O4 hm0
      have hlb := hR.lt
      have bA := mem.below_new w4 (Obj.cells #[.int .i64 0, .int .i64 1000, .int .i64 1001] 2)
      have SA := (src_upd S4 rfl : Src w4.drew b cv len i4 s4)
      have SB := (src_upd (src_alloc S4 (src_lt S4) (Obj.cells #[.int .i64 0, .int .i64 1000, .int .i64 1001] 2)) rfl : Src (w4.alloc (Obj.cells #[.int .i64 0, .int .i64 1000, .int .i64 1001] 2)).drew b cv len i4 s4)
      have CA := code_of HC.out (upd_dw' U4) hB hlt
      have CB := code_of HC.out (upd_dw' (U4.trans (mem.Upd.of_below bA))) hB hlt
      have TB' := ((T4.next bA).keep rfl : mem.Ob (w4.alloc (Obj.cells #[.int .i64 0, .int .i64 1000, .int .i64 1001] 2)).drew w1.heap.size 2 _)
      have h3 : (3 : Int) ≤ 9223372036854775807 := by omega
      have hq0 : w4.frozen? ⟨b2, 2, none⟩ = false := hR.free 2
      have hT2 : w1.heap.size ≠ b2 := by omega
      have tb1 := TB'.b1
      have hcs : ∀ j, j < (#[Value.int .i64 0, .int .i64 1000, .int .i64 1001] : Array Value).size → ∃ y : Int, (#[Value.int .i64 0, .int .i64 1000, .int .i64 1001] : Array Value)[j]? = some (.int .i64 y) := by
        intro j hj
        rcases (by simp at hj; omega : j = 0 ∨ j = 1 ∨ j = 2) with rfl | rfl | rfl
        all_goals exact ⟨_, rfl⟩
      have hbR : b ≠ w.heap.size := by omega
      have hbb1 : b ≠ b1 := by omega
      have hbb2 : b ≠ b2 := by omega
      have hg : b ≠ w4.heap.size := by have := src_lt S4; omega
      have tA := tabI w4 2 _ hcs
      have TW := Lib.hid T4
      have OW := Lib.hid O4
      have RW := Lib.hid R4
      have UW := Lib.hid U4
      have KW := Lib.hid hR
      clear T4 O4 R4 U4 hR
      go_region_with (first | (go_at_call 41; (first | (with_reducible refine (next_any _ b B cv len i4 s4 3 SA CA hB h3).mono ?_) | (with_reducible refine (next_any _ b B cv len i4 s4 3 SB CB hB h3).mono ?_)); rintro e wx ⟨x, ix, sx, rfl, x0, x1, Sx, ox⟩; obtain ⟨jx, rfl⟩ := Int.eq_ofNat_of_zero_le x0; have hjx : jx < 3 := (by omega); have hjI : (jx : Int) < 3 := (by omega); (first | (have ow : Only b (w4.alloc (Obj.cells #[.int .i64 0, .int .i64 1000, .int .i64 1001] 2)).drew wx := ox; obtain ⟨y, hy⟩ := tA jx hjx; have hy2 : wx.cell? ⟨w4.heap.size, jx, none⟩ = some (.int .i64 y) := (World.cell?_of_block (ox.block w4.heap.size hg.symm)).trans hy; have TZ := (TB'.keep (ox.block w1.heap.size hbT.symm) : mem.Ob wx w1.heap.size 2 _); have tz := TZ.b1; have KZ := ((KW.out.below bA hlb).keep (ox.block b2 (by omega)) : mem.Rw wx b2 m 5 _); have kz := KZ.free 2; have kc : wx.cell? ⟨b2, 2, none⟩ = some (.int .i64 (P 0).k) := KZ.cell 0 2 hm0 (by omega); have RZ := (((RW.out.next bA).keep rfl : mem.Ob (w4.alloc (Obj.cells #[.int .i64 0, .int .i64 1000, .int .i64 1001] 2)).drew w.heap.size 2 _).keep (ox.block w.heap.size hbR.symm) : mem.Ob wx w.heap.size 2 _); have OZ := (OW.out.next bA).drew.upd (upd_of ox) (.inr hbb1.symm) (.inr hbb2.symm); have UZ := (upd_dw' (UW.out.trans (mem.Upd.of_below bA))).trans (upd_of ox); have SZ := Sx) | (obtain ⟨y, hy⟩ := tabI wx 2 _ hcs jx hjx; have TX := (TW.out.keep (ox.block w1.heap.size hbT.symm) : mem.Ob wx w1.heap.size 2 _); have tx := TX.b1; have TZ := TX.next (mem.below_new wx (Obj.cells #[.int .i64 0, .int .i64 1000, .int .i64 1001] 2)); have tz := TZ.b1; have KX := (KW.out.keep (ox.block b2 (by omega)) : mem.Rw wx b2 m 5 _); have KZ := KX.below (mem.below_new wx (Obj.cells #[.int .i64 0, .int .i64 1000, .int .i64 1001] 2)) KX.lt; have kz := KZ.free 2; have kc : (wx.alloc (Obj.cells #[.int .i64 0, .int .i64 1000, .int .i64 1001] 2)).cell? ⟨b2, 2, none⟩ = some (.int .i64 (P 0).k) := KZ.cell 0 2 hm0 (by omega); have kz' := KX.free 2; have kc' : wx.cell? ⟨b2, 2, none⟩ = some (.int .i64 (P 0).k) := KX.cell 0 2 hm0 (by omega); have RZ := (RW.out.keep (ox.block w.heap.size hbR.symm) : mem.Ob wx w.heap.size 2 _).next (mem.below_new wx (Obj.cells #[.int .i64 0, .int .i64 1000, .int .i64 1001] 2)); have OZ := (OW.out.drew.upd (upd_of ox) (.inr hbb1.symm) (.inr hbb2.symm)).next (mem.below_new wx (Obj.cells #[.int .i64 0, .int .i64 1000, .int .i64 1001] 2)); have UZ := ((upd_dw' UW.out).trans (upd_of ox)).trans (mem.Upd.of_below (mem.below_new wx (Obj.cells #[.int .i64 0, .int .i64 1000, .int .i64 1001] 2))); have SZ := src_alloc Sx (src_lt Sx) (Obj.cells #[.int .i64 0, .int .i64 1000, .int .i64 1001] 2))); clear hjx))
      all_goals
        obtain ⟨P', hN, S9, U9, T9, R9⟩ := pip_step (j := 2) (y := y) OZ hn0 hm0 (by omega) SZ UZ TZ RZ hbb2 hT2 hb2
        clear t0 t1 u0 u1 f0 f1 k0 k1 tz kz kc
        have t0 := T9.b0
        have t1 := T9.b1
        have f0 := R9.b0
        have f1 := R9.b1
        have k0 := R9.free 0
        have k1 := R9.free 1
        have H := Lib.hid (any_post (u0 := .slice p0 n c0) (u1 := .slice (some ⟨b2, 0, none⟩) m c1) hN hb1 hb2 (by omega) (by omega) hnm S9 U9 hlt)
        clear S9 U9 T9 R9 hN OZ UZ SZ RZ TZ
        go_wp2_with fail
        refine bodyPost_ret (v := .agg #[.slice p0 n c0, .slice (some ⟨b2, 0, none⟩) m c1]) (by simp [results, Tryz.results85, go_sem, f0, f1]) rfl H.out
  · rcases Nat.eq_zero_or_pos m with hm0 | hm0
    · subst hm0
      have H := Lib.hid (any_post (u0 := .slice p0 n c0) (u1 := .slice p1 0 c1) O4 hb1 hb2 (by omega) (by omega) hnm S4 U4 hlt)
      clear O4 S4 U4 T4 R4
      go_wp2_with fail
      refine bodyPost_ret (v := .agg #[.slice p0 n c0, .slice p1 0 c1]) (by simp [results, Tryz.results85, go_sem, f0, f1]) rfl H.out
    · have hmI : (0 : Int) < (m : Int) := by omega
      go_wp2_with fail
      obtain ⟨rfl, hR⟩ := pip_at O4 hm0
      have hlb := hR.lt
      have bA := mem.below_new w4 (Obj.cells #[.int .i64 0, .int .i64 30000, .int .i64 30001] 2)
      have SA := (src_upd S4 rfl : Src w4.drew b cv len i4 s4)
      have SB := (src_upd (src_alloc S4 (src_lt S4) (Obj.cells #[.int .i64 0, .int .i64 30000, .int .i64 30001] 2)) rfl : Src (w4.alloc (Obj.cells #[.int .i64 0, .int .i64 30000, .int .i64 30001] 2)).drew b cv len i4 s4)
      have CA := code_of HC.out (upd_dw' U4) hB hlt
      have CB := code_of HC.out (upd_dw' (U4.trans (mem.Upd.of_below bA))) hB hlt
      have TB' := ((T4.next bA).keep rfl : mem.Ob (w4.alloc (Obj.cells #[.int .i64 0, .int .i64 30000, .int .i64 30001] 2)).drew w1.heap.size 2 _)
      have h3 : (3 : Int) ≤ 9223372036854775807 := by omega
      have hq0 : w4.frozen? ⟨b2, 4, none⟩ = false := hR.free 4
      have hT2 : w1.heap.size ≠ b2 := by omega
      have tb1 := TB'.b1
      have hcs : ∀ j, j < (#[Value.int .i64 0, .int .i64 30000, .int .i64 30001] : Array Value).size → ∃ y : Int, (#[Value.int .i64 0, .int .i64 30000, .int .i64 30001] : Array Value)[j]? = some (.int .i64 y) := by
        intro j hj
        rcases (by simp at hj; omega : j = 0 ∨ j = 1 ∨ j = 2) with rfl | rfl | rfl
        all_goals exact ⟨_, rfl⟩
      have hbR : b ≠ w.heap.size := by omega
      have hbb1 : b ≠ b1 := by omega
      have hbb2 : b ≠ b2 := by omega
      have hg : b ≠ w4.heap.size := by have := src_lt S4; omega
      have tA := tabI w4 2 _ hcs
      have TW := Lib.hid T4
      have OW := Lib.hid O4
      have RW := Lib.hid R4
      have UW := Lib.hid U4
      have KW := Lib.hid hR
      clear T4 O4 R4 U4 hR
      go_region_with (first | (go_at_call 41; (first | (with_reducible refine (next_any _ b B cv len i4 s4 3 SA CA hB h3).mono ?_) | (with_reducible refine (next_any _ b B cv len i4 s4 3 SB CB hB h3).mono ?_)); rintro e wx ⟨x, ix, sx, rfl, x0, x1, Sx, ox⟩; obtain ⟨jx, rfl⟩ := Int.eq_ofNat_of_zero_le x0; have hjx : jx < 3 := (by omega); have hjI : (jx : Int) < 3 := (by omega); (first | (have ow : Only b (w4.alloc (Obj.cells #[.int .i64 0, .int .i64 30000, .int .i64 30001] 2)).drew wx := ox; obtain ⟨y, hy⟩ := tA jx hjx; have hy2 : wx.cell? ⟨w4.heap.size, jx, none⟩ = some (.int .i64 y) := (World.cell?_of_block (ox.block w4.heap.size hg.symm)).trans hy; have TZ := (TB'.keep (ox.block w1.heap.size hbT.symm) : mem.Ob wx w1.heap.size 2 _); have tz := TZ.b1; have KZ := ((KW.out.below bA hlb).keep (ox.block b2 (by omega)) : mem.Rw wx b2 m 5 _); have kz := KZ.free 4; have kc : wx.cell? ⟨b2, 4, none⟩ = some (.int .i64 (P 0).l) := KZ.cell 0 4 hm0 (by omega); have RZ := (((RW.out.next bA).keep rfl : mem.Ob (w4.alloc (Obj.cells #[.int .i64 0, .int .i64 30000, .int .i64 30001] 2)).drew w.heap.size 2 _).keep (ox.block w.heap.size hbR.symm) : mem.Ob wx w.heap.size 2 _); have OZ := (OW.out.next bA).drew.upd (upd_of ox) (.inr hbb1.symm) (.inr hbb2.symm); have UZ := (upd_dw' (UW.out.trans (mem.Upd.of_below bA))).trans (upd_of ox); have SZ := Sx) | (obtain ⟨y, hy⟩ := tabI wx 2 _ hcs jx hjx; have TX := (TW.out.keep (ox.block w1.heap.size hbT.symm) : mem.Ob wx w1.heap.size 2 _); have tx := TX.b1; have TZ := TX.next (mem.below_new wx (Obj.cells #[.int .i64 0, .int .i64 30000, .int .i64 30001] 2)); have tz := TZ.b1; have KX := (KW.out.keep (ox.block b2 (by omega)) : mem.Rw wx b2 m 5 _); have KZ := KX.below (mem.below_new wx (Obj.cells #[.int .i64 0, .int .i64 30000, .int .i64 30001] 2)) KX.lt; have kz := KZ.free 4; have kc : (wx.alloc (Obj.cells #[.int .i64 0, .int .i64 30000, .int .i64 30001] 2)).cell? ⟨b2, 4, none⟩ = some (.int .i64 (P 0).l) := KZ.cell 0 4 hm0 (by omega); have kz' := KX.free 4; have kc' : wx.cell? ⟨b2, 4, none⟩ = some (.int .i64 (P 0).l) := KX.cell 0 4 hm0 (by omega); have RZ := (RW.out.keep (ox.block w.heap.size hbR.symm) : mem.Ob wx w.heap.size 2 _).next (mem.below_new wx (Obj.cells #[.int .i64 0, .int .i64 30000, .int .i64 30001] 2)); have OZ := (OW.out.drew.upd (upd_of ox) (.inr hbb1.symm) (.inr hbb2.symm)).next (mem.below_new wx (Obj.cells #[.int .i64 0, .int .i64 30000, .int .i64 30001] 2)); have UZ := ((upd_dw' UW.out).trans (upd_of ox)).trans (mem.Upd.of_below (mem.below_new wx (Obj.cells #[.int .i64 0, .int .i64 30000, .int .i64 30001] 2))); have SZ := src_alloc Sx (src_lt Sx) (Obj.cells #[.int .i64 0, .int .i64 30000, .int .i64 30001] 2))); clear hjx))
      all_goals
        obtain ⟨P', hN, S9, U9, T9, R9⟩ := pip_step (j := 4) (y := y) OZ hn0 hm0 (by omega) SZ UZ TZ RZ hbb2 hT2 hb2
        clear t0 t1 u0 u1 f0 f1 k0 k1 tz kz kc
        have t0 := T9.b0
        have t1 := T9.b1
        have f0 := R9.b0
        have f1 := R9.b1
        have k0 := R9.free 0
        have k1 := R9.free 1
        have H := Lib.hid (any_post (u0 := .slice p0 n c0) (u1 := .slice (some ⟨b2, 0, none⟩) m c1) hN hb1 hb2 (by omega) (by omega) hnm S9 U9 hlt)
        clear S9 U9 T9 R9 hN OZ UZ SZ RZ TZ
        go_wp2_with fail
        refine bodyPost_ret (v := .agg #[.slice p0 n c0, .slice (some ⟨b2, 0, none⟩) m c1]) (by simp [results, Tryz.results85, go_sem, f0, f1]) rfl H.out
  · have al := appPip _ w4 _ m P ⟨k, k, 1, 0, 1⟩ RP4.out hsW (by omega)
    obtain ⟨v5, w5, hr, h5, u5⟩ := al
    obtain ⟨g1, a1, a2, a3⟩ := ownS2 (RN4.out.keep u5 (mem.rows_apart RN4.out RP4.out (by decide)))
    obtain ⟨g2, d1, d2, d3⟩ := ownS2 h5
    have hap : n = 0 ∨ m + 1 = 0 ∨ g1 ≠ g2 := by
      rcases a3 with a3 | a3
      · rcases d3 with d3 | d3
        · refine .inr (.inr fun e => ?_)
          exact mem.rows_apart (RN4.out.keep u5 (mem.rows_apart RN4.out RP4.out (by decide))) h5 (by decide) g1 a3 (by rw [d3, e])
        · exact .inr (.inl d3)
      · exact .inl a3
    have T5 := T4.keep (u5.block w1.heap.size T4.lt (fun e => by have := HPT.out _ e.symm; omega))
    have R5 := R4.keep (u5.block w.heap.size R4.lt (fun e => by have := HPT.out _ e.symm; omega))
    have S5 := src_upd S4 (u5.block b (src_lt S4) (fun e => by have := HPT.out _ e.symm; omega))
    have U5 := upd_row U4 RP4.out (by omega) u5
    have O5 : mem.NetOwn w5 (.agg #[.slice p0 n c0, v5]) n N (m + 1) (addP P m ⟨k, k, 1, 0, 1⟩) g1 g2 := ⟨_, _, rfl, a1, d1, hap⟩
    have hg1 : w1.heap.size ≠ g1 := by
      rcases a3 with a3 | a3
      · have := HNT.out _ a3; omega
      · omega
    have hg2 : w1.heap.size ≠ g2 := by
      rintro rfl
      rcases d3 with d3 | d3
      · obtain ⟨cur, hc⟩ := row_type h5 d3
        rw [u5.block w1.heap.size T4.lt (fun e => by have := HPT.out _ e.symm; omega), ty4.out] at hc
        injection hc with hc
        injection hc with _ hc
        exact absurd hc (by decide)
      · omega
    obtain ⟨p5, c5, rfl⟩ := h5.shape
    have hO2 := (mem.Only.refl w1.heap.size w5).setCell 1 (.slice p5 (m + 1) c5)
    have O6 := O5.upd (mem.Upd.of_only hO2) (.inr hg1.symm) (.inr hg2.symm)
    have U6 := upd_own U5 hO2 (by omega)
    have S6 := src_upd S5 (hO2.block b (by omega))
    have T6 := T5.set 1 (.slice p5 (m + 1) c5) (by omega)
    have R6 := R5.only hO2 (by omega)
    have t50 := T5.b0
    have t51 := T5.b1
    have u50 := T5.free 0
    have u51 := T5.free 1
    clear O4 S4 U4 T4 R4 hO2 f0 f1 k0 k1 O5 S5 U5 T5 R5 a1 d1 h5 u5
    go_upto_region 20 with (at_builtin; refine mem.wpList_appT hr rfl _ _ rfl rfl rfl rfl ?_)
    clear t0 t1 u0 u1 t50 t51 u50 u51 hr
    generalize hW : w5.setCell ⟨w1.heap.size, 1, none⟩ (.slice p5 (m + 1) c5) = w6 at *
    have t0 : w6.cell? ⟨w1.heap.size, 0, none⟩ = some (.slice p0 n c0) := T6.cell 0 (by omega)
    have t1 : w6.cell? ⟨w1.heap.size, 1, none⟩ = some (.slice p5 (m + 1) c5) := T6.cell 1 (by omega)
    have f0 := R6.b0
    have f1 := R6.b1
    have k0 := R6.free 0
    have k1 := R6.free 1
    have H := Lib.hid (any_post (u0 := .slice p0 n c0) (u1 := .slice p5 (m + 1) c5) O6 (by omega) (by omega) (by omega) (by omega) hnm S6 U6 hlt)
    clear O6 S6 U6 T6 R6 hW
    go_wp2_with fail
    refine bodyPost_ret (v := .agg #[.slice p0 n c0, .slice p5 (m + 1) c5]) (by simp [results, Tryz.results85, go_sem, f0, f1]) rfl H.out
  · have al := appPip _ w4 _ m P ⟨k, n, 1, 0, 1⟩ RP4.out hsW (by omega)
    obtain ⟨v5, w5, hr, h5, u5⟩ := al
    obtain ⟨g1, a1, a2, a3⟩ := ownS2 (RN4.out.keep u5 (mem.rows_apart RN4.out RP4.out (by decide)))
    obtain ⟨g2, d1, d2, d3⟩ := ownS2 h5
    have hap : n = 0 ∨ m + 1 = 0 ∨ g1 ≠ g2 := by
      rcases a3 with a3 | a3
      · rcases d3 with d3 | d3
        · refine .inr (.inr fun e => ?_)
          exact mem.rows_apart (RN4.out.keep u5 (mem.rows_apart RN4.out RP4.out (by decide))) h5 (by decide) g1 a3 (by rw [d3, e])
        · exact .inr (.inl d3)
      · exact .inl a3
    have T5 := T4.keep (u5.block w1.heap.size T4.lt (fun e => by have := HPT.out _ e.symm; omega))
    have R5 := R4.keep (u5.block w.heap.size R4.lt (fun e => by have := HPT.out _ e.symm; omega))
    have S5 := src_upd S4 (u5.block b (src_lt S4) (fun e => by have := HPT.out _ e.symm; omega))
    have U5 := upd_row U4 RP4.out (by omega) u5
    have O5 : mem.NetOwn w5 (.agg #[.slice p0 n c0, v5]) n N (m + 1) (addP P m ⟨k, n, 1, 0, 1⟩) g1 g2 := ⟨_, _, rfl, a1, d1, hap⟩
    have hg1 : w1.heap.size ≠ g1 := by
      rcases a3 with a3 | a3
      · have := HNT.out _ a3; omega
      · omega
    have hg2 : w1.heap.size ≠ g2 := by
      rintro rfl
      rcases d3 with d3 | d3
      · obtain ⟨cur, hc⟩ := row_type h5 d3
        rw [u5.block w1.heap.size T4.lt (fun e => by have := HPT.out _ e.symm; omega), ty4.out] at hc
        injection hc with hc
        injection hc with _ hc
        exact absurd hc (by decide)
      · omega
    obtain ⟨p5, c5, rfl⟩ := h5.shape
    have hO2 := (mem.Only.refl w1.heap.size w5).setCell 1 (.slice p5 (m + 1) c5)
    have O6 := O5.upd (mem.Upd.of_only hO2) (.inr hg1.symm) (.inr hg2.symm)
    have U6 := upd_own U5 hO2 (by omega)
    have S6 := src_upd S5 (hO2.block b (by omega))
    have T6 := T5.set 1 (.slice p5 (m + 1) c5) (by omega)
    have R6 := R5.only hO2 (by omega)
    have t50 := T5.b0
    have t51 := T5.b1
    have u50 := T5.free 0
    have u51 := T5.free 1
    clear O4 S4 U4 T4 R4 hO2 f0 f1 k0 k1 O5 S5 U5 T5 R5 a1 d1 h5 u5
    go_upto_region 20 with (at_builtin; refine mem.wpList_appT hr rfl _ _ rfl rfl rfl rfl ?_)
    clear t0 t1 u0 u1 t50 t51 u50 u51 hr
    generalize hW : w5.setCell ⟨w1.heap.size, 1, none⟩ (.slice p5 (m + 1) c5) = w6 at *
    have t0 : w6.cell? ⟨w1.heap.size, 0, none⟩ = some (.slice p0 n c0) := T6.cell 0 (by omega)
    have t1 : w6.cell? ⟨w1.heap.size, 1, none⟩ = some (.slice p5 (m + 1) c5) := T6.cell 1 (by omega)
    have f0 := R6.b0
    have f1 := R6.b1
    have k0 := R6.free 0
    have k1 := R6.free 1
    have H := Lib.hid (any_post (u0 := .slice p0 n c0) (u1 := .slice p5 (m + 1) c5) O6 (by omega) (by omega) (by omega) (by omega) hnm S6 U6 hlt)
    clear O6 S6 U6 T6 R6 hW
    go_wp2_with fail
    refine bodyPost_ret (v := .agg #[.slice p0 n c0, .slice p5 (m + 1) c5]) (by simp [results, Tryz.results85, go_sem, f0, f1]) rfl H.out
  · have hkI : (k : Int) < n := by omega
    go_wp2_with fail
    obtain ⟨rfl, hR⟩ := nod_at O4 hn0
    have hlb := hR.lt
    have bA := mem.below_new w4 (Obj.cells #[.string ⟨#[]⟩, .string ⟨#[110, 48]⟩, .string ⟨#[110, 105, 110, 101, 99, 104, 97, 114, 115]⟩, .string ⟨#[101, 105, 103, 104, 116, 99, 104, 97]⟩, .string ⟨#[78]⟩] 9)
    have SA := (src_upd S4 rfl : Src w4.drew b cv len i4 s4)
    have SB := (src_upd (src_alloc S4 (src_lt S4) (Obj.cells #[.string ⟨#[]⟩, .string ⟨#[110, 48]⟩, .string ⟨#[110, 105, 110, 101, 99, 104, 97, 114, 115]⟩, .string ⟨#[101, 105, 103, 104, 116, 99, 104, 97]⟩, .string ⟨#[78]⟩] 9)) rfl : Src (w4.alloc (Obj.cells #[.string ⟨#[]⟩, .string ⟨#[110, 48]⟩, .string ⟨#[110, 105, 110, 101, 99, 104, 97, 114, 115]⟩, .string ⟨#[101, 105, 103, 104, 116, 99, 104, 97]⟩, .string ⟨#[78]⟩] 9)).drew b cv len i4 s4)
    have CA := code_of HC.out (upd_dw' U4) hB hlt
    have CB := code_of HC.out (upd_dw' (U4.trans (mem.Upd.of_below bA))) hB hlt
    have TB' := ((T4.next bA).keep rfl : mem.Ob (w4.alloc (Obj.cells #[.string ⟨#[]⟩, .string ⟨#[110, 48]⟩, .string ⟨#[110, 105, 110, 101, 99, 104, 97, 114, 115]⟩, .string ⟨#[101, 105, 103, 104, 116, 99, 104, 97]⟩, .string ⟨#[78]⟩] 9)).drew w1.heap.size 2 _)
    have h3 : (5 : Int) ≤ 9223372036854775807 := by omega
    have hq0 : w4.frozen? ⟨b1, k * 3, none⟩ = false := hR.free _
    have hT2 : w1.heap.size ≠ b1 := by omega
    have tb0 := TB'.b0
    have hcs : ∀ j, j < (#[.string ⟨#[]⟩, .string ⟨#[110, 48]⟩, .string ⟨#[110, 105, 110, 101, 99, 104, 97, 114, 115]⟩, .string ⟨#[101, 105, 103, 104, 116, 99, 104, 97]⟩, .string ⟨#[78]⟩] : Array Value).size → ∃ y : ByteArray, y.size ≤ 9223372036854775807 ∧ (#[.string ⟨#[]⟩, .string ⟨#[110, 48]⟩, .string ⟨#[110, 105, 110, 101, 99, 104, 97, 114, 115]⟩, .string ⟨#[101, 105, 103, 104, 116, 99, 104, 97]⟩, .string ⟨#[78]⟩] : Array Value)[j]? = some (.string y) := by
      intro j hj
      rcases (by simp at hj; omega : j = 0 ∨ j = 1 ∨ j = 2 ∨ j = 3 ∨ j = 4) with rfl | rfl | rfl | rfl | rfl
      all_goals exact ⟨_, by decide, rfl⟩
    have hbR : b ≠ w.heap.size := by omega
    have hbb1 : b ≠ b1 := by omega
    have hbb2 : b ≠ b2 := by omega
    have hg : b ≠ w4.heap.size := by have := src_lt S4; omega
    have tA := tabS w4 9 _ hcs
    have TW := Lib.hid T4
    have OW := Lib.hid O4
    have RW := Lib.hid R4
    have UW := Lib.hid U4
    have KW := Lib.hid hR
    clear T4 O4 R4 U4 hR
    go_region_with (first | (go_at_call 41; (first | (with_reducible refine (next_any _ b B cv len i4 s4 5 SA CA hB h3).mono ?_) | (with_reducible refine (next_any _ b B cv len i4 s4 5 SB CB hB h3).mono ?_)); rintro e wx ⟨x, ix, sx, rfl, x0, x1, Sx, ox⟩; obtain ⟨jx, rfl⟩ := Int.eq_ofNat_of_zero_le x0; have hjx : jx < 5 := (by omega); have hjI : (jx : Int) < 5 := (by omega); (first | (have ow : Only b (w4.alloc (Obj.cells #[.string ⟨#[]⟩, .string ⟨#[110, 48]⟩, .string ⟨#[110, 105, 110, 101, 99, 104, 97, 114, 115]⟩, .string ⟨#[101, 105, 103, 104, 116, 99, 104, 97]⟩, .string ⟨#[78]⟩] 9)).drew wx := ox; obtain ⟨y, hys, hy⟩ := tA jx hjx; have hy2 : wx.cell? ⟨w4.heap.size, jx, none⟩ = some (.string y) := (World.cell?_of_block (ox.block w4.heap.size hg.symm)).trans hy; have TZ := (TB'.keep (ox.block w1.heap.size hbT.symm) : mem.Ob wx w1.heap.size 2 _); have tz := TZ.b0; have KZ := ((KW.out.below bA hlb).keep (ox.block b1 (by omega)) : mem.Rw wx b1 n 3 _); have kz : wx.frozen? ⟨b1, k * 3, none⟩ = false := KZ.free _; have kc : wx.cell? ⟨b1, k * 3, none⟩ = some (.string (N k).s) := KZ.cell k 0 hkn (by omega); have RZ := (((RW.out.next bA).keep rfl : mem.Ob (w4.alloc (Obj.cells #[.string ⟨#[]⟩, .string ⟨#[110, 48]⟩, .string ⟨#[110, 105, 110, 101, 99, 104, 97, 114, 115]⟩, .string ⟨#[101, 105, 103, 104, 116, 99, 104, 97]⟩, .string ⟨#[78]⟩] 9)).drew w.heap.size 2 _).keep (ox.block w.heap.size hbR.symm) : mem.Ob wx w.heap.size 2 _); have OZ := (OW.out.next bA).drew.upd (upd_of ox) (.inr hbb1.symm) (.inr hbb2.symm); have UZ := (upd_dw' (UW.out.trans (mem.Upd.of_below bA))).trans (upd_of ox); have SZ := Sx) | (obtain ⟨y, hys, hy⟩ := tabS wx 9 _ hcs jx hjx; have TX := (TW.out.keep (ox.block w1.heap.size hbT.symm) : mem.Ob wx w1.heap.size 2 _); have tx := TX.b0; have TZ := TX.next (mem.below_new wx (Obj.cells #[.string ⟨#[]⟩, .string ⟨#[110, 48]⟩, .string ⟨#[110, 105, 110, 101, 99, 104, 97, 114, 115]⟩, .string ⟨#[101, 105, 103, 104, 116, 99, 104, 97]⟩, .string ⟨#[78]⟩] 9)); have tz := TZ.b0; have KX := (KW.out.keep (ox.block b1 (by omega)) : mem.Rw wx b1 n 3 _); have KZ := KX.below (mem.below_new wx (Obj.cells #[.string ⟨#[]⟩, .string ⟨#[110, 48]⟩, .string ⟨#[110, 105, 110, 101, 99, 104, 97, 114, 115]⟩, .string ⟨#[101, 105, 103, 104, 116, 99, 104, 97]⟩, .string ⟨#[78]⟩] 9)) KX.lt; have kz : (wx.alloc (Obj.cells #[.string ⟨#[]⟩, .string ⟨#[110, 48]⟩, .string ⟨#[110, 105, 110, 101, 99, 104, 97, 114, 115]⟩, .string ⟨#[101, 105, 103, 104, 116, 99, 104, 97]⟩, .string ⟨#[78]⟩] 9)).frozen? ⟨b1, k * 3, none⟩ = false := KZ.free _; have kc : (wx.alloc (Obj.cells #[.string ⟨#[]⟩, .string ⟨#[110, 48]⟩, .string ⟨#[110, 105, 110, 101, 99, 104, 97, 114, 115]⟩, .string ⟨#[101, 105, 103, 104, 116, 99, 104, 97]⟩, .string ⟨#[78]⟩] 9)).cell? ⟨b1, k * 3, none⟩ = some (.string (N k).s) := KZ.cell k 0 hkn (by omega); have kz' : wx.frozen? ⟨b1, k * 3, none⟩ = false := KX.free _; have kc' : wx.cell? ⟨b1, k * 3, none⟩ = some (.string (N k).s) := KX.cell k 0 hkn (by omega); have RZ := (RW.out.keep (ox.block w.heap.size hbR.symm) : mem.Ob wx w.heap.size 2 _).next (mem.below_new wx (Obj.cells #[.string ⟨#[]⟩, .string ⟨#[110, 48]⟩, .string ⟨#[110, 105, 110, 101, 99, 104, 97, 114, 115]⟩, .string ⟨#[101, 105, 103, 104, 116, 99, 104, 97]⟩, .string ⟨#[78]⟩] 9)); have OZ := (OW.out.drew.upd (upd_of ox) (.inr hbb1.symm) (.inr hbb2.symm)).next (mem.below_new wx (Obj.cells #[.string ⟨#[]⟩, .string ⟨#[110, 48]⟩, .string ⟨#[110, 105, 110, 101, 99, 104, 97, 114, 115]⟩, .string ⟨#[101, 105, 103, 104, 116, 99, 104, 97]⟩, .string ⟨#[78]⟩] 9)); have UZ := ((upd_dw' UW.out).trans (upd_of ox)).trans (mem.Upd.of_below (mem.below_new wx (Obj.cells #[.string ⟨#[]⟩, .string ⟨#[110, 48]⟩, .string ⟨#[110, 105, 110, 101, 99, 104, 97, 114, 115]⟩, .string ⟨#[101, 105, 103, 104, 116, 99, 104, 97]⟩, .string ⟨#[78]⟩] 9))); have SZ := src_alloc Sx (src_lt Sx) (Obj.cells #[.string ⟨#[]⟩, .string ⟨#[110, 48]⟩, .string ⟨#[110, 105, 110, 101, 99, 104, 97, 114, 115]⟩, .string ⟨#[101, 105, 103, 104, 116, 99, 104, 97]⟩, .string ⟨#[78]⟩] 9))); clear hjx))
    all_goals
      obtain ⟨N', hnm', hN, S9, U9, T9, R9⟩ := nod_step (j := 0) (y := .string y) OZ hkn (by omega) ⟨y, (N k).lo, (N k).hi⟩ (fun l hl => by rcases (by omega : l = 0 ∨ l = 1 ∨ l = 2) with rfl | rfl | rfl <;> simp [mem.nodC]) hys hnm SZ UZ TZ RZ hbb1 hT2 hb1
      rw [Nat.add_zero] at hN S9 U9 T9 R9
      clear t0 t1 u0 u1 f0 f1 k0 k1 tz kz kc
      have t0 := T9.b0
      have t1 := T9.b1
      have f0 := R9.b0
      have f1 := R9.b1
      have k0 := R9.free 0
      have k1 := R9.free 1
      have H := Lib.hid (any_post (u0 := .slice (some ⟨b1, 0, none⟩) n c0) (u1 := .slice p1 m c1) hN hb1 hb2 (by omega) (by omega) hnm' S9 U9 hlt)
      clear S9 U9 T9 R9 hN OZ UZ SZ RZ TZ
      go_wp2_with fail
      refine bodyPost_ret (v := .agg #[.slice (some ⟨b1, 0, none⟩) n c0, .slice p1 m c1]) (by simp [results, Tryz.results85, go_sem, f0, f1]) rfl H.out
  · have hkI : (k : Int) < n := by omega
    go_wp2_with fail
    obtain ⟨rfl, hR⟩ := nod_at O4 hn0
    have hlb := hR.lt
    have hlo : w4.cell? ⟨b1, k * 3 + 1, none⟩ = some (.int .i64 (N k).lo) := hR.cell k 1 hkn (by omega)
    have bA := mem.below_new w4 (Obj.cells #[.int .i64 (IntKind.i64.wrap ((N k).lo - 1)), .int .i64 (N k).lo, .int .i64 100000000, .int .i64 100000001] 2)
    have SA := (src_upd S4 rfl : Src w4.drew b cv len i4 s4)
    have SB := (src_upd (src_alloc S4 (src_lt S4) (Obj.cells #[.int .i64 (IntKind.i64.wrap ((N k).lo - 1)), .int .i64 (N k).lo, .int .i64 100000000, .int .i64 100000001] 2)) rfl : Src (w4.alloc (Obj.cells #[.int .i64 (IntKind.i64.wrap ((N k).lo - 1)), .int .i64 (N k).lo, .int .i64 100000000, .int .i64 100000001] 2)).drew b cv len i4 s4)
    have CA := code_of HC.out (upd_dw' U4) hB hlt
    have CB := code_of HC.out (upd_dw' (U4.trans (mem.Upd.of_below bA))) hB hlt
    have TB' := ((T4.next bA).keep rfl : mem.Ob (w4.alloc (Obj.cells #[.int .i64 (IntKind.i64.wrap ((N k).lo - 1)), .int .i64 (N k).lo, .int .i64 100000000, .int .i64 100000001] 2)).drew w1.heap.size 2 _)
    have h3 : (4 : Int) ≤ 9223372036854775807 := by omega
    have hq0 : w4.frozen? ⟨b1, k * 3 + 2, none⟩ = false := hR.free _
    have hT2 : w1.heap.size ≠ b1 := by omega
    have tb0 := TB'.b0
    have hcs : ∀ j, j < (#[.int .i64 (IntKind.i64.wrap ((N k).lo - 1)), .int .i64 (N k).lo, .int .i64 100000000, .int .i64 100000001] : Array Value).size → ∃ y : Int, (#[.int .i64 (IntKind.i64.wrap ((N k).lo - 1)), .int .i64 (N k).lo, .int .i64 100000000, .int .i64 100000001] : Array Value)[j]? = some (.int .i64 y) := by
      intro j hj
      rcases (by simp at hj; omega : j = 0 ∨ j = 1 ∨ j = 2 ∨ j = 3) with rfl | rfl | rfl | rfl
      all_goals exact ⟨_, rfl⟩
    have hbR : b ≠ w.heap.size := by omega
    have hbb1 : b ≠ b1 := by omega
    have hbb2 : b ≠ b2 := by omega
    have hg : b ≠ w4.heap.size := by have := src_lt S4; omega
    have tA := tabI w4 2 _ hcs
    have TW := Lib.hid T4
    have OW := Lib.hid O4
    have RW := Lib.hid R4
    have UW := Lib.hid U4
    have KW := Lib.hid hR
    clear T4 O4 R4 U4 hR RN4 RP4 HNT HPT ty4
    have hloB : (w4.alloc (Obj.cells #[.int .i64 (IntKind.i64.wrap ((N k).lo - 1)), .int .i64 (N k).lo, .int .i64 100000000, .int .i64 100000001] 2)).drew.cell? ⟨b1, k * 3 + 1, none⟩ = some (.int .i64 (N k).lo) := (KW.out.below bA hlb).cell k 1 hkn (by omega)
    have hcst : ∀ (X : World) (y : Value), mem.Rw X b1 n 3 (mem.nodC N) → (X.setCell ⟨b1, k * 3 + 2, none⟩ y).cell? ⟨b1, k * 3 + 1, none⟩ = some (.int .i64 (N k).lo) := fun X y hX => by
      have := (hX.set k 2 y hkn (by omega)).cell k 1 hkn (by omega)
      simpa [mem.updC, mem.nodC] using this
    refine wp_region_held_drew (S := fun w' => w'.cell? ⟨w1.heap.size, 0, none⟩ = some (.slice (some ⟨b1, 0, none⟩) n c0) ∧ w'.cell? ⟨b1, k * 3 + 1, none⟩ = some (.int .i64 (N k).lo)) (by kernel_rfl) ⟨t0, hlo⟩ (fun hHeld => ?_)
    refine wpAnyH_take (i := 0) (v := ?_) nth0 (by kernel_rfl) (by kernel_rfl) (by kernel_rfl) (fun _ _ _ h => h) (Or.inl ⟨by rfl, ?_⟩) (by assumption) ?_
    rotate_left
    · intro w hSw; (try dsimp only at hSw); go_simp; try with_reducible rfl
    try simp only [Act.put, List.setIfInBounds_toArray, List.set_cons_zero, List.set_cons_succ]
    refine wpAnyH_take (i := 1) (v := ?_) nth1 (by kernel_rfl) (by kernel_rfl) (by kernel_rfl) (fun _ _ _ h => h) (Or.inl ⟨by rfl, ?_⟩) (by assumption) ?_
    rotate_left
    · intro w hSw; (try dsimp only at hSw); go_simp; try with_reducible rfl
    try simp only [Act.put, List.setIfInBounds_toArray, List.set_cons_zero, List.set_cons_succ]
    refine wpAnyH_take (i := 2) (v := ?_) nth2 (by kernel_rfl) (by kernel_rfl) (by kernel_rfl) (fun _ _ _ h => h) (Or.inl ⟨by rfl, ?_⟩) (by assumption) ?_
    rotate_left
    · intro w hSw; (try dsimp only at hSw); go_simp; try with_reducible rfl
    try simp only [Act.put, List.setIfInBounds_toArray, List.set_cons_zero, List.set_cons_succ]
    refine wpAnyH_take (i := 3) (v := ?_) nth3 (by kernel_rfl) (by kernel_rfl) (by kernel_rfl) (fun _ _ _ h => h) (Or.inl ⟨by rfl, ?_⟩) (by assumption) ?_
    rotate_left
    · intro w hSw; (try dsimp only at hSw); go_simp; try with_reducible rfl
    try simp only [Act.put, List.setIfInBounds_toArray, List.set_cons_zero, List.set_cons_succ]
    refine wpAnyH_take (i := 4) (v := ?_) nth4 (by kernel_rfl) (by kernel_rfl) (by kernel_rfl) (fun _ _ _ h => h) (Or.inl ⟨by rfl, ?_⟩) (by assumption) ?_
    rotate_left
    · intro w hSw; (try dsimp only at hSw); go_simp; try with_reducible rfl
    try simp only [Act.put, List.setIfInBounds_toArray, List.set_cons_zero, List.set_cons_succ]
    refine wpAnyH_take (i := 5) (v := ?_) nth5 (by kernel_rfl) (by kernel_rfl) (by kernel_rfl) (fun _ _ _ h => h) (Or.inl ⟨by rfl, ?_⟩) (by assumption) ?_
    rotate_left
    · intro w hSw; (try dsimp only at hSw); go_simp; try with_reducible rfl
    try simp only [Act.put, List.setIfInBounds_toArray, List.set_cons_zero, List.set_cons_succ]
    refine wpAnyH_take (i := 6) (v := ?_) nth6 (by kernel_rfl) (by kernel_rfl) (by kernel_rfl) (fun _ _ _ h => h) (Or.inl ⟨by rfl, ?_⟩) (by assumption) ?_
    rotate_left
    · intro w hSw; (try dsimp only at hSw); go_simp; try with_reducible rfl
    try simp only [Act.put, List.setIfInBounds_toArray, List.set_cons_zero, List.set_cons_succ]
    refine wpAnyH_take (i := 7) (v := ?_) nth7 (by kernel_rfl) (by kernel_rfl) (by kernel_rfl) (fun _ _ _ h => h) (Or.inl ⟨by rfl, ?_⟩) (by assumption) ?_
    rotate_left
    · intro w hSw; (try dsimp only at hSw); go_simp; try with_reducible rfl
    try simp only [Act.put, List.setIfInBounds_toArray, List.set_cons_zero, List.set_cons_succ]
    refine wpAnyH_take (i := 8) (v := ?_) nth8 (by kernel_rfl) (by kernel_rfl) (by kernel_rfl) (fun _ _ _ h => h) (Or.inl ⟨by rfl, ?_⟩) (by assumption) ?_
    rotate_left
    · intro w hSw; (try dsimp only at hSw); go_simp; try with_reducible rfl
    try simp only [Act.put, List.setIfInBounds_toArray, List.set_cons_zero, List.set_cons_succ]
    refine wpAnyH_take (i := 9) (v := ?_) nth9 (by kernel_rfl) (by kernel_rfl) (by kernel_rfl) (fun _ _ _ h => h) (Or.inl ⟨by rfl, ?_⟩) (by assumption) ?_
    rotate_left
    · intro w hSw; (try dsimp only at hSw); go_simp; try with_reducible rfl
    try simp only [Act.put, List.setIfInBounds_toArray, List.set_cons_zero, List.set_cons_succ]
    refine wpAnyH_take (i := 10) (v := ?_) nth10 (by kernel_rfl) (by kernel_rfl) (by kernel_rfl) (fun _ _ _ h => h) (Or.inl ⟨by rfl, ?_⟩) (by assumption) ?_
    rotate_left
    · intro w hSw; (try dsimp only at hSw); go_simp; try with_reducible rfl
    try simp only [Act.put, List.setIfInBounds_toArray, List.set_cons_zero, List.set_cons_succ]
    refine wpAnyH_take (i := 11) (v := ?_) nth11 (by kernel_rfl) (by kernel_rfl) (by kernel_rfl) (fun _ _ _ h => h) (Or.inl ⟨by rfl, ?_⟩) (by assumption) ?_
    rotate_left
    · intro w hSw; (try dsimp only at hSw); go_simp; try with_reducible rfl
    try simp only [Act.put, List.setIfInBounds_toArray, List.set_cons_zero, List.set_cons_succ]
    refine wpAnyH_take (i := 12) (v := ?_) nth12 (by kernel_rfl) (by kernel_rfl) (by kernel_rfl) (fun _ _ _ h => h) (Or.inl ⟨by rfl, ?_⟩) (by assumption) ?_
    rotate_left
    · intro w hSw; (try dsimp only at hSw); go_simp; try with_reducible rfl
    try simp only [Act.put, List.setIfInBounds_toArray, List.set_cons_zero, List.set_cons_succ]
    refine wpAnyH_take (i := 13) (v := ?_) nth13 (by kernel_rfl) (by kernel_rfl) (by kernel_rfl) (fun _ _ _ h => h) (Or.inl ⟨by rfl, ?_⟩) (by assumption) ?_
    rotate_left
    · intro w hSw; (try dsimp only at hSw); go_simp; try with_reducible rfl
    try simp only [Act.put, List.setIfInBounds_toArray, List.set_cons_zero, List.set_cons_succ]
    refine wpAnyH_take (i := 14) (v := ?_) nth14 (by kernel_rfl) (by kernel_rfl) (by kernel_rfl) (fun _ _ _ h => h) (Or.inl ⟨by rfl, ?_⟩) (by assumption) ?_
    rotate_left
    · intro w hSw; (try dsimp only at hSw); go_simp; try with_reducible rfl
    try simp only [Act.put, List.setIfInBounds_toArray, List.set_cons_zero, List.set_cons_succ]
    refine wpAnyH_take (i := 15) (v := ?_) nth15 (by kernel_rfl) (by kernel_rfl) (by kernel_rfl) (fun _ _ _ h => h) (Or.inl ⟨by rfl, ?_⟩) (by assumption) ?_
    rotate_left
    · intro w hSw; (try dsimp only at hSw); go_simp; try with_reducible rfl
    try simp only [Act.put, List.setIfInBounds_toArray, List.set_cons_zero, List.set_cons_succ]
    refine wpAnyH_take (i := 17) (v := ?_) nth17 (by kernel_rfl) (by kernel_rfl) (by kernel_rfl) (fun _ _ _ h => h) (Or.inl ⟨by rfl, ?_⟩) (by assumption) ?_
    rotate_left
    · intro w hSw; (try dsimp only at hSw); go_simp; try with_reducible rfl
    try simp only [Act.put, List.setIfInBounds_toArray, List.set_cons_zero, List.set_cons_succ]
    refine wpAnyH_ready (rs := [16, 18]) (by kernel_rfl) (by simp) ?_
    refine AllReadyH.cons nth16 (fun K hK => ?_) (AllReadyH.cons nth18 (fun K hK => ?_) AllReadyH.nil)
    · go_simp
      refine hK.out _ _ ?_ (fun hHeld => ?_)
      · exact ⟨tb0, hloB⟩
      clear hK K
      try simp only [Act.put, List.setIfInBounds_toArray, List.set_cons_zero, List.set_cons_succ]
      refine wpAnyH_ready (rs := [18]) (by kernel_rfl) (by simp) ?_
      refine AllReadyH.cons nth18 (fun K hK => ?_) AllReadyH.nil
      go_simp
      go_at_call 41
      refine (next_any _ b B cv len i4 s4 4 SB CB hB h3).mono ?_
      rintro e wx ⟨x, ix, sx, rfl, x0, x1, Sx, ox⟩
      obtain ⟨jx, rfl⟩ := Int.eq_ofNat_of_zero_le x0
      have hjx : jx < 4 := by omega
      have hjI : (jx : Int) < 4 := by omega
      have ow : Only b (w4.alloc (Obj.cells #[.int .i64 (IntKind.i64.wrap ((N k).lo - 1)), .int .i64 (N k).lo, .int .i64 100000000, .int .i64 100000001] 2)).drew wx := ox
      obtain ⟨y, hy⟩ := tA jx hjx
      have hy2 : wx.cell? ⟨w4.heap.size, jx, none⟩ = some (.int .i64 y) := (World.cell?_of_block (ox.block w4.heap.size hg.symm)).trans hy
      have TZ := (TB'.keep (ox.block w1.heap.size hbT.symm) : mem.Ob wx w1.heap.size 2 _)
      have tz := TZ.b0
      have KZ := ((KW.out.below bA hlb).keep (ox.block b1 (by omega)) : mem.Rw wx b1 n 3 _)
      have klz : wx.cell? ⟨b1, k * 3 + 1, none⟩ = some (.int .i64 (N k).lo) := KZ.cell k 1 hkn (by omega)
      have kz : wx.frozen? ⟨b1, k * 3 + 2, none⟩ = false := KZ.free _
      have kc : wx.cell? ⟨b1, k * 3 + 2, none⟩ = some (.int .i64 (N k).hi) := KZ.cell k 2 hkn (by omega)
      have RZ := (((RW.out.next bA).keep rfl : mem.Ob (w4.alloc (Obj.cells #[.int .i64 (IntKind.i64.wrap ((N k).lo - 1)), .int .i64 (N k).lo, .int .i64 100000000, .int .i64 100000001] 2)).drew w.heap.size 2 _).keep (ox.block w.heap.size hbR.symm) : mem.Ob wx w.heap.size 2 _)
      have OZ := (OW.out.next bA).drew.upd (upd_of ox) (.inr hbb1.symm) (.inr hbb2.symm)
      have UZ := (upd_dw' (UW.out.trans (mem.Upd.of_below bA))).trans (upd_of ox)
      have SZ := Sx
      refine hK.out _ _ ?_ (fun hHeld => ?_)
      · exact ⟨tz, klz⟩
      clear hK K
      try simp only [Act.put, List.setIfInBounds_toArray, List.set_cons_zero, List.set_cons_succ]
      refine wpAnyH_take (i := 19) (v := ?_) nth19 (by kernel_rfl) (by kernel_rfl) (by kernel_rfl) (fun _ _ _ h => h) (Or.inl ⟨by rfl, ?_⟩) (by assumption) ?_
      rotate_left
      · intro w hSw; (try dsimp only at hSw); go_simp; try with_reducible rfl
      try simp only [Act.put, List.setIfInBounds_toArray, List.set_cons_zero, List.set_cons_succ]
      refine wpAnyH_ready (rs := [20]) (by kernel_rfl) (by simp) ?_
      refine AllReadyH.cons nth20 (fun K hK => ?_) AllReadyH.nil
      go_simp
      refine hK.out _ _ ?_ (fun hHeld => ?_)
      · exact ⟨tz, klz⟩
      clear hK K
      try simp only [Act.put, List.setIfInBounds_toArray, List.set_cons_zero, List.set_cons_succ]
      refine wpAnyH_take (i := 21) (v := ?_) nth21 (by kernel_rfl) (by kernel_rfl) (by kernel_rfl) (fun _ _ _ h => h) (Or.inl ⟨by rfl, ?_⟩) (by assumption) ?_
      rotate_left
      · intro w hSw; (try dsimp only at hSw); go_simp; try with_reducible rfl
      try simp only [Act.put, List.setIfInBounds_toArray, List.set_cons_zero, List.set_cons_succ]
      refine wpAnyH_take (i := 22) (v := ?_) nth22 (by kernel_rfl) (by kernel_rfl) (by kernel_rfl) (fun _ _ _ h => h) (Or.inl ⟨by rfl, ?_⟩) (by assumption) ?_
      rotate_left
      · intro w hSw; (try dsimp only at hSw); go_simp; try with_reducible rfl
      try simp only [Act.put, List.setIfInBounds_toArray, List.set_cons_zero, List.set_cons_succ]
      refine wpAnyH_ready (rs := [23]) (by kernel_rfl) (by simp) ?_
      refine AllReadyH.cons nth23 (fun K hK => ?_) AllReadyH.nil
      go_simp
      refine hK.out _ _ ?_ (fun hHeld => ?_)
      · exact ⟨(((mem.Only.refl b1 _).setCell _ _).cell (a := ⟨w1.heap.size, 0, none⟩) hT2).trans tz, hcst _ _ KZ⟩
      clear hK K
      try simp only [Act.put, List.setIfInBounds_toArray, List.set_cons_zero, List.set_cons_succ]
      obtain ⟨N', hnm', hN, S9, U9, T9, R9⟩ := nod_step (j := 2) (y := .int .i64 y) OZ hkn (by omega) ⟨(N k).s, (N k).lo, y⟩ (fun l hl => by rcases (by omega : l = 0 ∨ l = 1 ∨ l = 2) with rfl | rfl | rfl <;> simp [mem.nodC]) (hnm k hkn) hnm SZ UZ TZ RZ hbb1 hT2 hb1
      clear t0 t1 u0 u1 f0 f1 k0 k1 tz kz kc klz
      have t0 := T9.b0
      have t1 := T9.b1
      have f0 := R9.b0
      have f1 := R9.b1
      have k0 := R9.free 0
      have k1 := R9.free 1
      have H := Lib.hid (any_post (u0 := .slice (some ⟨b1, 0, none⟩) n c0) (u1 := .slice p1 m c1) hN hb1 hb2 (by omega) (by omega) hnm' S9 U9 hlt)
      clear S9 U9 T9 R9 hN OZ UZ SZ RZ TZ
      refine wpAnyH_done (by kernel_rfl) ?_ _
      clear hHeld
      generalize hW : World.setCell wx ⟨b1, k * 3 + 2, none⟩ (.int .i64 y) = Y at t0 t1 f0 f1 k0 k1 H ⊢
      clear hW
      go_wp2_with fail
      refine bodyPost_ret (v := .agg #[.slice (some ⟨b1, 0, none⟩) n c0, .slice p1 m c1]) (by simp [results, Tryz.results85, go_sem, f0, f1]) rfl H.out
    · go_simp
      go_at_call 41
      refine (next_any _ b B cv len i4 s4 4 SA CA hB h3).mono ?_
      rintro e wx ⟨x, ix, sx, rfl, x0, x1, Sx, ox⟩
      obtain ⟨jx, rfl⟩ := Int.eq_ofNat_of_zero_le x0
      have hjx : jx < 4 := by omega
      have hjI : (jx : Int) < 4 := by omega
      obtain ⟨y, hy⟩ := tabI wx 2 _ hcs jx hjx
      have TX := (TW.out.keep (ox.block w1.heap.size hbT.symm) : mem.Ob wx w1.heap.size 2 _)
      have tx := TX.b0
      have TZ := TX.next (mem.below_new wx (Obj.cells #[.int .i64 (IntKind.i64.wrap ((N k).lo - 1)), .int .i64 (N k).lo, .int .i64 100000000, .int .i64 100000001] 2))
      have tz := TZ.b0
      have KX := (KW.out.keep (ox.block b1 (by omega)) : mem.Rw wx b1 n 3 _)
      have klo : wx.cell? ⟨b1, k * 3 + 1, none⟩ = some (.int .i64 (N k).lo) := KX.cell k 1 hkn (by omega)
      have KZ := KX.below (mem.below_new wx (Obj.cells #[.int .i64 (IntKind.i64.wrap ((N k).lo - 1)), .int .i64 (N k).lo, .int .i64 100000000, .int .i64 100000001] 2)) KX.lt
      have klz : (wx.alloc (Obj.cells #[.int .i64 (IntKind.i64.wrap ((N k).lo - 1)), .int .i64 (N k).lo, .int .i64 100000000, .int .i64 100000001] 2)).cell? ⟨b1, k * 3 + 1, none⟩ = some (.int .i64 (N k).lo) := KZ.cell k 1 hkn (by omega)
      have kz : (wx.alloc (Obj.cells #[.int .i64 (IntKind.i64.wrap ((N k).lo - 1)), .int .i64 (N k).lo, .int .i64 100000000, .int .i64 100000001] 2)).frozen? ⟨b1, k * 3 + 2, none⟩ = false := KZ.free _
      have kc : (wx.alloc (Obj.cells #[.int .i64 (IntKind.i64.wrap ((N k).lo - 1)), .int .i64 (N k).lo, .int .i64 100000000, .int .i64 100000001] 2)).cell? ⟨b1, k * 3 + 2, none⟩ = some (.int .i64 (N k).hi) := KZ.cell k 2 hkn (by omega)
      have kz' : wx.frozen? ⟨b1, k * 3 + 2, none⟩ = false := KX.free _
      have kc' : wx.cell? ⟨b1, k * 3 + 2, none⟩ = some (.int .i64 (N k).hi) := KX.cell k 2 hkn (by omega)
      have RZ := (RW.out.keep (ox.block w.heap.size hbR.symm) : mem.Ob wx w.heap.size 2 _).next (mem.below_new wx (Obj.cells #[.int .i64 (IntKind.i64.wrap ((N k).lo - 1)), .int .i64 (N k).lo, .int .i64 100000000, .int .i64 100000001] 2))
      have OZ := (OW.out.drew.upd (upd_of ox) (.inr hbb1.symm) (.inr hbb2.symm)).next (mem.below_new wx (Obj.cells #[.int .i64 (IntKind.i64.wrap ((N k).lo - 1)), .int .i64 (N k).lo, .int .i64 100000000, .int .i64 100000001] 2))
      have UZ := ((upd_dw' UW.out).trans (upd_of ox)).trans (mem.Upd.of_below (mem.below_new wx (Obj.cells #[.int .i64 (IntKind.i64.wrap ((N k).lo - 1)), .int .i64 (N k).lo, .int .i64 100000000, .int .i64 100000001] 2)))
      have SZ := src_alloc Sx (src_lt Sx) (Obj.cells #[.int .i64 (IntKind.i64.wrap ((N k).lo - 1)), .int .i64 (N k).lo, .int .i64 100000000, .int .i64 100000001] 2)
      refine hK.out _ _ ?_ (fun hHeld => ?_)
      · exact ⟨tx, klo⟩
      clear hK K
      try simp only [Act.put, List.setIfInBounds_toArray, List.set_cons_zero, List.set_cons_succ]
      refine wpAnyH_ready (rs := [16]) (by kernel_rfl) (by simp) ?_
      refine AllReadyH.cons nth16 (fun K hK => ?_) AllReadyH.nil
      go_simp
      refine hK.out _ _ ?_ (fun hHeld => ?_)
      · exact ⟨tz, klz⟩
      clear hK K
      try simp only [Act.put, List.setIfInBounds_toArray, List.set_cons_zero, List.set_cons_succ]
      refine wpAnyH_take (i := 19) (v := ?_) nth19 (by kernel_rfl) (by kernel_rfl) (by kernel_rfl) (fun _ _ _ h => h) (Or.inl ⟨by rfl, ?_⟩) (by assumption) ?_
      rotate_left
      · intro w hSw; (try dsimp only at hSw); go_simp; try with_reducible rfl
      try simp only [Act.put, List.setIfInBounds_toArray, List.set_cons_zero, List.set_cons_succ]
      refine wpAnyH_ready (rs := [20]) (by kernel_rfl) (by simp) ?_
      refine AllReadyH.cons nth20 (fun K hK => ?_) AllReadyH.nil
      go_simp
      refine hK.out _ _ ?_ (fun hHeld => ?_)
      · exact ⟨tz, klz⟩
      clear hK K
      try simp only [Act.put, List.setIfInBounds_toArray, List.set_cons_zero, List.set_cons_succ]
      refine wpAnyH_take (i := 21) (v := ?_) nth21 (by kernel_rfl) (by kernel_rfl) (by kernel_rfl) (fun _ _ _ h => h) (Or.inl ⟨by rfl, ?_⟩) (by assumption) ?_
      rotate_left
      · intro w hSw; (try dsimp only at hSw); go_simp; try with_reducible rfl
      try simp only [Act.put, List.setIfInBounds_toArray, List.set_cons_zero, List.set_cons_succ]
      refine wpAnyH_take (i := 22) (v := ?_) nth22 (by kernel_rfl) (by kernel_rfl) (by kernel_rfl) (fun _ _ _ h => h) (Or.inl ⟨by rfl, ?_⟩) (by assumption) ?_
      rotate_left
      · intro w hSw; (try dsimp only at hSw); go_simp; try with_reducible rfl
      try simp only [Act.put, List.setIfInBounds_toArray, List.set_cons_zero, List.set_cons_succ]
      refine wpAnyH_ready (rs := [23]) (by kernel_rfl) (by simp) ?_
      refine AllReadyH.cons nth23 (fun K hK => ?_) AllReadyH.nil
      go_simp
      refine hK.out _ _ ?_ (fun hHeld => ?_)
      · exact ⟨(((mem.Only.refl b1 _).setCell _ _).cell (a := ⟨w1.heap.size, 0, none⟩) hT2).trans tz, hcst _ _ KZ⟩
      clear hK K
      try simp only [Act.put, List.setIfInBounds_toArray, List.set_cons_zero, List.set_cons_succ]
      obtain ⟨N', hnm', hN, S9, U9, T9, R9⟩ := nod_step (j := 2) (y := .int .i64 y) OZ hkn (by omega) ⟨(N k).s, (N k).lo, y⟩ (fun l hl => by rcases (by omega : l = 0 ∨ l = 1 ∨ l = 2) with rfl | rfl | rfl <;> simp [mem.nodC]) (hnm k hkn) hnm SZ UZ TZ RZ hbb1 hT2 hb1
      clear t0 t1 u0 u1 f0 f1 k0 k1 tz kz kc klz
      have t0 := T9.b0
      have t1 := T9.b1
      have f0 := R9.b0
      have f1 := R9.b1
      have k0 := R9.free 0
      have k1 := R9.free 1
      have H := Lib.hid (any_post (u0 := .slice (some ⟨b1, 0, none⟩) n c0) (u1 := .slice p1 m c1) hN hb1 hb2 (by omega) (by omega) hnm' S9 U9 hlt)
      clear S9 U9 T9 R9 hN OZ UZ SZ RZ TZ
      refine wpAnyH_done (by kernel_rfl) ?_ _
      clear hHeld
      generalize hW : World.setCell (wx.alloc (Obj.cells #[.int .i64 (IntKind.i64.wrap ((N k).lo - 1)), .int .i64 (N k).lo, .int .i64 100000000, .int .i64 100000001] 2)) ⟨b1, k * 3 + 2, none⟩ (.int .i64 y) = Y at t0 t1 f0 f1 k0 k1 H ⊢
      clear hW
      go_wp2_with fail
      refine bodyPost_ret (v := .agg #[.slice (some ⟨b1, 0, none⟩) n c0, .slice p1 m c1]) (by simp [results, Tryz.results85, go_sem, f0, f1]) rfl H.out
end Go.Proofs.YtdbgcbkmcbgdiaaGreat.draw
