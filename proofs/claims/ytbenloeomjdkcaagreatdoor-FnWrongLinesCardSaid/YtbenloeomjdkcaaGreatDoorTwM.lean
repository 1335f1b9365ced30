/-
  Several texts in one: TxC, TxD, TxE, TxF, TxG.
-/
import Derived.Test.YtbenloeomjdkcaaGreatDoorRows
import Derived.Test.YtbenloeomjdkcaaGreatDoorTxB
import Derived.Test.YtbenloeomjdkcaaGreatDoorNetF
import Derived.WalkKit
import Derived.ProofKit
import Derived.Lib.Hide
import Derived.Laws.Concat
import Derived.Deep.RegionHeld3
import Derived.OwnWalk
import Derived.Test.YtbenloeomjdkcaaGreatDoorNetL
import Derived.Lib.Builder
namespace Go.Proofs.YtbenloeomjdkcaaGreatDoor.text
open Go.RowKit Go.Proofs.YtbenloeomjdkcaaGreatDoor.mem
set_option linter.unusedVariables false
set_option maxRecDepth 100000

/-- a pipe's line -/
def pipeL (N : Nat → Nod) (q : Pip) : List UInt8 := [112, 105, 112, 101, 32] ++ (N q.f.toNat).s.data.toList ++ [32] ++ (N q.t.toNat).s.data.toList ++ numsL [q.k, q.v, q.l]
theorem catP (s u : ByteArray) (d : List UInt8) : (ByteArray.mk #[112, 105, 112, 101, 32] ++ s ++ ByteArray.mk #[32] ++ u ++ ByteArray.mk d.toArray) = ByteArray.mk ([112, 105, 112, 101, 32] ++ s.data.toList ++ [32] ++ u.data.toList ++ d).toArray := by
  apply ByteArray.ext
  simp [ByteArray.data_append]
/-- a pipe in a variable -/
theorem boxedPp (w : World) (x : Pip) (t : TypeId) : Ob (w.alloc (.cells #[.int .i64 x.f, .int .i64 x.t, .int .i64 x.k, .int .i64 x.v, .int .i64 x.l] t)) w.heap.size 5 (fun k => match k with
    | 0 => .int .i64 x.f
    | 1 => .int .i64 x.t
    | 2 => .int .i64 x.k
    | 3 => .int .i64 x.v
    | _ => .int .i64 x.l) := Ob.new w _ _ 5 _ rfl (by intro k hk; rcases (by omega : k = 0 ∨ k = 1 ∨ k = 2 ∨ k = 3 ∨ k = 4) with rfl | rfl | rfl | rfl | rfl <;> rfl)

/-- what a line of a pipe is written from -/
structure Src (w : World) (v : Value) (n : Nat) (N : Nat → Nod) (hi : Nat) (x : Pip) (f t : Nat) : Prop where
  ex : ∃ b o c0 p1 m c1, v = .agg #[.slice (some ⟨b, o, none⟩) n c0, .slice p1 m c1] ∧ b < hi ∧ w.cell? ⟨b, o + f * 3, none⟩ = some (.string (N f).s) ∧ w.cell? ⟨b, o + t * 3, none⟩ = some (.string (N t).s)
  hhi : hi ≤ w.heap.size
  hf : x.f = (f : Int)
  ht : x.t = (t : Int)
  hfn : f < n
  htn : t < n
  sf : (N f).s.size ≤ 8
  st : (N t).s.size ≤ 8
  hk : 0 ≤ x.k ∧ x.k ≤ 1000000000
  hv : 0 ≤ x.v ∧ x.v ≤ 1000000000
  hl : 0 ≤ x.l ∧ x.l ≤ 1000000000
theorem three {a b c : Int} (ha : 0 ≤ a ∧ a ≤ 1000000000) (hb : 0 ≤ b ∧ b ≤ 1000000000) (hc : 0 ≤ c ∧ c ≤ 1000000000) : ∀ y ∈ [a, b, c], 0 ≤ y ∧ y ≤ 1000000000 := by
  intro y hy
  rcases List.mem_cons.1 hy with rfl | hy
  · exact ha
  rcases List.mem_cons.1 hy with rfl | hy
  · exact hb
  rcases List.mem_cons.1 hy with rfl | hy
  · exact hc
  cases hy
theorem pipeL_len {N : Nat → Nod} {x : Pip} (hf : (N x.f.toNat).s.size ≤ 8) (ht : (N x.t.toNat).s.size ≤ 8) (hn : ∀ y ∈ [x.k, x.v, x.l], 0 ≤ y ∧ y ≤ 1000000000) : (pipeL N x).length ≤ 100 := by
  have := numsL_len (l := [x.k, x.v, x.l]) (fun y hy => (hn y hy).2)
  unfold pipeL
  have e1 : (N x.f.toNat).s.data.toList.length = (N x.f.toNat).s.size := Array.length_toList
  have e2 : (N x.t.toNat).s.data.toList.length = (N x.t.toNat).s.size := Array.length_toList
  simp only [List.length_append, List.length_cons, List.length_nil] at this ⊢
  omega

set_option maxHeartbeats 4000000 in
theorem sPipe_any (w : World) (v : Value) (n : Nat) (N : Nat → Nod) (hi : Nat) (x : Pip) (f t : Nat) (h : Src w v n N hi x f t) :
    Calls Tryz.prog 37 #[v, .agg #[.int .i64 x.f, .int .i64 x.t, .int .i64 x.k, .int .i64 x.v, .int .i64 x.l]] w (StrPost w (pipeL N x)) := by
  obtain ⟨⟨b, o, c0, p1, m, c1, rfl, hb, y0, y1⟩, hhi, hf, ht, hfn, htn, sf, st, hk, hv, hl⟩ := h
  obtain ⟨xf, xt, xk, xv, xl⟩ := x
  simp only at hf ht hk hv hl
  subst hf ht
  have A1 := boxed w (.slice (some ⟨b, o, none⟩) n c0) (.slice p1 m c1) 25
  have C1 := below_new w (.cells #[.slice (some ⟨b, o, none⟩) n c0, .slice p1 m c1] 25)
  have hz1 : (w.alloc (.cells #[.slice (some ⟨b, o, none⟩) n c0, .slice p1 m c1] 25)).heap.size = w.heap.size + 1 := by simp
  have A2 := boxedPp (w.alloc (.cells #[.slice (some ⟨b, o, none⟩) n c0, .slice p1 m c1] 25)) ⟨f, t, xk, xv, xl⟩ 62
  have C2 := below_new (w.alloc (.cells #[.slice (some ⟨b, o, none⟩) n c0, .slice p1 m c1] 25)) (.cells #[.int .i64 (f : Int), .int .i64 (t : Int), .int .i64 xk, .int .i64 xv, .int .i64 xl] 62)
  rw [hz1] at A2
  have A1' := A1.below C2 (by omega)
  have CC := C1.trans (C2.mono (by omega))
  go_enter Tryz.func37, Tryz.ntmps37
  go_wp2_with fail
  generalize hW : (w.alloc (Obj.cells #[.slice (some ⟨b, o, none⟩) n c0, .slice p1 m c1] 25)).alloc (Obj.cells #[.int .i64 (f : Int), .int .i64 (t : Int), .int .i64 xk, .int .i64 xv, .int .i64 xl] 62) = w2 at *
  clear hW C1 A1 C2
  have hl1 := A1'.lt
  have hl2 := A2.lt
  have hs2 := CC.size
  have hfI : (f : Int) < n := by omega
  have htI : (t : Int) < n := by omega
  have a0 := A1'.b0
  have a1 := A1'.b1
  have e0 : w2.cell? ⟨w.heap.size + 1, 0, none⟩ = some (.int .i64 (f : Int)) := A2.cell 0 (by omega)
  have e1 : w2.cell? ⟨w.heap.size + 1, 1, none⟩ = some (.int .i64 (t : Int)) := A2.cell 1 (by omega)
  have e2 : w2.cell? ⟨w.heap.size + 1, 2, none⟩ = some (.int .i64 xk) := A2.cell 2 (by omega)
  have e3 : w2.cell? ⟨w.heap.size + 1, 3, none⟩ = some (.int .i64 xv) := A2.cell 3 (by omega)
  have e4 : w2.cell? ⟨w.heap.size + 1, 4, none⟩ = some (.int .i64 xl) := A2.cell 4 (by omega)
  have y0' := (CC.cell (p := ⟨b, o + f * 3, none⟩) (show b < w.heap.size by omega)).trans y0
  have y1' := (CC.cell (p := ⟨b, o + t * 3, none⟩) (show b < w.heap.size by omega)).trans y1
  have hln := numsL_len (l := [xk, xv, xl]) (fun y hy => (three hk hv hl y hy).2)
  simp only [List.length_cons, List.length_nil] at hln
  have k1 : ¬ 9223372036854775807 < 5 + (N f).s.size := by omega
  have k2 : ¬ 9223372036854775807 < 5 + (N f).s.size + 1 := by omega
  have k3 : ¬ 9223372036854775807 < 5 + (N f).s.size + 1 + (N t).s.size := by omega
  have k4 : ¬ 9223372036854775807 < 5 + (N f).s.size + 1 + (N t).s.size + (numsL [xk, xv, xl]).length := by omega
  have hAny : ∀ X : World, Below w2.heap.size w2 X → (fun w' : World => w'.cell? ⟨w.heap.size, 0, none⟩ = some (.slice (some ⟨b, o, none⟩) n c0) ∧ w'.cell? ⟨w.heap.size, 1, none⟩ = some (.slice p1 m c1) ∧ w'.cell? ⟨w.heap.size + 1, 0, none⟩ = some (.int .i64 (f : Int)) ∧ w'.cell? ⟨w.heap.size + 1, 1, none⟩ = some (.int .i64 (t : Int)) ∧ w'.cell? ⟨w.heap.size + 1, 2, none⟩ = some (.int .i64 xk) ∧ w'.cell? ⟨w.heap.size + 1, 3, none⟩ = some (.int .i64 xv) ∧ w'.cell? ⟨w.heap.size + 1, 4, none⟩ = some (.int .i64 xl) ∧ w'.cell? ⟨b, o + f * 3, none⟩ = some (.string (N f).s) ∧ w'.cell? ⟨b, o + t * 3, none⟩ = some (.string (N t).s)) X := fun X h => ⟨(h.cell (p := ⟨_, 0, none⟩) hl1).trans a0, (h.cell (p := ⟨_, 1, none⟩) hl1).trans a1, (h.cell (p := ⟨_, 0, none⟩) hl2).trans e0, (h.cell (p := ⟨_, 1, none⟩) hl2).trans e1, (h.cell (p := ⟨_, 2, none⟩) hl2).trans e2, (h.cell (p := ⟨_, 3, none⟩) hl2).trans e3, (h.cell (p := ⟨_, 4, none⟩) hl2).trans e4, (h.cell (p := ⟨b, o + f * 3, none⟩) (show b < w2.heap.size by omega)).trans y0', (h.cell (p := ⟨b, o + t * 3, none⟩) (show b < w2.heap.size by omega)).trans y1'⟩
  have K0 : Below w2.heap.size w2 w2.drew := ⟨rfl, rfl, rfl, Nat.le_refl _, fun _ _ => rfl⟩
  have KA : Below w2.heap.size w2 (w2.alloc (.cells #[.int .i64 xk, .int .i64 xv, .int .i64 xl] 2)).drew := (below_new w2 _).trans ⟨rfl, rfl, rfl, Nat.le_refl _, fun _ _ => rfl⟩
  have hsA : w2.heap.size + 1 ≤ (w2.alloc (.cells #[.int .i64 xk, .int .i64 xv, .int .i64 xl] 2)).drew.heap.size := by simp
  have NA : Nums (w2.alloc (.cells #[.int .i64 xk, .int .i64 xv, .int .i64 xl] 2)).drew (.slice (some ⟨w2.heap.size, 0, none⟩) 3 3) [xk, xv, xl] w2.heap.size := (Nums.new w2 [xk, xv, xl]).keep rfl
  clear A1' A2
  go_region_held3 (fun w' : World => w'.cell? ⟨w.heap.size, 0, none⟩ = some (.slice (some ⟨b, o, none⟩) n c0) ∧ w'.cell? ⟨w.heap.size, 1, none⟩ = some (.slice p1 m c1) ∧ w'.cell? ⟨w.heap.size + 1, 0, none⟩ = some (.int .i64 (f : Int)) ∧ w'.cell? ⟨w.heap.size + 1, 1, none⟩ = some (.int .i64 (t : Int)) ∧ w'.cell? ⟨w.heap.size + 1, 2, none⟩ = some (.int .i64 xk) ∧ w'.cell? ⟨w.heap.size + 1, 3, none⟩ = some (.int .i64 xv) ∧ w'.cell? ⟨w.heap.size + 1, 4, none⟩ = some (.int .i64 xl) ∧ w'.cell? ⟨b, o + f * 3, none⟩ = some (.string (N f).s) ∧ w'.cell? ⟨b, o + t * 3, none⟩ = some (.string (N t).s)) (first | exact hAny _ K0 | exact hAny _ KA | exact hAny _ KX)
    (first | (go_at_call 60; refine (words_any _ _ [xk, xv, xl] _ NA (by simp) (three hk hv hl)).mono ?_; rintro e wx ⟨rfl, bx⟩; have KX : Below w2.heap.size w2 wx := KA.trans (bx.mono (by omega))))
  go_wp2_with fail
  go_ret
  exact ⟨ret_str (catP _ _ _), CC.trans (KX.mono hs2)⟩
theorem join_pipe (N : Nat → Nod) (q : Pip) : Lib.join (([⟨#[112, 105, 112, 101]⟩, (N q.f.toNat).s, (N q.t.toNat).s] ++ [q.k, q.v, q.l].map decB).map (·.data.toList)) [32] = pipeL N q := by
  unfold Lib.join pipeL decB
  simp [List.intercalate, numsL]
theorem below_drew (w : World) : Below w.heap.size w w.drew := ⟨rfl, rfl, rfl, Nat.le_refl _, fun _ _ => rfl⟩
set_option maxHeartbeats 4000000 in
theorem lineOf_any (w : World) (v : Value) (n : Nat) (N : Nat → Nod) (hi : Nat) (x : Pip) (f t : Nat) (h : Src w v n N hi x f t) (hp : Pow w) :
    Calls Tryz.prog 33 #[v, .agg #[.int .i64 x.f, .int .i64 x.t, .int .i64 x.k, .int .i64 x.v, .int .i64 x.l]] w (StrPost w (pipeL N x)) := by
  have HP := Lib.hid hp
  clear hp
  obtain ⟨⟨b, o, c0, p1, m, c1, rfl, hb, y0, y1⟩, hhi, hf, ht, hfn, htn, sf, st, hk, hv, hl⟩ := h
  obtain ⟨xf, xt, xk, xv, xl⟩ := x
  simp only at hf ht hk hv hl
  subst hf ht
  have A1 := boxed w (.slice (some ⟨b, o, none⟩) n c0) (.slice p1 m c1) 25
  have C1 := below_new w (.cells #[.slice (some ⟨b, o, none⟩) n c0, .slice p1 m c1] 25)
  have hz1 : (w.alloc (.cells #[.slice (some ⟨b, o, none⟩) n c0, .slice p1 m c1] 25)).heap.size = w.heap.size + 1 := by simp
  have A2 := boxedPp (w.alloc (.cells #[.slice (some ⟨b, o, none⟩) n c0, .slice p1 m c1] 25)) ⟨f, t, xk, xv, xl⟩ 62
  have C2 := below_new (w.alloc (.cells #[.slice (some ⟨b, o, none⟩) n c0, .slice p1 m c1] 25)) (.cells #[.int .i64 (f : Int), .int .i64 (t : Int), .int .i64 xk, .int .i64 xv, .int .i64 xl] 62)
  rw [hz1] at A2
  have A1' := A1.below C2 (by omega)
  have CC := C1.trans (C2.mono (by omega))
  go_enter Tryz.func33, Tryz.ntmps33
  go_wp2_with fail
  generalize hW : (w.alloc (Obj.cells #[.slice (some ⟨b, o, none⟩) n c0, .slice p1 m c1] 25)).alloc (Obj.cells #[.int .i64 (f : Int), .int .i64 (t : Int), .int .i64 xk, .int .i64 xv, .int .i64 xl] 62) = w2 at *
  clear hW C1 A1 C2
  have hl1 := A1'.lt
  have hl2 := A2.lt
  have hs2 := CC.size
  have hfI : (f : Int) < n := by omega
  have htI : (t : Int) < n := by omega
  have a0 := A1'.b0
  have a1 := A1'.b1
  have e0 : w2.cell? ⟨w.heap.size + 1, 0, none⟩ = some (.int .i64 (f : Int)) := A2.cell 0 (by omega)
  have e1 : w2.cell? ⟨w.heap.size + 1, 1, none⟩ = some (.int .i64 (t : Int)) := A2.cell 1 (by omega)
  have e2 : w2.cell? ⟨w.heap.size + 1, 2, none⟩ = some (.int .i64 xk) := A2.cell 2 (by omega)
  have e3 : w2.cell? ⟨w.heap.size + 1, 3, none⟩ = some (.int .i64 xv) := A2.cell 3 (by omega)
  have e4 : w2.cell? ⟨w.heap.size + 1, 4, none⟩ = some (.int .i64 xl) := A2.cell 4 (by omega)
  have y0' := (CC.cell (p := ⟨b, o + f * 3, none⟩) (show b < w.heap.size by omega)).trans y0
  have y1' := (CC.cell (p := ⟨b, o + t * 3, none⟩) (show b < w.heap.size by omega)).trans y1
  have hln := numsL_len (l := [xk, xv, xl]) (fun y hy => (three hk hv hl y hy).2)
  simp only [List.length_cons, List.length_nil] at hln
  have hR : (pipeL N ⟨f, t, xk, xv, xl⟩).length ≤ 100 := pipeL_len (x := ⟨f, t, xk, xv, xl⟩) (by simpa using sf) (by simpa using st) (three hk hv hl)
  have HCC := Lib.hid CC
  have hAny : ∀ X : World, Below w2.heap.size w2 X → (fun w' : World => w'.cell? ⟨w.heap.size, 0, none⟩ = some (.slice (some ⟨b, o, none⟩) n c0) ∧ w'.cell? ⟨w.heap.size, 1, none⟩ = some (.slice p1 m c1) ∧ w'.cell? ⟨w.heap.size + 1, 0, none⟩ = some (.int .i64 (f : Int)) ∧ w'.cell? ⟨w.heap.size + 1, 1, none⟩ = some (.int .i64 (t : Int)) ∧ w'.cell? ⟨w.heap.size + 1, 2, none⟩ = some (.int .i64 xk) ∧ w'.cell? ⟨w.heap.size + 1, 3, none⟩ = some (.int .i64 xv) ∧ w'.cell? ⟨w.heap.size + 1, 4, none⟩ = some (.int .i64 xl) ∧ w'.cell? ⟨b, o + f * 3, none⟩ = some (.string (N f).s) ∧ w'.cell? ⟨b, o + t * 3, none⟩ = some (.string (N t).s)) X := fun X h => ⟨(h.cell (p := ⟨_, 0, none⟩) hl1).trans a0, (h.cell (p := ⟨_, 1, none⟩) hl1).trans a1, (h.cell (p := ⟨_, 0, none⟩) hl2).trans e0, (h.cell (p := ⟨_, 1, none⟩) hl2).trans e1, (h.cell (p := ⟨_, 2, none⟩) hl2).trans e2, (h.cell (p := ⟨_, 3, none⟩) hl2).trans e3, (h.cell (p := ⟨_, 4, none⟩) hl2).trans e4, (h.cell (p := ⟨b, o + f * 3, none⟩) (show b < w2.heap.size by omega)).trans y0', (h.cell (p := ⟨b, o + t * 3, none⟩) (show b < w2.heap.size by omega)).trans y1'⟩
  have K0 : Below w2.heap.size w2 w2.drew := ⟨rfl, rfl, rfl, Nat.le_refl _, fun _ _ => rfl⟩
  have z1 : (w2.alloc (.cells #[.string ⟨#[112, 105, 112, 101]⟩, .string (N f).s, .string (N t).s] 9)).heap.size = w2.heap.size + 1 := by simp
  have z2 : (w2.alloc (.cells #[.int .i64 xk, .int .i64 xv, .int .i64 xl] 2)).heap.size = w2.heap.size + 1 := by simp
  have KA : Below w2.heap.size w2 (w2.alloc (.cells #[.string ⟨#[112, 105, 112, 101]⟩, .string (N f).s, .string (N t).s] 9)).drew := (below_new w2 _).trans ⟨rfl, rfl, rfl, Nat.le_refl _, fun _ _ => rfl⟩
  have KB : Below w2.heap.size w2 (w2.alloc (.cells #[.int .i64 xk, .int .i64 xv, .int .i64 xl] 2)).drew := (below_new w2 _).trans ⟨rfl, rfl, rfl, Nat.le_refl _, fun _ _ => rfl⟩
  have KAB : Below w2.heap.size w2 ((w2.alloc (.cells #[.string ⟨#[112, 105, 112, 101]⟩, .string (N f).s, .string (N t).s] 9)).alloc (.cells #[.int .i64 xk, .int .i64 xv, .int .i64 xl] 2)).drew := ((below_new w2 _).trans ((below_new (w2.alloc (.cells #[.string ⟨#[112, 105, 112, 101]⟩, .string (N f).s, .string (N t).s] 9)) _).mono (by omega))).trans ⟨rfl, rfl, rfl, Nat.le_refl _, fun _ _ => rfl⟩
  have KBA : Below w2.heap.size w2 ((w2.alloc (.cells #[.int .i64 xk, .int .i64 xv, .int .i64 xl] 2)).alloc (.cells #[.string ⟨#[112, 105, 112, 101]⟩, .string (N f).s, .string (N t).s] 9)).drew := ((below_new w2 _).trans ((below_new (w2.alloc (.cells #[.int .i64 xk, .int .i64 xv, .int .i64 xl] 2)) _).mono (by omega))).trans ⟨rfl, rfl, rfl, Nat.le_refl _, fun _ _ => rfl⟩
  have hz3 : ((w2.alloc (.cells #[.string ⟨#[112, 105, 112, 101]⟩, .string (N f).s, .string (N t).s] 9)).alloc (.cells #[.int .i64 xk, .int .i64 xv, .int .i64 xl] 2)).drew.heap.size = w2.heap.size + 2 := by simp
  have hz4 : ((w2.alloc (.cells #[.int .i64 xk, .int .i64 xv, .int .i64 xl] 2)).alloc (.cells #[.string ⟨#[112, 105, 112, 101]⟩, .string (N f).s, .string (N t).s] 9)).drew.heap.size = w2.heap.size + 2 := by simp
  have J1 : Hid (Calls Tryz.prog 57 #[.slice (some ⟨w2.heap.size, 0, none⟩) 3 3, .slice (some ⟨w2.heap.size + 1, 0, none⟩) 3 3] ((w2.alloc (.cells #[.string ⟨#[112, 105, 112, 101]⟩, .string (N f).s, .string (N t).s] 9)).alloc (.cells #[.int .i64 xk, .int .i64 xv, .int .i64 xl] 2)).drew fun e w' => e = .returned (.string ⟨(pipeL N ⟨f, t, xk, xv, xl⟩).toArray⟩) ∧ Below w2.heap.size w2 w') := Lib.hid (by
    have W3 := (RowE.next (words_new w2 [⟨#[112, 105, 112, 101]⟩, (N f).s, (N t).s] (by simp)) (below_new _ (.cells #[.int .i64 xk, .int .i64 xv, .int .i64 xl] 2))).keep (Upd.of_below (below_drew _)) (fun _ _ h => h)
    have NA := (Nums.new (w2.alloc (.cells #[.string ⟨#[112, 105, 112, 101]⟩, .string (N f).s, .string (N t).s] 9)) [xk, xv, xl]).keep (w' := ((w2.alloc (.cells #[.string ⟨#[112, 105, 112, 101]⟩, .string (N f).s, .string (N t).s] 9)).alloc (.cells #[.int .i64 xk, .int .i64 xv, .int .i64 xl] 2)).drew) rfl
    have C4 := CC.trans (KAB.mono hs2)
    have hj := joined_any w ((w2.alloc (.cells #[.string ⟨#[112, 105, 112, 101]⟩, .string (N f).s, .string (N t).s] 9)).alloc (.cells #[.int .i64 xk, .int .i64 xv, .int .i64 xl] 2)).drew w2.heap.size _ _ [⟨#[112, 105, 112, 101]⟩, (N f).s, (N t).s] [xk, xv, xl] _ (pipeL N ⟨f, t, xk, xv, xl⟩) W3 NA C4 (by omega) (by omega) HP.out ⟨by simp, by simp⟩ (by simp) (three hk hv hl) (join_pipe N ⟨f, t, xk, xv, xl⟩) (by omega)
    rw [z1] at hj
    exact hj.mono fun e w' h => ⟨h.1, KAB.trans (h.2.mono (by omega))⟩)
  have J2 : Hid (Calls Tryz.prog 57 #[.slice (some ⟨w2.heap.size + 1, 0, none⟩) 3 3, .slice (some ⟨w2.heap.size, 0, none⟩) 3 3] ((w2.alloc (.cells #[.int .i64 xk, .int .i64 xv, .int .i64 xl] 2)).alloc (.cells #[.string ⟨#[112, 105, 112, 101]⟩, .string (N f).s, .string (N t).s] 9)).drew fun e w' => e = .returned (.string ⟨(pipeL N ⟨f, t, xk, xv, xl⟩).toArray⟩) ∧ Below w2.heap.size w2 w') := Lib.hid (by
    have W3 := (words_new (w2.alloc (.cells #[.int .i64 xk, .int .i64 xv, .int .i64 xl] 2)) [⟨#[112, 105, 112, 101]⟩, (N f).s, (N t).s] (by simp)).keep (Upd.of_below (below_drew _)) (fun _ _ h => h)
    have NA := ((Nums.new w2 [xk, xv, xl]).next (below_new _ (.cells #[.string ⟨#[112, 105, 112, 101]⟩, .string (N f).s, .string (N t).s] 9))).keep (w' := ((w2.alloc (.cells #[.int .i64 xk, .int .i64 xv, .int .i64 xl] 2)).alloc (.cells #[.string ⟨#[112, 105, 112, 101]⟩, .string (N f).s, .string (N t).s] 9)).drew) rfl
    have C4 := CC.trans (KBA.mono hs2)
    have hj := joined_any w ((w2.alloc (.cells #[.int .i64 xk, .int .i64 xv, .int .i64 xl] 2)).alloc (.cells #[.string ⟨#[112, 105, 112, 101]⟩, .string (N f).s, .string (N t).s] 9)).drew (w2.alloc (.cells #[.int .i64 xk, .int .i64 xv, .int .i64 xl] 2)).heap.size _ _ [⟨#[112, 105, 112, 101]⟩, (N f).s, (N t).s] [xk, xv, xl] _ (pipeL N ⟨f, t, xk, xv, xl⟩) W3 NA C4 (by omega) (by omega) HP.out ⟨by simp, by simp⟩ (by simp) (three hk hv hl) (join_pipe N ⟨f, t, xk, xv, xl⟩) (by omega)
    rw [z2] at hj
    exact hj.mono fun e w' h => ⟨h.1, KBA.trans (h.2.mono (by omega))⟩)
  clear A1' A2 CC
  go_region_held3 (fun w' : World => w'.cell? ⟨w.heap.size, 0, none⟩ = some (.slice (some ⟨b, o, none⟩) n c0) ∧ w'.cell? ⟨w.heap.size, 1, none⟩ = some (.slice p1 m c1) ∧ w'.cell? ⟨w.heap.size + 1, 0, none⟩ = some (.int .i64 (f : Int)) ∧ w'.cell? ⟨w.heap.size + 1, 1, none⟩ = some (.int .i64 (t : Int)) ∧ w'.cell? ⟨w.heap.size + 1, 2, none⟩ = some (.int .i64 xk) ∧ w'.cell? ⟨w.heap.size + 1, 3, none⟩ = some (.int .i64 xv) ∧ w'.cell? ⟨w.heap.size + 1, 4, none⟩ = some (.int .i64 xl) ∧ w'.cell? ⟨b, o + f * 3, none⟩ = some (.string (N f).s) ∧ w'.cell? ⟨b, o + t * 3, none⟩ = some (.string (N t).s)) (first | exact hAny _ K0 | exact hAny _ KA | exact hAny _ KB | exact hAny _ KAB | exact hAny _ KBA | exact hAny _ KX)
    (first | (go_at_call 57; with_reducible refine J1.out.mono ?_; rintro e wx ⟨rfl, KX⟩) | (go_at_call 57; with_reducible refine J2.out.mono ?_; rintro e wx ⟨rfl, KX⟩))
  all_goals go_wp2_with fail
  all_goals go_ret
  all_goals exact ⟨rfl, HCC.out.trans (KX.mono hs2)⟩
end Go.Proofs.YtbenloeomjdkcaaGreatDoor.text

namespace Go.Proofs.YtbenloeomjdkcaaGreatDoor.text
open Go.RowKit Go.Proofs.YtbenloeomjdkcaaGreatDoor.mem
set_option linter.unusedVariables false
set_option maxRecDepth 100000

theorem net_all {n : Nat} {N : Nat → Nod} {m : Nat} {P : Nat → Pip} (h : netB n N m P = true) : (∀ i, i < n → nodB (N i) = true) ∧ (∀ k, k < m → pipB n (P k) = true) ∧ n ≤ 24 ∧ m ≤ 40 := by
  unfold netB at h
  simp only [Bool.and_eq_true] at h
  exact ⟨(nodesB_iff.1 h.1.2).1, pipesB_iff.1 h.2, (szB_iff.1 h.1.1).2.1, (szB_iff.1 h.1.1).2.2⟩
theorem pip_all {n : Int} {q : Pip} (h : pipB n q = true) : (0 ≤ q.f ∧ q.f ≤ n - 1) ∧ (0 ≤ q.t ∧ q.t ≤ n - 1) ∧ (0 ≤ q.k ∧ q.k ≤ 1000000000) ∧ (0 ≤ q.v ∧ q.v ≤ 1000000000) ∧ (0 ≤ q.l ∧ q.l ≤ 1000000000) := by
  unfold pipB at h
  simp only [Bool.and_eq_true, inR_iff] at h
  obtain ⟨⟨⟨⟨⟨h1, h2⟩, _⟩, h3⟩, h4⟩, h5⟩ := h
  omega
theorem src_of {w : World} {v : Value} {n : Nat} {N : Nat → Nod} {m : Nat} {P : Nat → Pip} {lo hi k : Nat} (h : NetAt w v n N m P lo hi) (hhi : hi ≤ w.heap.size) (hv : netB n N m P = true) (hk : k < m) : ∃ f t, Src w v n N hi (P k) f t := by
  obtain ⟨h1, h2, _⟩ := net_all hv
  obtain ⟨q1, q2, q3, q4, q5⟩ := pip_all (h2 k hk)
  obtain ⟨f, hf⟩ := Int.eq_ofNat_of_zero_le q1.1
  obtain ⟨t, ht⟩ := Int.eq_ofNat_of_zero_le q2.1
  obtain ⟨v0, v1, rfl, g0, g1⟩ := h.ex
  obtain ⟨p0, c0, rfl, _, _, g0⟩ := g0.ex
  obtain ⟨p1, c1, rfl, _, _, _⟩ := g1.ex
  have hfn : f < n := by omega
  have htn : t < n := by omega
  rcases g0 with g0 | ⟨b, o, rfl, b1, b2, ga⟩
  · omega
  exact ⟨f, t, ⟨b, o, c0, p1, m, c1, rfl, b2, ga.cell f 0 hfn (by omega), ga.cell t 0 htn (by omega)⟩, hhi, hf, ht, hfn, htn, (nod_bd (h1 f hfn)).1, (nod_bd (h1 t htn)).1, q3, q4, q5⟩
noncomputable def plC (n : Nat) (N : Nat → Nod) (m : Nat) (P : Nat → Pip) (x : Int) : Int := codeB (netB n N m P) (inR x 0 (m - 1))
noncomputable def plT (n : Nat) (N : Nat → Nod) (m : Nat) (P : Nat → Pip) (x : Int) : List UInt8 := if plC n N m P x = 0 then pipeL N (P x.toNat) else []
def TxPost (w : World) (l : List UInt8) (c : Int) (e : Ending) (w' : World) : Prop := e = .returned (.tuple #[.string ⟨l.toArray⟩, .int .i64 c]) ∧ Below w.heap.size w w'
theorem code_yes {b r : Bool} (h : codeB b r = 0) : b = true ∧ r = true := by
  unfold codeB at h
  cases b <;> cases r <;> simp at h ⊢

end Go.Proofs.YtbenloeomjdkcaaGreatDoor.text

namespace Go.Proofs.YtbenloeomjdkcaaGreatDoor.text
open Go.RowKit Go.Proofs.YtbenloeomjdkcaaGreatDoor.mem
set_option linter.unusedVariables false
end Go.Proofs.YtbenloeomjdkcaaGreatDoor.text

namespace Go.Proofs.YtbenloeomjdkcaaGreatDoor.text
open Go.RowKit Go.Proofs.YtbenloeomjdkcaaGreatDoor.mem
set_option linter.unusedVariables false
set_option maxRecDepth 100000

def nodesT (N : Nat → Nod) : Nat → List UInt8
  | 0 => []
  | k + 1 => nodesT N k ++ (nodeL (N k) ++ [10])
def pipesT (N : Nat → Nod) (P : Nat → Pip) : Nat → List UInt8
  | 0 => []
  | k + 1 => pipesT N P k ++ (pipeL N (P k) ++ [10])
def netL (n : Nat) (N : Nat → Nod) (m : Nat) (P : Nat → Pip) : List UInt8 := nodesT N n ++ pipesT N P m
noncomputable def netT (n : Nat) (N : Nat → Nod) (m : Nat) (P : Nat → Pip) : List UInt8 := if netB n N m P = true then netL n N m P else []
theorem nodesT_len {N : Nat → Nod} {k : Nat} (h : ∀ i, i < k → nodB (N i) = true) : (nodesT N k).length ≤ 61 * k := by
  induction k with
  | zero => exact Nat.le_refl _
  | succ k ih =>
    have h1 := ih (fun i hi => h i (by omega))
    have h2 := nodeL_len (h k (by omega))
    show (nodesT N k ++ (nodeL (N k) ++ [10])).length ≤ _
    simp only [List.length_append, List.length_cons, List.length_nil]
    omega
theorem pip_len {n : Nat} {N : Nat → Nod} {q : Pip} (hN : ∀ i, i < n → nodB (N i) = true) (hq : pipB n q = true) : (pipeL N q).length ≤ 100 := by
  obtain ⟨q1, q2, q3, q4, q5⟩ := pip_all hq
  exact pipeL_len (nod_bd (hN q.f.toNat (by omega))).1 (nod_bd (hN q.t.toNat (by omega))).1 (three q3 q4 q5)
theorem pipesT_len {n : Nat} {N : Nat → Nod} {P : Nat → Pip} {k : Nat} (hN : ∀ i, i < n → nodB (N i) = true) (h : ∀ i, i < k → pipB n (P i) = true) : (pipesT N P k).length ≤ 101 * k := by
  induction k with
  | zero => exact Nat.le_refl _
  | succ k ih =>
    have h1 := ih (fun i hi => h i (by omega))
    have h2 := pip_len hN (h k (by omega))
    show (pipesT N P k ++ (pipeL N (P k) ++ [10])).length ≤ _
    simp only [List.length_append, List.length_cons, List.length_nil]
    omega
theorem catL (a b : List UInt8) : (ByteArray.mk a.toArray ++ ByteArray.mk b.toArray ++ ByteArray.mk #[10]) = ByteArray.mk (a ++ (b ++ [10])).toArray := by
  apply ByteArray.ext
  simp [ByteArray.data_append]
theorem nodeT_yes {q : Nod} (h : nodB q = true) : nodeT q = nodeL q := if_pos h

set_option maxHeartbeats 8000000 in
theorem sNetworkText_any (w : World) (v : Value) (n : Nat) (N : Nat → Nod) (m : Nat) (P : Nat → Pip) (lo hi : Nat) (h : NetAt w v n N m P lo hi) (hhi : hi ≤ w.heap.size) (hN : ∀ i, i < n → (N i).s.size ≤ 9223372036854775807) :
    Calls Tryz.prog 14 #[v] w (StrPost w (netT n N m P)) := by
  obtain ⟨v0, v1, rfl, g0, g1⟩ := h.ex
  obtain ⟨p0, c0, rfl⟩ := g0.shape
  obtain ⟨p1, c1, rfl⟩ := g1.shape
  have H := Lib.hid h
  have HN := Lib.hid hN
  have HC0 : Hid (n = 0 ∨ ∃ b o, p0 = some ⟨b, o, none⟩ ∧ lo ≤ b ∧ b < hi ∧ At w b o n 3 (nodC N)) := by
    obtain ⟨p, cap, hv, _, _, hc⟩ := g0.ex
    injection hv with e1 _ e2
    subst e1
    exact Lib.hid hc
  have HC1 : Hid (m = 0 ∨ ∃ b o, p1 = some ⟨b, o, none⟩ ∧ lo ≤ b ∧ b < hi ∧ At w b o m 5 (pipC P)) := by
    obtain ⟨p, cap, hv, _, _, hc⟩ := g1.ex
    injection hv with e1 _ e2
    subst e1
    exact Lib.hid hc
  clear h hN g0 g1
  have A1 := boxed w (.slice p0 n c0) (.slice p1 m c1) 25
  have C1 := below_new w (.cells #[.slice p0 n c0, .slice p1 m c1] 25)
  have hs1 := C1.size
  go_enter Tryz.func14, Tryz.ntmps14
  go_wp2_with fail
  generalize hW : w.alloc (Obj.cells #[.slice p0 n c0, .slice p1 m c1] 25) = w1 at *
  clear hW
  have hl1 := A1.lt
  refine (sIsNetwork_any w1 _ n N m P lo hi (H.out.below C1 hhi) (by omega) HN.out).mono ?_
  rintro e w2 ⟨rfl, b2⟩
  have A2 := A1.below b2 hl1
  have C2 := Lib.hid (C1.trans (b2.mono hs1))
  have hs2 := Nat.le_trans hs1 b2.size
  have hl2 := A2.lt
  clear A1 C1 b2
  cases hv : netB n N m P
  · have hT : Hid (netT n N m P = []) := Lib.hid (by unfold netT; rw [hv]; rfl)
    go_wp2_with fail
    go_ret
    exact ⟨ret_str (by rw [hT.out]), C2.out⟩
  have hT : Hid (netT n N m P = netL n N m P) := Lib.hid (by unfold netT; rw [hv]; rfl)
  obtain ⟨h1, h2, hn24, hm40⟩ := net_all hv
  have HV := Lib.hid hv
  have HN1 := Lib.hid h1
  have HP1 := Lib.hid h2
  clear h1 h2
  go_wp2_with fail
  clear hv
  go_loopw [4, 3] (fun i out wr => ∃ k : Nat, i = .int .i64 k ∧ out = .string ⟨(nodesT N k).toArray⟩ ∧ k ≤ n ∧ Below w2.heap.size w2 wr) (fun i _ _ => n - (intOf i).toNat)
  case atStart => exact ⟨0, rfl, rfl, Nat.zero_le _, Below.refl _ _⟩
  case round =>
    obtain ⟨k, rfl, rfl, hk, hB⟩ := hrel
    have AR := A2.below hB hl2
    have a0 := AR.b0
    have a1 := AR.b1
    have HB := Lib.hid hB
    have hsr := hB.size
    clear hB AR
    by_cases hlt : k < n
    · have hkI : (k : Int) < n := by omega
      rcases HC0.out with h0 | ⟨b, o, rfl, hlo, hb, g3⟩
      · omega
      have hbw : b < w.heap.size := by omega
      have hC : Below w.heap.size w wr := C2.out.trans (HB.out.mono hs2)
      have y0 : wr.cell? ⟨b, o + k * 3, none⟩ = some (.string (N k).s) := (hC.cell (p := ⟨b, o + k * 3, none⟩) hbw).trans (g3.cell k 0 hlt (by omega))
      have y1 : wr.cell? ⟨b, o + k * 3 + 1, none⟩ = some (.int .i64 (N k).lo) := (hC.cell (p := ⟨b, o + k * 3 + 1, none⟩) hbw).trans (g3.cell k 1 hlt (by omega))
      have y2 : wr.cell? ⟨b, o + k * 3 + 2, none⟩ = some (.int .i64 (N k).hi) := (hC.cell (p := ⟨b, o + k * 3 + 2, none⟩) hbw).trans (g3.cell k 2 hlt (by omega))
      have hl := nodesT_len (N := N) (k := k) (fun i hi => HN1.out i (by omega))
      have hq := nodeT_len (N k)
      clear g3 hC
      go_wp2_with fail
      refine (sNodeLine_any (N k) _ (HN.out k hlt)).mono ?_
      rintro e w3 ⟨rfl, b3⟩
      have HB3 := Lib.hid (HB.out.trans (b3.mono hsr))
      clear b3
      go_wp2_with fail
      go_roundw
      case rel => exact ⟨k + 1, by go_num, by rw [catL, nodeT_yes (HN1.out k hlt)]; rfl, hlt, HB3.out⟩
      case measure => simp [intOf]; omega
    · obtain rfl : k = n := by omega
      obtain ⟨w5, hw5⟩ : ∃ w', w' = wr := ⟨_, rfl⟩
      subst hw5
      have hl := nodesT_len (N := N) (k := k) (fun i hi => HN1.out i (by omega))
      have hl5 : w.heap.size < w5.heap.size := by omega
      have A5 := A2.below HB.out hl2
      have C5 := Lib.hid (C2.out.trans (HB.out.mono hs2))
      have hs5 : w.heap.size ≤ w5.heap.size := by omega
      clear A2 C2 HB HC0
      go_wp2_with fail
      clear a0 a1
      go_loopw [5, 3] (fun i out wr => ∃ j : Nat, i = .int .i64 j ∧ out = .string ⟨(nodesT N k ++ pipesT N P j).toArray⟩ ∧ j ≤ m ∧ Below w5.heap.size w5 wr) (fun i _ _ => m - (intOf i).toNat)
      case atStart => exact ⟨0, rfl, by simp [pipesT], Nat.zero_le _, Below.refl _ _⟩
      case round =>
        obtain ⟨j, rfl, rfl, hj, hB⟩ := hrel
        obtain ⟨w6, hw6⟩ : ∃ w', w' = wr := ⟨_, rfl⟩
        subst hw6
        have AR := A5.below hB hl5
        have a0 := AR.b0
        have a1 := AR.b1
        have hl6 := AR.lt
        have HB := Lib.hid hB
        have hsr := hB.size
        clear hB AR
        by_cases hlt2 : j < m
        · have hjI : (j : Int) < m := by omega
          rcases HC1.out with h0 | ⟨b, o, rfl, hlo, hb, g3⟩
          · omega
          have hbw : b < w.heap.size := by omega
          have hbw2 : b < w6.heap.size := by omega
          have hC : Below w.heap.size w w6 := C5.out.trans (HB.out.mono hs5)
          obtain ⟨f, t, hsrc⟩ := src_of (H.out.below (hC.trans ⟨rfl, rfl, rfl, Nat.le_refl _, fun _ _ => rfl⟩ : Below w.heap.size w w6.drew) hhi) (by show hi ≤ w6.heap.size; omega) HV.out hlt2
          have HS := Lib.hid hsrc
          have y0 : w6.cell? ⟨b, o + j * 5, none⟩ = some (.int .i64 (P j).f) := (hC.cell (p := ⟨b, o + j * 5, none⟩) hbw).trans (g3.cell j 0 hlt2 (by omega))
          have y1 : w6.cell? ⟨b, o + j * 5 + 1, none⟩ = some (.int .i64 (P j).t) := (hC.cell (p := ⟨b, o + j * 5 + 1, none⟩) hbw).trans (g3.cell j 1 hlt2 (by omega))
          have y2 : w6.cell? ⟨b, o + j * 5 + 2, none⟩ = some (.int .i64 (P j).k) := (hC.cell (p := ⟨b, o + j * 5 + 2, none⟩) hbw).trans (g3.cell j 2 hlt2 (by omega))
          have y3 : w6.cell? ⟨b, o + j * 5 + 3, none⟩ = some (.int .i64 (P j).v) := (hC.cell (p := ⟨b, o + j * 5 + 3, none⟩) hbw).trans (g3.cell j 3 hlt2 (by omega))
          have y4 : w6.cell? ⟨b, o + j * 5 + 4, none⟩ = some (.int .i64 (P j).l) := (hC.cell (p := ⟨b, o + j * 5 + 4, none⟩) hbw).trans (g3.cell j 4 hlt2 (by omega))
          have hp := pipesT_len (N := N) (P := P) (k := j) HN1.out (fun i hi => HP1.out i (by omega))
          have hpl := pip_len HN1.out (HP1.out j hlt2)
          have k1 : ¬ 9223372036854775807 < (nodesT N k).length + (pipesT N P j).length + (pipeL N (P j)).length := by omega
          have k2 : ¬ 9223372036854775807 < (nodesT N k).length + (pipesT N P j).length + (pipeL N (P j)).length + 1 := by omega
          clear g3 hC hsrc
          go_wp2_with fail
          have hAny : ∀ X : World, Below w6.heap.size w6 X → (fun w' : World => w'.cell? ⟨w.heap.size, 0, none⟩ = some (.slice p0 k c0) ∧ w'.cell? ⟨w.heap.size, 1, none⟩ = some (.slice (some ⟨b, o, none⟩) m c1) ∧ w'.cell? ⟨b, o + j * 5, none⟩ = some (.int .i64 (P j).f) ∧ w'.cell? ⟨b, o + j * 5 + 1, none⟩ = some (.int .i64 (P j).t) ∧ w'.cell? ⟨b, o + j * 5 + 2, none⟩ = some (.int .i64 (P j).k) ∧ w'.cell? ⟨b, o + j * 5 + 3, none⟩ = some (.int .i64 (P j).v) ∧ w'.cell? ⟨b, o + j * 5 + 4, none⟩ = some (.int .i64 (P j).l)) X := fun X h => ⟨(h.cell (p := ⟨_, 0, none⟩) hl6).trans a0, (h.cell (p := ⟨_, 1, none⟩) hl6).trans a1, (h.cell (p := ⟨b, o + j * 5, none⟩) hbw2).trans y0, (h.cell (p := ⟨b, o + j * 5 + 1, none⟩) hbw2).trans y1, (h.cell (p := ⟨b, o + j * 5 + 2, none⟩) hbw2).trans y2, (h.cell (p := ⟨b, o + j * 5 + 3, none⟩) hbw2).trans y3, (h.cell (p := ⟨b, o + j * 5 + 4, none⟩) hbw2).trans y4⟩
          have K0 : Below w6.heap.size w6 w6.drew := ⟨rfl, rfl, rfl, Nat.le_refl _, fun _ _ => rfl⟩
          go_region_held3 (fun w' : World => w'.cell? ⟨w.heap.size, 0, none⟩ = some (.slice p0 k c0) ∧ w'.cell? ⟨w.heap.size, 1, none⟩ = some (.slice (some ⟨b, o, none⟩) m c1) ∧ w'.cell? ⟨b, o + j * 5, none⟩ = some (.int .i64 (P j).f) ∧ w'.cell? ⟨b, o + j * 5 + 1, none⟩ = some (.int .i64 (P j).t) ∧ w'.cell? ⟨b, o + j * 5 + 2, none⟩ = some (.int .i64 (P j).k) ∧ w'.cell? ⟨b, o + j * 5 + 3, none⟩ = some (.int .i64 (P j).v) ∧ w'.cell? ⟨b, o + j * 5 + 4, none⟩ = some (.int .i64 (P j).l)) (first | exact hAny _ K0 | exact hAny _ KX)
            (first | (go_at_call 37; refine (sPipe_any _ _ k N hi (P j) f t HS.out).mono ?_; rintro e wx ⟨rfl, bx⟩; have KX : Below w6.heap.size w6 wx := K0.trans (bx.mono (Nat.le_refl _))))
          have HB7 := Lib.hid (HB.out.trans (KX.mono hsr))
          go_wp2_with fail
          go_roundw
          case rel => exact ⟨j + 1, by go_num, by rw [catL, List.append_assoc]; rfl, hlt2, HB7.out⟩
          case measure => simp [intOf]; omega
        · obtain rfl : j = m := by omega
          go_wp2_with fail
          go_ret
          exact ⟨ret_str (by rw [hT.out]; rfl), C5.out.trans (HB.out.mono hs5)⟩
end Go.Proofs.YtbenloeomjdkcaaGreatDoor.text

namespace Go.Proofs.YtbenloeomjdkcaaGreatDoor.text
open Go.RowKit Go.Proofs.YtbenloeomjdkcaaGreatDoor.mem
set_option linter.unusedVariables false
set_option maxRecDepth 100000

theorem builder_write (B b : Nat) (bs : List Value) (s : ByteArray) (w : World) (h : Lib.IsBuilder 53 5 B b bs w) (hlen : bs.length + s.size ≤ 140737488355328) (hBw : B ≤ w.heap.size) :
    Calls Tryz.prog 31 #[.pointer (some ⟨b, 0, none⟩), .string s] w fun e w' => e = .returned (.tuple #[.int .i64 s.size, .nilIface]) ∧ (Lib.BuilderAt 53 5 B b (.pointer (some ⟨b, 0, none⟩)) (bs ++ Lib.strCells s) w' ∧ Below B w w') :=
  Any.Builder_WriteString { Tryz.lays156 with } Tryz.Builder_Extra_156 B b bs s w h hlen hBw
theorem builder_string (B b : Nat) (l : List UInt8) (w : World) (h : Lib.IsBuilder 53 5 B b (Lib.byteCells l) w) (hBw : B ≤ w.heap.size) :
    Calls Tryz.prog 34 #[.pointer (some ⟨b, 0, none⟩)] w fun e w' => e = .returned (.string ⟨l.toArray⟩) ∧ Below B w w' :=
  Any.Builder_String_any { Tryz.lays156 with } Tryz.Builder_Extra_156 B b l w h hBw
theorem isB_next {T e : TypeId} {B b : Nat} {bs : List Value} {w w' : World} (h : Lib.IsBuilder T e B b bs w) (g : Below w.heap.size w w') : Lib.IsBuilder T e B b bs w' := by
  have key : ∀ p, Lib.BuilderAt T e B b p bs w → Lib.BuilderAt T e B b p bs w' := by
    rintro p ⟨hB, v, hb, hown, hne⟩
    refine ⟨hB, v, by rw [g.block b (Array.getElem?_eq_some_iff.1 hb).1]; exact hb, ⟨hown.1, ?_⟩, hne⟩
    rcases hown.2 with h0 | ⟨q, cap, cur, h1, h2, h3, h4⟩
    · exact .inl h0
    · exact .inr ⟨q, cap, cur, h1, h2, by rw [g.block q (Array.getElem?_eq_some_iff.1 h3).1]; exact h3, h4⟩
  exact h.elim (fun x => .inl (key _ x)) (fun x => .inr (key _ x))
theorem isB_lt {T e : TypeId} {B b : Nat} {bs : List Value} {w : World} (h : Lib.IsBuilder T e B b bs w) : b < w.heap.size := by
  have key : ∀ p, Lib.BuilderAt T e B b p bs w → b < w.heap.size := by
    rintro p ⟨hB, v, hb, _⟩
    exact (Array.getElem?_eq_some_iff.1 hb).1
  exact h.elim (key _) (key _)
theorem bytes_next (a b : List UInt8) : Lib.byteCells a ++ Lib.strCells (ByteArray.mk b.toArray ++ ByteArray.mk #[10]) = Lib.byteCells (a ++ (b ++ [10])) := by
  rw [Lib.strCells_eq, Lib.byteCells_append]
  congr 1
theorem write_any (w : World) (b : Nat) (a l : List UInt8) (h : Lib.IsBuilder 53 5 b b (Lib.byteCells a) w) (ha : a.length ≤ 1000000) (hl : l.length ≤ 1000000) :
    Calls Tryz.prog 31 #[.pointer (some ⟨b, 0, none⟩), .string (ByteArray.mk l.toArray ++ ByteArray.mk #[10])] w fun e w' => (∃ v, e = .returned (.tuple #[v, .nilIface])) ∧ Lib.IsBuilder 53 5 b b (Lib.byteCells (a ++ (l ++ [10]))) w' ∧ Below b w w' := by
  refine (builder_write b b _ _ w h ?_ (by have := isB_lt h; omega)).mono ?_
  · rw [Lib.byteCells_length]
    have : (ByteArray.mk l.toArray ++ ByteArray.mk #[10]).size = l.length + 1 := by rw [ByteArray.size_append]; rfl
    omega
  · rintro e w' ⟨rfl, h1, h2⟩
    refine ⟨⟨_, rfl⟩, .inr ?_, h2⟩
    rw [← bytes_next]
    exact h1

set_option maxHeartbeats 8000000 in
theorem networkText_any (w : World) (v : Value) (n : Nat) (N : Nat → Nod) (m : Nat) (P : Nat → Pip) (lo hi : Nat) (h : NetAt w v n N m P lo hi) (hhi : hi ≤ w.heap.size) (hN : ∀ i, i < n → (N i).s.size ≤ 9223372036854775807) (hp : Pow w) :
    Calls Tryz.prog 13 #[v] w (StrPost w (netT n N m P)) := by
  have HP := Lib.hid hp
  clear hp
  obtain ⟨v0, v1, rfl, g0, g1⟩ := h.ex
  obtain ⟨p0, c0, rfl⟩ := g0.shape
  obtain ⟨p1, c1, rfl⟩ := g1.shape
  have H := Lib.hid h
  have HN := Lib.hid hN
  have HC0 : Hid (n = 0 ∨ ∃ b o, p0 = some ⟨b, o, none⟩ ∧ lo ≤ b ∧ b < hi ∧ At w b o n 3 (nodC N)) := by
    obtain ⟨p, cap, hv, _, _, hc⟩ := g0.ex
    injection hv with e1 _ e2
    subst e1
    exact Lib.hid hc
  have HC1 : Hid (m = 0 ∨ ∃ b o, p1 = some ⟨b, o, none⟩ ∧ lo ≤ b ∧ b < hi ∧ At w b o m 5 (pipC P)) := by
    obtain ⟨p, cap, hv, _, _, hc⟩ := g1.ex
    injection hv with e1 _ e2
    subst e1
    exact Lib.hid hc
  clear h hN g0 g1
  have A1 := boxed w (.slice p0 n c0) (.slice p1 m c1) 25
  have C1 := below_new w (.cells #[.slice p0 n c0, .slice p1 m c1] 25)
  have hs1 := C1.size
  go_enter Tryz.func13, Tryz.ntmps13
  go_wp2_with fail
  generalize hW : w.alloc (Obj.cells #[.slice p0 n c0, .slice p1 m c1] 25) = w1 at *
  clear hW
  have hl1 := A1.lt
  refine (isNetwork_any w1 _ n N m P lo hi (H.out.below C1 hhi) (by omega) HN.out).mono ?_
  rintro e w2 ⟨rfl, b2⟩
  have A2 := A1.below b2 hl1
  have C2 := Lib.hid (C1.trans (b2.mono hs1))
  have hs2 := Nat.le_trans hs1 b2.size
  have hl2 := A2.lt
  clear A1 C1 b2
  cases hv : netB n N m P
  · have hT : Hid (netT n N m P = []) := Lib.hid (by unfold netT; rw [hv]; rfl)
    go_wp2_with fail
    go_ret
    exact ⟨ret_str (by rw [hT.out]), C2.out⟩
  have hT : Hid (netT n N m P = netL n N m P) := Lib.hid (by unfold netT; rw [hv]; rfl)
  obtain ⟨h1, h2, hn24, hm40⟩ := net_all hv
  have HV := Lib.hid hv
  have HN1 := Lib.hid h1
  have HP1 := Lib.hid h2
  clear h1 h2
  have a0 := A2.b0
  have a1 := A2.b1
  have B3 := Lib.fresh_isBuilder 53 5 w2
  have D3 := below_new w2 (.cells #[.pointer none, .slice none 0 0] 53)
  go_wp2_with fail
  clear hv a0 a1
  generalize hW : w2.alloc (Obj.cells #[.pointer none, .slice none 0 0] 53) = w3 at *
  clear hW
  obtain ⟨bb, hbb⟩ : ∃ bb, bb = w2.heap.size := ⟨_, rfl⟩
  rw [← hbb] at B3 D3 ⊢
  replace hbb := Nat.le_antisymm_iff.1 hbb
  go_loopw [14, 5] (fun i _ wr => ∃ k : Nat, i = .int .i64 k ∧ k ≤ n ∧ Lib.IsBuilder 53 5 bb bb (Lib.byteCells (nodesT N k)) wr ∧ Below bb w2 wr) (fun i _ _ => n - (intOf i).toNat)
  case atStart => exact ⟨0, rfl, Nat.zero_le _, B3, D3⟩
  case round =>
    obtain ⟨k, rfl, hk, hI, hB⟩ := hrel
    have HI := Lib.hid hI
    have HB := Lib.hid hB
    have hsr := hB.size
    have hbr := isB_lt hI
    clear hB hI B3 D3
    by_cases hlt : k < n
    · have hkI : (k : Int) < n := by omega
      rcases HC0.out with h0 | ⟨b, o, rfl, hlo, hb, g3⟩
      · omega
      have hbw : b < w.heap.size := by omega
      have hC : Below w.heap.size w wr := C2.out.trans (HB.out.mono (by omega))
      have y0 : wr.cell? ⟨b, o + k * 3, none⟩ = some (.string (N k).s) := (hC.cell (p := ⟨b, o + k * 3, none⟩) hbw).trans (g3.cell k 0 hlt (by omega))
      have y1 : wr.cell? ⟨b, o + k * 3 + 1, none⟩ = some (.int .i64 (N k).lo) := (hC.cell (p := ⟨b, o + k * 3 + 1, none⟩) hbw).trans (g3.cell k 1 hlt (by omega))
      have y2 : wr.cell? ⟨b, o + k * 3 + 2, none⟩ = some (.int .i64 (N k).hi) := (hC.cell (p := ⟨b, o + k * 3 + 2, none⟩) hbw).trans (g3.cell k 2 hlt (by omega))
      have hl := nodesT_len (N := N) (k := k) (fun i hi => HN1.out i (by omega))
      have hq := nodeT_len (N k)
      have V1 := boxedN wr (N k) 55
      have b1 := below_new wr (.cells #[.string (N k).s, .int .i64 (N k).lo, .int .i64 (N k).hi] 55)
      have HCr := Lib.hid hC
      clear g3 hC
      go_wp2_with fail
      generalize hW : wr.alloc (Obj.cells #[.string (N k).s, .int .i64 (N k).lo, .int .i64 (N k).hi] 55) = w4 at *
      clear hW V1
      have hs4 := b1.size
      have C4 := HCr.out.trans (b1.mono (by omega))
      refine (nodeLine_any (N k) _ (HN.out k hlt) (pow_below HP.out C4)).mono ?_
      rintro e w5 ⟨rfl, b5⟩
      have I5 := isB_next (isB_next HI.out b1) b5
      have D5 := (HB.out.trans (b1.mono (by omega))).trans (b5.mono (by omega))
      have hs5 := b5.size
      clear b1 b5 C4
      go_wp2_with fail
      refine (write_any _ bb _ _ I5 (by omega) (by omega)).mono ?_
      rintro e w6 ⟨⟨vv, rfl⟩, I6, D6⟩
      have HI6 := Lib.hid I6
      have HD6 := Lib.hid (D5.trans D6)
      clear I5 D5 I6 D6
      go_wp2_with fail
      go_roundw
      case rel => exact ⟨k + 1, by go_num, hlt, by rw [nodeT_yes (HN1.out k hlt)] at HI6; exact HI6.out, HD6.out⟩
      case measure => simp [intOf]; omega
    · obtain rfl : k = n := by omega
      obtain ⟨w5, hw5⟩ : ∃ w', w' = wr := ⟨_, rfl⟩
      subst hw5
      have hl := nodesT_len (N := N) (k := k) (fun i hi => HN1.out i (by omega))
      have A5 := A2.below HB.out (by omega)
      have a0 := A5.b0
      have a1 := A5.b1
      have hl5 := A5.lt
      clear HC0
      go_wp2_with fail
      clear a0 a1
      go_loopw [26, 7] (fun i _ wr => ∃ j : Nat, i = .int .i64 j ∧ j ≤ m ∧ Lib.IsBuilder 53 5 bb bb (Lib.byteCells (nodesT N k ++ pipesT N P j)) wr ∧ Below bb w2 wr) (fun i _ _ => m - (intOf i).toNat)
      case atStart => exact ⟨0, rfl, Nat.zero_le _, by simpa [pipesT] using HI.out, HB.out⟩
      case round =>
        obtain ⟨j, rfl, hj, hI2, hB2⟩ := hrel
        obtain ⟨w6, hw6⟩ : ∃ w', w' = wr := ⟨_, rfl⟩
        subst hw6
        have HI2 := Lib.hid hI2
        have HB2 := Lib.hid hB2
        have hsr2 := hB2.size
        have hbr2 := isB_lt hI2
        have A6 := A2.below hB2 (by omega)
        have hl6 := A6.lt
        have hp := pipesT_len (N := N) (P := P) (k := j) HN1.out (fun i hi => HP1.out i (by omega))
        clear hI2 hB2
        by_cases hlt2 : j < m
        · have hjI : (j : Int) < m := by omega
          rcases HC1.out with h0 | ⟨b, o, rfl, hlo, hb, g3⟩
          · omega
          have hbw : b < w.heap.size := by omega
          have hC : Below w.heap.size w w6 := C2.out.trans (HB2.out.mono (by omega))
          have y0 : w6.cell? ⟨b, o + j * 5, none⟩ = some (.int .i64 (P j).f) := (hC.cell (p := ⟨b, o + j * 5, none⟩) hbw).trans (g3.cell j 0 hlt2 (by omega))
          have y1 : w6.cell? ⟨b, o + j * 5 + 1, none⟩ = some (.int .i64 (P j).t) := (hC.cell (p := ⟨b, o + j * 5 + 1, none⟩) hbw).trans (g3.cell j 1 hlt2 (by omega))
          have y2 : w6.cell? ⟨b, o + j * 5 + 2, none⟩ = some (.int .i64 (P j).k) := (hC.cell (p := ⟨b, o + j * 5 + 2, none⟩) hbw).trans (g3.cell j 2 hlt2 (by omega))
          have y3 : w6.cell? ⟨b, o + j * 5 + 3, none⟩ = some (.int .i64 (P j).v) := (hC.cell (p := ⟨b, o + j * 5 + 3, none⟩) hbw).trans (g3.cell j 3 hlt2 (by omega))
          have y4 : w6.cell? ⟨b, o + j * 5 + 4, none⟩ = some (.int .i64 (P j).l) := (hC.cell (p := ⟨b, o + j * 5 + 4, none⟩) hbw).trans (g3.cell j 4 hlt2 (by omega))
          have hpl := pip_len HN1.out (HP1.out j hlt2)
          have V1 := boxedPp w6 (P j) 62
          have b1 := below_new w6 (.cells #[.int .i64 (P j).f, .int .i64 (P j).t, .int .i64 (P j).k, .int .i64 (P j).v, .int .i64 (P j).l] 62)
          have hs7 := b1.size
          have A7 := A6.below b1 hl6
          have a0 := A7.b0
          have a1 := A7.b1
          have C7 := Lib.hid (hC.trans (b1.mono (by omega)))
          clear g3 hC A6
          go_wp2_with fail
          generalize hW : w6.alloc (Obj.cells #[.int .i64 (P j).f, .int .i64 (P j).t, .int .i64 (P j).k, .int .i64 (P j).v, .int .i64 (P j).l] 62) = w7 at *
          clear hW V1 a0 a1 A7
          obtain ⟨f, t, hsrc⟩ := src_of (H.out.below C7.out hhi) (by omega) HV.out hlt2
          refine (lineOf_any _ _ k N hi (P j) f t hsrc (pow_below HP.out C7.out)).mono ?_
          rintro e w8 ⟨rfl, b8⟩
          have I8 := isB_next (isB_next HI2.out b1) b8
          have D8 := (HB2.out.trans (b1.mono (by omega))).trans (b8.mono (by omega))
          have hs8 := b8.size
          clear b1 b8 hsrc
          go_wp2_with fail
          refine (write_any _ bb _ _ I8 (by simp only [List.length_append]; omega) (by omega)).mono ?_
          rintro e w9 ⟨⟨vv, rfl⟩, I9, D9⟩
          have HI9 := Lib.hid I9
          have HD9 := Lib.hid (D8.trans D9)
          clear I8 D8 I9 D9
          go_wp2_with fail
          go_roundw
          case rel => exact ⟨j + 1, by go_num, hlt2, by rw [List.append_assoc] at HI9; exact HI9.out, HD9.out⟩
          case measure => simp [intOf]; omega
        · obtain rfl : j = m := by omega
          go_wp2_with fail
          refine (builder_string bb bb _ _ HI2.out (by omega)).mono ?_
          rintro e w8 ⟨rfl, b8⟩
          have D8 := HB2.out.trans b8
          go_wp2_with fail
          go_ret
          exact ⟨ret_str (by rw [hT.out]; rfl), C2.out.trans (D8.mono (by omega))⟩
theorem agreeNetworkText (n : Nat) (N : Nat → Nod) (m : Nat) (P : Nat → Pip) (hN : ∀ i, i < n → (N i).s.size ≤ 9223372036854775807) (hn : n ≤ 2000000) (hm : m ≤ 2000000) :
    ∃ rt, (∀ w v, NetAt w v n N m P 0 w.heap.size → Pow w → Calls Tryz.prog 13 #[v] w (StrPost w rt)) ∧ (∀ w v, NetAt w v n N m P 0 w.heap.size → Calls Tryz.prog 14 #[v] w (StrPost w rt)) :=
  ⟨_, fun w v h hp => networkText_any w v n N m P 0 _ h (Nat.le_refl _) hN hp, fun w v h => sNetworkText_any w v n N m P 0 _ h (Nat.le_refl _) hN⟩
end Go.Proofs.YtbenloeomjdkcaaGreatDoor.text
