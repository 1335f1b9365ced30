/-
  Lines of pipes, in the model and in the program. Conditions: as each states.
-/
import Derived.Test.YtmeoepdmaffjjaaGreatDoorRows
import Derived.Test.YtmeoepdmaffjjaaGreatDoorTxB
import Derived.Test.YtmeoepdmaffjjaaGreatDoorNetF
import Derived.WalkKit
import Derived.ProofKit
import Derived.Lib.Hide
import Derived.Laws.Concat
import Derived.Deep.RegionHeld3
import Derived.OwnWalk
namespace Go.Proofs.YtmeoepdmaffjjaaGreatDoor.text
open Go.RowKit Go.Proofs.YtmeoepdmaffjjaaGreatDoor.mem
set_option linter.unusedVariables false
set_option maxRecDepth 100000

/-- a pipe's line -/
def pipeL (N : Nat → Nod) (q : Pip) : List UInt8 := [112, 105, 112, 101, 32] ++ (N q.f.toNat).s.data.toList ++ [32] ++ (N q.t.toNat).s.data.toList ++ numsL [q.k, q.v, q.l]
theorem catP (s u : ByteArray) (d : List UInt8) : (ByteArray.mk #[112, 105, 112, 101, 32] ++ s ++ ByteArray.mk #[32] ++ u ++ ByteArray.mk d.toArray) = ByteArray.mk ([112, 105, 112, 101, 32] ++ s.data.toList ++ [32] ++ u.data.toList ++ d).toArray := by
  apply ByteArray.ext
  simp [ByteArray.data_append]
/-- a pipe in a variable -/
theorem boxedPp (w : World) (x : Pip) (t : TypeId) : Ob (w.alloc (.cells #[.int .i64 x.f, .int .i64 x.t, .int .i64 x.k, .int .i64 x.v, .int .i64 x.l] t)) w.heap.size 5 (fun k => match k with
    | 0 => .int .i64 x.f
    | 1 => .int .i64 x.t
    | 2 => .int .i64 x.k
    | 3 => .int .i64 x.v
    | _ => .int .i64 x.l) := Ob.new w _ _ 5 _ rfl (by intro k hk; rcases (by omega : k = 0 ∨ k = 1 ∨ k = 2 ∨ k = 3 ∨ k = 4) with rfl | rfl | rfl | rfl | rfl <;> rfl)

/-- what a line of a pipe is written from -/
structure Src (w : World) (v : Value) (n : Nat) (N : Nat → Nod) (hi : Nat) (x : Pip) (f t : Nat) : Prop where
  ex : ∃ b o c0 p1 m c1, v = .agg #[.slice (some ⟨b, o, none⟩) n c0, .slice p1 m c1] ∧ b < hi ∧ w.cell? ⟨b, o + f * 3, none⟩ = some (.string (N f).s) ∧ w.cell? ⟨b, o + t * 3, none⟩ = some (.string (N t).s)
  hhi : hi ≤ w.heap.size
  hf : x.f = (f : Int)
  ht : x.t = (t : Int)
  hfn : f < n
  htn : t < n
  sf : (N f).s.size ≤ 8
  st : (N t).s.size ≤ 8
  hk : 0 ≤ x.k ∧ x.k ≤ 1000000000
  hv : 0 ≤ x.v ∧ x.v ≤ 1000000000
  hl : 0 ≤ x.l ∧ x.l ≤ 1000000000
theorem three {a b c : Int} (ha : 0 ≤ a ∧ a ≤ 1000000000) (hb : 0 ≤ b ∧ b ≤ 1000000000) (hc : 0 ≤ c ∧ c ≤ 1000000000) : ∀ y ∈ [a, b, c], 0 ≤ y ∧ y ≤ 1000000000 := by
  intro y hy
  rcases List.mem_cons.1 hy with rfl | hy
  · exact ha
  rcases List.mem_cons.1 hy with rfl | hy
  · exact hb
  rcases List.mem_cons.1 hy with rfl | hy
  · exact hc
  cases hy
theorem pipeL_len {N : Nat → Nod} {x : Pip} (hf : (N x.f.toNat).s.size ≤ 8) (ht : (N x.t.toNat).s.size ≤ 8) (hn : ∀ y ∈ [x.k, x.v, x.l], 0 ≤ y ∧ y ≤ 1000000000) : (pipeL N x).length ≤ 100 := by
  have := numsL_len (l := [x.k, x.v, x.l]) (fun y hy => (hn y hy).2)
  unfold pipeL
  have e1 : (N x.f.toNat).s.data.toList.length = (N x.f.toNat).s.size := Array.length_toList
  have e2 : (N x.t.toNat).s.data.toList.length = (N x.t.toNat).s.size := Array.length_toList
  simp only [List.length_append, List.length_cons, List.length_nil] at this ⊢
  omega

set_option maxHeartbeats 4000000 in
theorem sPipe_any (w : World) (v : Value) (n : Nat) (N : Nat → Nod) (hi : Nat) (x : Pip) (f t : Nat) (h : Src w v n N hi x f t) :
    Calls Tryz.prog 34 #[v, .agg #[.int .i64 x.f, .int .i64 x.t, .int .i64 x.k, .int .i64 x.v, .int .i64 x.l]] w (StrPost w (pipeL N x)) := by
  obtain ⟨⟨b, o, c0, p1, m, c1, rfl, hb, y0, y1⟩, hhi, hf, ht, hfn, htn, sf, st, hk, hv, hl⟩ := h
  obtain ⟨xf, xt, xk, xv, xl⟩ := x
  simp only at hf ht hk hv hl
  subst hf ht
  have A1 := boxed w (.slice (some ⟨b, o, none⟩) n c0) (.slice p1 m c1) 25
  have C1 := below_new w (.cells #[.slice (some ⟨b, o, none⟩) n c0, .slice p1 m c1] 25)
  have hz1 : (w.alloc (.cells #[.slice (some ⟨b, o, none⟩) n c0, .slice p1 m c1] 25)).heap.size = w.heap.size + 1 := by simp
  have A2 := boxedPp (w.alloc (.cells #[.slice (some ⟨b, o, none⟩) n c0, .slice p1 m c1] 25)) ⟨f, t, xk, xv, xl⟩ 61
  have C2 := below_new (w.alloc (.cells #[.slice (some ⟨b, o, none⟩) n c0, .slice p1 m c1] 25)) (.cells #[.int .i64 (f : Int), .int .i64 (t : Int), .int .i64 xk, .int .i64 xv, .int .i64 xl] 61)
  rw [hz1] at A2
  have A1' := A1.below C2 (by omega)
  have CC := C1.trans (C2.mono (by omega))
  go_enter Tryz.func34, Tryz.ntmps34
  go_wp2_with fail
  generalize hW : (w.alloc (Obj.cells #[.slice (some ⟨b, o, none⟩) n c0, .slice p1 m c1] 25)).alloc (Obj.cells #[.int .i64 (f : Int), .int .i64 (t : Int), .int .i64 xk, .int .i64 xv, .int .i64 xl] 61) = w2 at *
  clear hW C1 A1 C2
  have hl1 := A1'.lt
  have hl2 := A2.lt
  have hs2 := CC.size
  have hfI : (f : Int) < n := by omega
  have htI : (t : Int) < n := by omega
  have a0 := A1'.b0
  have a1 := A1'.b1
  have e0 : w2.cell? ⟨w.heap.size + 1, 0, none⟩ = some (.int .i64 (f : Int)) := A2.cell 0 (by omega)
  have e1 : w2.cell? ⟨w.heap.size + 1, 1, none⟩ = some (.int .i64 (t : Int)) := A2.cell 1 (by omega)
  have e2 : w2.cell? ⟨w.heap.size + 1, 2, none⟩ = some (.int .i64 xk) := A2.cell 2 (by omega)
  have e3 : w2.cell? ⟨w.heap.size + 1, 3, none⟩ = some (.int .i64 xv) := A2.cell 3 (by omega)
  have e4 : w2.cell? ⟨w.heap.size + 1, 4, none⟩ = some (.int .i64 xl) := A2.cell 4 (by omega)
  have y0' := (CC.cell (p := ⟨b, o + f * 3, none⟩) (show b < w.heap.size by omega)).trans y0
  have y1' := (CC.cell (p := ⟨b, o + t * 3, none⟩) (show b < w.heap.size by omega)).trans y1
  have hln := numsL_len (l := [xk, xv, xl]) (fun y hy => (three hk hv hl y hy).2)
  simp only [List.length_cons, List.length_nil] at hln
  have k1 : ¬ 9223372036854775807 < 5 + (N f).s.size := by omega
  have k2 : ¬ 9223372036854775807 < 5 + (N f).s.size + 1 := by omega
  have k3 : ¬ 9223372036854775807 < 5 + (N f).s.size + 1 + (N t).s.size := by omega
  have k4 : ¬ 9223372036854775807 < 5 + (N f).s.size + 1 + (N t).s.size + (numsL [xk, xv, xl]).length := by omega
  have hAny : ∀ X : World, Below w2.heap.size w2 X → (fun w' : World => w'.cell? ⟨w.heap.size, 0, none⟩ = some (.slice (some ⟨b, o, none⟩) n c0) ∧ w'.cell? ⟨w.heap.size, 1, none⟩ = some (.slice p1 m c1) ∧ w'.cell? ⟨w.heap.size + 1, 0, none⟩ = some (.int .i64 (f : Int)) ∧ w'.cell? ⟨w.heap.size + 1, 1, none⟩ = some (.int .i64 (t : Int)) ∧ w'.cell? ⟨w.heap.size + 1, 2, none⟩ = some (.int .i64 xk) ∧ w'.cell? ⟨w.heap.size + 1, 3, none⟩ = some (.int .i64 xv) ∧ w'.cell? ⟨w.heap.size + 1, 4, none⟩ = some (.int .i64 xl) ∧ w'.cell? ⟨b, o + f * 3, none⟩ = some (.string (N f).s) ∧ w'.cell? ⟨b, o + t * 3, none⟩ = some (.string (N t).s)) X := fun X h => ⟨(h.cell (p := ⟨_, 0, none⟩) hl1).trans a0, (h.cell (p := ⟨_, 1, none⟩) hl1).trans a1, (h.cell (p := ⟨_, 0, none⟩) hl2).trans e0, (h.cell (p := ⟨_, 1, none⟩) hl2).trans e1, (h.cell (p := ⟨_, 2, none⟩) hl2).trans e2, (h.cell (p := ⟨_, 3, none⟩) hl2).trans e3, (h.cell (p := ⟨_, 4, none⟩) hl2).trans e4, (h.cell (p := ⟨b, o + f * 3, none⟩) (show b < w2.heap.size by omega)).trans y0', (h.cell (p := ⟨b, o + t * 3, none⟩) (show b < w2.heap.size by omega)).trans y1'⟩
  have K0 : Below w2.heap.size w2 w2.drew := ⟨rfl, rfl, rfl, Nat.le_refl _, fun _ _ => rfl⟩
  have KA : Below w2.heap.size w2 (w2.alloc (.cells #[.int .i64 xk, .int .i64 xv, .int .i64 xl] 2)).drew := (below_new w2 _).trans ⟨rfl, rfl, rfl, Nat.le_refl _, fun _ _ => rfl⟩
  have hsA : w2.heap.size + 1 ≤ (w2.alloc (.cells #[.int .i64 xk, .int .i64 xv, .int .i64 xl] 2)).drew.heap.size := by simp
  have NA : Nums (w2.alloc (.cells #[.int .i64 xk, .int .i64 xv, .int .i64 xl] 2)).drew (.slice (some ⟨w2.heap.size, 0, none⟩) 3 3) [xk, xv, xl] w2.heap.size := (Nums.new w2 [xk, xv, xl]).keep rfl
  clear A1' A2
  go_region_held3 (fun w' : World => w'.cell? ⟨w.heap.size, 0, none⟩ = some (.slice (some ⟨b, o, none⟩) n c0) ∧ w'.cell? ⟨w.heap.size, 1, none⟩ = some (.slice p1 m c1) ∧ w'.cell? ⟨w.heap.size + 1, 0, none⟩ = some (.int .i64 (f : Int)) ∧ w'.cell? ⟨w.heap.size + 1, 1, none⟩ = some (.int .i64 (t : Int)) ∧ w'.cell? ⟨w.heap.size + 1, 2, none⟩ = some (.int .i64 xk) ∧ w'.cell? ⟨w.heap.size + 1, 3, none⟩ = some (.int .i64 xv) ∧ w'.cell? ⟨w.heap.size + 1, 4, none⟩ = some (.int .i64 xl) ∧ w'.cell? ⟨b, o + f * 3, none⟩ = some (.string (N f).s) ∧ w'.cell? ⟨b, o + t * 3, none⟩ = some (.string (N t).s)) (first | exact hAny _ K0 | exact hAny _ KA | exact hAny _ KX)
    (first | (go_at_call 56; refine (words_any _ _ [xk, xv, xl] _ NA (by simp) (three hk hv hl)).mono ?_; rintro e wx ⟨rfl, bx⟩; have KX : Below w2.heap.size w2 wx := KA.trans (bx.mono (by omega))))
  go_wp2_with fail
  go_ret
  exact ⟨ret_str (catP _ _ _), CC.trans (KX.mono hs2)⟩
theorem join_pipe (N : Nat → Nod) (q : Pip) : Lib.join (([⟨#[112, 105, 112, 101]⟩, (N q.f.toNat).s, (N q.t.toNat).s] ++ [q.k, q.v, q.l].map decB).map (·.data.toList)) [32] = pipeL N q := by
  unfold Lib.join pipeL decB
  simp [List.intercalate, numsL]
theorem below_drew (w : World) : Below w.heap.size w w.drew := ⟨rfl, rfl, rfl, Nat.le_refl _, fun _ _ => rfl⟩
set_option maxHeartbeats 4000000 in
theorem lineOf_any (w : World) (v : Value) (n : Nat) (N : Nat → Nod) (hi : Nat) (x : Pip) (f t : Nat) (h : Src w v n N hi x f t) (hp : Pow w) :
    Calls Tryz.prog 30 #[v, .agg #[.int .i64 x.f, .int .i64 x.t, .int .i64 x.k, .int .i64 x.v, .int .i64 x.l]] w (StrPost w (pipeL N x)) := by
  have HP := Lib.hid hp
  clear hp
  obtain ⟨⟨b, o, c0, p1, m, c1, rfl, hb, y0, y1⟩, hhi, hf, ht, hfn, htn, sf, st, hk, hv, hl⟩ := h
  obtain ⟨xf, xt, xk, xv, xl⟩ := x
  simp only at hf ht hk hv hl
  subst hf ht
  have A1 := boxed w (.slice (some ⟨b, o, none⟩) n c0) (.slice p1 m c1) 25
  have C1 := below_new w (.cells #[.slice (some ⟨b, o, none⟩) n c0, .slice p1 m c1] 25)
  have hz1 : (w.alloc (.cells #[.slice (some ⟨b, o, none⟩) n c0, .slice p1 m c1] 25)).heap.size = w.heap.size + 1 := by simp
  have A2 := boxedPp (w.alloc (.cells #[.slice (some ⟨b, o, none⟩) n c0, .slice p1 m c1] 25)) ⟨f, t, xk, xv, xl⟩ 61
  have C2 := below_new (w.alloc (.cells #[.slice (some ⟨b, o, none⟩) n c0, .slice p1 m c1] 25)) (.cells #[.int .i64 (f : Int), .int .i64 (t : Int), .int .i64 xk, .int .i64 xv, .int .i64 xl] 61)
  rw [hz1] at A2
  have A1' := A1.below C2 (by omega)
  have CC := C1.trans (C2.mono (by omega))
  go_enter Tryz.func30, Tryz.ntmps30
  go_wp2_with fail
  generalize hW : (w.alloc (Obj.cells #[.slice (some ⟨b, o, none⟩) n c0, .slice p1 m c1] 25)).alloc (Obj.cells #[.int .i64 (f : Int), .int .i64 (t : Int), .int .i64 xk, .int .i64 xv, .int .i64 xl] 61) = w2 at *
  clear hW C1 A1 C2
  have hl1 := A1'.lt
  have hl2 := A2.lt
  have hs2 := CC.size
  have hfI : (f : Int) < n := by omega
  have htI : (t : Int) < n := by omega
  have a0 := A1'.b0
  have a1 := A1'.b1
  have e0 : w2.cell? ⟨w.heap.size + 1, 0, none⟩ = some (.int .i64 (f : Int)) := A2.cell 0 (by omega)
  have e1 : w2.cell? ⟨w.heap.size + 1, 1, none⟩ = some (.int .i64 (t : Int)) := A2.cell 1 (by omega)
  have e2 : w2.cell? ⟨w.heap.size + 1, 2, none⟩ = some (.int .i64 xk) := A2.cell 2 (by omega)
  have e3 : w2.cell? ⟨w.heap.size + 1, 3, none⟩ = some (.int .i64 xv) := A2.cell 3 (by omega)
  have e4 : w2.cell? ⟨w.heap.size + 1, 4, none⟩ = some (.int .i64 xl) := A2.cell 4 (by omega)
  have y0' := (CC.cell (p := ⟨b, o + f * 3, none⟩) (show b < w.heap.size by omega)).trans y0
  have y1' := (CC.cell (p := ⟨b, o + t * 3, none⟩) (show b < w.heap.size by omega)).trans y1
  have hln := numsL_len (l := [xk, xv, xl]) (fun y hy => (three hk hv hl y hy).2)
  simp only [List.length_cons, List.length_nil] at hln
  have hR : (pipeL N ⟨f, t, xk, xv, xl⟩).length ≤ 100 := pipeL_len (x := ⟨f, t, xk, xv, xl⟩) (by simpa using sf) (by simpa using st) (three hk hv hl)
  have HCC := Lib.hid CC
  have hAny : ∀ X : World, Below w2.heap.size w2 X → (fun w' : World => w'.cell? ⟨w.heap.size, 0, none⟩ = some (.slice (some ⟨b, o, none⟩) n c0) ∧ w'.cell? ⟨w.heap.size, 1, none⟩ = some (.slice p1 m c1) ∧ w'.cell? ⟨w.heap.size + 1, 0, none⟩ = some (.int .i64 (f : Int)) ∧ w'.cell? ⟨w.heap.size + 1, 1, none⟩ = some (.int .i64 (t : Int)) ∧ w'.cell? ⟨w.heap.size + 1, 2, none⟩ = some (.int .i64 xk) ∧ w'.cell? ⟨w.heap.size + 1, 3, none⟩ = some (.int .i64 xv) ∧ w'.cell? ⟨w.heap.size + 1, 4, none⟩ = some (.int .i64 xl) ∧ w'.cell? ⟨b, o + f * 3, none⟩ = some (.string (N f).s) ∧ w'.cell? ⟨b, o + t * 3, none⟩ = some (.string (N t).s)) X := fun X h => ⟨(h.cell (p := ⟨_, 0, none⟩) hl1).trans a0, (h.cell (p := ⟨_, 1, none⟩) hl1).trans a1, (h.cell (p := ⟨_, 0, none⟩) hl2).trans e0, (h.cell (p := ⟨_, 1, none⟩) hl2).trans e1, (h.cell (p := ⟨_, 2, none⟩) hl2).trans e2, (h.cell (p := ⟨_, 3, none⟩) hl2).trans e3, (h.cell (p := ⟨_, 4, none⟩) hl2).trans e4, (h.cell (p := ⟨b, o + f * 3, none⟩) (show b < w2.heap.size by omega)).trans y0', (h.cell (p := ⟨b, o + t * 3, none⟩) (show b < w2.heap.size by omega)).trans y1'⟩
  have K0 : Below w2.heap.size w2 w2.drew := ⟨rfl, rfl, rfl, Nat.le_refl _, fun _ _ => rfl⟩
  have z1 : (w2.alloc (.cells #[.string ⟨#[112, 105, 112, 101]⟩, .string (N f).s, .string (N t).s] 9)).heap.size = w2.heap.size + 1 := by simp
  have z2 : (w2.alloc (.cells #[.int .i64 xk, .int .i64 xv, .int .i64 xl] 2)).heap.size = w2.heap.size + 1 := by simp
  have KA : Below w2.heap.size w2 (w2.alloc (.cells #[.string ⟨#[112, 105, 112, 101]⟩, .string (N f).s, .string (N t).s] 9)).drew := (below_new w2 _).trans ⟨rfl, rfl, rfl, Nat.le_refl _, fun _ _ => rfl⟩
  have KB : Below w2.heap.size w2 (w2.alloc (.cells #[.int .i64 xk, .int .i64 xv, .int .i64 xl] 2)).drew := (below_new w2 _).trans ⟨rfl, rfl, rfl, Nat.le_refl _, fun _ _ => rfl⟩
  have KAB : Below w2.heap.size w2 ((w2.alloc (.cells #[.string ⟨#[112, 105, 112, 101]⟩, .string (N f).s, .string (N t).s] 9)).alloc (.cells #[.int .i64 xk, .int .i64 xv, .int .i64 xl] 2)).drew := ((below_new w2 _).trans ((below_new (w2.alloc (.cells #[.string ⟨#[112, 105, 112, 101]⟩, .string (N f).s, .string (N t).s] 9)) _).mono (by omega))).trans ⟨rfl, rfl, rfl, Nat.le_refl _, fun _ _ => rfl⟩
  have KBA : Below w2.heap.size w2 ((w2.alloc (.cells #[.int .i64 xk, .int .i64 xv, .int .i64 xl] 2)).alloc (.cells #[.string ⟨#[112, 105, 112, 101]⟩, .string (N f).s, .string (N t).s] 9)).drew := ((below_new w2 _).trans ((below_new (w2.alloc (.cells #[.int .i64 xk, .int .i64 xv, .int .i64 xl] 2)) _).mono (by omega))).trans ⟨rfl, rfl, rfl, Nat.le_refl _, fun _ _ => rfl⟩
  have hz3 : ((w2.alloc (.cells #[.string ⟨#[112, 105, 112, 101]⟩, .string (N f).s, .string (N t).s] 9)).alloc (.cells #[.int .i64 xk, .int .i64 xv, .int .i64 xl] 2)).drew.heap.size = w2.heap.size + 2 := by simp
  have hz4 : ((w2.alloc (.cells #[.int .i64 xk, .int .i64 xv, .int .i64 xl] 2)).alloc (.cells #[.string ⟨#[112, 105, 112, 101]⟩, .string (N f).s, .string (N t).s] 9)).drew.heap.size = w2.heap.size + 2 := by simp
  have J1 : Hid (Calls Tryz.prog 53 #[.slice (some ⟨w2.heap.size, 0, none⟩) 3 3, .slice (some ⟨w2.heap.size + 1, 0, none⟩) 3 3] ((w2.alloc (.cells #[.string ⟨#[112, 105, 112, 101]⟩, .string (N f).s, .string (N t).s] 9)).alloc (.cells #[.int .i64 xk, .int .i64 xv, .int .i64 xl] 2)).drew fun e w' => e = .returned (.string ⟨(pipeL N ⟨f, t, xk, xv, xl⟩).toArray⟩) ∧ Below w2.heap.size w2 w') := Lib.hid (by
    have W3 := (RowE.next (words_new w2 [⟨#[112, 105, 112, 101]⟩, (N f).s, (N t).s] (by simp)) (below_new _ (.cells #[.int .i64 xk, .int .i64 xv, .int .i64 xl] 2))).keep (Upd.of_below (below_drew _)) (fun _ _ h => h)
    have NA := (Nums.new (w2.alloc (.cells #[.string ⟨#[112, 105, 112, 101]⟩, .string (N f).s, .string (N t).s] 9)) [xk, xv, xl]).keep (w' := ((w2.alloc (.cells #[.string ⟨#[112, 105, 112, 101]⟩, .string (N f).s, .string (N t).s] 9)).alloc (.cells #[.int .i64 xk, .int .i64 xv, .int .i64 xl] 2)).drew) rfl
    have C4 := CC.trans (KAB.mono hs2)
    have hj := joined_any w ((w2.alloc (.cells #[.string ⟨#[112, 105, 112, 101]⟩, .string (N f).s, .string (N t).s] 9)).alloc (.cells #[.int .i64 xk, .int .i64 xv, .int .i64 xl] 2)).drew w2.heap.size _ _ [⟨#[112, 105, 112, 101]⟩, (N f).s, (N t).s] [xk, xv, xl] _ (pipeL N ⟨f, t, xk, xv, xl⟩) W3 NA C4 (by omega) (by omega) HP.out ⟨by simp, by simp⟩ (by simp) (three hk hv hl) (join_pipe N ⟨f, t, xk, xv, xl⟩) (by omega)
    rw [z1] at hj
    exact hj.mono fun e w' h => ⟨h.1, KAB.trans (h.2.mono (by omega))⟩)
  have J2 : Hid (Calls Tryz.prog 53 #[.slice (some ⟨w2.heap.size + 1, 0, none⟩) 3 3, .slice (some ⟨w2.heap.size, 0, none⟩) 3 3] ((w2.alloc (.cells #[.int .i64 xk, .int .i64 xv, .int .i64 xl] 2)).alloc (.cells #[.string ⟨#[112, 105, 112, 101]⟩, .string (N f).s, .string (N t).s] 9)).drew fun e w' => e = .returned (.string ⟨(pipeL N ⟨f, t, xk, xv, xl⟩).toArray⟩) ∧ Below w2.heap.size w2 w') := Lib.hid (by
    have W3 := (words_new (w2.alloc (.cells #[.int .i64 xk, .int .i64 xv, .int .i64 xl] 2)) [⟨#[112, 105, 112, 101]⟩, (N f).s, (N t).s] (by simp)).keep (Upd.of_below (below_drew _)) (fun _ _ h => h)
    have NA := ((Nums.new w2 [xk, xv, xl]).next (below_new _ (.cells #[.string ⟨#[112, 105, 112, 101]⟩, .string (N f).s, .string (N t).s] 9))).keep (w' := ((w2.alloc (.cells #[.int .i64 xk, .int .i64 xv, .int .i64 xl] 2)).alloc (.cells #[.string ⟨#[112, 105, 112, 101]⟩, .string (N f).s, .string (N t).s] 9)).drew) rfl
    have C4 := CC.trans (KBA.mono hs2)
    have hj := joined_any w ((w2.alloc (.cells #[.int .i64 xk, .int .i64 xv, .int .i64 xl] 2)).alloc (.cells #[.string ⟨#[112, 105, 112, 101]⟩, .string (N f).s, .string (N t).s] 9)).drew (w2.alloc (.cells #[.int .i64 xk, .int .i64 xv, .int .i64 xl] 2)).heap.size _ _ [⟨#[112, 105, 112, 101]⟩, (N f).s, (N t).s] [xk, xv, xl] _ (pipeL N ⟨f, t, xk, xv, xl⟩) W3 NA C4 (by omega) (by omega) HP.out ⟨by simp, by simp⟩ (by simp) (three hk hv hl) (join_pipe N ⟨f, t, xk, xv, xl⟩) (by omega)
    rw [z2] at hj
    exact hj.mono fun e w' h => ⟨h.1, KBA.trans (h.2.mono (by omega))⟩)
  clear A1' A2 CC
  go_region_held3 (fun w' : World => w'.cell? ⟨w.heap.size, 0, none⟩ = some (.slice (some ⟨b, o, none⟩) n c0) ∧ w'.cell? ⟨w.heap.size, 1, none⟩ = some (.slice p1 m c1) ∧ w'.cell? ⟨w.heap.size + 1, 0, none⟩ = some (.int .i64 (f : Int)) ∧ w'.cell? ⟨w.heap.size + 1, 1, none⟩ = some (.int .i64 (t : Int)) ∧ w'.cell? ⟨w.heap.size + 1, 2, none⟩ = some (.int .i64 xk) ∧ w'.cell? ⟨w.heap.size + 1, 3, none⟩ = some (.int .i64 xv) ∧ w'.cell? ⟨w.heap.size + 1, 4, none⟩ = some (.int .i64 xl) ∧ w'.cell? ⟨b, o + f * 3, none⟩ = some (.string (N f).s) ∧ w'.cell? ⟨b, o + t * 3, none⟩ = some (.string (N t).s)) (first | exact hAny _ K0 | exact hAny _ KA | exact hAny _ KB | exact hAny _ KAB | exact hAny _ KBA | exact hAny _ KX)
    (first | (go_at_call 53; with_reducible refine J1.out.mono ?_; rintro e wx ⟨rfl, KX⟩) | (go_at_call 53; with_reducible refine J2.out.mono ?_; rintro e wx ⟨rfl, KX⟩))
  all_goals go_wp2_with fail
  all_goals go_ret
  all_goals exact ⟨rfl, HCC.out.trans (KX.mono hs2)⟩
end Go.Proofs.YtmeoepdmaffjjaaGreatDoor.text
