/-
  visitsFrom and unreachedNodes. Conditions: as each states.
-/
import Derived.Test.YtkgekaedpdgmdaaRows
import Derived.Test.YtkgekaedpdgmdaaVisI
import Derived.Test.YtkgekaedpdgmdaaRep
namespace Go.Proofs.Ytkgekaedpdgmdaa.mem
open Go.RowKit
set_option linter.unusedVariables false
attribute [local go_sem] Oper.semAt_some

theorem NetAt.parts {w : World} {v : Value} {n : Nat} {N : Nat → Nod} {m : Nat} {P : Nat → Pip} {lo hi : Nat} (h : NetAt w v n N m P lo hi) :
    ∃ p0 c0 p1 c1, v = .agg #[.slice p0 n c0, .slice p1 m c1] ∧ n ≤ 9223372036854775807 ∧ m ≤ 9223372036854775807 := by
  obtain ⟨v0, v1, rfl, g0, g1⟩ := h.ex
  obtain ⟨p0, c0, rfl, h1, h2, _⟩ := g0.ex
  obtain ⟨p1, c1, rfl, h3, h4, _⟩ := g1.ex
  exact ⟨p0, c0, p1, c1, rfl, by omega, by omega⟩

/-- the value of an iterator of a search -/
theorem visitsFrom_any (nn : Nat) (h3 : 3 ≤ nn) (w : World) (v : Value) (n : Nat) (N : Nat → Nod) (m : Nat) (P : Nat → Pip) (lo hi : Nat) (h : NetAt w v n N m P lo hi) (hhi : hi ≤ w.heap.size) (hB : netB n N m P = true) (X0 : Nat) (hX : X0 < n) :
    Calls Try.prog 124 #[v, .int .i64 (X0 : Nat)] w fun e w' => ∃ lb, e = .returned (.func (.func 133) #[] lb) ∧
      SeqV Fence.wide nn Try.prog 133 lb encV (vis n P m (X0 : Nat)) (fun r => r < hi ∨ r = w.heap.size + 1 ∨ r = w.heap.size) w' ∧ Below w.heap.size w w' ∧ w.heap.size + 2 ≤ w'.heap.size := by
  obtain ⟨p0, c0, p1, c1, rfl, hn9, hm9⟩ := h.parts
  have HV := Lib.hid h
  have HB := Lib.hid hB
  have A0 := boxed w (.slice p0 n c0) (.slice p1 m c1) 33
  have B0 : Below w.heap.size w ((w.alloc (.cells #[.slice p0 n c0, .slice p1 m c1] 33)).alloc (.cells #[.int .i64 (X0 : Nat)] 2)) := below_alloc (below_new w _) (by simp) _
  have A1 := A0.keep (Below.heap_alloc _ (.cells #[.int .i64 (X0 : Nat)] 2) _ A0.lt)
  have A2 : Ob ((w.alloc (.cells #[.slice p0 n c0, .slice p1 m c1] 33)).alloc (.cells #[.int .i64 (X0 : Nat)] 2)) (w.heap.size + 1) 1 (fun _ => .int .i64 (X0 : Nat)) := by
    have := Ob.new (w.alloc (.cells #[.slice p0 n c0, .slice p1 m c1] 33)) #[.int .i64 (X0 : Nat)] 2 1 (fun _ => .int .i64 (X0 : Nat)) rfl (by intro k hk; have : k = 0 := (by omega); subst this; rfl)
    rwa [World.size_alloc] at this
  have H1 := Lib.hid A1
  have H2 := Lib.hid A2
  clear A0 A1 A2 h hB
  go_enter Try.func124, Try.ntmps124
  go_wp2_with fail
  go_ret
  exact ⟨_, rfl, visits1_any nn h3 _ _ n N m P lo hi (HV.out.below B0 hhi) hi (Nat.le_refl _) (Nat.le_trans hhi B0.size) HB.out X0 hX _ _ rfl _ _ H2.out H1.out, B0, by simp⟩

theorem one_new (w : World) (x : Int) (t : TypeId) : (w.alloc (.cells #[.int .i64 x] t)).cell? ⟨w.heap.size, 0, none⟩ = some (.int .i64 x) := by
  simp only [World.cell?, heap_alloc_new w (.cells #[.int .i64 x] t)]
  rfl

set_option maxRecDepth 100000 in
/-- -1 for each node -/
theorem unreached_any (w : World) (v : Value) (n : Nat) (N : Nat → Nod) (m : Nat) (P : Nat → Pip) (lo hi : Nat) (h : NetAt w v n N m P lo hi) (h1 : 1 ≤ n) (h2 : n ≤ 24) :
    Calls Try.prog 123 #[v] w fun e w' => ∃ g, e = .returned (.slice (some ⟨g, 0, none⟩) n n) ∧ w.heap.size ≤ g ∧ Ob w' g n (fun _ => .int .i64 (-1)) ∧ Below w.heap.size w w' := by
  obtain ⟨p0, c0, p1, c1, rfl, hn9, hm9⟩ := h.parts
  clear h
  have B0 : Below w.heap.size w ((w.alloc (.cells #[.slice p0 n c0, .slice p1 m c1] 33)).alloc (.cells #[.int .i64 (-1)] 2)) :=
    (below_new w (.cells #[.slice p0 n c0, .slice p1 m c1] 33)).trans ((below_new (w.alloc (.cells #[.slice p0 n c0, .slice p1 m c1] 33)) (.cells #[.int .i64 (-1)] 2)).mono (by rw [World.size_alloc]; omega))
  obtain ⟨W, hW⟩ : ∃ W, (w.alloc (.cells #[.slice p0 n c0, .slice p1 m c1] 33)).alloc (.cells #[.int .i64 (-1)] 2) = W := ⟨_, rfl⟩
  have hc : W.cell? ⟨w.heap.size + 1, 0, none⟩ = some (.int .i64 (-1)) := by
    rw [← hW]
    have := one_new (w.alloc (.cells #[.slice p0 n c0, .slice p1 m c1] 33)) (-1) 2
    rwa [World.size_alloc] at this
  have hs : w.heap.size + 2 = W.heap.size := by rw [← hW, World.size_alloc, World.size_alloc]
  rw [hW] at B0
  have HW := Lib.hid hW
  clear hW
  go_enter Try.func123, Try.ntmps123
  go_wp2_with (go_at_call 132; rw [HW.out]; refine (repeat_any W (w.heap.size + 1) n h1 h2 (by omega) hc).mono ?_; rintro e w2 ⟨rfl, o2, b2⟩)
  go_ret
  exact ⟨_, rfl, B0.size, o2, B0.trans (b2.mono B0.size)⟩
end Go.Proofs.Ytkgekaedpdgmdaa.mem
