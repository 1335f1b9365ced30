/-
  Copies of networks in the specification. Conditions: as each states.
-/
import Derived.Test.YtdmcggnhnkaoeaaRows
import Derived.Test.YtdmcggnhnkaoeaaNetCl
import Derived.WalkKit
import Derived.ProofKit
import Derived.Outline
import Derived.OwnWalk
import Derived.Lib.Hide
import Derived.Deep.RegionHeld3
import Derived.Deep.RegionHeldLaw
namespace Go.Proofs.Ytdmcggnhnkaoeaa.mem
open Go.RowKit
set_option linter.unusedVariables false

/-- at an append of structs to an empty slice, in a region -/
theorem step_appE {t e : TypeId} {zv : Value} {z bytes : Nat} (ht : Try.prog.underlying t = some (.slice e)) (hinf : (Try.prog.info? e).map (fun i => (i.zero, i.size, i.bytes)) = some (some zv, z, bytes)) (hb64 : bytes ≤ 64)
    {ops : Array Oper} {o : Oper} {a : Act} {w : World} {K : Act → World → Prop} {Q : Exit → Act → World → Prop} {E : Prop} (hg : o.guard = none) (s x : Operand)
    (hop : o.op = Op.call { callee := Callee.builtin Builtin.append, args := #[s, x], argTypes := #[t, t] }) (hty : o.type = t) (B : Nat) (hs : a.eval s = .slice (some ⟨B, 0, none⟩) 0 0) (p : Option Addr) (n cap : Nat) (hx : a.eval x = .slice p n cap)
    (c : Nat → Nat → Value) (lo hi : Nat) (h : Cs w (.slice p n cap) n z c lo hi) (hn : n ≤ 2000000)
    (hK : ∀ p' cap' w' g, OwnS w' (.slice p' n cap') n z c g → Below w.heap.size w w' → w.heap.size ≤ g → K (a.put o.dst (.slice p' n cap')) w') : if Region.wanted o (yielded ops a.tmps) = true then Oper.wp Try.prog o a w K Q else E := by
  obtain ⟨v', w', g, hr, ho, hb, hg'⟩ := appE ht hinf hb64 w B p n cap c lo hi h hn
  obtain ⟨p', cap', rfl⟩ := ho.shape
  exact step_appT hr hg s x hop hty hs hx (hK _ _ _ _ ho hb hg')
theorem own_S {W1 W : World} {b : Nat} {v0 v1 : Value} (A : Ob W1 b 2 (bx v0 v1)) (h : Below W1.heap.size W1 W) : W.cell? ⟨b, 0, none⟩ = some v0 ∧ W.cell? ⟨b, 1, none⟩ = some v1 := ⟨(A.next h).b0, (A.next h).b1⟩
theorem below_al {B : Nat} {w w' : World} (h : Below B w w') (hB : B ≤ w.heap.size) (o : Obj) : Below B w (w'.alloc o) := h.alloc (Nat.le_trans hB h.size) o

set_option maxHeartbeats 8000000 in
theorem l02Own_any (w : World) (v : Value) (n : Nat) (N : Nat → Nod) (m : Nat) (P : Nat → Pip) (lo hi : Nat) (h : NetAt w v n N m P lo hi) (hhi : hi ≤ w.heap.size) (hN : ∀ i, i < n → (N i).s.size ≤ 9223372036854775807) (hn2 : n ≤ 2000000) (hm2 : m ≤ 2000000) : Calls Try.prog 49 #[v] w (NewNet w n N m P) := by
  obtain ⟨v0, v1, rfl, g0, g1⟩ := h.ex
  obtain ⟨p0, c0, rfl⟩ := g0.shape
  obtain ⟨p1, c1, rfl⟩ := g1.shape
  have hn9 : n ≤ 9223372036854775807 := by
    obtain ⟨p, cap, he, q1, q2, _⟩ := g0.ex
    omega
  have hm9 : m ≤ 9223372036854775807 := by
    obtain ⟨p, cap, he, q1, q2, _⟩ := g1.ex
    omega
  have HC0 : Hid (n = 0 ∨ ∃ b o, p0 = some ⟨b, o, none⟩ ∧ lo ≤ b ∧ b < hi ∧ At w b o n 3 (nodC N)) := by
    obtain ⟨p, cap, hv, _, _, hc⟩ := g0.ex
    injection hv with e1 _ e2
    subst e1
    exact Lib.hid hc
  have HC1 : Hid (m = 0 ∨ ∃ b o, p1 = some ⟨b, o, none⟩ ∧ lo ≤ b ∧ b < hi ∧ At w b o m 5 (pipC P)) := by
    obtain ⟨p, cap, hv, _, _, hc⟩ := g1.ex
    injection hv with e1 _ e2
    subst e1
    exact Lib.hid hc
  have HV := Lib.hid h
  have HN := Lib.hid hN
  clear h g0 g1 hN
  have G0 : Hid (Cs w (.slice p0 n c0) n 3 (nodC N) lo hi) := by
    obtain ⟨v0, v1, e, g, _⟩ := HV.out.ex
    simp only [Value.agg.injEq, Array.mk.injEq, List.cons.injEq, and_true] at e
    rw [← e.1] at g
    exact Lib.hid g
  have G1 : Hid (Cs w (.slice p1 m c1) m 5 (pipC P) lo hi) := by
    obtain ⟨v0, v1, e, _, g⟩ := HV.out.ex
    simp only [Value.agg.injEq, Array.mk.injEq, List.cons.injEq, and_true] at e
    rw [← e.2] at g
    exact Lib.hid g
  go_enter Try.func49, Try.ntmps49
  go_wp2_with fail
  have A1 := (boxed w (.slice p0 n c0) (.slice p1 m c1) 27).keep (Below.heap_alloc (w.alloc (Obj.cells #[Value.slice p0 n c0, Value.slice p1 m c1] 27)) (Obj.cells #[Value.slice none 0 0, Value.slice none 0 0] 27) _ (by simp))
  have R1 := boxed (w.alloc (Obj.cells #[Value.slice p0 n c0, Value.slice p1 m c1] 27)) (.slice none 0 0) (.slice none 0 0) 27
  rw [show (w.alloc (Obj.cells #[Value.slice p0 n c0, Value.slice p1 m c1] 27)).heap.size = w.heap.size + 1 by simp] at R1
  have C1 := bel2 w (Obj.cells #[Value.slice p0 n c0, Value.slice p1 m c1] 27) (Obj.cells #[Value.slice none 0 0, Value.slice none 0 0] 27)
  have hs1 : ((w.alloc (Obj.cells #[Value.slice p0 n c0, Value.slice p1 m c1] 27)).alloc (Obj.cells #[Value.slice none 0 0, Value.slice none 0 0] 27)).heap.size = w.heap.size + 2 := by simp
  generalize hW : (w.alloc (Obj.cells #[Value.slice p0 n c0, Value.slice p1 m c1] 27)).alloc (Obj.cells #[Value.slice none 0 0, Value.slice none 0 0] 27) = W1 at *
  replace hs1 := Nat.le_antisymm_iff.1 hs1
  clear hW
  have hne : w.heap.size ≠ w.heap.size + 1 := by omega
  have hW1 : w.heap.size + 2 ≤ W1.heap.size := by omega
  have Q0 : Below W1.heap.size W1 W1.drew := below_dw (Below.refl _ _)
  have HA1 := Lib.hid A1
  have HR1 := Lib.hid R1
  have HC1' := Lib.hid C1
  have e0 := A1.b0
  have e1 := A1.b1
  clear hs1 A1 R1 C1
  go_region_held_law (fun w' => w'.cell? ⟨w.heap.size, 0, none⟩ = some (.slice p0 n c0) ∧ w'.cell? ⟨w.heap.size, 1, none⟩ = some (.slice p1 m c1))
    (first | exact ⟨e0, e1⟩ | exact own_S HA1.out (below_al Q0 (Nat.le_refl _) _) | exact own_S HA1.out (below_al (below_al Q0 (Nat.le_refl _) _) (Nat.le_refl _) _) | exact ⟨((((Only.refl (w.heap.size + 1) _).setCell _ _).setCell _ _).cell (a := ⟨w.heap.size, 0, none⟩) hne).trans (own_S HA1.out QX).1, ((((Only.refl (w.heap.size + 1) _).setCell _ _).setCell _ _).cell (a := ⟨w.heap.size, 1, none⟩) hne).trans (own_S HA1.out QX).2⟩ | exact own_S HA1.out QX | exact own_S HA1.out QA | exact own_S HA1.out QB | exact own_S HA1.out (below_al QA (Nat.le_refl _) _) | exact own_S HA1.out (below_al QB (Nat.le_refl _) _))
    (first
      | (refine step_appE Try.underlying24 info_make_node (by omega) rfl (.tmp 3) (.tmp 5) rfl rfl _ rfl p0 n c0 rfl (nodC N) lo hi (G0.out.below (HC1'.out.trans (Below.mono (by first | exact QB | exact (below_al QB (Nat.le_refl _) _) | exact (below_al Q0 (Nat.le_refl _) _) | exact (below_al (below_al Q0 (Nat.le_refl _) _) (Nat.le_refl _) _)) (by omega))) hhi) hn2 ?_; intro pa ca wa ga oa ba la; have QA : Below W1.heap.size W1 wa := (by first | exact belowNext QB ba | exact belowNext (below_al QB (Nat.le_refl _) _) ba | exact belowNext (below_al Q0 (Nat.le_refl _) _) ba | exact belowNext (below_al (below_al Q0 (Nat.le_refl _) _) (Nat.le_refl _) _) ba); have lA : W1.heap.size ≤ ga := (by first | exact Nat.le_trans (Below.size QB) la | exact Nat.le_trans (Below.size (below_al QB (Nat.le_refl _) _)) la | exact Nat.le_trans (Below.size (below_al Q0 (Nat.le_refl _) _)) la | exact Nat.le_trans (Below.size (below_al (below_al Q0 (Nat.le_refl _) _) (Nat.le_refl _) _)) la); (first | (have OX := (by first | exact ob.next ba | exact (ob.next (below_new _ _)).next ba : OwnS wa (.slice pb m cb) m 5 (pipC P) gb); have NX := oa; have QX := QA; have hd : n = 0 ∨ m = 0 ∨ ga ≠ gb := (by first | (have := ob.lt; omega) | (have := ob.lt; simp at la; omega)); have fx0 := (HR1.out.next QA).b0; have fx1 := (HR1.out.next QA).b1; have kx0 := (HR1.out.next QA).free 0; have kx1 := (HR1.out.next QA).free 1) | skip))
      | (refine step_appE Try.underlying25 info_make_pipe (by omega) rfl (.tmp 7) (.tmp 9) rfl rfl _ rfl p1 m c1 rfl (pipC P) lo hi (G1.out.below (HC1'.out.trans (Below.mono (by first | exact QA | exact (below_al QA (Nat.le_refl _) _) | exact (below_al Q0 (Nat.le_refl _) _) | exact (below_al (below_al Q0 (Nat.le_refl _) _) (Nat.le_refl _) _)) (by omega))) hhi) hm2 ?_; intro pb cb wb gb ob bb lb; have QB : Below W1.heap.size W1 wb := (by first | exact belowNext QA bb | exact belowNext (below_al QA (Nat.le_refl _) _) bb | exact belowNext (below_al Q0 (Nat.le_refl _) _) bb | exact belowNext (below_al (below_al Q0 (Nat.le_refl _) _) (Nat.le_refl _) _) bb); have lB : W1.heap.size ≤ gb := (by first | exact Nat.le_trans (Below.size QA) lb | exact Nat.le_trans (Below.size (below_al QA (Nat.le_refl _) _)) lb | exact Nat.le_trans (Below.size (below_al Q0 (Nat.le_refl _) _)) lb | exact Nat.le_trans (Below.size (below_al (below_al Q0 (Nat.le_refl _) _) (Nat.le_refl _) _)) lb); (first | (have NX := (by first | exact oa.next bb | exact (oa.next (below_new _ _)).next bb : OwnS wb (.slice pa n ca) n 3 (nodC N) ga); have OX := ob; have QX := QB; have hd : n = 0 ∨ m = 0 ∨ ga ≠ gb := (by first | (have := oa.lt; omega) | (have := oa.lt; simp at lb; omega)); have fx0 := (HR1.out.next QB).b0; have fx1 := (HR1.out.next QB).b1; have kx0 := (HR1.out.next QB).free 0; have kx1 := (HR1.out.next QB).free 1) | skip)))
  all_goals
    go_wp2_with fail
    refine bodyPost_ret (v := .agg #[.slice pa n ca, .slice pb m cb]) (by simp [results, Try.results49, go_sem, fx0, fx1]) rfl ⟨_, ga, gb, rfl, ⟨_, _, rfl, NX.set2 (by omega), OX.set2 (by omega), hd⟩, by omega, by omega, below_set (below_set (HC1'.out.trans (QX.mono (by omega))) (by omega) _ _) (by omega) _ _⟩
end Go.Proofs.Ytdmcggnhnkaoeaa.mem
