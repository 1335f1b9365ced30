/-
  The laws' own helpers on proofs: size, conversion, equality, marking, holding. What an argument that is a proof reads as. Conditions: as each states.
-/
import Derived.Test.YtdbgcbkmcbgdiaaDoorRows
import Derived.Test.YtdbgcbkmcbgdiaaDoorNetX
import Derived.Test.YtdbgcbkmcbgdiaaDoorIntA
import Derived.Test.YtdbgcbkmcbgdiaaDoorOpen
import Derived.Test.YtdbgcbkmcbgdiaaDoorNetCl
import Derived.WalkKit
import Derived.ProofKit
import Derived.OwnWalk
import Derived.Lib.Hide
import Derived.Deep.RegionHeld3
namespace Go.Proofs.YtdbgcbkmcbgdiaaDoor.mem
open Go.Joins Go.RowKit Go.ChangeShapes Go.WideShapes Go.ChangeAt Go.Deep
set_option linter.unusedVariables false

/-- what reads as a proof: K flows d, L levels l, in blocks from lo on and below hi -/
structure PrAt (w : World) (v : Value) (K : Nat) (d : Nat → Int) (L : Nat) (l : Nat → Int) (lo hi : Nat) : Prop where
  ex : ∃ v0 v1, v = .agg #[v0, v1] ∧ Sl w v0 K d lo hi ∧ Sl w v1 L l lo hi
theorem PrAt.below {w w' : World} {v : Value} {K L lo hi B : Nat} {d l : Nat → Int} (h : PrAt w v K d L l lo hi) (g : Below B w w') (hB : hi ≤ B) : PrAt w' v K d L l lo hi := by
  obtain ⟨v0, v1, rfl, h0, h1⟩ := h.ex
  exact ⟨v0, v1, rfl, h0.below g hB, h1.below g hB⟩
theorem PrAt.mono {w : World} {v : Value} {K L lo hi lo' hi' : Nat} {d l : Nat → Int} (h : PrAt w v K d L l lo hi) (h1 : lo' ≤ lo) (h2 : hi ≤ hi') : PrAt w v K d L l lo' hi' := by
  obtain ⟨v0, v1, rfl, g0, g1⟩ := h.ex
  exact ⟨v0, v1, rfl, g0.mono h1 h2, g1.mono h1 h2⟩
theorem PrAt.drew {w : World} {v : Value} {K L lo hi : Nat} {d l : Nat → Int} (h : PrAt w v K d L l lo hi) : PrAt w.drew v K d L l lo hi := h.below (B := hi) ⟨rfl, rfl, rfl, Nat.le_refl _, fun _ _ => rfl⟩ (Nat.le_refl _)
theorem PrAt.next {w w' : World} {v : Value} {K L : Nat} {d l : Nat → Int} (h : PrAt w v K d L l 0 w.heap.size) (g : Below w.heap.size w w') : PrAt w' v K d L l 0 w'.heap.size := (h.below g (Nat.le_refl _)).mono (Nat.le_refl _) g.size
theorem PrAt.shape {w : World} {v : Value} {K L lo hi : Nat} {d l : Nat → Int} (h : PrAt w v K d L l lo hi) : ∃ p0 c0 p1 c1, v = .agg #[.slice p0 K c0, .slice p1 L c1] := by
  obtain ⟨v0, v1, rfl, g0, g1⟩ := h.ex
  obtain ⟨p0, c0, e0, _⟩ := g0.ex
  obtain ⟨p1, c1, e1, _⟩ := g1.ex
  exact ⟨p0, c0, p1, c1, by rw [e0, e1]⟩
theorem PrAt.two {w : World} {p0 p1 : Option Addr} {c0 c1 : Nat} {K L lo hi : Nat} {d l : Nat → Int} (h : PrAt w (.agg #[.slice p0 K c0, .slice p1 L c1]) K d L l lo hi) : Sl w (.slice p0 K c0) K d lo hi ∧ Sl w (.slice p1 L c1) L l lo hi := by
  obtain ⟨v0, v1, e, g0, g1⟩ := h.ex
  simp only [Value.agg.injEq, Array.mk.injEq, List.cons.injEq, and_true] at e
  obtain ⟨rfl, rfl⟩ := e
  exact ⟨g0, g1⟩
/-- a proof of the call's own, its lists in blocks b1 and b2 -/
structure PrOwn (w : World) (v : Value) (K : Nat) (d : Nat → Int) (L : Nat) (l : Nat → Int) (b1 b2 : Nat) : Prop where
  ex : ∃ v0 v1, v = .agg #[v0, v1] ∧ OwnS w v0 K 1 (fun i _ => .int .i64 (d i)) b1 ∧ OwnS w v1 L 1 (fun i _ => .int .i64 (l i)) b2 ∧ (K = 0 ∨ L = 0 ∨ b1 ≠ b2)
theorem PrOwn.upd {X : Nat → Prop} {w w' : World} {v : Value} {K L b1 b2 : Nat} {d l : Nat → Int} (h : PrOwn w v K d L l b1 b2) (g : Upd X w w') (h1 : K = 0 ∨ ¬ X b1) (h2 : L = 0 ∨ ¬ X b2) : PrOwn w' v K d L l b1 b2 := by
  obtain ⟨v0, v1, rfl, g0, g1, g2⟩ := h.ex
  exact ⟨v0, v1, rfl, g0.upd g h1, g1.upd g h2, g2⟩
theorem PrOwn.below {w w' : World} {v : Value} {K L b1 b2 B : Nat} {d l : Nat → Int} (h : PrOwn w v K d L l b1 b2) (g : Below B w w') (hB : w.heap.size ≤ B) : PrOwn w' v K d L l b1 b2 := by
  obtain ⟨v0, v1, rfl, g0, g1, g2⟩ := h.ex
  exact ⟨v0, v1, rfl, g0.below g hB, g1.below g hB, g2⟩
theorem PrOwn.next {w w' : World} {v : Value} {K L b1 b2 : Nat} {d l : Nat → Int} (h : PrOwn w v K d L l b1 b2) (g : Below w.heap.size w w') : PrOwn w' v K d L l b1 b2 := h.below g (Nat.le_refl _)
theorem PrOwn.next_upd {X : Nat → Prop} {w w' : World} {v : Value} {K L b1 b2 : Nat} {d l : Nat → Int} (h : PrOwn w v K d L l b1 b2) (g : Upd X w w') (hx : (K = 0 ∨ ¬ X b1) ∧ (L = 0 ∨ ¬ X b2)) : PrOwn w' v K d L l b1 b2 := h.upd g hx.1 hx.2
theorem PrOwn.drew {w : World} {v : Value} {K L b1 b2 : Nat} {d l : Nat → Int} (h : PrOwn w v K d L l b1 b2) : PrOwn w.drew v K d L l b1 b2 := h.below (B := w.heap.size) ⟨rfl, rfl, rfl, Nat.le_refl _, fun _ _ => rfl⟩ (Nat.le_refl _)
theorem owns_all {w : World} {v : Value} {n b : Nat} {d : Nat → Int} (h : OwnS w v n 1 (fun i _ => .int .i64 (d i)) b) : Sl w v n d 0 w.heap.size := by
  obtain ⟨p', cap, hv, h1, h2, h3⟩ := h.ex
  refine ⟨p', cap, hv, ?_⟩
  rcases h3 with h3 | ⟨h3, h4⟩
  · exact .inl h3
  · refine .inr ⟨b, 0, h3, Nat.zero_le _, h4.lt, fun k hk => ?_⟩
    have := h4.cell k 0 hk (by omega)
    simpa using this
theorem PrOwn.pr {w : World} {v : Value} {K L b1 b2 : Nat} {d l : Nat → Int} (h : PrOwn w v K d L l b1 b2) : PrAt w v K d L l 0 w.heap.size := by
  obtain ⟨v0, v1, rfl, g0, g1, g2⟩ := h.ex
  exact ⟨v0, v1, rfl, owns_all g0, owns_all g1⟩
theorem PrOwn.lts {w : World} {v : Value} {K L b1 b2 : Nat} {d l : Nat → Int} (h : PrOwn w v K d L l b1 b2) : (K = 0 ∨ b1 < w.heap.size) ∧ (L = 0 ∨ b2 < w.heap.size) := by
  obtain ⟨v0, v1, rfl, g0, g1, g2⟩ := h.ex
  exact ⟨g0.lt, g1.lt⟩
theorem PrOwn.shape {w : World} {v : Value} {K L b1 b2 : Nat} {d l : Nat → Int} (h : PrOwn w v K d L l b1 b2) : ∃ p0 c0 p1 c1, v = .agg #[.slice p0 K c0, .slice p1 L c1] := h.pr.shape
theorem PrOwn.none_ (w : World) (d l : Nat → Int) (b1 b2 : Nat) : PrOwn w (.agg #[.slice none 0 0, .slice none 0 0]) 0 d 0 l b1 b2 := ⟨_, _, rfl, OwnS.none_ _ _ _ _, OwnS.none_ _ _ _ _, .inl rfl⟩
/-- a proof and a code as an answer -/
def PIPost (w : World) (K : Nat) (d : Nat → Int) (L : Nat) (l : Nat → Int) (c : Int) (e : Ending) (w' : World) : Prop :=
  ∃ v b1 b2, e = .returned (.tuple #[v, .int .i64 c]) ∧ PrOwn w' v K d L l b1 b2 ∧ w.heap.size ≤ b1 ∧ w.heap.size ≤ b2 ∧ Below w.heap.size w w'

theorem szInts_any (w : World) (p : Option Addr) (n cap : Nat) (left : Int) (h0 : 0 ≤ left) (h1 : left ≤ 1048576) (hn : n ≤ 9223372036854775807) :
    Calls Tryd.prog 14 #[.slice p n cap, .int .i64 left] w (SzPost w left n) := by
  by_cases h : left - n < 0
  all_goals
    go_enter Tryd.func14, Tryd.ntmps14
    go_wp2_with fail
    go_ret
  · exact ⟨-1, rfl, .inl rfl, Below.refl _ _⟩
  · exact ⟨left - n, rfl, .inr ⟨by omega, by omega, by omega⟩, Below.refl _ _⟩
set_option maxHeartbeats 1000000 in
theorem szProof_any (w : World) (v : Value) (K : Nat) (d : Nat → Int) (L : Nat) (l : Nat → Int) (lo hi : Nat) (left : Int) (h : PrAt w v K d L l lo hi) (hK : K ≤ 9223372036854775807) (hL : L ≤ 9223372036854775807) (h0 : 0 ≤ left) (h1 : left ≤ 1048576) :
    Calls Tryd.prog 5 #[v, .int .i64 left] w (SzPost w left (max K L)) := by
  obtain ⟨p0, c0, p1, c1, rfl⟩ := h.shape
  clear h
  go_enter Tryd.func5, Tryd.ntmps5
  have A0 := boxed w (.slice p0 K c0) (.slice p1 L c1) 28
  have e0' := A0.b0
  have e1' := A0.b1
  have hs0 : (w.alloc (.cells #[.slice p0 K c0, .slice p1 L c1] 28)).heap.size = w.heap.size + 1 := by simp
  have B0 := Lib.hid (below_new w (.cells #[.slice p0 K c0, .slice p1 L c1] 28))
  go_wp2_with fail
  refine (szInts_any _ p0 K c0 left h0 h1 hK).mono ?_
  rintro e w2 ⟨r, rfl, hr, b2⟩
  have A1 := A0.below b2 (by omega)
  have e0 := A1.b0
  have e1 := A1.b1
  have s2 := b2.size
  have s3 : w.heap.size ≤ w2.heap.size := by omega
  have B2 := Lib.hid (B0.out.trans (b2.mono (by omega)))
  clear b2 A0 e0' e1'
  rcases hr with rfl | ⟨hr0, hr1, hr2⟩
  · go_wp2_with fail
    go_ret
    exact ⟨-1, rfl, .inl rfl, B2.out⟩
  · go_wp2_with fail
    refine (szInts_any _ p1 L c1 r hr0 (by omega) hL).mono ?_
    rintro e w3 ⟨q, rfl, hq, b3⟩
    have B3 := Lib.hid (B2.out.trans (b3.mono s3))
    clear b3
    rcases hq with rfl | ⟨hq0, hq1, hq2⟩
    · go_wp2_with fail
      go_ret
      exact ⟨-1, rfl, .inl rfl, B3.out⟩
    · go_wp2_with fail
      go_ret
      exact ⟨q, rfl, .inr ⟨hq0, by omega, by omega⟩, B3.out⟩
/-- a copy of a proof -/
def NewPr (w : World) (K : Nat) (d : Nat → Int) (L : Nat) (l : Nat → Int) (e : Ending) (w' : World) : Prop :=
  ∃ p0 c0 p1 c1, e = .returned (.agg #[.slice p0 K c0, .slice p1 L c1]) ∧ PrAt w' (.agg #[.slice p0 K c0, .slice p1 L c1]) K d L l 0 w'.heap.size ∧ Below w.heap.size w w'
set_option maxHeartbeats 4000000 in
theorem toProof_any (w : World) (v : Value) (K : Nat) (d : Nat → Int) (L : Nat) (l : Nat → Int) (lo hi : Nat) (h : PrAt w v K d L l lo hi) (hK : K ≤ 2000000) (hL : L ≤ 2000000) (hhi : hi ≤ w.heap.size) :
    Calls Tryd.prog 8 #[v] w (NewPr w K d L l) := by
  obtain ⟨p0, c0, p1, c1, rfl⟩ := h.shape
  obtain ⟨g0, g1⟩ := h.two
  have G0 := Lib.hid g0
  have G1 := Lib.hid g1
  clear h g0 g1
  go_enter Tryd.func8, Tryd.ntmps8
  go_wp2_with fail
  generalize hW : ((w.alloc _).alloc _).alloc _ = W1
  have a0 : Ob W1 w.heap.size 2 (fun k => if k = 0 then .slice p0 K c0 else .slice p1 L c1) := by
    rw [← hW]
    exact ((Ob.new w _ _ 2 _ rfl (by intro k hk; rcases (by omega : k = 0 ∨ k = 1) with rfl | rfl <;> rfl)).keep (Below.heap_alloc _ _ _ (by simp))).keep (Below.heap_alloc _ _ _ (by simp; omega))
  have a1 : Ob W1 (w.heap.size + 1) 2 (fun _ => .slice none 0 0) := by
    rw [← hW]
    have := (Ob.new (w.alloc (Obj.cells #[Value.slice p0 K c0, Value.slice p1 L c1] 28)) #[.slice none 0 0, .slice none 0 0] 37 2 (fun _ => .slice none 0 0) rfl (by intro k hk; rcases (by omega : k = 0 ∨ k = 1) with rfl | rfl <;> rfl)).keep (Below.heap_alloc _ (Obj.cells #[Value.slice none 0 0, Value.slice none 0 0] 37) _ (by simp))
    simpa using this
  have a2 : Ob W1 (w.heap.size + 1 + 1) 2 (fun _ => .slice none 0 0) := by
    rw [← hW]
    have := Ob.new ((w.alloc (Obj.cells #[Value.slice p0 K c0, Value.slice p1 L c1] 28)).alloc (Obj.cells #[Value.slice none 0 0, Value.slice none 0 0] 37)) #[.slice none 0 0, .slice none 0 0] 37 2 (fun _ => .slice none 0 0) rfl (by intro k hk; rcases (by omega : k = 0 ∨ k = 1) with rfl | rfl <;> rfl)
    simpa using this
  have b0 : Below w.heap.size w W1 := by rw [← hW]; exact bel3 _ _ _ _
  have z0 : W1.heap.size = w.heap.size + 3 := by rw [← hW]; simp
  clear hW
  replace z0 := Nat.le_antisymm_iff.1 z0
  have A0 := Lib.hid a0
  have A1 := Lib.hid a1
  have A2 := Lib.hid a2
  have B0 := Lib.hid b0
  clear a0 a1 a2 b0
  refine (copy_any _ _ K d lo hi (G0.out.below B0.out hhi) hK (by omega)).mono ?_
  rintro e w2 ⟨rfl, r1, b1, zz1⟩
  have A0' := Lib.hid (A0.out.below b1 (by omega))
  have A1' := Lib.hid (A1.out.below b1 (by omega))
  have A2' := Lib.hid (A2.out.below b1 (by omega))
  have B1 := Lib.hid (B0.out.trans (b1.mono (by omega)))
  have z1 := b1.size
  have R1 := Lib.hid (show Sl w2 (.slice (some ⟨W1.heap.size, 0, none⟩) K K) K d W1.heap.size (W1.heap.size + 1) from r1.sl (Nat.le_refl _) (by omega))
  have f0 := A2'.out.cell 0 (by omega)
  have f1 := A2'.out.free 0
  have f2 := A0'.out.cell 1 (by omega)
  have z2 : W1.heap.size < w2.heap.size := by omega
  simp only [if_false, Nat.one_ne_zero] at f2
  clear b1 r1 zz1 A0 A1 A2
  go_wp2_with fail
  generalize hW : w2.setCell _ _ = w3
  have u3 : Only (w.heap.size + 1 + 1) w2 w3 := by rw [← hW]; exact (Only.refl _ _).setCell _ _
  have s3 : Ob w3 (w.heap.size + 1 + 1) 2 (updV (fun _ => .slice none 0 0) 0 (.slice (some ⟨W1.heap.size, 0, none⟩) K K)) := by rw [← hW]; exact A2'.out.set 0 _ (by omega)
  have z3 := Nat.le_antisymm_iff.1 u3.size
  clear hW f0 f1 f2
  have U3 := Lib.hid u3
  have S3 := Lib.hid s3
  clear u3 s3
  refine (copy_any _ _ L l lo hi ((G1.out.below B1.out hhi).only U3.out (by omega)) hL (by omega)).mono ?_
  rintro e w4 ⟨rfl, r2, b2, zz2⟩
  have S4 := Lib.hid (S3.out.below b2 (by omega))
  have A1'' := Lib.hid ((A1'.out.only U3.out (by omega)).below b2 (by omega))
  have R1' := Lib.hid ((R1.out.only U3.out (by omega)).below b2 (by omega))
  have B2 := Lib.hid ((below_only B1.out U3.out (by omega)).trans (b2.mono (by omega)))
  have R2 := Lib.hid (show Sl w4 (.slice (some ⟨w3.heap.size, 0, none⟩) L L) L l w3.heap.size (w3.heap.size + 1) from r2.sl (Nat.le_refl _) (by omega))
  have z4 := b2.size
  have z5 : w3.heap.size < w4.heap.size := by omega
  have f0 := S4.out.cell 0 (by omega)
  have f1 := S4.out.free 1
  have f2 := S4.out.cell 1 (by omega)
  have f3 := A1''.out.cell 0 (by omega)
  have f4 := A1''.out.cell 1 (by omega)
  have f5 := A1''.out.free 0
  have f6 := A1''.out.free 1
  simp only [updV, if_true, if_false, Nat.one_ne_zero] at f0 f2
  clear b2 r2 zz2
  go_wp2_with fail
  have u5 : Upd (fun k => k = w.heap.size + 1 + 1 ∨ k = w.heap.size + 1) w4 (((w4.setCell ⟨w.heap.size + 1 + 1, 1, none⟩ (.slice (some ⟨w3.heap.size, 0, none⟩) L L)).setCell ⟨w.heap.size + 1, 0, none⟩ (.slice (some ⟨W1.heap.size, 0, none⟩) K K)).setCell ⟨w.heap.size + 1, 1, none⟩ (.slice (some ⟨w3.heap.size, 0, none⟩) L L)) :=
    ((Upd.of_only ((Only.refl _ w4).setCell _ _)).mono (fun k _ e => .inl e)).trans ((Upd.of_only (((Only.refl _ _).setCell _ _).setCell _ _)).mono (fun k _ e => .inr e))
  have k1 : Only (w.heap.size + 1 + 1) w4 (w4.setCell ⟨w.heap.size + 1 + 1, 1, none⟩ (.slice (some ⟨w3.heap.size, 0, none⟩) L L)) := (Only.refl _ w4).setCell _ _
  have k2 : Only (w.heap.size + 1) (w4.setCell ⟨w.heap.size + 1 + 1, 1, none⟩ (.slice (some ⟨w3.heap.size, 0, none⟩) L L)) (((w4.setCell ⟨w.heap.size + 1 + 1, 1, none⟩ (.slice (some ⟨w3.heap.size, 0, none⟩) L L)).setCell ⟨w.heap.size + 1, 0, none⟩ (.slice (some ⟨W1.heap.size, 0, none⟩) K K)).setCell ⟨w.heap.size + 1, 1, none⟩ (.slice (some ⟨w3.heap.size, 0, none⟩) L L)) := ((Only.refl _ _).setCell _ _).setCell _ _
  have kz := u5.size
  refine bodyPost_ret (v := .agg #[.slice (some ⟨W1.heap.size, 0, none⟩) K K, .slice (some ⟨w3.heap.size, 0, none⟩) L L]) (by simp [results, Tryd.results8, go_sem, f3, f4]) rfl
    ⟨_, _, _, _, rfl, ⟨_, _, rfl, ?_, ?_⟩, ?_⟩
  · exact ((R1'.out.only k1 (by omega)).only k2 (by omega)).mono (Nat.zero_le _) (by omega)
  · exact ((R2.out.only k1 (by omega)).only k2 (by omega)).mono (Nat.zero_le _) (by omega)
  · exact B2.out.trans (u5.below (by omega) (by omega))
set_option maxHeartbeats 4000000 in
theorem eqProof_any (w : World) (v u : Value) (K : Nat) (d : Nat → Int) (L : Nat) (l : Nat → Int) (lo hi lo' hi' : Nat) (h : PrAt w v K d L l lo hi) (g : PrAt w u K d L l lo' hi') (hK : K ≤ 2000000) (hL : L ≤ 2000000) (hhi : hi ≤ w.heap.size) (hhi' : hi' ≤ w.heap.size) :
    Calls Tryd.prog 11 #[v, u] w fun e w' => e = .returned (.bool true) ∧ Below w.heap.size w w' := by
  obtain ⟨p0, c0, p1, c1, rfl⟩ := h.shape
  obtain ⟨q0, d0, q1, d1, rfl⟩ := g.shape
  obtain ⟨g0, g1⟩ := h.two
  obtain ⟨k0, k1⟩ := g.two
  have G0 := Lib.hid g0
  have G1 := Lib.hid g1
  have K0 := Lib.hid k0
  have K1 := Lib.hid k1
  clear h g g0 g1 k0 k1
  go_enter Tryd.func11, Tryd.ntmps11
  go_wp2_with fail
  generalize hW : (w.alloc _).alloc _ = W1
  have a0 : Ob W1 w.heap.size 2 (fun k => if k = 0 then .slice p0 K c0 else .slice p1 L c1) := by
    rw [← hW]
    exact (Ob.new w _ _ 2 _ rfl (by intro k hk; rcases (by omega : k = 0 ∨ k = 1) with rfl | rfl <;> rfl)).keep (Below.heap_alloc _ _ _ (by simp))
  have a1 : Ob W1 (w.heap.size + 1) 2 (fun k => if k = 0 then .slice q0 K d0 else .slice q1 L d1) := by
    rw [← hW]
    have := Ob.new (w.alloc (Obj.cells #[Value.slice p0 K c0, Value.slice p1 L c1] 37)) #[.slice q0 K d0, .slice q1 L d1] 37 2 (fun k => if k = 0 then .slice q0 K d0 else .slice q1 L d1) rfl (by intro k hk; rcases (by omega : k = 0 ∨ k = 1) with rfl | rfl <;> rfl)
    simpa using this
  have b0 : Below w.heap.size w W1 := by rw [← hW]; exact bel2 _ _ _
  have z0 : W1.heap.size = w.heap.size + 2 := by rw [← hW]; simp
  clear hW
  replace z0 := Nat.le_antisymm_iff.1 z0
  have A0 := Lib.hid a0
  have A1 := Lib.hid a1
  have B0 := Lib.hid b0
  clear a0 a1 b0
  refine (eq_any _ _ _ K d lo hi lo' hi' (G0.out.below B0.out hhi) (K0.out.below B0.out hhi') hK).mono ?_
  rintro e w2 ⟨rfl, mm, hmm⟩
  have b1 : Below W1.heap.size W1 w2 := by rw [hmm]; exact below_drNN (Below.refl _ _) mm
  clear hmm
  have B1 := Lib.hid (B0.out.trans (b1.mono (by omega)))
  have f0 := (A0.out.below b1 (by omega)).cell 1 (by omega)
  have f1 := (A1.out.below b1 (by omega)).cell 1 (by omega)
  simp only [if_false, Nat.one_ne_zero] at f0 f1
  have z1 := b1.size
  clear b1
  go_wp2_with fail
  refine (eq_any _ _ _ L l lo hi lo' hi' (G1.out.below B1.out hhi) (K1.out.below B1.out hhi') hL).mono ?_
  rintro e w3 ⟨rfl, m2, hm2⟩
  have b2 : Below w2.heap.size w2 w3 := by rw [hm2]; exact below_drNN (Below.refl _ _) m2
  clear hm2
  have B2 := Lib.hid (B1.out.trans (b2.mono (by omega)))
  clear b2
  go_wp2_with fail
  go_ret
  exact ⟨rfl, B2.out⟩
/-- what a laws.Proof reads as -/
def PrArg (W : World) (v : Value) : Prop := ∃ K d L l, PrAt W v K d L l 0 W.heap.size ∧ K ≤ 9223372036854775807 ∧ L ≤ 9223372036854775807
section
variable {H : Type} {enc : TypeId × Value → H} {w : World}
theorem open_intcs {cs : List Value} {fuel : Nat} {x : DataW H × List MemPlace} (hf : DataW.trod enc Tryd.prog w 0 (fun _ => true) true fuel 26 cs = some x) :
    ∃ v n d, cs = [v] ∧ n ≤ 9223372036854775807 ∧ Sl w v n d 0 w.heap.size := by
  rcases open_ints Tryd.underlying26 Tryd.underlying2 cells_i64 hf with ⟨rfl, hx⟩ | ⟨a, len, cap, zs, rfl, _, hl, hm, hz, hx, hcell, hwz⟩
  · exact ⟨_, 0, fun _ => 0, rfl, by omega, ⟨_, _, rfl, .inl rfl⟩⟩
  · simp only [if_true] at hz
    have hm' : cap ≤ 9223372036854775807 := by simpa [maxLen] using hm
    refine ⟨_, len, fun k => zs.getD k 0, rfl, by omega, ?_⟩
    rcases Nat.eq_zero_or_pos len with rfl | hpos
    · exact ⟨_, _, rfl, .inl rfl⟩
    · have h0 := hcell 0 (by omega)
      have hsp := plain_of_cell h0
      obtain ⟨cb, co, sp⟩ := a
      simp only at hsp
      subst hsp
      refine ⟨_, _, rfl, .inr ⟨cb, co, rfl, Nat.zero_le _, World.block_lt_of_cell? w _ h0, fun k hk => ?_⟩⟩
      have hk' := hcell k (by omega)
      rw [add_plain'] at hk'
      exact hk'
set_option maxRecDepth 100000 in
theorem open_proof {v : Value} {d : DataW H} {p : List MemPlace} {b0 : Nat} (hval : Value.okWide Tryd.prog w .any b0 28 v) (h : DataW.Trod enc Tryd.prog w 0 (fun _ => true) true 28 v d p) : PrArg w v := by
  obtain ⟨v0, v1, y0, y1, n, rfl, _, _, h0, h1⟩ := open_agg2 Tryd.underlying28 (by kernel_rfl) (by kernel_rfl) hval h
  obtain ⟨u0, K, d, e0, hK, s0⟩ := open_intcs h0
  obtain ⟨u1, L, l, e1, hL, s1⟩ := open_intcs h1
  simp only [List.cons.injEq, and_true] at e0 e1
  subst e0 e1
  exact ⟨K, d, L, l, ⟨_, _, rfl, s0, s1⟩, hK, hL⟩
end
end Go.Proofs.YtdbgcbkmcbgdiaaDoor.mem
