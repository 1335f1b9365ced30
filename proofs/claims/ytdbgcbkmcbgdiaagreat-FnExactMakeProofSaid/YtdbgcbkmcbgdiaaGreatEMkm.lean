/-
  Several texts in one: Prf, Cer, EMakeProof.
-/
import Derived.Test.YtdbgcbkmcbgdiaaGreatRows
import Derived.Test.YtdbgcbkmcbgdiaaGreatNetX
import Derived.Test.YtdbgcbkmcbgdiaaGreatIntA
import Derived.Test.YtdbgcbkmcbgdiaaGreatOpen
import Derived.Test.YtdbgcbkmcbgdiaaGreatNetCl
import Derived.WalkKit
import Derived.ProofKit
import Derived.OwnWalk
import Derived.Lib.Hide
import Derived.Deep.RegionHeld3
import Derived.Test.YtdbgcbkmcbgdiaaGreatLsv
import Derived.Test.YtdbgcbkmcbgdiaaGreatTvM
import Derived.Test.YtdbgcbkmcbgdiaaGreatTsM
import Derived.OpenShut
import Derived.ChangeMaps5
namespace Go.Proofs.YtdbgcbkmcbgdiaaGreat.mem
open Go.Joins Go.RowKit Go.ChangeShapes Go.WideShapes Go.ChangeAt Go.Deep
set_option linter.unusedVariables false

/-- what reads as a proof: K flows d, L levels l, in blocks from lo on and below hi -/
structure PrAt (w : World) (v : Value) (K : Nat) (d : Nat → Int) (L : Nat) (l : Nat → Int) (lo hi : Nat) : Prop where
  ex : ∃ v0 v1, v = .agg #[v0, v1] ∧ Sl w v0 K d lo hi ∧ Sl w v1 L l lo hi
theorem PrAt.below {w w' : World} {v : Value} {K L lo hi B : Nat} {d l : Nat → Int} (h : PrAt w v K d L l lo hi) (g : Below B w w') (hB : hi ≤ B) : PrAt w' v K d L l lo hi := by
  obtain ⟨v0, v1, rfl, h0, h1⟩ := h.ex
  exact ⟨v0, v1, rfl, h0.below g hB, h1.below g hB⟩
theorem PrAt.mono {w : World} {v : Value} {K L lo hi lo' hi' : Nat} {d l : Nat → Int} (h : PrAt w v K d L l lo hi) (h1 : lo' ≤ lo) (h2 : hi ≤ hi') : PrAt w v K d L l lo' hi' := by
  obtain ⟨v0, v1, rfl, g0, g1⟩ := h.ex
  exact ⟨v0, v1, rfl, g0.mono h1 h2, g1.mono h1 h2⟩
theorem PrAt.drew {w : World} {v : Value} {K L lo hi : Nat} {d l : Nat → Int} (h : PrAt w v K d L l lo hi) : PrAt w.drew v K d L l lo hi := h.below (B := hi) ⟨rfl, rfl, rfl, Nat.le_refl _, fun _ _ => rfl⟩ (Nat.le_refl _)
theorem PrAt.next {w w' : World} {v : Value} {K L : Nat} {d l : Nat → Int} (h : PrAt w v K d L l 0 w.heap.size) (g : Below w.heap.size w w') : PrAt w' v K d L l 0 w'.heap.size := (h.below g (Nat.le_refl _)).mono (Nat.le_refl _) g.size
theorem PrAt.shape {w : World} {v : Value} {K L lo hi : Nat} {d l : Nat → Int} (h : PrAt w v K d L l lo hi) : ∃ p0 c0 p1 c1, v = .agg #[.slice p0 K c0, .slice p1 L c1] := by
  obtain ⟨v0, v1, rfl, g0, g1⟩ := h.ex
  obtain ⟨p0, c0, e0, _⟩ := g0.ex
  obtain ⟨p1, c1, e1, _⟩ := g1.ex
  exact ⟨p0, c0, p1, c1, by rw [e0, e1]⟩
theorem PrAt.two {w : World} {p0 p1 : Option Addr} {c0 c1 : Nat} {K L lo hi : Nat} {d l : Nat → Int} (h : PrAt w (.agg #[.slice p0 K c0, .slice p1 L c1]) K d L l lo hi) : Sl w (.slice p0 K c0) K d lo hi ∧ Sl w (.slice p1 L c1) L l lo hi := by
  obtain ⟨v0, v1, e, g0, g1⟩ := h.ex
  simp only [Value.agg.injEq, Array.mk.injEq, List.cons.injEq, and_true] at e
  obtain ⟨rfl, rfl⟩ := e
  exact ⟨g0, g1⟩
/-- a proof of the call's own, its lists in blocks b1 and b2 -/
structure PrOwn (w : World) (v : Value) (K : Nat) (d : Nat → Int) (L : Nat) (l : Nat → Int) (b1 b2 : Nat) : Prop where
  ex : ∃ v0 v1, v = .agg #[v0, v1] ∧ OwnS w v0 K 1 (fun i _ => .int .i64 (d i)) b1 ∧ OwnS w v1 L 1 (fun i _ => .int .i64 (l i)) b2 ∧ (K = 0 ∨ L = 0 ∨ b1 ≠ b2)
theorem PrOwn.upd {X : Nat → Prop} {w w' : World} {v : Value} {K L b1 b2 : Nat} {d l : Nat → Int} (h : PrOwn w v K d L l b1 b2) (g : Upd X w w') (h1 : K = 0 ∨ ¬ X b1) (h2 : L = 0 ∨ ¬ X b2) : PrOwn w' v K d L l b1 b2 := by
  obtain ⟨v0, v1, rfl, g0, g1, g2⟩ := h.ex
  exact ⟨v0, v1, rfl, g0.upd g h1, g1.upd g h2, g2⟩
theorem PrOwn.below {w w' : World} {v : Value} {K L b1 b2 B : Nat} {d l : Nat → Int} (h : PrOwn w v K d L l b1 b2) (g : Below B w w') (hB : w.heap.size ≤ B) : PrOwn w' v K d L l b1 b2 := by
  obtain ⟨v0, v1, rfl, g0, g1, g2⟩ := h.ex
  exact ⟨v0, v1, rfl, g0.below g hB, g1.below g hB, g2⟩
theorem PrOwn.next {w w' : World} {v : Value} {K L b1 b2 : Nat} {d l : Nat → Int} (h : PrOwn w v K d L l b1 b2) (g : Below w.heap.size w w') : PrOwn w' v K d L l b1 b2 := h.below g (Nat.le_refl _)
theorem PrOwn.next_upd {X : Nat → Prop} {w w' : World} {v : Value} {K L b1 b2 : Nat} {d l : Nat → Int} (h : PrOwn w v K d L l b1 b2) (g : Upd X w w') (hx : (K = 0 ∨ ¬ X b1) ∧ (L = 0 ∨ ¬ X b2)) : PrOwn w' v K d L l b1 b2 := h.upd g hx.1 hx.2
theorem PrOwn.drew {w : World} {v : Value} {K L b1 b2 : Nat} {d l : Nat → Int} (h : PrOwn w v K d L l b1 b2) : PrOwn w.drew v K d L l b1 b2 := h.below (B := w.heap.size) ⟨rfl, rfl, rfl, Nat.le_refl _, fun _ _ => rfl⟩ (Nat.le_refl _)
theorem owns_all {w : World} {v : Value} {n b : Nat} {d : Nat → Int} (h : OwnS w v n 1 (fun i _ => .int .i64 (d i)) b) : Sl w v n d 0 w.heap.size := by
  obtain ⟨p', cap, hv, h1, h2, h3⟩ := h.ex
  refine ⟨p', cap, hv, ?_⟩
  rcases h3 with h3 | ⟨h3, h4⟩
  · exact .inl h3
  · refine .inr ⟨b, 0, h3, Nat.zero_le _, h4.lt, fun k hk => ?_⟩
    have := h4.cell k 0 hk (by omega)
    simpa using this
theorem PrOwn.pr {w : World} {v : Value} {K L b1 b2 : Nat} {d l : Nat → Int} (h : PrOwn w v K d L l b1 b2) : PrAt w v K d L l 0 w.heap.size := by
  obtain ⟨v0, v1, rfl, g0, g1, g2⟩ := h.ex
  exact ⟨v0, v1, rfl, owns_all g0, owns_all g1⟩
theorem PrOwn.lts {w : World} {v : Value} {K L b1 b2 : Nat} {d l : Nat → Int} (h : PrOwn w v K d L l b1 b2) : (K = 0 ∨ b1 < w.heap.size) ∧ (L = 0 ∨ b2 < w.heap.size) := by
  obtain ⟨v0, v1, rfl, g0, g1, g2⟩ := h.ex
  exact ⟨g0.lt, g1.lt⟩
theorem PrOwn.shape {w : World} {v : Value} {K L b1 b2 : Nat} {d l : Nat → Int} (h : PrOwn w v K d L l b1 b2) : ∃ p0 c0 p1 c1, v = .agg #[.slice p0 K c0, .slice p1 L c1] := h.pr.shape
theorem PrOwn.none_ (w : World) (d l : Nat → Int) (b1 b2 : Nat) : PrOwn w (.agg #[.slice none 0 0, .slice none 0 0]) 0 d 0 l b1 b2 := ⟨_, _, rfl, OwnS.none_ _ _ _ _, OwnS.none_ _ _ _ _, .inl rfl⟩
/-- a proof and a code as an answer -/
def PIPost (w : World) (K : Nat) (d : Nat → Int) (L : Nat) (l : Nat → Int) (c : Int) (e : Ending) (w' : World) : Prop :=
  ∃ v b1 b2, e = .returned (.tuple #[v, .int .i64 c]) ∧ PrOwn w' v K d L l b1 b2 ∧ w.heap.size ≤ b1 ∧ w.heap.size ≤ b2 ∧ Below w.heap.size w w'

theorem szInts_any (w : World) (p : Option Addr) (n cap : Nat) (left : Int) (h0 : 0 ≤ left) (h1 : left ≤ 1048576) (hn : n ≤ 9223372036854775807) :
    Calls Tryz.prog 83 #[.slice p n cap, .int .i64 left] w (SzPost w left n) := by
  by_cases h : left - n < 0
  all_goals
    go_enter Tryz.func83, Tryz.ntmps83
    go_wp2_with fail
    go_ret
  · exact ⟨-1, rfl, .inl rfl, Below.refl _ _⟩
  · exact ⟨left - n, rfl, .inr ⟨by omega, by omega, by omega⟩, Below.refl _ _⟩
set_option maxHeartbeats 1000000 in
theorem szProof_any (w : World) (v : Value) (K : Nat) (d : Nat → Int) (L : Nat) (l : Nat → Int) (lo hi : Nat) (left : Int) (h : PrAt w v K d L l lo hi) (hK : K ≤ 9223372036854775807) (hL : L ≤ 9223372036854775807) (h0 : 0 ≤ left) (h1 : left ≤ 1048576) :
    Calls Tryz.prog 36 #[v, .int .i64 left] w (SzPost w left (max K L)) := by
  obtain ⟨p0, c0, p1, c1, rfl⟩ := h.shape
  clear h
  go_enter Tryz.func36, Tryz.ntmps36
  have A0 := boxed w (.slice p0 K c0) (.slice p1 L c1) 62
  have e0' := A0.b0
  have e1' := A0.b1
  have hs0 : (w.alloc (.cells #[.slice p0 K c0, .slice p1 L c1] 62)).heap.size = w.heap.size + 1 := by simp
  have B0 := Lib.hid (below_new w (.cells #[.slice p0 K c0, .slice p1 L c1] 62))
  go_wp2_with fail
  refine (szInts_any _ p0 K c0 left h0 h1 hK).mono ?_
  rintro e w2 ⟨r, rfl, hr, b2⟩
  have A1 := A0.below b2 (by omega)
  have e0 := A1.b0
  have e1 := A1.b1
  have s2 := b2.size
  have s3 : w.heap.size ≤ w2.heap.size := by omega
  have B2 := Lib.hid (B0.out.trans (b2.mono (by omega)))
  clear b2 A0 e0' e1'
  rcases hr with rfl | ⟨hr0, hr1, hr2⟩
  · go_wp2_with fail
    go_ret
    exact ⟨-1, rfl, .inl rfl, B2.out⟩
  · go_wp2_with fail
    refine (szInts_any _ p1 L c1 r hr0 (by omega) hL).mono ?_
    rintro e w3 ⟨q, rfl, hq, b3⟩
    have B3 := Lib.hid (B2.out.trans (b3.mono s3))
    clear b3
    rcases hq with rfl | ⟨hq0, hq1, hq2⟩
    · go_wp2_with fail
      go_ret
      exact ⟨-1, rfl, .inl rfl, B3.out⟩
    · go_wp2_with fail
      go_ret
      exact ⟨q, rfl, .inr ⟨hq0, by omega, by omega⟩, B3.out⟩
/-- a copy of a proof -/
def NewPr (w : World) (K : Nat) (d : Nat → Int) (L : Nat) (l : Nat → Int) (e : Ending) (w' : World) : Prop :=
  ∃ p0 c0 p1 c1, e = .returned (.agg #[.slice p0 K c0, .slice p1 L c1]) ∧ PrAt w' (.agg #[.slice p0 K c0, .slice p1 L c1]) K d L l 0 w'.heap.size ∧ Below w.heap.size w w'
set_option maxHeartbeats 4000000 in
theorem toProof_any (w : World) (v : Value) (K : Nat) (d : Nat → Int) (L : Nat) (l : Nat → Int) (lo hi : Nat) (h : PrAt w v K d L l lo hi) (hK : K ≤ 2000000) (hL : L ≤ 2000000) (hhi : hi ≤ w.heap.size) :
    Calls Tryz.prog 37 #[v] w (NewPr w K d L l) := by
  obtain ⟨p0, c0, p1, c1, rfl⟩ := h.shape
  obtain ⟨g0, g1⟩ := h.two
  have G0 := Lib.hid g0
  have G1 := Lib.hid g1
  clear h g0 g1
  go_enter Tryz.func37, Tryz.ntmps37
  go_wp2_with fail
  generalize hW : ((w.alloc _).alloc _).alloc _ = W1
  have a0 : Ob W1 w.heap.size 2 (fun k => if k = 0 then .slice p0 K c0 else .slice p1 L c1) := by
    rw [← hW]
    exact ((Ob.new w _ _ 2 _ rfl (by intro k hk; rcases (by omega : k = 0 ∨ k = 1) with rfl | rfl <;> rfl)).keep (Below.heap_alloc _ _ _ (by simp))).keep (Below.heap_alloc _ _ _ (by simp; omega))
  have a1 : Ob W1 (w.heap.size + 1) 2 (fun _ => .slice none 0 0) := by
    rw [← hW]
    have := (Ob.new (w.alloc (Obj.cells #[Value.slice p0 K c0, Value.slice p1 L c1] 62)) #[.slice none 0 0, .slice none 0 0] 38 2 (fun _ => .slice none 0 0) rfl (by intro k hk; rcases (by omega : k = 0 ∨ k = 1) with rfl | rfl <;> rfl)).keep (Below.heap_alloc _ (Obj.cells #[Value.slice none 0 0, Value.slice none 0 0] 38) _ (by simp))
    simpa using this
  have a2 : Ob W1 (w.heap.size + 1 + 1) 2 (fun _ => .slice none 0 0) := by
    rw [← hW]
    have := Ob.new ((w.alloc (Obj.cells #[Value.slice p0 K c0, Value.slice p1 L c1] 62)).alloc (Obj.cells #[Value.slice none 0 0, Value.slice none 0 0] 38)) #[.slice none 0 0, .slice none 0 0] 38 2 (fun _ => .slice none 0 0) rfl (by intro k hk; rcases (by omega : k = 0 ∨ k = 1) with rfl | rfl <;> rfl)
    simpa using this
  have b0 : Below w.heap.size w W1 := by rw [← hW]; exact bel3 _ _ _ _
  have z0 : W1.heap.size = w.heap.size + 3 := by rw [← hW]; simp
  clear hW
  replace z0 := Nat.le_antisymm_iff.1 z0
  have A0 := Lib.hid a0
  have A1 := Lib.hid a1
  have A2 := Lib.hid a2
  have B0 := Lib.hid b0
  clear a0 a1 a2 b0
  refine (copy_any _ _ K d lo hi (G0.out.below B0.out hhi) hK (by omega)).mono ?_
  rintro e w2 ⟨rfl, r1, b1, zz1⟩
  have A0' := Lib.hid (A0.out.below b1 (by omega))
  have A1' := Lib.hid (A1.out.below b1 (by omega))
  have A2' := Lib.hid (A2.out.below b1 (by omega))
  have B1 := Lib.hid (B0.out.trans (b1.mono (by omega)))
  have z1 := b1.size
  have R1 := Lib.hid (show Sl w2 (.slice (some ⟨W1.heap.size, 0, none⟩) K K) K d W1.heap.size (W1.heap.size + 1) from r1.sl (Nat.le_refl _) (by omega))
  have f0 := A2'.out.cell 0 (by omega)
  have f1 := A2'.out.free 0
  have f2 := A0'.out.cell 1 (by omega)
  have z2 : W1.heap.size < w2.heap.size := by omega
  simp only [if_false, Nat.one_ne_zero] at f2
  clear b1 r1 zz1 A0 A1 A2
  go_wp2_with fail
  generalize hW : w2.setCell _ _ = w3
  have u3 : Only (w.heap.size + 1 + 1) w2 w3 := by rw [← hW]; exact (Only.refl _ _).setCell _ _
  have s3 : Ob w3 (w.heap.size + 1 + 1) 2 (updV (fun _ => .slice none 0 0) 0 (.slice (some ⟨W1.heap.size, 0, none⟩) K K)) := by rw [← hW]; exact A2'.out.set 0 _ (by omega)
  have z3 := Nat.le_antisymm_iff.1 u3.size
  clear hW f0 f1 f2
  have U3 := Lib.hid u3
  have S3 := Lib.hid s3
  clear u3 s3
  refine (copy_any _ _ L l lo hi ((G1.out.below B1.out hhi).only U3.out (by omega)) hL (by omega)).mono ?_
  rintro e w4 ⟨rfl, r2, b2, zz2⟩
  have S4 := Lib.hid (S3.out.below b2 (by omega))
  have A1'' := Lib.hid ((A1'.out.only U3.out (by omega)).below b2 (by omega))
  have R1' := Lib.hid ((R1.out.only U3.out (by omega)).below b2 (by omega))
  have B2 := Lib.hid ((below_only B1.out U3.out (by omega)).trans (b2.mono (by omega)))
  have R2 := Lib.hid (show Sl w4 (.slice (some ⟨w3.heap.size, 0, none⟩) L L) L l w3.heap.size (w3.heap.size + 1) from r2.sl (Nat.le_refl _) (by omega))
  have z4 := b2.size
  have z5 : w3.heap.size < w4.heap.size := by omega
  have f0 := S4.out.cell 0 (by omega)
  have f1 := S4.out.free 1
  have f2 := S4.out.cell 1 (by omega)
  have f3 := A1''.out.cell 0 (by omega)
  have f4 := A1''.out.cell 1 (by omega)
  have f5 := A1''.out.free 0
  have f6 := A1''.out.free 1
  simp only [updV, if_true, if_false, Nat.one_ne_zero] at f0 f2
  clear b2 r2 zz2
  go_wp2_with fail
  have u5 : Upd (fun k => k = w.heap.size + 1 + 1 ∨ k = w.heap.size + 1) w4 (((w4.setCell ⟨w.heap.size + 1 + 1, 1, none⟩ (.slice (some ⟨w3.heap.size, 0, none⟩) L L)).setCell ⟨w.heap.size + 1, 0, none⟩ (.slice (some ⟨W1.heap.size, 0, none⟩) K K)).setCell ⟨w.heap.size + 1, 1, none⟩ (.slice (some ⟨w3.heap.size, 0, none⟩) L L)) :=
    ((Upd.of_only ((Only.refl _ w4).setCell _ _)).mono (fun k _ e => .inl e)).trans ((Upd.of_only (((Only.refl _ _).setCell _ _).setCell _ _)).mono (fun k _ e => .inr e))
  have k1 : Only (w.heap.size + 1 + 1) w4 (w4.setCell ⟨w.heap.size + 1 + 1, 1, none⟩ (.slice (some ⟨w3.heap.size, 0, none⟩) L L)) := (Only.refl _ w4).setCell _ _
  have k2 : Only (w.heap.size + 1) (w4.setCell ⟨w.heap.size + 1 + 1, 1, none⟩ (.slice (some ⟨w3.heap.size, 0, none⟩) L L)) (((w4.setCell ⟨w.heap.size + 1 + 1, 1, none⟩ (.slice (some ⟨w3.heap.size, 0, none⟩) L L)).setCell ⟨w.heap.size + 1, 0, none⟩ (.slice (some ⟨W1.heap.size, 0, none⟩) K K)).setCell ⟨w.heap.size + 1, 1, none⟩ (.slice (some ⟨w3.heap.size, 0, none⟩) L L)) := ((Only.refl _ _).setCell _ _).setCell _ _
  have kz := u5.size
  refine bodyPost_ret (v := .agg #[.slice (some ⟨W1.heap.size, 0, none⟩) K K, .slice (some ⟨w3.heap.size, 0, none⟩) L L]) (by simp [results, Tryz.results37, go_sem, f3, f4]) rfl
    ⟨_, _, _, _, rfl, ⟨_, _, rfl, ?_, ?_⟩, ?_⟩
  · exact ((R1'.out.only k1 (by omega)).only k2 (by omega)).mono (Nat.zero_le _) (by omega)
  · exact ((R2.out.only k1 (by omega)).only k2 (by omega)).mono (Nat.zero_le _) (by omega)
  · exact B2.out.trans (u5.below (by omega) (by omega))
set_option maxHeartbeats 4000000 in
theorem eqProof_any (w : World) (v u : Value) (K : Nat) (d : Nat → Int) (L : Nat) (l : Nat → Int) (lo hi lo' hi' : Nat) (h : PrAt w v K d L l lo hi) (g : PrAt w u K d L l lo' hi') (hK : K ≤ 2000000) (hL : L ≤ 2000000) (hhi : hi ≤ w.heap.size) (hhi' : hi' ≤ w.heap.size) :
    Calls Tryz.prog 33 #[v, u] w fun e w' => e = .returned (.bool true) ∧ Below w.heap.size w w' := by
  obtain ⟨p0, c0, p1, c1, rfl⟩ := h.shape
  obtain ⟨q0, d0, q1, d1, rfl⟩ := g.shape
  obtain ⟨g0, g1⟩ := h.two
  obtain ⟨k0, k1⟩ := g.two
  have G0 := Lib.hid g0
  have G1 := Lib.hid g1
  have K0 := Lib.hid k0
  have K1 := Lib.hid k1
  clear h g g0 g1 k0 k1
  go_enter Tryz.func33, Tryz.ntmps33
  go_wp2_with fail
  generalize hW : (w.alloc _).alloc _ = W1
  have a0 : Ob W1 w.heap.size 2 (fun k => if k = 0 then .slice p0 K c0 else .slice p1 L c1) := by
    rw [← hW]
    exact (Ob.new w _ _ 2 _ rfl (by intro k hk; rcases (by omega : k = 0 ∨ k = 1) with rfl | rfl <;> rfl)).keep (Below.heap_alloc _ _ _ (by simp))
  have a1 : Ob W1 (w.heap.size + 1) 2 (fun k => if k = 0 then .slice q0 K d0 else .slice q1 L d1) := by
    rw [← hW]
    have := Ob.new (w.alloc (Obj.cells #[Value.slice p0 K c0, Value.slice p1 L c1] 38)) #[.slice q0 K d0, .slice q1 L d1] 38 2 (fun k => if k = 0 then .slice q0 K d0 else .slice q1 L d1) rfl (by intro k hk; rcases (by omega : k = 0 ∨ k = 1) with rfl | rfl <;> rfl)
    simpa using this
  have b0 : Below w.heap.size w W1 := by rw [← hW]; exact bel2 _ _ _
  have z0 : W1.heap.size = w.heap.size + 2 := by rw [← hW]; simp
  clear hW
  replace z0 := Nat.le_antisymm_iff.1 z0
  have A0 := Lib.hid a0
  have A1 := Lib.hid a1
  have B0 := Lib.hid b0
  clear a0 a1 b0
  refine (eq_any _ _ _ K d lo hi lo' hi' (G0.out.below B0.out hhi) (K0.out.below B0.out hhi') hK).mono ?_
  rintro e w2 ⟨rfl, mm, hmm⟩
  have b1 : Below W1.heap.size W1 w2 := by rw [hmm]; exact below_drNN (Below.refl _ _) mm
  clear hmm
  have B1 := Lib.hid (B0.out.trans (b1.mono (by omega)))
  have f0 := (A0.out.below b1 (by omega)).cell 1 (by omega)
  have f1 := (A1.out.below b1 (by omega)).cell 1 (by omega)
  simp only [if_false, Nat.one_ne_zero] at f0 f1
  have z1 := b1.size
  clear b1
  go_wp2_with fail
  refine (eq_any _ _ _ L l lo hi lo' hi' (G1.out.below B1.out hhi) (K1.out.below B1.out hhi') hL).mono ?_
  rintro e w3 ⟨rfl, m2, hm2⟩
  have b2 : Below w2.heap.size w2 w3 := by rw [hm2]; exact below_drNN (Below.refl _ _) m2
  clear hm2
  have B2 := Lib.hid (B1.out.trans (b2.mono (by omega)))
  clear b2
  go_wp2_with fail
  go_ret
  exact ⟨rfl, B2.out⟩
set_option maxHeartbeats 4000000 in
theorem markProof_any (w : World) (v : Value) (K : Nat) (d : Nat → Int) (L : Nat) (l : Nat → Int) (b1 b2 : Nat) (k : Nat) (h : PrOwn w v K d L l b1 b2) (hK : K ≤ 2000000) (hL : L ≤ 2000000) (k1 : k ≤ 100000000) :
    Calls Tryz.prog 34 #[v, .int .i64 k] w fun e w' => e = .returned (.int .i64 (k + K + L : Nat)) ∧ PrOwn w' v K (fun j => (k : Int) + j) L (fun j => ((k + K : Nat) : Int) + j) b1 b2 ∧ Upd (fun x => (K ≠ 0 ∧ x = b1) ∨ (L ≠ 0 ∧ x = b2)) w w' := by
  obtain ⟨v0, v1, rfl, g0, g1, gne⟩ := h.ex
  obtain ⟨p0, c0, rfl⟩ : ∃ p c, v0 = .slice p K c := by
    obtain ⟨p, c, e, _⟩ := g0.ex
    exact ⟨p, c, e⟩
  obtain ⟨p1, c1, rfl⟩ : ∃ p c, v1 = .slice p L c := by
    obtain ⟨p, c, e, _⟩ := g1.ex
    exact ⟨p, c, e⟩
  have G0 := Lib.hid g0
  have G1 := Lib.hid g1
  have GN := Lib.hid gne
  clear h g0 g1 gne
  obtain ⟨k', hk'⟩ : ∃ k', k' = k + K := ⟨_, rfl⟩
  go_enter Tryz.func34, Tryz.ntmps34
  go_wp2_with fail
  have a0 : Ob (w.alloc (Obj.cells #[Value.slice p0 K c0, Value.slice p1 L c1] 38)) w.heap.size 2 (fun k => if k = 0 then .slice p0 K c0 else .slice p1 L c1) := Ob.new w _ _ 2 _ rfl (by intro k hk; rcases (by omega : k = 0 ∨ k = 1) with rfl | rfl <;> rfl)
  have A0 := Lib.hid a0
  clear a0
  have l0 := Lib.hid G0.out.lt
  have l1 := Lib.hid G1.out.lt
  refine (markInts_any _ _ K b1 d k (G0.out.below (below_new _ _) (Nat.le_refl _)) hK (by omega)).mono ?_
  rintro e w2 ⟨rfl, r1, u1⟩
  rw [← hk']
  have HK := Lib.hid hk'
  have hk3 : k' ≤ 200000000 := by omega
  have f0 := (A0.out.keep (u1.block w.heap.size (by simp) (by have := l0.out; omega))).cell 1 (by omega)
  simp only [if_false, Nat.one_ne_zero] at f0
  have z1 := u1.size
  have z2 : w.heap.size ≤ w2.heap.size := by simp at z1; omega
  have U0 : Upd (fun x => (K ≠ 0 ∧ x = b1) ∨ (L ≠ 0 ∧ x = b2)) w (w.alloc (Obj.cells #[Value.slice p0 K c0, Value.slice p1 L c1] 38)) := Upd.of_below (below_new _ _)
  have U1 := Lib.hid (U0.trans (u1.mono (fun k _ e => .inl e)))
  have g1' := Lib.hid ((G1.out.below (below_new _ (Obj.cells #[Value.slice p0 K c0, Value.slice p1 L c1] 38)) (Nat.le_refl _)).upd u1 (by have := GN.out; have := l0.out; have := l1.out; omega))
  have R1 := Lib.hid r1
  clear u1 U0 r1 z1 hk' A0
  go_wp2_with fail
  refine (markInts_any _ _ L b2 l k' g1'.out hL (by omega)).mono ?_
  rintro e w3 ⟨rfl, r2, u2⟩
  have U2 := Lib.hid (U1.out.trans (u2.mono (fun k _ e => .inr e)))
  have R2 := Lib.hid r2
  have R1' := Lib.hid (R1.out.upd u2 (by have := GN.out; omega))
  clear r2 u2
  go_wp2_with fail
  go_ret
  refine ⟨ret_i (by have := HK.out; omega), ⟨_, _, rfl, R1'.out, ?_, GN.out⟩, U2.out⟩
  have := R2.out
  rw [HK.out] at this
  exact this
set_option maxHeartbeats 4000000 in
theorem heldProof_any (w : World) (v : Value) (K L b1 b2 : Nat) (k : Nat) (h : PrOwn w v K (fun j => (k : Int) + j) L (fun j => ((k + K : Nat) : Int) + j) b1 b2) (hK : K ≤ 2000000) (hL : L ≤ 2000000) (k1 : k ≤ 100000000) :
    Calls Tryz.prog 35 #[v, .int .i64 k] w fun e w' => e = .returned (.int .i64 (k + K + L : Nat)) ∧ Below w.heap.size w w' := by
  obtain ⟨v0, v1, rfl, g0, g1, gne⟩ := h.ex
  obtain ⟨p0, c0, rfl⟩ : ∃ p c, v0 = .slice p K c := by
    obtain ⟨p, c, e, _⟩ := g0.ex
    exact ⟨p, c, e⟩
  obtain ⟨p1, c1, rfl⟩ : ∃ p c, v1 = .slice p L c := by
    obtain ⟨p, c, e, _⟩ := g1.ex
    exact ⟨p, c, e⟩
  have G0 := Lib.hid g0
  obtain ⟨k', hk'⟩ : ∃ k', k' = k + K := ⟨_, rfl⟩
  rw [← hk'] at g1
  have G1 := Lib.hid g1
  clear h g0 g1 gne
  have hk2 : ¬ ((k' : Int) < 0) := by omega
  go_enter Tryz.func35, Tryz.ntmps35
  go_wp2_with fail
  have a0 : Ob (w.alloc (Obj.cells #[Value.slice p0 K c0, Value.slice p1 L c1] 38)) w.heap.size 2 (fun k => if k = 0 then .slice p0 K c0 else .slice p1 L c1) := Ob.new w _ _ 2 _ rfl (by intro k hk; rcases (by omega : k = 0 ∨ k = 1) with rfl | rfl <;> rfl)
  have A0 := Lib.hid a0
  clear a0
  refine (heldInts_any _ _ K k 0 w.heap.size ((G0.out.cs (.inr rfl) (Nat.le_refl _)).below (below_new _ _) (Nat.le_refl _)) hK (by omega)).mono ?_
  rintro e w2 ⟨rfl, b1⟩
  rw [← hk']
  have HK := Lib.hid hk'
  have hk3 : k' ≤ 200000000 := by omega
  have B1 := Lib.hid ((below_new w _).trans (b1.mono (by simp)))
  have f0 := (A0.out.below b1 (by simp)).cell 1 (by omega)
  simp only [if_false, Nat.one_ne_zero] at f0
  have z1 := b1.size
  have z2 : w.heap.size ≤ w2.heap.size := by simp at z1; omega
  clear b1 A0 z1 hk'
  go_wp2_with fail
  refine (heldInts_any _ _ L k' 0 w.heap.size ((G1.out.cs (.inr rfl) (Nat.le_refl _)).below B1.out (Nat.le_refl _)) hL (by omega)).mono ?_
  rintro e w3 ⟨rfl, b2⟩
  have B2 := Lib.hid (B1.out.trans (b2.mono z2))
  have hk4 : ¬ (((k' + L : Nat) : Int) < 0) := by omega
  clear b2
  generalize hk5 : k' + L = k5 at *
  have HK5 := Lib.hid hk5
  clear hk5
  go_wp2_with fail
  go_ret
  exact ⟨ret_i (by have := HK.out; have := HK5.out; omega), B2.out⟩
theorem mark1P (w : World) (v : Value) (K : Nat) (d : Nat → Int) (L : Nat) (l : Nat → Int) (b1 b2 q : Nat) (hq : q = 1 + K + L) (h : PrOwn w v K d L l b1 b2) (hK : K ≤ 2000000) (hL : L ≤ 2000000) :
    Calls Tryz.prog 34 #[v, .int .i64 1] w fun e w' => e = .returned (.int .i64 q) ∧ PrOwn w' v K (fun j => ((1 : Nat) : Int) + j) L (fun j => ((1 + K : Nat) : Int) + j) b1 b2 ∧ Upd (fun x => (K ≠ 0 ∧ x = b1) ∨ (L ≠ 0 ∧ x = b2)) w w' := by
  have := markProof_any w v K d L l b1 b2 1 h hK hL (by omega)
  rw [← hq] at this
  exact this
theorem held1P (w : World) (v : Value) (K L b1 b2 q : Nat) (hq : q = 1 + K + L) (h : PrOwn w v K (fun j => ((1 : Nat) : Int) + j) L (fun j => ((1 + K : Nat) : Int) + j) b1 b2) (hK : K ≤ 2000000) (hL : L ≤ 2000000) :
    Calls Tryz.prog 35 #[v, .int .i64 1] w fun e w' => e = .returned (.int .i64 q) ∧ Below w.heap.size w w' := by
  have := heldProof_any w v K L b1 b2 1 h hK hL (by omega)
  rw [← hq] at this
  exact this
/-- what a laws.Proof reads as -/
def PrArg (W : World) (v : Value) : Prop := ∃ K d L l, PrAt W v K d L l 0 W.heap.size ∧ K ≤ 9223372036854775807 ∧ L ≤ 9223372036854775807
section
variable {H : Type} {enc : TypeId × Value → H} {w : World}
theorem open_intcs {cs : List Value} {fuel : Nat} {x : DataW H × List MemPlace} (hf : DataW.trod enc Tryz.prog w 0 (fun _ => true) true fuel 28 cs = some x) :
    ∃ v n d, cs = [v] ∧ n ≤ 9223372036854775807 ∧ Sl w v n d 0 w.heap.size := by
  rcases open_ints Tryz.underlying28 Tryz.underlying2 cells_i64 hf with ⟨rfl, hx⟩ | ⟨a, len, cap, zs, rfl, _, hl, hm, hz, hx, hcell, hwz⟩
  · exact ⟨_, 0, fun _ => 0, rfl, by omega, ⟨_, _, rfl, .inl rfl⟩⟩
  · simp only [if_true] at hz
    have hm' : cap ≤ 9223372036854775807 := by simpa [maxLen] using hm
    refine ⟨_, len, fun k => zs.getD k 0, rfl, by omega, ?_⟩
    rcases Nat.eq_zero_or_pos len with rfl | hpos
    · exact ⟨_, _, rfl, .inl rfl⟩
    · have h0 := hcell 0 (by omega)
      have hsp := plain_of_cell h0
      obtain ⟨cb, co, sp⟩ := a
      simp only at hsp
      subst hsp
      refine ⟨_, _, rfl, .inr ⟨cb, co, rfl, Nat.zero_le _, World.block_lt_of_cell? w _ h0, fun k hk => ?_⟩⟩
      have hk' := hcell k (by omega)
      rw [add_plain'] at hk'
      exact hk'
set_option maxRecDepth 100000 in
theorem open_proof {v : Value} {d : DataW H} {p : List MemPlace} {b0 : Nat} (hval : Value.okWide Tryz.prog w .any b0 62 v) (h : DataW.Trod enc Tryz.prog w 0 (fun _ => true) true 62 v d p) : PrArg w v := by
  obtain ⟨v0, v1, y0, y1, n, rfl, _, _, h0, h1⟩ := open_agg2 Tryz.underlying62 (by kernel_rfl) (by kernel_rfl) hval h
  obtain ⟨u0, K, d, e0, hK, s0⟩ := open_intcs h0
  obtain ⟨u1, L, l, e1, hL, s1⟩ := open_intcs h1
  simp only [List.cons.injEq, and_true] at e0 e1
  subst e0 e1
  exact ⟨K, d, L, l, ⟨_, _, rfl, s0, s1⟩, hK, hL⟩
end
end Go.Proofs.YtdbgcbkmcbgdiaaGreat.mem

namespace Go.Proofs.YtdbgcbkmcbgdiaaGreat.mem
open Go.RowKit
set_option linter.unusedVariables false

noncomputable def coC (n : Nat) (N : Nat → Nod) (m : Nat) (P : Nat → Pip) (K : Nat) (d : Nat → Int) : Int := if svC n N m P K d = 0 then (if conB n N m P = true then 0 else 5) else svC n N m P K d
theorem coC_ok {n : Nat} {N : Nat → Nod} {m : Nat} {P : Nat → Pip} {K : Nat} {d : Nat → Int} (h : coC n N m P K d = 0) : svC n N m P K d = 0 ∧ conB n N m P = true := by
  unfold coC at h
  split at h
  · next h0 =>
    split at h
    · next h1 => exact ⟨h0, h1⟩
    · omega
  · next h0 => exact absurd h h0
noncomputable def mkC (n : Nat) (N : Nat → Nod) (m : Nat) (P : Nat → Pip) (K : Nat) (d : Nat → Int) (lv : Int) : Int := if coC n N m P K d = 0 then (if rlB lv = true then ffC n N m P K d else 2) else coC n N m P K d
noncomputable def mkN (n : Nat) (N : Nat → Nod) (m : Nat) (P : Nat → Pip) (K : Nat) (d : Nat → Int) (lv : Int) : Nat := if mkC n N m P K d lv = 0 then m else 0
noncomputable def mkL (n : Nat) (N : Nat → Nod) (m : Nat) (P : Nat → Pip) (K : Nat) (d : Nat → Int) (lv : Int) : Nat := if mkC n N m P K d lv = 0 then n else 0
def mkF (n : Nat) (m : Nat) (P : Nat → Pip) (d : Nat → Int) : Nat → Int := (rfR n m P (fflN n P m d) 32768).1
def mkV (n : Nat) (m : Nat) (P : Nat → Pip) (d : Nat → Int) (lv : Int) : Nat → Int := fun j => lvl n P m (mkF n m P d) ((0 : Nat) : Int) lv (j : Nat)
theorem mk_no {n : Nat} {N : Nat → Nod} {m : Nat} {P : Nat → Pip} {K : Nat} {d : Nat → Int} {lv c : Int} (h : mkC n N m P K d lv = c) (hc : c ≠ 0) : mkN n N m P K d lv = 0 ∧ mkL n N m P K d lv = 0 := by
  unfold mkN mkL
  rw [h]
  exact ⟨if_neg hc, if_neg hc⟩
theorem mk_yes {n : Nat} {N : Nat → Nod} {m : Nat} {P : Nat → Pip} {K : Nat} {d : Nat → Int} {lv : Int} (h : mkC n N m P K d lv = 0) : mkN n N m P K d lv = m ∧ mkL n N m P K d lv = n := by
  unfold mkN mkL
  exact ⟨if_pos h, if_pos h⟩
theorem rf_rng {n m : Nat} {P : Nat → Pip} {x : Nat → Int} {st : Int} (hx : ∀ k, k < m → -30000 ≤ x k ∧ x k ≤ 30000) : ∀ k, k < m → -30000 ≤ (rfR n m P x st).1 k ∧ (rfR n m P x st).1 k ≤ 30000 := by
  unfold rfR rlx
  exact rlS_rng _ hx
theorem mkF_rng {n : Nat} {N : Nat → Nod} {m : Nat} {P : Nat → Pip} {K : Nat} {d : Nat → Int} (h : ffC n N m P K d = 0) : ∀ k, k < m → -30000 ≤ mkF n m P d k ∧ mkF n m P d k ≤ 30000 := by
  obtain ⟨_, _, _, _, hff⟩ := ffC_ok h
  exact rf_rng (fun k hk => flQ_iff.1 (flB_iff.1 hff k hk))
theorem pi_err {w w' : World} {K L : Nat} {d l : Nat → Int} {c c' : Int} {e : Ending} (h0 : K = 0 ∧ L = 0) (hc : c = c') (he : e = .returned (.tuple #[.agg #[.slice none 0 0, .slice none 0 0], .int .i64 c])) (hb : Below w.heap.size w w') : PIPost w K d L l c' e w' := by
  obtain ⟨rfl, rfl⟩ := h0
  subst hc
  exact ⟨_, w.heap.size, w.heap.size, he, PrOwn.none_ _ _ _ _ _, Nat.le_refl _, Nat.le_refl _, hb⟩
set_option maxRecDepth 100000 in
set_option maxHeartbeats 8000000 in
theorem checkConnected_any (w : World) (v : Value) (n : Nat) (N : Nat → Nod) (m : Nat) (P : Nat → Pip) (lo hi : Nat) (h : NetAt w v n N m P lo hi) (hhi : hi ≤ w.heap.size) (hN : ∀ i, i < n → (N i).s.size ≤ 9223372036854775807) (va : Value) (K : Nat) (d : Nat → Int) (la ha : Nat) (hv : Sl w va K d la ha) (hha : ha ≤ w.heap.size) (hK9 : K ≤ 9223372036854775807) :
    Calls Tryz.prog 59 #[v, va] w (fun e w' => e = .returned (.int .i64 (coC n N m P K d)) ∧ Below w.heap.size w w') := by
  obtain ⟨p0, c0, p1, c1, rfl, hn9, hm9⟩ := h.parts
  have HV := Lib.hid h
  have HN := Lib.hid hN
  obtain ⟨pa, ca, rfl⟩ := hv.sh
  have HSV := Lib.hid hv
  have A0 := boxed w (.slice p0 n c0) (.slice p1 m c1) 27
  have B0 := below_new w (.cells #[.slice p0 n c0, .slice p1 m c1] 27)
  have hs0 : (w.alloc (.cells #[.slice p0 n c0, .slice p1 m c1] 27)).heap.size = w.heap.size + 1 := by simp
  clear h hN hv
  go_enter Tryz.func59, Tryz.ntmps59
  have e0 := A0.b0
  have e1 := A0.b1
  have f2 : w.heap.size < (w.alloc (.cells #[.slice p0 n c0, .slice p1 m c1] 27)).heap.size := by omega
  go_wp2_with fail
  refine (checkSupplies_any _ _ n N m P lo hi (HV.out.below B0 hhi) (by omega) HN.out _ K d la ha (HSV.out.below B0 hha) (by omega) hK9).mono ?_
  rintro e w1 ⟨rfl, b1⟩
  have A1 := A0.below b1 (by omega)
  have B1 := B0.trans (b1.mono (by omega))
  have hs1 := b1.size
  have g2 : w.heap.size < w1.heap.size := by omega
  have z1 := hs1
  clear A0 B0 b1 e0 e1 f2 hs1 hs0
  have f2 := g2
  clear g2
  have e0 := A1.b0
  have e1 := A1.b1
  by_cases hc : svC n N m P K d = 0
  · obtain ⟨hB, _, _⟩ := svC_ok hc
    have HSC := Lib.hid hc
    rw [hc]
    clear hc
    cases hC : conB n N m P
    ·
      go_wp2_with fail
      refine (isConnectedI_any _ _ n N m P lo hi (HV.out.below B1 hhi) (by omega) HN.out).mono ?_
      rintro e w2 ⟨rfl, b2⟩
      have A2 := A1.below b2 (by omega)
      have B2 := B1.trans (b2.mono (by omega))
      have hs2 := b2.size
      have g2 : w.heap.size < w2.heap.size := by omega
      have z2 := hs2
      clear A1 B1 b2 e0 e1 f2 hs2
      have f2 := g2
      clear g2
      have e0 := A2.b0
      have e1 := A2.b1
      rw [hC]
      have H4 := Lib.hid (show coC n N m P K d = 5 by unfold coC; rw [if_pos HSC.out, hC]; rfl)
      go_wp2_with fail
      go_ret
      exact ⟨ret_i H4.out.symm, B2⟩
    ·
      go_wp2_with fail
      refine (isConnectedI_any _ _ n N m P lo hi (HV.out.below B1 hhi) (by omega) HN.out).mono ?_
      rintro e w2 ⟨rfl, b2⟩
      have A2 := A1.below b2 (by omega)
      have B2 := B1.trans (b2.mono (by omega))
      have hs2 := b2.size
      have g2 : w.heap.size < w2.heap.size := by omega
      have z2 := hs2
      clear A1 B1 b2 e0 e1 f2 hs2
      have f2 := g2
      clear g2
      have e0 := A2.b0
      have e1 := A2.b1
      rw [hC]
      have H4 := Lib.hid (show coC n N m P K d = 0 by unfold coC; rw [if_pos HSC.out, hC]; rfl)
      go_wp2_with fail
      go_ret
      exact ⟨ret_i H4.out.symm, B2⟩
  · have H4 := Lib.hid (show coC n N m P K d = svC n N m P K d by unfold coC; rw [if_neg hc])
    have hb1 : (svC n N m P K d == 0) = false := by simpa using hc
    have hb2 : (svC n N m P K d != 0) = true := by simpa using hc
    clear hc
    go_wp2_with fail
    go_ret
    exact ⟨ret_i H4.out.symm, B1⟩
set_option maxRecDepth 100000 in
set_option maxHeartbeats 8000000 in
theorem l12Code_any (w : World) (v : Value) (n : Nat) (N : Nat → Nod) (m : Nat) (P : Nat → Pip) (lo hi : Nat) (h : NetAt w v n N m P lo hi) (hhi : hi ≤ w.heap.size) (hN : ∀ i, i < n → (N i).s.size ≤ 9223372036854775807) (va : Value) (K : Nat) (d : Nat → Int) (la ha : Nat) (hv : Sl w va K d la ha) (hha : ha ≤ w.heap.size) (hK9 : K ≤ 9223372036854775807) :
    Calls Tryz.prog 63 #[v, va] w (fun e w' => e = .returned (.int .i64 (coC n N m P K d)) ∧ Below w.heap.size w w') := by
  obtain ⟨p0, c0, p1, c1, rfl, hn9, hm9⟩ := h.parts
  have HV := Lib.hid h
  have HN := Lib.hid hN
  obtain ⟨pa, ca, rfl⟩ := hv.sh
  have HSV := Lib.hid hv
  have A0 := boxed w (.slice p0 n c0) (.slice p1 m c1) 27
  have B0 := below_new w (.cells #[.slice p0 n c0, .slice p1 m c1] 27)
  have hs0 : (w.alloc (.cells #[.slice p0 n c0, .slice p1 m c1] 27)).heap.size = w.heap.size + 1 := by simp
  clear h hN hv
  go_enter Tryz.func63, Tryz.ntmps63
  have e0 := A0.b0
  have e1 := A0.b1
  have f2 : w.heap.size < (w.alloc (.cells #[.slice p0 n c0, .slice p1 m c1] 27)).heap.size := by omega
  go_wp2_with fail
  refine (l06Code_any _ _ n N m P lo hi (HV.out.below B0 hhi) (by omega) HN.out _ K d la ha (HSV.out.below B0 hha) (by omega) hK9).mono ?_
  rintro e w1 ⟨rfl, b1⟩
  have A1 := A0.below b1 (by omega)
  have B1 := B0.trans (b1.mono (by omega))
  have hs1 := b1.size
  have g2 : w.heap.size < w1.heap.size := by omega
  have z1 := hs1
  clear A0 B0 b1 e0 e1 f2 hs1 hs0
  have f2 := g2
  clear g2
  have e0 := A1.b0
  have e1 := A1.b1
  by_cases hc : svC n N m P K d = 0
  · obtain ⟨hB, _, _⟩ := svC_ok hc
    have HSC := Lib.hid hc
    rw [hc]
    clear hc
    cases hC : conB n N m P
    ·
      have hcn : ((cnt n P m : Int) != 1) = true := by
        unfold conB at hC
        rw [hB] at hC
        simp only [Bool.true_and, decide_eq_false_iff_not] at hC
        simp only [bne_iff_ne, ne_eq]
        omega
      go_wp2_with fail
      refine (l04Count_any _ _ n N m P lo hi (HV.out.below B1 hhi) (by omega) HN.out hB).mono ?_
      rintro e w2 ⟨rfl, b2⟩
      have A2 := A1.below b2 (by omega)
      have B2 := B1.trans (b2.mono (by omega))
      have hs2 := b2.size
      have g2 : w.heap.size < w2.heap.size := by omega
      have z2 := hs2
      clear A1 B1 b2 e0 e1 f2 hs2
      have f2 := g2
      clear g2
      have e0 := A2.b0
      have e1 := A2.b1
      have H4 := Lib.hid (show coC n N m P K d = 5 by unfold coC; rw [if_pos HSC.out, hC]; rfl)
      go_wp2_with fail
      go_ret
      exact ⟨ret_i H4.out.symm, B2⟩
    ·
      have hcn : ((cnt n P m : Int) != 1) = false := by
        have := (conB_one hC).2
        rw [this]
        rfl
      go_wp2_with fail
      refine (l04Count_any _ _ n N m P lo hi (HV.out.below B1 hhi) (by omega) HN.out hB).mono ?_
      rintro e w2 ⟨rfl, b2⟩
      have A2 := A1.below b2 (by omega)
      have B2 := B1.trans (b2.mono (by omega))
      have hs2 := b2.size
      have g2 : w.heap.size < w2.heap.size := by omega
      have z2 := hs2
      clear A1 B1 b2 e0 e1 f2 hs2
      have f2 := g2
      clear g2
      have e0 := A2.b0
      have e1 := A2.b1
      have H4 := Lib.hid (show coC n N m P K d = 0 by unfold coC; rw [if_pos HSC.out, hC]; rfl)
      go_wp2_with fail
      go_ret
      exact ⟨ret_i H4.out.symm, B2⟩
  · have H4 := Lib.hid (show coC n N m P K d = svC n N m P K d by unfold coC; rw [if_neg hc])
    have hb1 : (svC n N m P K d == 0) = false := by simpa using hc
    have hb2 : (svC n N m P K d != 0) = true := by simpa using hc
    clear hc
    go_wp2_with fail
    go_ret
    exact ⟨ret_i H4.out.symm, B1⟩
set_option maxRecDepth 100000 in
set_option maxHeartbeats 8000000 in
theorem makeProofI_any (w : World) (v : Value) (n : Nat) (N : Nat → Nod) (m : Nat) (P : Nat → Pip) (lo hi : Nat) (h : NetAt w v n N m P lo hi) (hhi : hi ≤ w.heap.size) (hN : ∀ i, i < n → (N i).s.size ≤ 9223372036854775807) (va : Value) (K : Nat) (d : Nat → Int) (la ha : Nat) (hv : Sl w va K d la ha) (hha : ha ≤ w.heap.size) (hK9 : K ≤ 9223372036854775807) (lv : Int) :
    Calls Tryz.prog 16 #[v, va, .int .i64 lv] w (PIPost w (mkN n N m P K d lv) (mkF n m P d) (mkL n N m P K d lv) (mkV n m P d lv) (mkC n N m P K d lv)) := by
  obtain ⟨p0, c0, p1, c1, rfl, hn9, hm9⟩ := h.parts
  have HV := Lib.hid h
  have HN := Lib.hid hN
  obtain ⟨pa, ca, rfl⟩ := hv.sh
  have HSV := Lib.hid hv
  have A0 := (boxed w (.slice p0 n c0) (.slice p1 m c1) 27).keep (Below.heap_alloc _ (.cells #[.slice none 0 0, .slice none 0 0] 38) _ (by rw [szal]; omega))
  have R0 := boxed (w.alloc (.cells #[.slice p0 n c0, .slice p1 m c1] 27)) (.slice none 0 0) (.slice none 0 0) 38
  simp only [szal] at R0
  have B0 := bel2 w (.cells #[.slice p0 n c0, .slice p1 m c1] 27) (.cells #[.slice none 0 0, .slice none 0 0] 38)
  have hs0 : ((w.alloc (.cells #[.slice p0 n c0, .slice p1 m c1] 27)).alloc (.cells #[.slice none 0 0, .slice none 0 0] 38)).heap.size = w.heap.size + 1 + 1 := by simp
  clear h hN hv
  go_enter Tryz.func16, Tryz.ntmps16
  go_upto_region 1 with (fail)
  obtain ⟨w1, hw1⟩ : ∃ w1, (w.alloc (.cells #[.slice p0 n c0, .slice p1 m c1] 27)).alloc (.cells #[.slice none 0 0, .slice none 0 0] 38) = w1 := ⟨_, rfl⟩
  rw [hw1] at A0 R0 B0 hs0 ⊢
  have f2 := Nat.le_antisymm_iff.1 hs0
  clear hw1 hs0
  have e0 := A0.b0
  have e1 := A0.b1
  have r0 := R0.b0
  have r1 := R0.b1
  have r2 := R0.free 0
  have r3 := R0.free 1
  go_wp2_with fail
  refine (checkConnected_any _ _ n N m P lo hi (HV.out.below B0 hhi) (by omega) HN.out _ K d la ha (HSV.out.below B0 hha) (by omega) hK9).mono ?_
  rintro e w2 ⟨rfl, b2⟩
  have A2 := A0.below b2 (by omega)
  have R2 := R0.below b2 (by omega)
  have B2 := B0.trans (b2.mono (by omega))
  have z2 := b2.size
  have u2 : w.heap.size + 1 < w2.heap.size := by omega
  clear A0 R0 B0 b2 e0 e1 r0 r1 r2 r3
  have e0 := A2.b0
  have e1 := A2.b1
  have r0 := R2.b0
  have r1 := R2.b1
  have r2 := R2.free 0
  have r3 := R2.free 1
  by_cases hc : coC n N m P K d = 0
  rotate_left 1
  · have hb1 : (coC n N m P K d != 0) = true := by simpa using hc
    have hb2 : (coC n N m P K d == 0) = false := by simpa using hc
    have HNE := Lib.hid hc
    have H4 := Lib.hid (show mkC n N m P K d lv = coC n N m P K d by unfold mkC; rw [if_neg hc])
    have H3 := Lib.hid (mk_no H4.out HNE.out)
    clear hc
    have CX := Lib.hid (below_set (below_set B2 (b := w.heap.size + 1) (by omega) 0 (.slice none 0 0)) (b := w.heap.size + 1) (by omega) 1 (.slice none 0 0))
    go_wp2_with fail
    refine bodyPost_ret (v := .tuple #[.agg #[.slice none 0 0, .slice none 0 0], .int .i64 (coC n N m P K d)]) (by simp [results, Tryz.results16, go_sem, r0, r1]) rfl (pi_err H3.out H4.out.symm rfl CX.out)
  obtain ⟨hsv, hcon⟩ := coC_ok hc
  obtain ⟨hB, hcn⟩ := conB_one hcon
  obtain ⟨hn1, hn24, hm40⟩ := net_sz hB
  have HSC := Lib.hid hc
  rw [hc]
  clear hc hsv hcon
  cases hy : rlB lv
  ·
    have H4 := Lib.hid (show mkC n N m P K d lv = 2 by unfold mkC; rw [if_pos HSC.out, hy]; rfl)
    have H3 := Lib.hid (mk_no H4.out (by omega))
    have CX := Lib.hid (below_set (below_set B2 (b := w.heap.size + 1) (by omega) 0 (.slice none 0 0)) (b := w.heap.size + 1) (by omega) 1 (.slice none 0 0))
    go_wp2_with (go_at_call 60; refine (isRootLevel_any lv _).mono ?_; rintro e w' ⟨rfl, rfl⟩; rw [hy])
    refine bodyPost_ret (v := .tuple #[.agg #[.slice none 0 0, .slice none 0 0], .int .i64 2]) (by simp [results, Tryz.results16, go_sem, r0, r1]) rfl (pi_err H3.out H4.out.symm rfl CX.out)
  have HMF := Lib.hid (show mkC n N m P K d lv = ffC n N m P K d by unfold mkC; rw [if_pos HSC.out, hy]; rfl)
  obtain ⟨hl0, hl1⟩ := inR_iff.1 hy
  go_wp2_with (go_at_call 60; refine (isRootLevel_any lv _).mono ?_; rintro e w' ⟨rfl, rfl⟩; rw [hy])
  refine (solveLoopsI_any _ _ n N m P lo hi (HV.out.below B2 hhi) (by omega) HN.out _ K d la ha (HSV.out.below B2 hha) (by omega) hK9).mono ?_
  rintro e w3 ⟨vr, gr, rfl, or, hgr, b3⟩
  have A3 := A2.below b3 (by omega)
  have R3 := R2.below b3 (by omega)
  have B3 := B2.trans (b3.mono (by omega))
  have z3 := b3.size
  have u3 : w.heap.size + 1 < w3.heap.size := by omega
  clear A2 R2 B2 b3 e0 e1 r0 r1 r2 r3
  have e0 := A3.b0
  have e1 := A3.b1
  have r0 := R3.b0
  have r1 := R3.b1
  have r2 := R3.free 0
  have r3 := R3.free 1
  by_cases hf : ffC n N m P K d = 0
  rotate_left 1
  · have hb1 : (ffC n N m P K d != 0) = true := by simpa using hf
    have HNE := Lib.hid hf
    have H4 := Lib.hid HMF.out
    have H3 := Lib.hid (mk_no H4.out HNE.out)
    obtain ⟨p9, c9, rfl⟩ := ownS_shE or
    clear hf or
    have CX := Lib.hid (below_set (below_set B3 (b := w.heap.size + 1) (by omega) 0 (.slice none 0 0)) (b := w.heap.size + 1) (by omega) 1 (.slice none 0 0))
    go_wp2_with fail
    refine bodyPost_ret (v := .tuple #[.agg #[.slice none 0 0, .slice none 0 0], .int .i64 (ffC n N m P K d)]) (by simp [results, Tryz.results16, go_sem, r0, r1]) rfl (pi_err H3.out H4.out.symm rfl CX.out)
  have hsn : slN n N m P K d = m := by unfold slN; rw [if_pos hf]
  have H4 := Lib.hid (HMF.out.trans hf)
  have H3 := Lib.hid (mk_yes H4.out)
  have HFR := Lib.hid (mkF_rng hf)
  rw [hf]
  rw [hsn] at or
  have OS := owns_sl1 or
  obtain ⟨p9, c9, rfl⟩ := ownS_shE or
  have HOR := Lib.hid or
  have hor := or.lt
  rw [show (rfR n m P (fflN n P m d) 32768).1 = mkF n m P d from rfl] at OS
  clear hf hsn or
  have hpc := forestLevels_any w3 _ n N m P lo hi (HV.out.below B3 hhi) (by omega) hB hcn _ (mkF n m P d) 0 _ OS (Nat.le_refl _) HFR.out 0 (by omega) lv (by omega) (by omega)
  clear OS hB hcn
  go_wp2_with fail
  refine hpc.mono ?_
  rintro e w9 ⟨g, rfl, og, hg, b9⟩
  clear hpc
  have R9 := R3.below b9 (by omega)
  have B9 := B3.trans (b9.mono (by omega))
  have HR9 := Lib.hid (HOR.out.below b9 (Nat.le_refl _))
  have HO9 := Lib.hid og
  have z9 := b9.size
  have lg := og.lt
  clear b9 og e0 e1 r0 r1 r2 r3 A3 R3 B3
  have r0 := R9.b0
  have r1 := R9.b1
  have r2 := R9.free 0
  have r3 := R9.free 1
  have CX := Lib.hid (below_set (below_set B9 (b := w.heap.size + 1) (by omega) 0 (.slice p9 m c9)) (b := w.heap.size + 1) (by omega) 1 (.slice (some ⟨g, 0, none⟩) n n))
  have UX := Lib.hid (show Upd (fun k => k = w.heap.size + 1) w9 ((w9.setCell ⟨w.heap.size + 1, 0, none⟩ (.slice p9 m c9)).setCell ⟨w.heap.size + 1, 1, none⟩ (.slice (some ⟨g, 0, none⟩) n n)) from ((Upd.of_only ((Only.refl (w.heap.size + 1) w9).setCell 0 (.slice p9 m c9))).trans (Upd.of_only ((Only.refl (w.heap.size + 1) (w9.setCell ⟨w.heap.size + 1, 0, none⟩ (.slice p9 m c9))).setCell 1 (.slice (some ⟨g, 0, none⟩) n n)))))
  go_wp2_with fail
  refine bodyPost_ret (v := .tuple #[.agg #[.slice p9 m c9, .slice (some ⟨g, 0, none⟩) n n], .int .i64 0]) (by simp [results, Tryz.results16, go_sem, r0, r1]) rfl ?_
  rw [H3.out.1, H3.out.2, H4.out]
  exact ⟨_, gr, g, rfl, ⟨_, _, rfl, HR9.out.upd UX.out (.inr (fun e => by (have e' : gr = w.heap.size + 1 := e); omega)), HO9.out.ownS.upd UX.out (.inr (fun e => by (have e' : g = w.heap.size + 1 := e); omega)), by omega⟩, by omega, by omega, CX.out⟩
set_option maxRecDepth 100000 in
set_option maxHeartbeats 8000000 in
theorem makeProofS_any (w : World) (v : Value) (n : Nat) (N : Nat → Nod) (m : Nat) (P : Nat → Pip) (lo hi : Nat) (h : NetAt w v n N m P lo hi) (hhi : hi ≤ w.heap.size) (hN : ∀ i, i < n → (N i).s.size ≤ 9223372036854775807) (va : Value) (K : Nat) (d : Nat → Int) (la ha : Nat) (hv : Sl w va K d la ha) (hha : ha ≤ w.heap.size) (hK9 : K ≤ 9223372036854775807) (lv : Int) :
    Calls Tryz.prog 17 #[v, va, .int .i64 lv] w (PIPost w (mkN n N m P K d lv) (mkF n m P d) (mkL n N m P K d lv) (mkV n m P d lv) (mkC n N m P K d lv)) := by
  obtain ⟨p0, c0, p1, c1, rfl, hn9, hm9⟩ := h.parts
  have HV := Lib.hid h
  have HN := Lib.hid hN
  obtain ⟨pa, ca, rfl⟩ := hv.sh
  have HSV := Lib.hid hv
  have A0 := (boxed w (.slice p0 n c0) (.slice p1 m c1) 27).keep (Below.heap_alloc _ (.cells #[.slice none 0 0, .slice none 0 0] 38) _ (by rw [szal]; omega))
  have R0 := boxed (w.alloc (.cells #[.slice p0 n c0, .slice p1 m c1] 27)) (.slice none 0 0) (.slice none 0 0) 38
  simp only [szal] at R0
  have B0 := bel2 w (.cells #[.slice p0 n c0, .slice p1 m c1] 27) (.cells #[.slice none 0 0, .slice none 0 0] 38)
  have hs0 : ((w.alloc (.cells #[.slice p0 n c0, .slice p1 m c1] 27)).alloc (.cells #[.slice none 0 0, .slice none 0 0] 38)).heap.size = w.heap.size + 1 + 1 := by simp
  clear h hN hv
  go_enter Tryz.func17, Tryz.ntmps17
  go_upto_region 1 with (fail)
  obtain ⟨w1, hw1⟩ : ∃ w1, (w.alloc (.cells #[.slice p0 n c0, .slice p1 m c1] 27)).alloc (.cells #[.slice none 0 0, .slice none 0 0] 38) = w1 := ⟨_, rfl⟩
  rw [hw1] at A0 R0 B0 hs0 ⊢
  have f2 := Nat.le_antisymm_iff.1 hs0
  clear hw1 hs0
  have e0 := A0.b0
  have e1 := A0.b1
  have r0 := R0.b0
  have r1 := R0.b1
  have r2 := R0.free 0
  have r3 := R0.free 1
  go_wp2_with fail
  refine (l12Code_any _ _ n N m P lo hi (HV.out.below B0 hhi) (by omega) HN.out _ K d la ha (HSV.out.below B0 hha) (by omega) hK9).mono ?_
  rintro e w2 ⟨rfl, b2⟩
  have A2 := A0.below b2 (by omega)
  have R2 := R0.below b2 (by omega)
  have B2 := B0.trans (b2.mono (by omega))
  have z2 := b2.size
  have u2 : w.heap.size + 1 < w2.heap.size := by omega
  clear A0 R0 B0 b2 e0 e1 r0 r1 r2 r3
  have e0 := A2.b0
  have e1 := A2.b1
  have r0 := R2.b0
  have r1 := R2.b1
  have r2 := R2.free 0
  have r3 := R2.free 1
  by_cases hc : coC n N m P K d = 0
  rotate_left 1
  · have hb1 : (coC n N m P K d != 0) = true := by simpa using hc
    have hb2 : (coC n N m P K d == 0) = false := by simpa using hc
    have HNE := Lib.hid hc
    have H4 := Lib.hid (show mkC n N m P K d lv = coC n N m P K d by unfold mkC; rw [if_neg hc])
    have H3 := Lib.hid (mk_no H4.out HNE.out)
    clear hc
    have CX := Lib.hid (below_set (below_set B2 (b := w.heap.size + 1) (by omega) 0 (.slice none 0 0)) (b := w.heap.size + 1) (by omega) 1 (.slice none 0 0))
    go_wp2_with fail
    refine bodyPost_ret (v := .tuple #[.agg #[.slice none 0 0, .slice none 0 0], .int .i64 (coC n N m P K d)]) (by simp [results, Tryz.results17, go_sem, r0, r1]) rfl (pi_err H3.out H4.out.symm rfl CX.out)
  obtain ⟨hsv, hcon⟩ := coC_ok hc
  obtain ⟨hB, hcn⟩ := conB_one hcon
  obtain ⟨hn1, hn24, hm40⟩ := net_sz hB
  have HSC := Lib.hid hc
  rw [hc]
  clear hc hsv hcon
  cases hy : rlB lv
  ·
    have H4 := Lib.hid (show mkC n N m P K d lv = 2 by unfold mkC; rw [if_pos HSC.out, hy]; rfl)
    have H3 := Lib.hid (mk_no H4.out (by omega))
    have CX := Lib.hid (below_set (below_set B2 (b := w.heap.size + 1) (by omega) 0 (.slice none 0 0)) (b := w.heap.size + 1) (by omega) 1 (.slice none 0 0))
    go_wp2_with (go_at_call 64; refine (l07Level_any lv _).mono ?_; rintro e w' ⟨rfl, rfl⟩; rw [hy])
    refine bodyPost_ret (v := .tuple #[.agg #[.slice none 0 0, .slice none 0 0], .int .i64 2]) (by simp [results, Tryz.results17, go_sem, r0, r1]) rfl (pi_err H3.out H4.out.symm rfl CX.out)
  have HMF := Lib.hid (show mkC n N m P K d lv = ffC n N m P K d by unfold mkC; rw [if_pos HSC.out, hy]; rfl)
  obtain ⟨hl0, hl1⟩ := inR_iff.1 hy
  go_wp2_with (go_at_call 64; refine (l07Level_any lv _).mono ?_; rintro e w' ⟨rfl, rfl⟩; rw [hy])
  refine (solveLoopsS_any _ _ n N m P lo hi (HV.out.below B2 hhi) (by omega) HN.out _ K d la ha (HSV.out.below B2 hha) (by omega) hK9).mono ?_
  rintro e w3 ⟨vr, gr, rfl, or, hgr, b3⟩
  have A3 := A2.below b3 (by omega)
  have R3 := R2.below b3 (by omega)
  have B3 := B2.trans (b3.mono (by omega))
  have z3 := b3.size
  have u3 : w.heap.size + 1 < w3.heap.size := by omega
  clear A2 R2 B2 b3 e0 e1 r0 r1 r2 r3
  have e0 := A3.b0
  have e1 := A3.b1
  have r0 := R3.b0
  have r1 := R3.b1
  have r2 := R3.free 0
  have r3 := R3.free 1
  by_cases hf : ffC n N m P K d = 0
  rotate_left 1
  · have hb1 : (ffC n N m P K d != 0) = true := by simpa using hf
    have HNE := Lib.hid hf
    have H4 := Lib.hid HMF.out
    have H3 := Lib.hid (mk_no H4.out HNE.out)
    obtain ⟨p9, c9, rfl⟩ := ownS_shE or
    clear hf or
    have CX := Lib.hid (below_set (below_set B3 (b := w.heap.size + 1) (by omega) 0 (.slice none 0 0)) (b := w.heap.size + 1) (by omega) 1 (.slice none 0 0))
    go_wp2_with fail
    refine bodyPost_ret (v := .tuple #[.agg #[.slice none 0 0, .slice none 0 0], .int .i64 (ffC n N m P K d)]) (by simp [results, Tryz.results17, go_sem, r0, r1]) rfl (pi_err H3.out H4.out.symm rfl CX.out)
  have hsn : slN n N m P K d = m := by unfold slN; rw [if_pos hf]
  have H4 := Lib.hid (HMF.out.trans hf)
  have H3 := Lib.hid (mk_yes H4.out)
  have HFR := Lib.hid (mkF_rng hf)
  rw [hf]
  rw [hsn] at or
  have OS := owns_sl1 or
  obtain ⟨p9, c9, rfl⟩ := ownS_shE or
  have HOR := Lib.hid or
  have hor := or.lt
  rw [show (rfR n m P (fflN n P m d) 32768).1 = mkF n m P d from rfl] at OS
  clear hf hsn or
  have hpc := l07Levels_any w3 _ n N m P lo hi (HV.out.below B3 hhi) (by omega) HN.out hB hcn _ (mkF n m P d) 0 _ OS (Nat.le_refl _) HFR.out 0 (by omega) lv (by omega) (by omega)
  clear OS hB hcn
  go_wp2_with fail
  refine hpc.mono ?_
  rintro e w9 ⟨v9, g, rfl, og, hg, b9⟩
  obtain ⟨cg, rfl⟩ := og.shape
  clear hpc
  have R9 := R3.below b9 (by omega)
  have B9 := B3.trans (b9.mono (by omega))
  have HR9 := Lib.hid (HOR.out.below b9 (Nat.le_refl _))
  have HO9 := Lib.hid og
  have z9 := b9.size
  have lg := og.lt
  clear b9 og e0 e1 r0 r1 r2 r3 A3 R3 B3
  have r0 := R9.b0
  have r1 := R9.b1
  have r2 := R9.free 0
  have r3 := R9.free 1
  have CX := Lib.hid (below_set (below_set B9 (b := w.heap.size + 1) (by omega) 0 (.slice p9 m c9)) (b := w.heap.size + 1) (by omega) 1 (.slice (some ⟨g, 0, none⟩) n cg))
  have UX := Lib.hid (show Upd (fun k => k = w.heap.size + 1) w9 ((w9.setCell ⟨w.heap.size + 1, 0, none⟩ (.slice p9 m c9)).setCell ⟨w.heap.size + 1, 1, none⟩ (.slice (some ⟨g, 0, none⟩) n cg)) from ((Upd.of_only ((Only.refl (w.heap.size + 1) w9).setCell 0 (.slice p9 m c9))).trans (Upd.of_only ((Only.refl (w.heap.size + 1) (w9.setCell ⟨w.heap.size + 1, 0, none⟩ (.slice p9 m c9))).setCell 1 (.slice (some ⟨g, 0, none⟩) n cg)))))
  go_wp2_with fail
  refine bodyPost_ret (v := .tuple #[.agg #[.slice p9 m c9, .slice (some ⟨g, 0, none⟩) n cg], .int .i64 0]) (by simp [results, Tryz.results17, go_sem, r0, r1]) rfl ?_
  rw [H3.out.1, H3.out.2, H4.out]
  exact ⟨_, gr, g, rfl, ⟨_, _, rfl, HR9.out.upd UX.out (.inr (fun e => by (have e' : gr = w.heap.size + 1 := e); omega)), HO9.out.ownS.upd UX.out (.inr (fun e => by (have e' : g = w.heap.size + 1 := e); omega)), by omega⟩, by omega, by omega, CX.out⟩
theorem agreeMakeProof (n : Nat) (N : Nat → Nod) (m : Nat) (P : Nat → Pip) (K : Nat) (d : Nat → Int) (lv : Int) (hN : ∀ i, i < n → (N i).s.size ≤ 9223372036854775807) (hn : n ≤ 2000000) (hm : m ≤ 2000000) (hK : K ≤ 2000000) :
    ∃ rn rd rm rl rc, rn ≤ 2000000 ∧ rm ≤ 2000000 ∧ (∀ w v va, NetAt w v n N m P 0 w.heap.size → Sl w va K d 0 w.heap.size → Calls Tryz.prog 16 #[v, va, .int .i64 lv] w (PIPost w rn rd rm rl rc)) ∧ (∀ w v va, NetAt w v n N m P 0 w.heap.size → Sl w va K d 0 w.heap.size → Calls Tryz.prog 17 #[v, va, .int .i64 lv] w (PIPost w rn rd rm rl rc)) :=
  ⟨mkN n N m P K d lv, mkF n m P d, mkL n N m P K d lv, mkV n m P d lv, mkC n N m P K d lv, by unfold mkN; split <;> omega, by unfold mkL; split <;> omega, fun w v va h hv => makeProofI_any w v n N m P 0 _ h (Nat.le_refl _) hN va K d 0 _ hv (Nat.le_refl _) (by omega) lv, fun w v va h hv => makeProofS_any w v n N m P 0 _ h (Nat.le_refl _) hN va K d 0 _ hv (Nat.le_refl _) (by omega) lv⟩
end Go.Proofs.YtdbgcbkmcbgdiaaGreat.mem

namespace Go.Proofs.YtdbgcbkmcbgdiaaGreat.fnExactMakeProof
open Go.ChangeShapes Go.WideShapes Go.ChangeAt Go.RowKit Go.Proofs.YtdbgcbkmcbgdiaaGreat.mem
set_option linter.unusedVariables false

theorem own : ownKnob Tryz.prog.godebug = none := by kernel_rfl
theorem laidOut : laidOutB Tryz.prog = true := by kernel_rfl

set_option maxRecDepth 100000 in
set_option maxHeartbeats 20000000 in
theorem walk (v : Value) (a1 : Value) (a2 : Int) (w : World) (hc : NetArg w v) (hc1 : IntsArg w a1) :
    Calls Tryz.prog 7 #[v, a1, .int .i64 a2] w fun e w' => e = .returned (.bool true) ∧ Below w.heap.size w w' := by
  obtain ⟨n, N, m, P, V0, hN⟩ := hc
  obtain ⟨p0, c0, p1, c1, rfl⟩ := V0.shape
  obtain ⟨K1, D1, hK1, hS1⟩ := hc1
  have hsh1 : ∃ p cap, a1 = .slice p K1 cap := by
    obtain ⟨p, cap, e, _⟩ := hS1.ex
    exact ⟨p, cap, e⟩
  obtain ⟨pp1, cc1, rfl⟩ := hsh1
  by_cases hbig1 : (1048576 : Int) < K1
  · clear V0 hN hS1
    go_enter Tryz.func7, Tryz.ntmps7
    go_wp2_with fail
    go_ret
    exact ⟨rfl, below_new _ _⟩
  have hKs1 : K1 ≤ 2000000 := by omega
  have V1 := Lib.hid hS1
  clear hS1
  have HV := Lib.hid V0
  have HN := Lib.hid hN
  clear V0 hN
  have A1 := boxed w (.slice p0 n c0) (.slice p1 m c1) 52
  have C1 : Below w.heap.size w _ := below_new w (.cells #[.slice p0 n c0, .slice p1 m c1] 52)
  have hs1 := C1.size
  go_enter Tryz.func7, Tryz.ntmps7
  go_wp2_with fail
  generalize hW1 : w.alloc (Obj.cells #[.slice p0 n c0, .slice p1 m c1] 52) = w1 at *
  clear hW1
  have lA := A1.lt
  refine (szNetwork_any _ _ n N m P 0 w.heap.size 1048576 (HV.out.below C1 (Nat.le_refl _)) hs1 (by omega) (by omega) HN.out).mono ?_
  rintro e w2 ⟨r, rfl, hr, bb⟩
  have hs2 := bb.size
  have A2 := A1.next bb
  have C2 := belowNext C1 bb
  clear bb A1 C1
  rcases hr with rfl | ⟨hr0, hr1, hr2⟩
  · go_wp2_with fail
    go_ret
    exact ⟨rfl, C2⟩
  have hn : n ≤ 2000000 := by omega
  have hm : m ≤ 2000000 := by omega
  clear hr1 hr2
  obtain ⟨rn, rd, rm, rl, rc, hrn, hrm, agi, ags⟩ := agreeMakeProof n N m P K1 D1 a2 HN.out hn hm hKs1
  have GI := Lib.hid agi
  have GS := Lib.hid ags
  clear agi ags
  have hb2 : (rc != rc) = false := by simp
  obtain ⟨qx, hqx⟩ : ∃ q, q = 1 + 3 * n + 5 * m := ⟨_, rfl⟩
  obtain ⟨qr, hqr⟩ : ∃ q, q = 1 + rn + rm := ⟨_, rfl⟩
  have hqx0 : ¬ ((qx : Int) < 0) := by omega
  have hqr0 : ¬ ((qr : Int) < 0) := by omega
  have hqr1 : ((qr : Int) != qr) = false := by simp
  have QX := Lib.hid hqx
  have QR := Lib.hid hqr
  clear hqx hqr
  have qA0 := A2.b0
  have qA1 := A2.b1
  have qA2 := A2.lt
  go_wp2_with fail
  refine (toNetwork_any _ _ n N m P 0 w.heap.size (HV.out.below C2 (Nat.le_refl _)) hn hm (by omega)).mono ?_
  rintro e w3 ⟨xt, gt1, gt2, rfl, ot, lt1, lt2, bb⟩
  have hs3 := bb.size
  have A3 := A2.next bb
  have C3 := belowNext C2 bb
  clear qA0 qA1 qA2
  clear bb A2 C2
  have lxt := ot.lts
  have qA0 := A3.b0
  have qA1 := A3.b1
  have qA2 := A3.lt
  go_wp2_with fail
  refine (copy_any _ _ K1 D1 0 w.heap.size (V1.out.below C3 (Nat.le_refl _)) hKs1 (by omega)).mono ?_
  rintro e w4 ⟨rfl, rti1, bb, zz4⟩
  have hs4 := bb.size
  have A4 := A3.next bb
  have C4 := belowNext C3 bb
  have t4 := ot.next bb
  clear qA0 qA1 qA2
  clear bb A3 C3 ot
  have qA0 := A4.b0
  have qA1 := A4.b1
  have qA2 := A4.lt
  go_wp2_with fail
  refine (GS.out _ _ _ t4.net (rti1.all (by omega))).mono ?_
  rintro e w5 ⟨xW, gW1, gW2, rfl, oW, lW1, lW2, bb⟩
  have hs5 := bb.size
  have A5 := A4.next bb
  have C5 := belowNext C4 bb
  have t5 := t4.next bb
  have ti15 := rti1.next bb (by omega)
  clear qA0 qA1 qA2
  clear bb A4 C4 t4 rti1
  have lxW := oW.lts
  obtain ⟨sW1, sW2, sW3, sW4, rfl⟩ := oW.shape
  clear t5 ti15
  have qA0 := A5.b0
  have qA1 := A5.b1
  have qA2 := A5.lt
  go_wp2_with fail
  have bb := below_new w5 (.cells #[.slice sW1 rn sW2, .slice sW3 rm sW4] 38)
  have B_W := boxed w5 (.slice sW1 rn sW2) (.slice sW3 rm sW4) 38
  have hs6 := bb.size
  have A6 := A5.next bb
  have C6 := belowNext C5 bb
  have W6 := oW.next bb
  clear qA0 qA1 qA2
  clear bb A5 C5 oW
  generalize hW6 : w5.alloc (Obj.cells #[.slice sW1 rn sW2, .slice sW3 rm sW4] 38) = w6 at *
  clear hW6
  have BW6 := B_W
  clear B_W
  have lBW := BW6.lt
  refine (toNetwork_any _ _ n N m P 0 w.heap.size (HV.out.below C6 (Nat.le_refl _)) hn hm (by omega)).mono ?_
  rintro e w7 ⟨xx, gx1, gx2, rfl, ox, lx1, lx2, bb⟩
  have hs7 := bb.size
  have A7 := A6.next bb
  have C7 := belowNext C6 bb
  have W7 := W6.next bb
  have BW7 := BW6.next bb
  clear bb A6 C6 W6 BW6
  have lxx := ox.lts
  obtain ⟨sx1, sx2, sx3, sx4, rfl⟩ := ox.shape
  have qA0 := A7.b0
  have qA1 := A7.b1
  have qA2 := A7.lt
  have qBW0 := BW7.b0
  have qBW1 := BW7.b1
  have qBW2 := BW7.lt
  go_wp2_with fail
  have bb := below_new w7 (.cells #[.slice sx1 n sx2, .slice sx3 m sx4] 27)
  have B_x := boxed w7 (.slice sx1 n sx2) (.slice sx3 m sx4) 27
  have hs8 := bb.size
  have A8 := A7.next bb
  have C8 := belowNext C7 bb
  have W8 := W7.next bb
  have BW8 := BW7.next bb
  have x8 := ox.next bb
  clear qA0 qA1 qA2 qBW0 qBW1 qBW2
  clear bb A7 C7 W7 BW7 ox
  generalize hW8 : w7.alloc (Obj.cells #[.slice sx1 n sx2, .slice sx3 m sx4] 27) = w8 at *
  clear hW8
  have Bx8 := B_x
  clear B_x
  have lBx := Bx8.lt
  refine (copy_any _ _ K1 D1 0 w.heap.size (V1.out.below C8 (Nat.le_refl _)) hKs1 (by omega)).mono ?_
  rintro e w9 ⟨rfl, rxi1, bb, zz9⟩
  have hs9 := bb.size
  have A9 := A8.next bb
  have C9 := belowNext C8 bb
  have W9 := W8.next bb
  have BW9 := BW8.next bb
  have x9 := x8.next bb
  have Bx9 := Bx8.next bb
  clear bb A8 C8 W8 BW8 x8 Bx8
  have qA0 := A9.b0
  have qA1 := A9.b1
  have qA2 := A9.lt
  have qBW0 := BW9.b0
  have qBW1 := BW9.b1
  have qBW2 := BW9.lt
  have qBx0 := Bx9.b0
  have qBx1 := Bx9.b1
  have qBx2 := Bx9.lt
  go_wp2_with fail
  refine (GI.out _ _ _ x9.net (rxi1.all (by omega))).mono ?_
  rintro e w10 ⟨xG, gG1, gG2, rfl, oG, lG1, lG2, bb⟩
  have hs10 := bb.size
  have A10 := A9.next bb
  have C10 := belowNext C9 bb
  have W10 := W9.next bb
  have BW10 := BW9.next bb
  have x10 := x9.next bb
  have Bx10 := Bx9.next bb
  have xi110 := rxi1.next bb (by omega)
  clear qA0 qA1 qA2 qBW0 qBW1 qBW2 qBx0 qBx1 qBx2
  clear bb A9 C9 W9 BW9 x9 Bx9 rxi1
  have lxG := oG.lts
  obtain ⟨sG1, sG2, sG3, sG4, rfl⟩ := oG.shape
  have qA0 := A10.b0
  have qA1 := A10.b1
  have qA2 := A10.lt
  have qBW0 := BW10.b0
  have qBW1 := BW10.b1
  have qBW2 := BW10.lt
  have qBx0 := Bx10.b0
  have qBx1 := Bx10.b1
  have qBx2 := Bx10.lt
  go_wp2_with fail
  have bb := below_new w10 (.cells #[.slice sG1 rn sG2, .slice sG3 rm sG4] 38)
  have B_G := boxed w10 (.slice sG1 rn sG2) (.slice sG3 rm sG4) 38
  have hs11 := bb.size
  have A11 := A10.next bb
  have C11 := belowNext C10 bb
  have W11 := W10.next bb
  have BW11 := BW10.next bb
  have x11 := x10.next bb
  have Bx11 := Bx10.next bb
  have xi111 := xi110.next bb (by omega)
  have G11 := oG.next bb
  clear qA0 qA1 qA2 qBW0 qBW1 qBW2 qBx0 qBx1 qBx2
  clear bb A10 C10 W10 BW10 x10 Bx10 xi110 oG
  generalize hW11 : w10.alloc (Obj.cells #[.slice sG1 rn sG2, .slice sG3 rm sG4] 38) = w11 at *
  clear hW11
  have BG11 := B_G
  clear B_G
  have lBG := BG11.lt
  refine (eqProof_any _ _ _ rn rd rm rl 0 w11.heap.size 0 w11.heap.size G11.pr W11.pr hrn hrm (Nat.le_refl _) (Nat.le_refl _)).mono ?_
  rintro e w12 ⟨rfl, bb⟩
  have hs12 := bb.size
  have A12 := A11.next bb
  have C12 := belowNext C11 bb
  have W12 := W11.next bb
  have BW12 := BW11.next bb
  have x12 := x11.next bb
  have Bx12 := Bx11.next bb
  have xi112 := xi111.next bb (by omega)
  have G12 := G11.next bb
  have BG12 := BG11.next bb
  clear bb A11 C11 W11 BW11 x11 Bx11 xi111 G11 BG11
  have qA0 := A12.b0
  have qA1 := A12.b1
  have qA2 := A12.lt
  have qBW0 := BW12.b0
  have qBW1 := BW12.b1
  have qBW2 := BW12.lt
  have qBx0 := Bx12.b0
  have qBx1 := Bx12.b1
  have qBx2 := Bx12.lt
  have qBG0 := BG12.b0
  have qBG1 := BG12.b1
  have qBG2 := BG12.lt
  go_wp2_with fail
  go_region_held3 (fun w' => w'.cell? ⟨w.heap.size, 0, none⟩ = some (.slice p0 n c0) ∧ w'.cell? ⟨w.heap.size, 1, none⟩ = some (.slice p1 m c1) ∧ w'.cell? ⟨w7.heap.size, 0, none⟩ = some (.slice sx1 n sx2) ∧ w'.cell? ⟨w7.heap.size, 1, none⟩ = some (.slice sx3 m sx4)) (first | exact ⟨qA0, qA1, qBx0, qBx1⟩ | exact hold4 hb2 hsaA hsaX (hold4 hb1 qA2 qBx2 ⟨qA0, qA1, qBx0, qBx1⟩) | exact hold4 hb1 qA2 qBx2 ⟨qA0, qA1, qBx0, qBx1⟩)
    (first | (go_at_call 26; refine (toNetwork_any _ _ n N m P 0 w.heap.size (HV.out.below C12 (Nat.le_refl _)).drew hn hm (by simp; omega)).mono ?_; rintro e wa ⟨xy, gy1, gy2, rfl, oy, ly1, ly2, hb1⟩; have hsa := hb1.size; simp only [World.heap_drew] at hsa; have hsaA := Nat.lt_of_lt_of_le qA2 hsa; have hsaX := Nat.lt_of_lt_of_le qBx2 hsa) | (go_at_call 29; refine (eqNetwork_any _ _ _ n N m P 0 _ 0 _ (x12.drew.next hb1).net oy.net (Nat.le_refl _) (Nat.le_refl _)).mono ?_; rintro e wb ⟨rfl, hb2⟩))
  obtain ⟨w13, hwb⟩ : ∃ w', w' = wb := ⟨_, rfl⟩
  subst hwb
  have bb : Below w12.heap.size w12 w13 := below_dr0 (belowNext hb1 hb2)
  clear hb1 hb2 oy ly1 ly2 hsa hsaA hsaX
  have hs13 := bb.size
  have A13 := A12.next bb
  have C13 := belowNext C12 bb
  have W13 := W12.next bb
  have BW13 := BW12.next bb
  have x13 := x12.next bb
  have Bx13 := Bx12.next bb
  have xi113 := xi112.next bb (by omega)
  have G13 := G12.next bb
  have BG13 := BG12.next bb
  clear qA0 qA1 qA2 qBW0 qBW1 qBW2 qBx0 qBx1 qBx2 qBG0 qBG1 qBG2
  clear bb A12 C12 W12 BW12 x12 Bx12 xi112 G12 BG12
  have qA0 := A13.b0
  have qA1 := A13.b1
  have qA2 := A13.lt
  have qBW0 := BW13.b0
  have qBW1 := BW13.b1
  have qBW2 := BW13.lt
  have qBx0 := Bx13.b0
  have qBx1 := Bx13.b1
  have qBx2 := Bx13.lt
  have qBG0 := BG13.b0
  have qBG1 := BG13.b1
  have qBG2 := BG13.lt
  go_wp2_with fail
  refine (copy_any _ _ K1 D1 0 w.heap.size (V1.out.below C13 (Nat.le_refl _)) hKs1 (by omega)).mono ?_
  rintro e w14 ⟨rfl, ryi1, bb, zz14⟩
  have hs14 := bb.size
  have A14 := A13.next bb
  have C14 := belowNext C13 bb
  have W14 := W13.next bb
  have BW14 := BW13.next bb
  have x14 := x13.next bb
  have Bx14 := Bx13.next bb
  have xi114 := xi113.next bb (by omega)
  have G14 := G13.next bb
  have BG14 := BG13.next bb
  clear qA0 qA1 qA2 qBW0 qBW1 qBW2 qBx0 qBx1 qBx2 qBG0 qBG1 qBG2
  clear bb A13 C13 W13 BW13 x13 Bx13 xi113 G13 BG13
  have qA0 := A14.b0
  have qA1 := A14.b1
  have qA2 := A14.lt
  have qBW0 := BW14.b0
  have qBW1 := BW14.b1
  have qBW2 := BW14.lt
  have qBx0 := Bx14.b0
  have qBx1 := Bx14.b1
  have qBx2 := Bx14.lt
  have qBG0 := BG14.b0
  have qBG1 := BG14.b1
  have qBG2 := BG14.lt
  go_wp2_with fail
  refine (eq_any _ _ _ K1 D1 0 w14.heap.size 0 w14.heap.size (xi114.all (by omega)) (ryi1.all (by omega)) hKs1).mono ?_
  rintro e w15 ⟨rfl, mm15, hmm15⟩
  have bb : Below w14.heap.size w14 w15 := by rw [hmm15]; exact below_drNN (Below.refl _ _) mm15
  clear hmm15
  clear ryi1
  have hs15 := bb.size
  have A15 := A14.next bb
  have C15 := belowNext C14 bb
  have W15 := W14.next bb
  have BW15 := BW14.next bb
  have x15 := x14.next bb
  have Bx15 := Bx14.next bb
  have xi115 := xi114.next bb (by omega)
  have G15 := G14.next bb
  have BG15 := BG14.next bb
  clear qA0 qA1 qA2 qBW0 qBW1 qBW2 qBx0 qBx1 qBx2 qBG0 qBG1 qBG2
  clear bb A14 C14 W14 BW14 x14 Bx14 xi114 G14 BG14
  have qA0 := A15.b0
  have qA1 := A15.b1
  have qA2 := A15.lt
  have qBW0 := BW15.b0
  have qBW1 := BW15.b1
  have qBW2 := BW15.lt
  have qBx0 := Bx15.b0
  have qBx1 := Bx15.b1
  have qBx2 := Bx15.lt
  have qBG0 := BG15.b0
  have qBG1 := BG15.b1
  have qBG2 := BG15.lt
  go_wp2_with fail
  refine (mark1N _ _ n m N P gx1 gx2 qx QX.out x15 hn hm).mono ?_
  rintro e w16 ⟨rfl, ox', bb⟩
  clear ox'
  clear x15 Bx15
  have hs16 := bb.size
  have A16 := A15.next_upd bb (by intro hx; rcases hx with ⟨_, hx⟩ | ⟨_, hx⟩; all_goals omega)
  have C16 := belowNextUpd C15 bb (by intro x hx; rcases hx with ⟨_, hx⟩ | ⟨_, hx⟩; all_goals omega)
  have W16 := W15.next_upd bb (by refine ⟨?_, ?_⟩; (rcases Nat.eq_zero_or_pos rn with h0 | h0; exact .inl h0; exact .inr (by intro hx; rcases hx with ⟨_, hx⟩ | ⟨_, hx⟩; all_goals omega)); (rcases Nat.eq_zero_or_pos rm with h0 | h0; exact .inl h0; exact .inr (by intro hx; rcases hx with ⟨_, hx⟩ | ⟨_, hx⟩; all_goals omega)))
  have BW16 := BW15.next_upd bb (by intro hx; rcases hx with ⟨_, hx⟩ | ⟨_, hx⟩; all_goals omega)
  have xi116 := xi115.next_upd bb (by omega) (by intro hx; rcases hx with ⟨_, hx⟩ | ⟨_, hx⟩; all_goals omega)
  have G16 := G15.next_upd bb (by refine ⟨?_, ?_⟩; (rcases Nat.eq_zero_or_pos rn with h0 | h0; exact .inl h0; exact .inr (by intro hx; rcases hx with ⟨_, hx⟩ | ⟨_, hx⟩; all_goals omega)); (rcases Nat.eq_zero_or_pos rm with h0 | h0; exact .inl h0; exact .inr (by intro hx; rcases hx with ⟨_, hx⟩ | ⟨_, hx⟩; all_goals omega)))
  have BG16 := BG15.next_upd bb (by intro hx; rcases hx with ⟨_, hx⟩ | ⟨_, hx⟩; all_goals omega)
  clear qA0 qA1 qA2 qBW0 qBW1 qBW2 qBx0 qBx1 qBx2 qBG0 qBG1 qBG2
  clear bb A15 C15 W15 BW15 xi115 G15 BG15
  have qA0 := A16.b0
  have qA1 := A16.b1
  have qA2 := A16.lt
  have qBW0 := BW16.b0
  have qBW1 := BW16.b1
  have qBW2 := BW16.lt
  have qBG0 := BG16.b0
  have qBG1 := BG16.b1
  have qBG2 := BG16.lt
  go_wp2_with fail
  refine (mark_any _ w8.heap.size K1 K1 D1 qx xi116 hKs1 (by omega) (by have := QX.out; omega)).mono ?_
  rintro e w17 ⟨rfl, rM1, oo17⟩
  have bb := Upd.of_only oo17
  clear rM1 oo17
  clear xi116
  have hs17 := bb.size
  have A17 := A16.next_upd bb (by intro hx; skip; all_goals omega)
  have C17 := belowNextUpd C16 bb (by intro x hx; skip; all_goals omega)
  have W17 := W16.next_upd bb (by refine ⟨?_, ?_⟩; (rcases Nat.eq_zero_or_pos rn with h0 | h0; exact .inl h0; exact .inr (by intro hx; skip; all_goals omega)); (rcases Nat.eq_zero_or_pos rm with h0 | h0; exact .inl h0; exact .inr (by intro hx; skip; all_goals omega)))
  have BW17 := BW16.next_upd bb (by intro hx; skip; all_goals omega)
  have G17 := G16.next_upd bb (by refine ⟨?_, ?_⟩; (rcases Nat.eq_zero_or_pos rn with h0 | h0; exact .inl h0; exact .inr (by intro hx; skip; all_goals omega)); (rcases Nat.eq_zero_or_pos rm with h0 | h0; exact .inl h0; exact .inr (by intro hx; skip; all_goals omega)))
  have BG17 := BG16.next_upd bb (by intro hx; skip; all_goals omega)
  clear qA0 qA1 qA2 qBW0 qBW1 qBW2 qBG0 qBG1 qBG2
  clear bb A16 C16 W16 BW16 G16 BG16
  have hqk1 : ¬ ((qx : Int) + (K1 : Int) < 0) := by omega
  have qA0 := A17.b0
  have qA1 := A17.b1
  have qA2 := A17.lt
  have qBW0 := BW17.b0
  have qBW1 := BW17.b1
  have qBW2 := BW17.lt
  have qBG0 := BG17.b0
  have qBG1 := BG17.b1
  have qBG2 := BG17.lt
  go_wp2_with fail
  refine (eqProof_any _ _ _ rn rd rm rl 0 w17.heap.size 0 w17.heap.size G17.pr W17.pr hrn hrm (Nat.le_refl _) (Nat.le_refl _)).mono ?_
  rintro e w18 ⟨rfl, bb⟩
  have hs18 := bb.size
  have A18 := A17.next bb
  have C18 := belowNext C17 bb
  have W18 := W17.next bb
  have BW18 := BW17.next bb
  have G18 := G17.next bb
  have BG18 := BG17.next bb
  clear qA0 qA1 qA2 qBW0 qBW1 qBW2 qBG0 qBG1 qBG2
  clear bb A17 C17 W17 BW17 G17 BG17
  have qA0 := A18.b0
  have qA1 := A18.b1
  have qA2 := A18.lt
  have qBW0 := BW18.b0
  have qBW1 := BW18.b1
  have qBW2 := BW18.lt
  have qBG0 := BG18.b0
  have qBG1 := BG18.b1
  have qBG2 := BG18.lt
  go_wp2_with fail
  refine (mark1P _ _ rn rd rm rl gG1 gG2 qr QR.out G18 hrn hrm).mono ?_
  rintro e w19 ⟨rfl, oG', bb⟩
  clear G18
  have hs19 := bb.size
  have A19 := A18.next_upd bb (by intro hx; rcases hx with ⟨_, hx⟩ | ⟨_, hx⟩; all_goals omega)
  have C19 := belowNextUpd C18 bb (by intro x hx; rcases hx with ⟨_, hx⟩ | ⟨_, hx⟩; all_goals omega)
  have W19 := W18.next_upd bb (by refine ⟨?_, ?_⟩; (rcases Nat.eq_zero_or_pos rn with h0 | h0; exact .inl h0; exact .inr (by intro hx; rcases hx with ⟨_, hx⟩ | ⟨_, hx⟩; all_goals omega)); (rcases Nat.eq_zero_or_pos rm with h0 | h0; exact .inl h0; exact .inr (by intro hx; rcases hx with ⟨_, hx⟩ | ⟨_, hx⟩; all_goals omega)))
  have BW19 := BW18.next_upd bb (by intro hx; rcases hx with ⟨_, hx⟩ | ⟨_, hx⟩; all_goals omega)
  have BG19 := BG18.next_upd bb (by intro hx; rcases hx with ⟨_, hx⟩ | ⟨_, hx⟩; all_goals omega)
  clear qA0 qA1 qA2 qBW0 qBW1 qBW2 qBG0 qBG1 qBG2
  clear bb A18 C18 W18 BW18 BG18
  have oM := oG'
  clear oG'
  have qA0 := A19.b0
  have qA1 := A19.b1
  have qA2 := A19.lt
  have qBW0 := BW19.b0
  have qBW1 := BW19.b1
  have qBW2 := BW19.lt
  have qBG0 := BG19.b0
  have qBG1 := BG19.b1
  have qBG2 := BG19.lt
  go_wp2_with fail
  refine (held1P _ _ rn rm gG1 gG2 qr QR.out oM hrn hrm).mono ?_
  rintro e w20 ⟨rfl, bb⟩
  have hs20 := bb.size
  have A20 := A19.next bb
  have C20 := belowNext C19 bb
  have W20 := W19.next bb
  have BW20 := BW19.next bb
  have BG20 := BG19.next bb
  have M20 := oM.next bb
  clear qA0 qA1 qA2 qBW0 qBW1 qBW2 qBG0 qBG1 qBG2
  clear bb A19 C19 W19 BW19 BG19 oM
  have qA0 := A20.b0
  have qA1 := A20.b1
  have qA2 := A20.lt
  have qBW0 := BW20.b0
  have qBW1 := BW20.b1
  have qBW2 := BW20.lt
  have qBG0 := BG20.b0
  have qBG1 := BG20.b1
  have qBG2 := BG20.lt
  go_wp2_with fail
  refine (toNetwork_any _ _ n N m P 0 w.heap.size (HV.out.below C20 (Nat.le_refl _)) hn hm (by omega)).mono ?_
  rintro e w21 ⟨xt, gt1, gt2, rfl, ot, lt1, lt2, bb⟩
  have hs21 := bb.size
  have A21 := A20.next bb
  have C21 := belowNext C20 bb
  have W21 := W20.next bb
  have BW21 := BW20.next bb
  have BG21 := BG20.next bb
  have M21 := M20.next bb
  clear qA0 qA1 qA2 qBW0 qBW1 qBW2 qBG0 qBG1 qBG2
  clear bb A20 C20 W20 BW20 BG20 M20
  have lxt := ot.lts
  have qA0 := A21.b0
  have qA1 := A21.b1
  have qA2 := A21.lt
  have qBW0 := BW21.b0
  have qBW1 := BW21.b1
  have qBW2 := BW21.lt
  have qBG0 := BG21.b0
  have qBG1 := BG21.b1
  have qBG2 := BG21.lt
  go_wp2_with fail
  refine (copy_any _ _ K1 D1 0 w.heap.size (V1.out.below C21 (Nat.le_refl _)) hKs1 (by omega)).mono ?_
  rintro e w22 ⟨rfl, rti1, bb, zz22⟩
  have hs22 := bb.size
  have A22 := A21.next bb
  have C22 := belowNext C21 bb
  have W22 := W21.next bb
  have BW22 := BW21.next bb
  have BG22 := BG21.next bb
  have M22 := M21.next bb
  have t22 := ot.next bb
  clear qA0 qA1 qA2 qBW0 qBW1 qBW2 qBG0 qBG1 qBG2
  clear bb A21 C21 W21 BW21 BG21 M21 ot
  have qA0 := A22.b0
  have qA1 := A22.b1
  have qA2 := A22.lt
  have qBW0 := BW22.b0
  have qBW1 := BW22.b1
  have qBW2 := BW22.lt
  have qBG0 := BG22.b0
  have qBG1 := BG22.b1
  have qBG2 := BG22.lt
  go_wp2_with fail
  refine (GI.out _ _ _ t22.net (rti1.all (by omega))).mono ?_
  rintro e w23 ⟨xH, gH1, gH2, rfl, oH, lH1, lH2, bb⟩
  have hs23 := bb.size
  have A23 := A22.next bb
  have C23 := belowNext C22 bb
  have W23 := W22.next bb
  have BW23 := BW22.next bb
  have BG23 := BG22.next bb
  have M23 := M22.next bb
  have t23 := t22.next bb
  have ti123 := rti1.next bb (by omega)
  clear qA0 qA1 qA2 qBW0 qBW1 qBW2 qBG0 qBG1 qBG2
  clear bb A22 C22 W22 BW22 BG22 M22 t22 rti1
  have lxH := oH.lts
  obtain ⟨sH1, sH2, sH3, sH4, rfl⟩ := oH.shape
  clear t23 ti123
  have qA0 := A23.b0
  have qA1 := A23.b1
  have qA2 := A23.lt
  have qBW0 := BW23.b0
  have qBW1 := BW23.b1
  have qBW2 := BW23.lt
  have qBG0 := BG23.b0
  have qBG1 := BG23.b1
  have qBG2 := BG23.lt
  go_wp2_with fail
  have bb := below_new w23 (.cells #[.slice sH1 rn sH2, .slice sH3 rm sH4] 38)
  have B_H := boxed w23 (.slice sH1 rn sH2) (.slice sH3 rm sH4) 38
  have hs24 := bb.size
  have A24 := A23.next bb
  have C24 := belowNext C23 bb
  have W24 := W23.next bb
  have BW24 := BW23.next bb
  have BG24 := BG23.next bb
  have M24 := M23.next bb
  have H24 := oH.next bb
  clear qA0 qA1 qA2 qBW0 qBW1 qBW2 qBG0 qBG1 qBG2
  clear bb A23 C23 W23 BW23 BG23 M23 oH
  generalize hW24 : w23.alloc (Obj.cells #[.slice sH1 rn sH2, .slice sH3 rm sH4] 38) = w24 at *
  clear hW24
  have BH24 := B_H
  clear B_H
  have lBH := BH24.lt
  refine (eqProof_any _ _ _ rn rd rm rl 0 w24.heap.size 0 w24.heap.size H24.pr W24.pr hrn hrm (Nat.le_refl _) (Nat.le_refl _)).mono ?_
  rintro e w25 ⟨rfl, bb⟩
  have hs25 := bb.size
  have A25 := A24.next bb
  have C25 := belowNext C24 bb
  have W25 := W24.next bb
  have BW25 := BW24.next bb
  have BG25 := BG24.next bb
  have M25 := M24.next bb
  have H25 := H24.next bb
  have BH25 := BH24.next bb
  clear bb A24 C24 W24 BW24 BG24 M24 H24 BH24
  have qA0 := A25.b0
  have qA1 := A25.b1
  have qA2 := A25.lt
  have qBW0 := BW25.b0
  have qBW1 := BW25.b1
  have qBW2 := BW25.lt
  have qBG0 := BG25.b0
  have qBG1 := BG25.b1
  have qBG2 := BG25.lt
  have qBH0 := BH25.b0
  have qBH1 := BH25.b1
  have qBH2 := BH25.lt
  go_wp2_with fail
  refine (held1P _ _ rn rm gG1 gG2 qr QR.out M25 hrn hrm).mono ?_
  rintro e w26 ⟨rfl, bb⟩
  have hs26 := bb.size
  have A26 := A25.next bb
  have C26 := belowNext C25 bb
  have W26 := W25.next bb
  have BW26 := BW25.next bb
  have BG26 := BG25.next bb
  have M26 := M25.next bb
  have H26 := H25.next bb
  have BH26 := BH25.next bb
  clear qA0 qA1 qA2 qBW0 qBW1 qBW2 qBG0 qBG1 qBG2 qBH0 qBH1 qBH2
  clear bb A25 C25 W25 BW25 BG25 M25 H25 BH25
  go_wp2_with fail
  go_ret
  exact ⟨rfl, C26⟩

set_option maxRecDepth 100000 in
theorem lifted (os : Os) (started : os.Started) (H : Type) (enc : TypeId × Value → H) :
    ReturnsInHanded {} Tryz.checked os 7 .any (Rows.fnExactMakeProofSpec.pre6 enc Tryz.prog Tryz.f7 Rows.fnExactMakeProofRow.domain false) (Rows.fnExactMakeProofSpec.post enc Tryz.prog Tryz.f7 false true false false) := by
  refine returnsInHanded_of_change (C := Tryz.checked) own started (by kernel_rfl) Tryz.func7
    (ChangeSpec.witness6 (enc := enc) (C := Tryz.checked) false ⟨#[], #[.agg #[.slice none 0 0, .slice none 0 0], .slice none 0 0, .int .i64 0], []⟩ 8 (by kernel_rfl) (by kernel_rfl) (by kernel_rfl) (by kernel_rfl)) ?_
  intro W base args ds gs before hval0 hW hcnd _
  have hval : ∀ (j : Nat) t v, Tryz.f7.params[j]? = some t → args[j]? = some v → Value.okWide Tryz.prog W .any base t v := hval0
  have hW' := hW
  obtain ⟨p, q, hA0, hV, rfl, hfz, hnd⟩ := hW
  have hA : DataW.TrodAll enc Tryz.prog W 0 (fun _ => true) true Tryz.f7.params.toList args.toList ds p := hA0
  rw [Tryz.params7] at hA hval
  obtain ⟨v0, vs0, d0, ds0, p0, q0, hargs, rfl, rfl, h0, r0⟩ := trodAll_cons hA
  obtain ⟨v1, vs1, d1, ds1, p1, q1, rfl, rfl, rfl, h1, r1⟩ := trodAll_cons r0
  obtain ⟨v2, vs2, d2, ds2, p2, q2, rfl, rfl, rfl, h2, r2⟩ := trodAll_cons r1
  obtain ⟨rfl, rfl, rfl⟩ := trodAll_nil r2
  obtain rfl : args = #[v0, v1, v2] := by cases args; simp_all
  obtain ⟨rfl, rfl⟩ := trodVars_none hV
  have hc := open_net (hval 0 52 v0 rfl rfl) h0
  have hc1 := open_ints64 (hval 1 28 v1 rfl rfl) h1
  obtain ⟨a2, rfl, rfl, rfl, w2⟩ := open_int Tryz.underlying2 (hval 2 2 v2 rfl rfl) h2
  refine (walk v0 v1 a2 W hc hc1).mono fun e W' ⟨he, hg⟩ => ?_
  subst he
  exact ⟨_, rfl, law.law_post hW' hg laidOut (by kernel_rfl) rfl rfl (by kernel_rfl) Tryz.underlying4⟩

theorem over : Rows.fnExactMakeProofRow.holds Tryz.pinned (OpenSpec.ofChange Rows.fnExactMakeProofSpec) :=
  OpenClaim.holds_of_wide 7 Tryz.f7 rfl rfl rfl rfl rfl rfl rfl ⟨rfl, rfl, rfl, rfl, rfl⟩ rfl rfl rfl rfl rfl (by kernel_rfl) Tryz.func7 (by kernel_rfl)
    (of_decide_eq_true (by kernel_rfl)) (by unfold Func.isWrapper; first | (rw [if_pos (by decide +kernel)]; kernel_rfl) | (rw [if_neg (by decide +kernel)]; exact ⟨rfl, rfl⟩))
    (fun os started H enc _ => lifted os started H enc)

theorem proved : Rows.FnExactMakeProofSaid :=
  over
#print axioms proved
end Go.Proofs.YtdbgcbkmcbgdiaaGreat.fnExactMakeProof
