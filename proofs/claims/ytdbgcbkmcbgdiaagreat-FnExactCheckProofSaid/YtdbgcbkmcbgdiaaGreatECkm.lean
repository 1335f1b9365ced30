/-
  Several texts in one: Loe, Prf, Cer, Ckp, Cpc, ECheckProof.
-/
import Derived.Test.YtdbgcbkmcbgdiaaGreatRows
import Derived.Test.YtdbgcbkmcbgdiaaGreatLop
import Derived.Test.YtdbgcbkmcbgdiaaGreatEsM
import Derived.Lib.MinMax
import Derived.Test.YtdbgcbkmcbgdiaaGreatNetX
import Derived.Test.YtdbgcbkmcbgdiaaGreatIntA
import Derived.Test.YtdbgcbkmcbgdiaaGreatOpen
import Derived.Test.YtdbgcbkmcbgdiaaGreatNetCl
import Derived.WalkKit
import Derived.ProofKit
import Derived.OwnWalk
import Derived.Lib.Hide
import Derived.Deep.RegionHeld3
import Derived.Test.YtdbgcbkmcbgdiaaGreatLsv
import Derived.Test.YtdbgcbkmcbgdiaaGreatTvM
import Derived.Test.YtdbgcbkmcbgdiaaGreatTsM
import Derived.Test.YtdbgcbkmcbgdiaaGreatLfm
import Derived.Laws.EntriesVeiled
import Derived.OpenShut
import Derived.ChangeMaps5
namespace Go.Proofs.YtdbgcbkmcbgdiaaGreat.mem
open Go.RowKit
set_option linter.unusedVariables false

/-- the greatest of the first numbers without sign -/
def leS (r : Nat → Int) : Nat → Int
  | 0 => 0
  | k + 1 => max (leS r k) ((r k).natAbs : Int)
theorem leS_congr {r s : Nat → Int} : ∀ {k : Nat}, (∀ j, j < k → r j = s j) → leS r k = leS s k
  | 0, _ => rfl
  | k + 1, h => by
    unfold leS
    rw [leS_congr (fun j hj => h j (by omega)), h k (by omega)]
theorem leS_bnd {r : Nat → Int} {B : Int} (hB : 0 ≤ B) : ∀ {k : Nat}, (∀ j, j < k → -B ≤ r j ∧ r j ≤ B) → 0 ≤ leS r k ∧ leS r k ≤ B
  | 0, _ => by unfold leS; omega
  | k + 1, h => by
    have ih := leS_bnd hB (k := k) (fun j hj => h j (by omega))
    have h1 := h k (by omega)
    unfold leS
    omega
theorem leS_max (r : Nat → Int) : ∀ k j, j < k → ((r j).natAbs : Int) ≤ leS r k
  | 0, j, h => by omega
  | k + 1, j, h => by
    unfold leS
    by_cases e : j = k
    · subst e; omega
    · have := leS_max r k j (by omega)
      omega
theorem leS_ws (r : Nat → Int) : ∀ k, 0 < k → leS r k = ((r (wsI r k)).natAbs : Int)
  | 0, h => by omega
  | k + 1, _ => by
    rcases Nat.eq_zero_or_pos k with e | e
    · subst e
      rw [wsI_one]
      unfold leS leS
      omega
    · have ih := leS_ws r k e
      unfold leS wsI
      rw [ih]
      split <;> omega
noncomputable def leV (n : Nat) (N : Nat → Nod) (m : Nat) (P : Nat → Pip) (K : Nat) (d : Nat → Int) : Int := if flC n N m P K d = 0 then leS (rsD n P m d) (chN n P m) else 0
theorem rsD_bnd {n : Nat} {N : Nat → Nod} {m : Nat} {P : Nat → Pip} (hB : netB n N m P = true) {d : Nat → Int} (hd : ∀ a, a < m → -30000 ≤ d a ∧ d a ≤ 30000) (j : Nat) (hj : j < chN n P m) : -36000000000000 ≤ rsD n P m d j ∧ rsD n P m d j ≤ 36000000000000 := by
  obtain ⟨hjm, hjp⟩ := chS_at (n := n) (P := P) (m := m) hj
  have := rsS_bnd (P := P) (x := d) (y := cyc P (fE n P m) (fD n P m) (chS n P m j)) (k := m) (fun a ha => drp_bnd (net_pip hB ha) (hd a ha).1 (hd a ha).2) (fun a _ => cyc_one hB hjm hjp a)
  have hm := (net_sz hB).2.2
  unfold rsD
  omega
end Go.Proofs.YtdbgcbkmcbgdiaaGreat.mem

namespace Go.Proofs.YtdbgcbkmcbgdiaaGreat.mem
open Go.Joins Go.RowKit Go.ChangeShapes Go.WideShapes Go.ChangeAt Go.Deep
set_option linter.unusedVariables false

/-- what reads as a proof: K flows d, L levels l, in blocks from lo on and below hi -/
structure PrAt (w : World) (v : Value) (K : Nat) (d : Nat → Int) (L : Nat) (l : Nat → Int) (lo hi : Nat) : Prop where
  ex : ∃ v0 v1, v = .agg #[v0, v1] ∧ Sl w v0 K d lo hi ∧ Sl w v1 L l lo hi
theorem PrAt.below {w w' : World} {v : Value} {K L lo hi B : Nat} {d l : Nat → Int} (h : PrAt w v K d L l lo hi) (g : Below B w w') (hB : hi ≤ B) : PrAt w' v K d L l lo hi := by
  obtain ⟨v0, v1, rfl, h0, h1⟩ := h.ex
  exact ⟨v0, v1, rfl, h0.below g hB, h1.below g hB⟩
theorem PrAt.mono {w : World} {v : Value} {K L lo hi lo' hi' : Nat} {d l : Nat → Int} (h : PrAt w v K d L l lo hi) (h1 : lo' ≤ lo) (h2 : hi ≤ hi') : PrAt w v K d L l lo' hi' := by
  obtain ⟨v0, v1, rfl, g0, g1⟩ := h.ex
  exact ⟨v0, v1, rfl, g0.mono h1 h2, g1.mono h1 h2⟩
theorem PrAt.drew {w : World} {v : Value} {K L lo hi : Nat} {d l : Nat → Int} (h : PrAt w v K d L l lo hi) : PrAt w.drew v K d L l lo hi := h.below (B := hi) ⟨rfl, rfl, rfl, Nat.le_refl _, fun _ _ => rfl⟩ (Nat.le_refl _)
theorem PrAt.next {w w' : World} {v : Value} {K L : Nat} {d l : Nat → Int} (h : PrAt w v K d L l 0 w.heap.size) (g : Below w.heap.size w w') : PrAt w' v K d L l 0 w'.heap.size := (h.below g (Nat.le_refl _)).mono (Nat.le_refl _) g.size
theorem PrAt.shape {w : World} {v : Value} {K L lo hi : Nat} {d l : Nat → Int} (h : PrAt w v K d L l lo hi) : ∃ p0 c0 p1 c1, v = .agg #[.slice p0 K c0, .slice p1 L c1] := by
  obtain ⟨v0, v1, rfl, g0, g1⟩ := h.ex
  obtain ⟨p0, c0, e0, _⟩ := g0.ex
  obtain ⟨p1, c1, e1, _⟩ := g1.ex
  exact ⟨p0, c0, p1, c1, by rw [e0, e1]⟩
theorem PrAt.two {w : World} {p0 p1 : Option Addr} {c0 c1 : Nat} {K L lo hi : Nat} {d l : Nat → Int} (h : PrAt w (.agg #[.slice p0 K c0, .slice p1 L c1]) K d L l lo hi) : Sl w (.slice p0 K c0) K d lo hi ∧ Sl w (.slice p1 L c1) L l lo hi := by
  obtain ⟨v0, v1, e, g0, g1⟩ := h.ex
  simp only [Value.agg.injEq, Array.mk.injEq, List.cons.injEq, and_true] at e
  obtain ⟨rfl, rfl⟩ := e
  exact ⟨g0, g1⟩
/-- a proof of the call's own, its lists in blocks b1 and b2 -/
structure PrOwn (w : World) (v : Value) (K : Nat) (d : Nat → Int) (L : Nat) (l : Nat → Int) (b1 b2 : Nat) : Prop where
  ex : ∃ v0 v1, v = .agg #[v0, v1] ∧ OwnS w v0 K 1 (fun i _ => .int .i64 (d i)) b1 ∧ OwnS w v1 L 1 (fun i _ => .int .i64 (l i)) b2 ∧ (K = 0 ∨ L = 0 ∨ b1 ≠ b2)
theorem PrOwn.upd {X : Nat → Prop} {w w' : World} {v : Value} {K L b1 b2 : Nat} {d l : Nat → Int} (h : PrOwn w v K d L l b1 b2) (g : Upd X w w') (h1 : K = 0 ∨ ¬ X b1) (h2 : L = 0 ∨ ¬ X b2) : PrOwn w' v K d L l b1 b2 := by
  obtain ⟨v0, v1, rfl, g0, g1, g2⟩ := h.ex
  exact ⟨v0, v1, rfl, g0.upd g h1, g1.upd g h2, g2⟩
theorem PrOwn.below {w w' : World} {v : Value} {K L b1 b2 B : Nat} {d l : Nat → Int} (h : PrOwn w v K d L l b1 b2) (g : Below B w w') (hB : w.heap.size ≤ B) : PrOwn w' v K d L l b1 b2 := by
  obtain ⟨v0, v1, rfl, g0, g1, g2⟩ := h.ex
  exact ⟨v0, v1, rfl, g0.below g hB, g1.below g hB, g2⟩
theorem PrOwn.next {w w' : World} {v : Value} {K L b1 b2 : Nat} {d l : Nat → Int} (h : PrOwn w v K d L l b1 b2) (g : Below w.heap.size w w') : PrOwn w' v K d L l b1 b2 := h.below g (Nat.le_refl _)
theorem PrOwn.next_upd {X : Nat → Prop} {w w' : World} {v : Value} {K L b1 b2 : Nat} {d l : Nat → Int} (h : PrOwn w v K d L l b1 b2) (g : Upd X w w') (hx : (K = 0 ∨ ¬ X b1) ∧ (L = 0 ∨ ¬ X b2)) : PrOwn w' v K d L l b1 b2 := h.upd g hx.1 hx.2
theorem PrOwn.drew {w : World} {v : Value} {K L b1 b2 : Nat} {d l : Nat → Int} (h : PrOwn w v K d L l b1 b2) : PrOwn w.drew v K d L l b1 b2 := h.below (B := w.heap.size) ⟨rfl, rfl, rfl, Nat.le_refl _, fun _ _ => rfl⟩ (Nat.le_refl _)
theorem owns_all {w : World} {v : Value} {n b : Nat} {d : Nat → Int} (h : OwnS w v n 1 (fun i _ => .int .i64 (d i)) b) : Sl w v n d 0 w.heap.size := by
  obtain ⟨p', cap, hv, h1, h2, h3⟩ := h.ex
  refine ⟨p', cap, hv, ?_⟩
  rcases h3 with h3 | ⟨h3, h4⟩
  · exact .inl h3
  · refine .inr ⟨b, 0, h3, Nat.zero_le _, h4.lt, fun k hk => ?_⟩
    have := h4.cell k 0 hk (by omega)
    simpa using this
theorem PrOwn.pr {w : World} {v : Value} {K L b1 b2 : Nat} {d l : Nat → Int} (h : PrOwn w v K d L l b1 b2) : PrAt w v K d L l 0 w.heap.size := by
  obtain ⟨v0, v1, rfl, g0, g1, g2⟩ := h.ex
  exact ⟨v0, v1, rfl, owns_all g0, owns_all g1⟩
theorem PrOwn.lts {w : World} {v : Value} {K L b1 b2 : Nat} {d l : Nat → Int} (h : PrOwn w v K d L l b1 b2) : (K = 0 ∨ b1 < w.heap.size) ∧ (L = 0 ∨ b2 < w.heap.size) := by
  obtain ⟨v0, v1, rfl, g0, g1, g2⟩ := h.ex
  exact ⟨g0.lt, g1.lt⟩
theorem PrOwn.shape {w : World} {v : Value} {K L b1 b2 : Nat} {d l : Nat → Int} (h : PrOwn w v K d L l b1 b2) : ∃ p0 c0 p1 c1, v = .agg #[.slice p0 K c0, .slice p1 L c1] := h.pr.shape
theorem PrOwn.none_ (w : World) (d l : Nat → Int) (b1 b2 : Nat) : PrOwn w (.agg #[.slice none 0 0, .slice none 0 0]) 0 d 0 l b1 b2 := ⟨_, _, rfl, OwnS.none_ _ _ _ _, OwnS.none_ _ _ _ _, .inl rfl⟩
/-- a proof and a code as an answer -/
def PIPost (w : World) (K : Nat) (d : Nat → Int) (L : Nat) (l : Nat → Int) (c : Int) (e : Ending) (w' : World) : Prop :=
  ∃ v b1 b2, e = .returned (.tuple #[v, .int .i64 c]) ∧ PrOwn w' v K d L l b1 b2 ∧ w.heap.size ≤ b1 ∧ w.heap.size ≤ b2 ∧ Below w.heap.size w w'

theorem szInts_any (w : World) (p : Option Addr) (n cap : Nat) (left : Int) (h0 : 0 ≤ left) (h1 : left ≤ 1048576) (hn : n ≤ 9223372036854775807) :
    Calls Tryz.prog 83 #[.slice p n cap, .int .i64 left] w (SzPost w left n) := by
  by_cases h : left - n < 0
  all_goals
    go_enter Tryz.func83, Tryz.ntmps83
    go_wp2_with fail
    go_ret
  · exact ⟨-1, rfl, .inl rfl, Below.refl _ _⟩
  · exact ⟨left - n, rfl, .inr ⟨by omega, by omega, by omega⟩, Below.refl _ _⟩
set_option maxHeartbeats 1000000 in
theorem szProof_any (w : World) (v : Value) (K : Nat) (d : Nat → Int) (L : Nat) (l : Nat → Int) (lo hi : Nat) (left : Int) (h : PrAt w v K d L l lo hi) (hK : K ≤ 9223372036854775807) (hL : L ≤ 9223372036854775807) (h0 : 0 ≤ left) (h1 : left ≤ 1048576) :
    Calls Tryz.prog 36 #[v, .int .i64 left] w (SzPost w left (max K L)) := by
  obtain ⟨p0, c0, p1, c1, rfl⟩ := h.shape
  clear h
  go_enter Tryz.func36, Tryz.ntmps36
  have A0 := boxed w (.slice p0 K c0) (.slice p1 L c1) 62
  have e0' := A0.b0
  have e1' := A0.b1
  have hs0 : (w.alloc (.cells #[.slice p0 K c0, .slice p1 L c1] 62)).heap.size = w.heap.size + 1 := by simp
  have B0 := Lib.hid (below_new w (.cells #[.slice p0 K c0, .slice p1 L c1] 62))
  go_wp2_with fail
  refine (szInts_any _ p0 K c0 left h0 h1 hK).mono ?_
  rintro e w2 ⟨r, rfl, hr, b2⟩
  have A1 := A0.below b2 (by omega)
  have e0 := A1.b0
  have e1 := A1.b1
  have s2 := b2.size
  have s3 : w.heap.size ≤ w2.heap.size := by omega
  have B2 := Lib.hid (B0.out.trans (b2.mono (by omega)))
  clear b2 A0 e0' e1'
  rcases hr with rfl | ⟨hr0, hr1, hr2⟩
  · go_wp2_with fail
    go_ret
    exact ⟨-1, rfl, .inl rfl, B2.out⟩
  · go_wp2_with fail
    refine (szInts_any _ p1 L c1 r hr0 (by omega) hL).mono ?_
    rintro e w3 ⟨q, rfl, hq, b3⟩
    have B3 := Lib.hid (B2.out.trans (b3.mono s3))
    clear b3
    rcases hq with rfl | ⟨hq0, hq1, hq2⟩
    · go_wp2_with fail
      go_ret
      exact ⟨-1, rfl, .inl rfl, B3.out⟩
    · go_wp2_with fail
      go_ret
      exact ⟨q, rfl, .inr ⟨hq0, by omega, by omega⟩, B3.out⟩
/-- a copy of a proof -/
def NewPr (w : World) (K : Nat) (d : Nat → Int) (L : Nat) (l : Nat → Int) (e : Ending) (w' : World) : Prop :=
  ∃ p0 c0 p1 c1, e = .returned (.agg #[.slice p0 K c0, .slice p1 L c1]) ∧ PrAt w' (.agg #[.slice p0 K c0, .slice p1 L c1]) K d L l 0 w'.heap.size ∧ Below w.heap.size w w'
set_option maxHeartbeats 4000000 in
theorem toProof_any (w : World) (v : Value) (K : Nat) (d : Nat → Int) (L : Nat) (l : Nat → Int) (lo hi : Nat) (h : PrAt w v K d L l lo hi) (hK : K ≤ 2000000) (hL : L ≤ 2000000) (hhi : hi ≤ w.heap.size) :
    Calls Tryz.prog 37 #[v] w (NewPr w K d L l) := by
  obtain ⟨p0, c0, p1, c1, rfl⟩ := h.shape
  obtain ⟨g0, g1⟩ := h.two
  have G0 := Lib.hid g0
  have G1 := Lib.hid g1
  clear h g0 g1
  go_enter Tryz.func37, Tryz.ntmps37
  go_wp2_with fail
  generalize hW : ((w.alloc _).alloc _).alloc _ = W1
  have a0 : Ob W1 w.heap.size 2 (fun k => if k = 0 then .slice p0 K c0 else .slice p1 L c1) := by
    rw [← hW]
    exact ((Ob.new w _ _ 2 _ rfl (by intro k hk; rcases (by omega : k = 0 ∨ k = 1) with rfl | rfl <;> rfl)).keep (Below.heap_alloc _ _ _ (by simp))).keep (Below.heap_alloc _ _ _ (by simp; omega))
  have a1 : Ob W1 (w.heap.size + 1) 2 (fun _ => .slice none 0 0) := by
    rw [← hW]
    have := (Ob.new (w.alloc (Obj.cells #[Value.slice p0 K c0, Value.slice p1 L c1] 62)) #[.slice none 0 0, .slice none 0 0] 38 2 (fun _ => .slice none 0 0) rfl (by intro k hk; rcases (by omega : k = 0 ∨ k = 1) with rfl | rfl <;> rfl)).keep (Below.heap_alloc _ (Obj.cells #[Value.slice none 0 0, Value.slice none 0 0] 38) _ (by simp))
    simpa using this
  have a2 : Ob W1 (w.heap.size + 1 + 1) 2 (fun _ => .slice none 0 0) := by
    rw [← hW]
    have := Ob.new ((w.alloc (Obj.cells #[Value.slice p0 K c0, Value.slice p1 L c1] 62)).alloc (Obj.cells #[Value.slice none 0 0, Value.slice none 0 0] 38)) #[.slice none 0 0, .slice none 0 0] 38 2 (fun _ => .slice none 0 0) rfl (by intro k hk; rcases (by omega : k = 0 ∨ k = 1) with rfl | rfl <;> rfl)
    simpa using this
  have b0 : Below w.heap.size w W1 := by rw [← hW]; exact bel3 _ _ _ _
  have z0 : W1.heap.size = w.heap.size + 3 := by rw [← hW]; simp
  clear hW
  replace z0 := Nat.le_antisymm_iff.1 z0
  have A0 := Lib.hid a0
  have A1 := Lib.hid a1
  have A2 := Lib.hid a2
  have B0 := Lib.hid b0
  clear a0 a1 a2 b0
  refine (copy_any _ _ K d lo hi (G0.out.below B0.out hhi) hK (by omega)).mono ?_
  rintro e w2 ⟨rfl, r1, b1, zz1⟩
  have A0' := Lib.hid (A0.out.below b1 (by omega))
  have A1' := Lib.hid (A1.out.below b1 (by omega))
  have A2' := Lib.hid (A2.out.below b1 (by omega))
  have B1 := Lib.hid (B0.out.trans (b1.mono (by omega)))
  have z1 := b1.size
  have R1 := Lib.hid (show Sl w2 (.slice (some ⟨W1.heap.size, 0, none⟩) K K) K d W1.heap.size (W1.heap.size + 1) from r1.sl (Nat.le_refl _) (by omega))
  have f0 := A2'.out.cell 0 (by omega)
  have f1 := A2'.out.free 0
  have f2 := A0'.out.cell 1 (by omega)
  have z2 : W1.heap.size < w2.heap.size := by omega
  simp only [if_false, Nat.one_ne_zero] at f2
  clear b1 r1 zz1 A0 A1 A2
  go_wp2_with fail
  generalize hW : w2.setCell _ _ = w3
  have u3 : Only (w.heap.size + 1 + 1) w2 w3 := by rw [← hW]; exact (Only.refl _ _).setCell _ _
  have s3 : Ob w3 (w.heap.size + 1 + 1) 2 (updV (fun _ => .slice none 0 0) 0 (.slice (some ⟨W1.heap.size, 0, none⟩) K K)) := by rw [← hW]; exact A2'.out.set 0 _ (by omega)
  have z3 := Nat.le_antisymm_iff.1 u3.size
  clear hW f0 f1 f2
  have U3 := Lib.hid u3
  have S3 := Lib.hid s3
  clear u3 s3
  refine (copy_any _ _ L l lo hi ((G1.out.below B1.out hhi).only U3.out (by omega)) hL (by omega)).mono ?_
  rintro e w4 ⟨rfl, r2, b2, zz2⟩
  have S4 := Lib.hid (S3.out.below b2 (by omega))
  have A1'' := Lib.hid ((A1'.out.only U3.out (by omega)).below b2 (by omega))
  have R1' := Lib.hid ((R1.out.only U3.out (by omega)).below b2 (by omega))
  have B2 := Lib.hid ((below_only B1.out U3.out (by omega)).trans (b2.mono (by omega)))
  have R2 := Lib.hid (show Sl w4 (.slice (some ⟨w3.heap.size, 0, none⟩) L L) L l w3.heap.size (w3.heap.size + 1) from r2.sl (Nat.le_refl _) (by omega))
  have z4 := b2.size
  have z5 : w3.heap.size < w4.heap.size := by omega
  have f0 := S4.out.cell 0 (by omega)
  have f1 := S4.out.free 1
  have f2 := S4.out.cell 1 (by omega)
  have f3 := A1''.out.cell 0 (by omega)
  have f4 := A1''.out.cell 1 (by omega)
  have f5 := A1''.out.free 0
  have f6 := A1''.out.free 1
  simp only [updV, if_true, if_false, Nat.one_ne_zero] at f0 f2
  clear b2 r2 zz2
  go_wp2_with fail
  have u5 : Upd (fun k => k = w.heap.size + 1 + 1 ∨ k = w.heap.size + 1) w4 (((w4.setCell ⟨w.heap.size + 1 + 1, 1, none⟩ (.slice (some ⟨w3.heap.size, 0, none⟩) L L)).setCell ⟨w.heap.size + 1, 0, none⟩ (.slice (some ⟨W1.heap.size, 0, none⟩) K K)).setCell ⟨w.heap.size + 1, 1, none⟩ (.slice (some ⟨w3.heap.size, 0, none⟩) L L)) :=
    ((Upd.of_only ((Only.refl _ w4).setCell _ _)).mono (fun k _ e => .inl e)).trans ((Upd.of_only (((Only.refl _ _).setCell _ _).setCell _ _)).mono (fun k _ e => .inr e))
  have k1 : Only (w.heap.size + 1 + 1) w4 (w4.setCell ⟨w.heap.size + 1 + 1, 1, none⟩ (.slice (some ⟨w3.heap.size, 0, none⟩) L L)) := (Only.refl _ w4).setCell _ _
  have k2 : Only (w.heap.size + 1) (w4.setCell ⟨w.heap.size + 1 + 1, 1, none⟩ (.slice (some ⟨w3.heap.size, 0, none⟩) L L)) (((w4.setCell ⟨w.heap.size + 1 + 1, 1, none⟩ (.slice (some ⟨w3.heap.size, 0, none⟩) L L)).setCell ⟨w.heap.size + 1, 0, none⟩ (.slice (some ⟨W1.heap.size, 0, none⟩) K K)).setCell ⟨w.heap.size + 1, 1, none⟩ (.slice (some ⟨w3.heap.size, 0, none⟩) L L)) := ((Only.refl _ _).setCell _ _).setCell _ _
  have kz := u5.size
  refine bodyPost_ret (v := .agg #[.slice (some ⟨W1.heap.size, 0, none⟩) K K, .slice (some ⟨w3.heap.size, 0, none⟩) L L]) (by simp [results, Tryz.results37, go_sem, f3, f4]) rfl
    ⟨_, _, _, _, rfl, ⟨_, _, rfl, ?_, ?_⟩, ?_⟩
  · exact ((R1'.out.only k1 (by omega)).only k2 (by omega)).mono (Nat.zero_le _) (by omega)
  · exact ((R2.out.only k1 (by omega)).only k2 (by omega)).mono (Nat.zero_le _) (by omega)
  · exact B2.out.trans (u5.below (by omega) (by omega))
set_option maxHeartbeats 4000000 in
theorem eqProof_any (w : World) (v u : Value) (K : Nat) (d : Nat → Int) (L : Nat) (l : Nat → Int) (lo hi lo' hi' : Nat) (h : PrAt w v K d L l lo hi) (g : PrAt w u K d L l lo' hi') (hK : K ≤ 2000000) (hL : L ≤ 2000000) (hhi : hi ≤ w.heap.size) (hhi' : hi' ≤ w.heap.size) :
    Calls Tryz.prog 33 #[v, u] w fun e w' => e = .returned (.bool true) ∧ Below w.heap.size w w' := by
  obtain ⟨p0, c0, p1, c1, rfl⟩ := h.shape
  obtain ⟨q0, d0, q1, d1, rfl⟩ := g.shape
  obtain ⟨g0, g1⟩ := h.two
  obtain ⟨k0, k1⟩ := g.two
  have G0 := Lib.hid g0
  have G1 := Lib.hid g1
  have K0 := Lib.hid k0
  have K1 := Lib.hid k1
  clear h g g0 g1 k0 k1
  go_enter Tryz.func33, Tryz.ntmps33
  go_wp2_with fail
  generalize hW : (w.alloc _).alloc _ = W1
  have a0 : Ob W1 w.heap.size 2 (fun k => if k = 0 then .slice p0 K c0 else .slice p1 L c1) := by
    rw [← hW]
    exact (Ob.new w _ _ 2 _ rfl (by intro k hk; rcases (by omega : k = 0 ∨ k = 1) with rfl | rfl <;> rfl)).keep (Below.heap_alloc _ _ _ (by simp))
  have a1 : Ob W1 (w.heap.size + 1) 2 (fun k => if k = 0 then .slice q0 K d0 else .slice q1 L d1) := by
    rw [← hW]
    have := Ob.new (w.alloc (Obj.cells #[Value.slice p0 K c0, Value.slice p1 L c1] 38)) #[.slice q0 K d0, .slice q1 L d1] 38 2 (fun k => if k = 0 then .slice q0 K d0 else .slice q1 L d1) rfl (by intro k hk; rcases (by omega : k = 0 ∨ k = 1) with rfl | rfl <;> rfl)
    simpa using this
  have b0 : Below w.heap.size w W1 := by rw [← hW]; exact bel2 _ _ _
  have z0 : W1.heap.size = w.heap.size + 2 := by rw [← hW]; simp
  clear hW
  replace z0 := Nat.le_antisymm_iff.1 z0
  have A0 := Lib.hid a0
  have A1 := Lib.hid a1
  have B0 := Lib.hid b0
  clear a0 a1 b0
  refine (eq_any _ _ _ K d lo hi lo' hi' (G0.out.below B0.out hhi) (K0.out.below B0.out hhi') hK).mono ?_
  rintro e w2 ⟨rfl, mm, hmm⟩
  have b1 : Below W1.heap.size W1 w2 := by rw [hmm]; exact below_drNN (Below.refl _ _) mm
  clear hmm
  have B1 := Lib.hid (B0.out.trans (b1.mono (by omega)))
  have f0 := (A0.out.below b1 (by omega)).cell 1 (by omega)
  have f1 := (A1.out.below b1 (by omega)).cell 1 (by omega)
  simp only [if_false, Nat.one_ne_zero] at f0 f1
  have z1 := b1.size
  clear b1
  go_wp2_with fail
  refine (eq_any _ _ _ L l lo hi lo' hi' (G1.out.below B1.out hhi) (K1.out.below B1.out hhi') hL).mono ?_
  rintro e w3 ⟨rfl, m2, hm2⟩
  have b2 : Below w2.heap.size w2 w3 := by rw [hm2]; exact below_drNN (Below.refl _ _) m2
  clear hm2
  have B2 := Lib.hid (B1.out.trans (b2.mono (by omega)))
  clear b2
  go_wp2_with fail
  go_ret
  exact ⟨rfl, B2.out⟩
set_option maxHeartbeats 4000000 in
theorem markProof_any (w : World) (v : Value) (K : Nat) (d : Nat → Int) (L : Nat) (l : Nat → Int) (b1 b2 : Nat) (k : Nat) (h : PrOwn w v K d L l b1 b2) (hK : K ≤ 2000000) (hL : L ≤ 2000000) (k1 : k ≤ 100000000) :
    Calls Tryz.prog 34 #[v, .int .i64 k] w fun e w' => e = .returned (.int .i64 (k + K + L : Nat)) ∧ PrOwn w' v K (fun j => (k : Int) + j) L (fun j => ((k + K : Nat) : Int) + j) b1 b2 ∧ Upd (fun x => (K ≠ 0 ∧ x = b1) ∨ (L ≠ 0 ∧ x = b2)) w w' := by
  obtain ⟨v0, v1, rfl, g0, g1, gne⟩ := h.ex
  obtain ⟨p0, c0, rfl⟩ : ∃ p c, v0 = .slice p K c := by
    obtain ⟨p, c, e, _⟩ := g0.ex
    exact ⟨p, c, e⟩
  obtain ⟨p1, c1, rfl⟩ : ∃ p c, v1 = .slice p L c := by
    obtain ⟨p, c, e, _⟩ := g1.ex
    exact ⟨p, c, e⟩
  have G0 := Lib.hid g0
  have G1 := Lib.hid g1
  have GN := Lib.hid gne
  clear h g0 g1 gne
  obtain ⟨k', hk'⟩ : ∃ k', k' = k + K := ⟨_, rfl⟩
  go_enter Tryz.func34, Tryz.ntmps34
  go_wp2_with fail
  have a0 : Ob (w.alloc (Obj.cells #[Value.slice p0 K c0, Value.slice p1 L c1] 38)) w.heap.size 2 (fun k => if k = 0 then .slice p0 K c0 else .slice p1 L c1) := Ob.new w _ _ 2 _ rfl (by intro k hk; rcases (by omega : k = 0 ∨ k = 1) with rfl | rfl <;> rfl)
  have A0 := Lib.hid a0
  clear a0
  have l0 := Lib.hid G0.out.lt
  have l1 := Lib.hid G1.out.lt
  refine (markInts_any _ _ K b1 d k (G0.out.below (below_new _ _) (Nat.le_refl _)) hK (by omega)).mono ?_
  rintro e w2 ⟨rfl, r1, u1⟩
  rw [← hk']
  have HK := Lib.hid hk'
  have hk3 : k' ≤ 200000000 := by omega
  have f0 := (A0.out.keep (u1.block w.heap.size (by simp) (by have := l0.out; omega))).cell 1 (by omega)
  simp only [if_false, Nat.one_ne_zero] at f0
  have z1 := u1.size
  have z2 : w.heap.size ≤ w2.heap.size := by simp at z1; omega
  have U0 : Upd (fun x => (K ≠ 0 ∧ x = b1) ∨ (L ≠ 0 ∧ x = b2)) w (w.alloc (Obj.cells #[Value.slice p0 K c0, Value.slice p1 L c1] 38)) := Upd.of_below (below_new _ _)
  have U1 := Lib.hid (U0.trans (u1.mono (fun k _ e => .inl e)))
  have g1' := Lib.hid ((G1.out.below (below_new _ (Obj.cells #[Value.slice p0 K c0, Value.slice p1 L c1] 38)) (Nat.le_refl _)).upd u1 (by have := GN.out; have := l0.out; have := l1.out; omega))
  have R1 := Lib.hid r1
  clear u1 U0 r1 z1 hk' A0
  go_wp2_with fail
  refine (markInts_any _ _ L b2 l k' g1'.out hL (by omega)).mono ?_
  rintro e w3 ⟨rfl, r2, u2⟩
  have U2 := Lib.hid (U1.out.trans (u2.mono (fun k _ e => .inr e)))
  have R2 := Lib.hid r2
  have R1' := Lib.hid (R1.out.upd u2 (by have := GN.out; omega))
  clear r2 u2
  go_wp2_with fail
  go_ret
  refine ⟨ret_i (by have := HK.out; omega), ⟨_, _, rfl, R1'.out, ?_, GN.out⟩, U2.out⟩
  have := R2.out
  rw [HK.out] at this
  exact this
set_option maxHeartbeats 4000000 in
theorem heldProof_any (w : World) (v : Value) (K L b1 b2 : Nat) (k : Nat) (h : PrOwn w v K (fun j => (k : Int) + j) L (fun j => ((k + K : Nat) : Int) + j) b1 b2) (hK : K ≤ 2000000) (hL : L ≤ 2000000) (k1 : k ≤ 100000000) :
    Calls Tryz.prog 35 #[v, .int .i64 k] w fun e w' => e = .returned (.int .i64 (k + K + L : Nat)) ∧ Below w.heap.size w w' := by
  obtain ⟨v0, v1, rfl, g0, g1, gne⟩ := h.ex
  obtain ⟨p0, c0, rfl⟩ : ∃ p c, v0 = .slice p K c := by
    obtain ⟨p, c, e, _⟩ := g0.ex
    exact ⟨p, c, e⟩
  obtain ⟨p1, c1, rfl⟩ : ∃ p c, v1 = .slice p L c := by
    obtain ⟨p, c, e, _⟩ := g1.ex
    exact ⟨p, c, e⟩
  have G0 := Lib.hid g0
  obtain ⟨k', hk'⟩ : ∃ k', k' = k + K := ⟨_, rfl⟩
  rw [← hk'] at g1
  have G1 := Lib.hid g1
  clear h g0 g1 gne
  have hk2 : ¬ ((k' : Int) < 0) := by omega
  go_enter Tryz.func35, Tryz.ntmps35
  go_wp2_with fail
  have a0 : Ob (w.alloc (Obj.cells #[Value.slice p0 K c0, Value.slice p1 L c1] 38)) w.heap.size 2 (fun k => if k = 0 then .slice p0 K c0 else .slice p1 L c1) := Ob.new w _ _ 2 _ rfl (by intro k hk; rcases (by omega : k = 0 ∨ k = 1) with rfl | rfl <;> rfl)
  have A0 := Lib.hid a0
  clear a0
  refine (heldInts_any _ _ K k 0 w.heap.size ((G0.out.cs (.inr rfl) (Nat.le_refl _)).below (below_new _ _) (Nat.le_refl _)) hK (by omega)).mono ?_
  rintro e w2 ⟨rfl, b1⟩
  rw [← hk']
  have HK := Lib.hid hk'
  have hk3 : k' ≤ 200000000 := by omega
  have B1 := Lib.hid ((below_new w _).trans (b1.mono (by simp)))
  have f0 := (A0.out.below b1 (by simp)).cell 1 (by omega)
  simp only [if_false, Nat.one_ne_zero] at f0
  have z1 := b1.size
  have z2 : w.heap.size ≤ w2.heap.size := by simp at z1; omega
  clear b1 A0 z1 hk'
  go_wp2_with fail
  refine (heldInts_any _ _ L k' 0 w.heap.size ((G1.out.cs (.inr rfl) (Nat.le_refl _)).below B1.out (Nat.le_refl _)) hL (by omega)).mono ?_
  rintro e w3 ⟨rfl, b2⟩
  have B2 := Lib.hid (B1.out.trans (b2.mono z2))
  have hk4 : ¬ (((k' + L : Nat) : Int) < 0) := by omega
  clear b2
  generalize hk5 : k' + L = k5 at *
  have HK5 := Lib.hid hk5
  clear hk5
  go_wp2_with fail
  go_ret
  exact ⟨ret_i (by have := HK.out; have := HK5.out; omega), B2.out⟩
theorem mark1P (w : World) (v : Value) (K : Nat) (d : Nat → Int) (L : Nat) (l : Nat → Int) (b1 b2 q : Nat) (hq : q = 1 + K + L) (h : PrOwn w v K d L l b1 b2) (hK : K ≤ 2000000) (hL : L ≤ 2000000) :
    Calls Tryz.prog 34 #[v, .int .i64 1] w fun e w' => e = .returned (.int .i64 q) ∧ PrOwn w' v K (fun j => ((1 : Nat) : Int) + j) L (fun j => ((1 + K : Nat) : Int) + j) b1 b2 ∧ Upd (fun x => (K ≠ 0 ∧ x = b1) ∨ (L ≠ 0 ∧ x = b2)) w w' := by
  have := markProof_any w v K d L l b1 b2 1 h hK hL (by omega)
  rw [← hq] at this
  exact this
theorem held1P (w : World) (v : Value) (K L b1 b2 q : Nat) (hq : q = 1 + K + L) (h : PrOwn w v K (fun j => ((1 : Nat) : Int) + j) L (fun j => ((1 + K : Nat) : Int) + j) b1 b2) (hK : K ≤ 2000000) (hL : L ≤ 2000000) :
    Calls Tryz.prog 35 #[v, .int .i64 1] w fun e w' => e = .returned (.int .i64 q) ∧ Below w.heap.size w w' := by
  have := heldProof_any w v K L b1 b2 1 h hK hL (by omega)
  rw [← hq] at this
  exact this
/-- what a laws.Proof reads as -/
def PrArg (W : World) (v : Value) : Prop := ∃ K d L l, PrAt W v K d L l 0 W.heap.size ∧ K ≤ 9223372036854775807 ∧ L ≤ 9223372036854775807
section
variable {H : Type} {enc : TypeId × Value → H} {w : World}
theorem open_intcs {cs : List Value} {fuel : Nat} {x : DataW H × List MemPlace} (hf : DataW.trod enc Tryz.prog w 0 (fun _ => true) true fuel 28 cs = some x) :
    ∃ v n d, cs = [v] ∧ n ≤ 9223372036854775807 ∧ Sl w v n d 0 w.heap.size := by
  rcases open_ints Tryz.underlying28 Tryz.underlying2 cells_i64 hf with ⟨rfl, hx⟩ | ⟨a, len, cap, zs, rfl, _, hl, hm, hz, hx, hcell, hwz⟩
  · exact ⟨_, 0, fun _ => 0, rfl, by omega, ⟨_, _, rfl, .inl rfl⟩⟩
  · simp only [if_true] at hz
    have hm' : cap ≤ 9223372036854775807 := by simpa [maxLen] using hm
    refine ⟨_, len, fun k => zs.getD k 0, rfl, by omega, ?_⟩
    rcases Nat.eq_zero_or_pos len with rfl | hpos
    · exact ⟨_, _, rfl, .inl rfl⟩
    · have h0 := hcell 0 (by omega)
      have hsp := plain_of_cell h0
      obtain ⟨cb, co, sp⟩ := a
      simp only at hsp
      subst hsp
      refine ⟨_, _, rfl, .inr ⟨cb, co, rfl, Nat.zero_le _, World.block_lt_of_cell? w _ h0, fun k hk => ?_⟩⟩
      have hk' := hcell k (by omega)
      rw [add_plain'] at hk'
      exact hk'
set_option maxRecDepth 100000 in
theorem open_proof {v : Value} {d : DataW H} {p : List MemPlace} {b0 : Nat} (hval : Value.okWide Tryz.prog w .any b0 62 v) (h : DataW.Trod enc Tryz.prog w 0 (fun _ => true) true 62 v d p) : PrArg w v := by
  obtain ⟨v0, v1, y0, y1, n, rfl, _, _, h0, h1⟩ := open_agg2 Tryz.underlying62 (by kernel_rfl) (by kernel_rfl) hval h
  obtain ⟨u0, K, d, e0, hK, s0⟩ := open_intcs h0
  obtain ⟨u1, L, l, e1, hL, s1⟩ := open_intcs h1
  simp only [List.cons.injEq, and_true] at e0 e1
  subst e0 e1
  exact ⟨K, d, L, l, ⟨_, _, rfl, s0, s1⟩, hK, hL⟩
end
end Go.Proofs.YtdbgcbkmcbgdiaaGreat.mem

namespace Go.Proofs.YtdbgcbkmcbgdiaaGreat.mem
open Go.RowKit
set_option linter.unusedVariables false

noncomputable def coC (n : Nat) (N : Nat → Nod) (m : Nat) (P : Nat → Pip) (K : Nat) (d : Nat → Int) : Int := if svC n N m P K d = 0 then (if conB n N m P = true then 0 else 5) else svC n N m P K d
theorem coC_ok {n : Nat} {N : Nat → Nod} {m : Nat} {P : Nat → Pip} {K : Nat} {d : Nat → Int} (h : coC n N m P K d = 0) : svC n N m P K d = 0 ∧ conB n N m P = true := by
  unfold coC at h
  split at h
  · next h0 =>
    split at h
    · next h1 => exact ⟨h0, h1⟩
    · omega
  · next h0 => exact absurd h h0
noncomputable def mkC (n : Nat) (N : Nat → Nod) (m : Nat) (P : Nat → Pip) (K : Nat) (d : Nat → Int) (lv : Int) : Int := if coC n N m P K d = 0 then (if rlB lv = true then ffC n N m P K d else 2) else coC n N m P K d
noncomputable def mkN (n : Nat) (N : Nat → Nod) (m : Nat) (P : Nat → Pip) (K : Nat) (d : Nat → Int) (lv : Int) : Nat := if mkC n N m P K d lv = 0 then m else 0
noncomputable def mkL (n : Nat) (N : Nat → Nod) (m : Nat) (P : Nat → Pip) (K : Nat) (d : Nat → Int) (lv : Int) : Nat := if mkC n N m P K d lv = 0 then n else 0
def mkF (n : Nat) (m : Nat) (P : Nat → Pip) (d : Nat → Int) : Nat → Int := (rfR n m P (fflN n P m d) 32768).1
def mkV (n : Nat) (m : Nat) (P : Nat → Pip) (d : Nat → Int) (lv : Int) : Nat → Int := fun j => lvl n P m (mkF n m P d) ((0 : Nat) : Int) lv (j : Nat)
theorem mk_no {n : Nat} {N : Nat → Nod} {m : Nat} {P : Nat → Pip} {K : Nat} {d : Nat → Int} {lv c : Int} (h : mkC n N m P K d lv = c) (hc : c ≠ 0) : mkN n N m P K d lv = 0 ∧ mkL n N m P K d lv = 0 := by
  unfold mkN mkL
  rw [h]
  exact ⟨if_neg hc, if_neg hc⟩
theorem mk_yes {n : Nat} {N : Nat → Nod} {m : Nat} {P : Nat → Pip} {K : Nat} {d : Nat → Int} {lv : Int} (h : mkC n N m P K d lv = 0) : mkN n N m P K d lv = m ∧ mkL n N m P K d lv = n := by
  unfold mkN mkL
  exact ⟨if_pos h, if_pos h⟩
theorem rf_rng {n m : Nat} {P : Nat → Pip} {x : Nat → Int} {st : Int} (hx : ∀ k, k < m → -30000 ≤ x k ∧ x k ≤ 30000) : ∀ k, k < m → -30000 ≤ (rfR n m P x st).1 k ∧ (rfR n m P x st).1 k ≤ 30000 := by
  unfold rfR rlx
  exact rlS_rng _ hx
theorem mkF_rng {n : Nat} {N : Nat → Nod} {m : Nat} {P : Nat → Pip} {K : Nat} {d : Nat → Int} (h : ffC n N m P K d = 0) : ∀ k, k < m → -30000 ≤ mkF n m P d k ∧ mkF n m P d k ≤ 30000 := by
  obtain ⟨_, _, _, _, hff⟩ := ffC_ok h
  exact rf_rng (fun k hk => flQ_iff.1 (flB_iff.1 hff k hk))
theorem pi_err {w w' : World} {K L : Nat} {d l : Nat → Int} {c c' : Int} {e : Ending} (h0 : K = 0 ∧ L = 0) (hc : c = c') (he : e = .returned (.tuple #[.agg #[.slice none 0 0, .slice none 0 0], .int .i64 c])) (hb : Below w.heap.size w w') : PIPost w K d L l c' e w' := by
  obtain ⟨rfl, rfl⟩ := h0
  subst hc
  exact ⟨_, w.heap.size, w.heap.size, he, PrOwn.none_ _ _ _ _ _, Nat.le_refl _, Nat.le_refl _, hb⟩
set_option maxRecDepth 100000 in
set_option maxHeartbeats 8000000 in
theorem checkConnected_any (w : World) (v : Value) (n : Nat) (N : Nat → Nod) (m : Nat) (P : Nat → Pip) (lo hi : Nat) (h : NetAt w v n N m P lo hi) (hhi : hi ≤ w.heap.size) (hN : ∀ i, i < n → (N i).s.size ≤ 9223372036854775807) (va : Value) (K : Nat) (d : Nat → Int) (la ha : Nat) (hv : Sl w va K d la ha) (hha : ha ≤ w.heap.size) (hK9 : K ≤ 9223372036854775807) :
    Calls Tryz.prog 59 #[v, va] w (fun e w' => e = .returned (.int .i64 (coC n N m P K d)) ∧ Below w.heap.size w w') := by
  obtain ⟨p0, c0, p1, c1, rfl, hn9, hm9⟩ := h.parts
  have HV := Lib.hid h
  have HN := Lib.hid hN
  obtain ⟨pa, ca, rfl⟩ := hv.sh
  have HSV := Lib.hid hv
  have A0 := boxed w (.slice p0 n c0) (.slice p1 m c1) 27
  have B0 := below_new w (.cells #[.slice p0 n c0, .slice p1 m c1] 27)
  have hs0 : (w.alloc (.cells #[.slice p0 n c0, .slice p1 m c1] 27)).heap.size = w.heap.size + 1 := by simp
  clear h hN hv
  go_enter Tryz.func59, Tryz.ntmps59
  have e0 := A0.b0
  have e1 := A0.b1
  have f2 : w.heap.size < (w.alloc (.cells #[.slice p0 n c0, .slice p1 m c1] 27)).heap.size := by omega
  go_wp2_with fail
  refine (checkSupplies_any _ _ n N m P lo hi (HV.out.below B0 hhi) (by omega) HN.out _ K d la ha (HSV.out.below B0 hha) (by omega) hK9).mono ?_
  rintro e w1 ⟨rfl, b1⟩
  have A1 := A0.below b1 (by omega)
  have B1 := B0.trans (b1.mono (by omega))
  have hs1 := b1.size
  have g2 : w.heap.size < w1.heap.size := by omega
  have z1 := hs1
  clear A0 B0 b1 e0 e1 f2 hs1 hs0
  have f2 := g2
  clear g2
  have e0 := A1.b0
  have e1 := A1.b1
  by_cases hc : svC n N m P K d = 0
  · obtain ⟨hB, _, _⟩ := svC_ok hc
    have HSC := Lib.hid hc
    rw [hc]
    clear hc
    cases hC : conB n N m P
    ·
      go_wp2_with fail
      refine (isConnectedI_any _ _ n N m P lo hi (HV.out.below B1 hhi) (by omega) HN.out).mono ?_
      rintro e w2 ⟨rfl, b2⟩
      have A2 := A1.below b2 (by omega)
      have B2 := B1.trans (b2.mono (by omega))
      have hs2 := b2.size
      have g2 : w.heap.size < w2.heap.size := by omega
      have z2 := hs2
      clear A1 B1 b2 e0 e1 f2 hs2
      have f2 := g2
      clear g2
      have e0 := A2.b0
      have e1 := A2.b1
      rw [hC]
      have H4 := Lib.hid (show coC n N m P K d = 5 by unfold coC; rw [if_pos HSC.out, hC]; rfl)
      go_wp2_with fail
      go_ret
      exact ⟨ret_i H4.out.symm, B2⟩
    ·
      go_wp2_with fail
      refine (isConnectedI_any _ _ n N m P lo hi (HV.out.below B1 hhi) (by omega) HN.out).mono ?_
      rintro e w2 ⟨rfl, b2⟩
      have A2 := A1.below b2 (by omega)
      have B2 := B1.trans (b2.mono (by omega))
      have hs2 := b2.size
      have g2 : w.heap.size < w2.heap.size := by omega
      have z2 := hs2
      clear A1 B1 b2 e0 e1 f2 hs2
      have f2 := g2
      clear g2
      have e0 := A2.b0
      have e1 := A2.b1
      rw [hC]
      have H4 := Lib.hid (show coC n N m P K d = 0 by unfold coC; rw [if_pos HSC.out, hC]; rfl)
      go_wp2_with fail
      go_ret
      exact ⟨ret_i H4.out.symm, B2⟩
  · have H4 := Lib.hid (show coC n N m P K d = svC n N m P K d by unfold coC; rw [if_neg hc])
    have hb1 : (svC n N m P K d == 0) = false := by simpa using hc
    have hb2 : (svC n N m P K d != 0) = true := by simpa using hc
    clear hc
    go_wp2_with fail
    go_ret
    exact ⟨ret_i H4.out.symm, B1⟩
set_option maxRecDepth 100000 in
set_option maxHeartbeats 8000000 in
theorem l12Code_any (w : World) (v : Value) (n : Nat) (N : Nat → Nod) (m : Nat) (P : Nat → Pip) (lo hi : Nat) (h : NetAt w v n N m P lo hi) (hhi : hi ≤ w.heap.size) (hN : ∀ i, i < n → (N i).s.size ≤ 9223372036854775807) (va : Value) (K : Nat) (d : Nat → Int) (la ha : Nat) (hv : Sl w va K d la ha) (hha : ha ≤ w.heap.size) (hK9 : K ≤ 9223372036854775807) :
    Calls Tryz.prog 63 #[v, va] w (fun e w' => e = .returned (.int .i64 (coC n N m P K d)) ∧ Below w.heap.size w w') := by
  obtain ⟨p0, c0, p1, c1, rfl, hn9, hm9⟩ := h.parts
  have HV := Lib.hid h
  have HN := Lib.hid hN
  obtain ⟨pa, ca, rfl⟩ := hv.sh
  have HSV := Lib.hid hv
  have A0 := boxed w (.slice p0 n c0) (.slice p1 m c1) 27
  have B0 := below_new w (.cells #[.slice p0 n c0, .slice p1 m c1] 27)
  have hs0 : (w.alloc (.cells #[.slice p0 n c0, .slice p1 m c1] 27)).heap.size = w.heap.size + 1 := by simp
  clear h hN hv
  go_enter Tryz.func63, Tryz.ntmps63
  have e0 := A0.b0
  have e1 := A0.b1
  have f2 : w.heap.size < (w.alloc (.cells #[.slice p0 n c0, .slice p1 m c1] 27)).heap.size := by omega
  go_wp2_with fail
  refine (l06Code_any _ _ n N m P lo hi (HV.out.below B0 hhi) (by omega) HN.out _ K d la ha (HSV.out.below B0 hha) (by omega) hK9).mono ?_
  rintro e w1 ⟨rfl, b1⟩
  have A1 := A0.below b1 (by omega)
  have B1 := B0.trans (b1.mono (by omega))
  have hs1 := b1.size
  have g2 : w.heap.size < w1.heap.size := by omega
  have z1 := hs1
  clear A0 B0 b1 e0 e1 f2 hs1 hs0
  have f2 := g2
  clear g2
  have e0 := A1.b0
  have e1 := A1.b1
  by_cases hc : svC n N m P K d = 0
  · obtain ⟨hB, _, _⟩ := svC_ok hc
    have HSC := Lib.hid hc
    rw [hc]
    clear hc
    cases hC : conB n N m P
    ·
      have hcn : ((cnt n P m : Int) != 1) = true := by
        unfold conB at hC
        rw [hB] at hC
        simp only [Bool.true_and, decide_eq_false_iff_not] at hC
        simp only [bne_iff_ne, ne_eq]
        omega
      go_wp2_with fail
      refine (l04Count_any _ _ n N m P lo hi (HV.out.below B1 hhi) (by omega) HN.out hB).mono ?_
      rintro e w2 ⟨rfl, b2⟩
      have A2 := A1.below b2 (by omega)
      have B2 := B1.trans (b2.mono (by omega))
      have hs2 := b2.size
      have g2 : w.heap.size < w2.heap.size := by omega
      have z2 := hs2
      clear A1 B1 b2 e0 e1 f2 hs2
      have f2 := g2
      clear g2
      have e0 := A2.b0
      have e1 := A2.b1
      have H4 := Lib.hid (show coC n N m P K d = 5 by unfold coC; rw [if_pos HSC.out, hC]; rfl)
      go_wp2_with fail
      go_ret
      exact ⟨ret_i H4.out.symm, B2⟩
    ·
      have hcn : ((cnt n P m : Int) != 1) = false := by
        have := (conB_one hC).2
        rw [this]
        rfl
      go_wp2_with fail
      refine (l04Count_any _ _ n N m P lo hi (HV.out.below B1 hhi) (by omega) HN.out hB).mono ?_
      rintro e w2 ⟨rfl, b2⟩
      have A2 := A1.below b2 (by omega)
      have B2 := B1.trans (b2.mono (by omega))
      have hs2 := b2.size
      have g2 : w.heap.size < w2.heap.size := by omega
      have z2 := hs2
      clear A1 B1 b2 e0 e1 f2 hs2
      have f2 := g2
      clear g2
      have e0 := A2.b0
      have e1 := A2.b1
      have H4 := Lib.hid (show coC n N m P K d = 0 by unfold coC; rw [if_pos HSC.out, hC]; rfl)
      go_wp2_with fail
      go_ret
      exact ⟨ret_i H4.out.symm, B2⟩
  · have H4 := Lib.hid (show coC n N m P K d = svC n N m P K d by unfold coC; rw [if_neg hc])
    have hb1 : (svC n N m P K d == 0) = false := by simpa using hc
    have hb2 : (svC n N m P K d != 0) = true := by simpa using hc
    clear hc
    go_wp2_with fail
    go_ret
    exact ⟨ret_i H4.out.symm, B1⟩
set_option maxRecDepth 100000 in
set_option maxHeartbeats 8000000 in
theorem makeProofI_any (w : World) (v : Value) (n : Nat) (N : Nat → Nod) (m : Nat) (P : Nat → Pip) (lo hi : Nat) (h : NetAt w v n N m P lo hi) (hhi : hi ≤ w.heap.size) (hN : ∀ i, i < n → (N i).s.size ≤ 9223372036854775807) (va : Value) (K : Nat) (d : Nat → Int) (la ha : Nat) (hv : Sl w va K d la ha) (hha : ha ≤ w.heap.size) (hK9 : K ≤ 9223372036854775807) (lv : Int) :
    Calls Tryz.prog 16 #[v, va, .int .i64 lv] w (PIPost w (mkN n N m P K d lv) (mkF n m P d) (mkL n N m P K d lv) (mkV n m P d lv) (mkC n N m P K d lv)) := by
  obtain ⟨p0, c0, p1, c1, rfl, hn9, hm9⟩ := h.parts
  have HV := Lib.hid h
  have HN := Lib.hid hN
  obtain ⟨pa, ca, rfl⟩ := hv.sh
  have HSV := Lib.hid hv
  have A0 := (boxed w (.slice p0 n c0) (.slice p1 m c1) 27).keep (Below.heap_alloc _ (.cells #[.slice none 0 0, .slice none 0 0] 38) _ (by rw [szal]; omega))
  have R0 := boxed (w.alloc (.cells #[.slice p0 n c0, .slice p1 m c1] 27)) (.slice none 0 0) (.slice none 0 0) 38
  simp only [szal] at R0
  have B0 := bel2 w (.cells #[.slice p0 n c0, .slice p1 m c1] 27) (.cells #[.slice none 0 0, .slice none 0 0] 38)
  have hs0 : ((w.alloc (.cells #[.slice p0 n c0, .slice p1 m c1] 27)).alloc (.cells #[.slice none 0 0, .slice none 0 0] 38)).heap.size = w.heap.size + 1 + 1 := by simp
  clear h hN hv
  go_enter Tryz.func16, Tryz.ntmps16
  go_upto_region 1 with (fail)
  obtain ⟨w1, hw1⟩ : ∃ w1, (w.alloc (.cells #[.slice p0 n c0, .slice p1 m c1] 27)).alloc (.cells #[.slice none 0 0, .slice none 0 0] 38) = w1 := ⟨_, rfl⟩
  rw [hw1] at A0 R0 B0 hs0 ⊢
  have f2 := Nat.le_antisymm_iff.1 hs0
  clear hw1 hs0
  have e0 := A0.b0
  have e1 := A0.b1
  have r0 := R0.b0
  have r1 := R0.b1
  have r2 := R0.free 0
  have r3 := R0.free 1
  go_wp2_with fail
  refine (checkConnected_any _ _ n N m P lo hi (HV.out.below B0 hhi) (by omega) HN.out _ K d la ha (HSV.out.below B0 hha) (by omega) hK9).mono ?_
  rintro e w2 ⟨rfl, b2⟩
  have A2 := A0.below b2 (by omega)
  have R2 := R0.below b2 (by omega)
  have B2 := B0.trans (b2.mono (by omega))
  have z2 := b2.size
  have u2 : w.heap.size + 1 < w2.heap.size := by omega
  clear A0 R0 B0 b2 e0 e1 r0 r1 r2 r3
  have e0 := A2.b0
  have e1 := A2.b1
  have r0 := R2.b0
  have r1 := R2.b1
  have r2 := R2.free 0
  have r3 := R2.free 1
  by_cases hc : coC n N m P K d = 0
  rotate_left 1
  · have hb1 : (coC n N m P K d != 0) = true := by simpa using hc
    have hb2 : (coC n N m P K d == 0) = false := by simpa using hc
    have HNE := Lib.hid hc
    have H4 := Lib.hid (show mkC n N m P K d lv = coC n N m P K d by unfold mkC; rw [if_neg hc])
    have H3 := Lib.hid (mk_no H4.out HNE.out)
    clear hc
    have CX := Lib.hid (below_set (below_set B2 (b := w.heap.size + 1) (by omega) 0 (.slice none 0 0)) (b := w.heap.size + 1) (by omega) 1 (.slice none 0 0))
    go_wp2_with fail
    refine bodyPost_ret (v := .tuple #[.agg #[.slice none 0 0, .slice none 0 0], .int .i64 (coC n N m P K d)]) (by simp [results, Tryz.results16, go_sem, r0, r1]) rfl (pi_err H3.out H4.out.symm rfl CX.out)
  obtain ⟨hsv, hcon⟩ := coC_ok hc
  obtain ⟨hB, hcn⟩ := conB_one hcon
  obtain ⟨hn1, hn24, hm40⟩ := net_sz hB
  have HSC := Lib.hid hc
  rw [hc]
  clear hc hsv hcon
  cases hy : rlB lv
  ·
    have H4 := Lib.hid (show mkC n N m P K d lv = 2 by unfold mkC; rw [if_pos HSC.out, hy]; rfl)
    have H3 := Lib.hid (mk_no H4.out (by omega))
    have CX := Lib.hid (below_set (below_set B2 (b := w.heap.size + 1) (by omega) 0 (.slice none 0 0)) (b := w.heap.size + 1) (by omega) 1 (.slice none 0 0))
    go_wp2_with (go_at_call 60; refine (isRootLevel_any lv _).mono ?_; rintro e w' ⟨rfl, rfl⟩; rw [hy])
    refine bodyPost_ret (v := .tuple #[.agg #[.slice none 0 0, .slice none 0 0], .int .i64 2]) (by simp [results, Tryz.results16, go_sem, r0, r1]) rfl (pi_err H3.out H4.out.symm rfl CX.out)
  have HMF := Lib.hid (show mkC n N m P K d lv = ffC n N m P K d by unfold mkC; rw [if_pos HSC.out, hy]; rfl)
  obtain ⟨hl0, hl1⟩ := inR_iff.1 hy
  go_wp2_with (go_at_call 60; refine (isRootLevel_any lv _).mono ?_; rintro e w' ⟨rfl, rfl⟩; rw [hy])
  refine (solveLoopsI_any _ _ n N m P lo hi (HV.out.below B2 hhi) (by omega) HN.out _ K d la ha (HSV.out.below B2 hha) (by omega) hK9).mono ?_
  rintro e w3 ⟨vr, gr, rfl, or, hgr, b3⟩
  have A3 := A2.below b3 (by omega)
  have R3 := R2.below b3 (by omega)
  have B3 := B2.trans (b3.mono (by omega))
  have z3 := b3.size
  have u3 : w.heap.size + 1 < w3.heap.size := by omega
  clear A2 R2 B2 b3 e0 e1 r0 r1 r2 r3
  have e0 := A3.b0
  have e1 := A3.b1
  have r0 := R3.b0
  have r1 := R3.b1
  have r2 := R3.free 0
  have r3 := R3.free 1
  by_cases hf : ffC n N m P K d = 0
  rotate_left 1
  · have hb1 : (ffC n N m P K d != 0) = true := by simpa using hf
    have HNE := Lib.hid hf
    have H4 := Lib.hid HMF.out
    have H3 := Lib.hid (mk_no H4.out HNE.out)
    obtain ⟨p9, c9, rfl⟩ := ownS_shE or
    clear hf or
    have CX := Lib.hid (below_set (below_set B3 (b := w.heap.size + 1) (by omega) 0 (.slice none 0 0)) (b := w.heap.size + 1) (by omega) 1 (.slice none 0 0))
    go_wp2_with fail
    refine bodyPost_ret (v := .tuple #[.agg #[.slice none 0 0, .slice none 0 0], .int .i64 (ffC n N m P K d)]) (by simp [results, Tryz.results16, go_sem, r0, r1]) rfl (pi_err H3.out H4.out.symm rfl CX.out)
  have hsn : slN n N m P K d = m := by unfold slN; rw [if_pos hf]
  have H4 := Lib.hid (HMF.out.trans hf)
  have H3 := Lib.hid (mk_yes H4.out)
  have HFR := Lib.hid (mkF_rng hf)
  rw [hf]
  rw [hsn] at or
  have OS := owns_sl1 or
  obtain ⟨p9, c9, rfl⟩ := ownS_shE or
  have HOR := Lib.hid or
  have hor := or.lt
  rw [show (rfR n m P (fflN n P m d) 32768).1 = mkF n m P d from rfl] at OS
  clear hf hsn or
  have hpc := forestLevels_any w3 _ n N m P lo hi (HV.out.below B3 hhi) (by omega) hB hcn _ (mkF n m P d) 0 _ OS (Nat.le_refl _) HFR.out 0 (by omega) lv (by omega) (by omega)
  clear OS hB hcn
  go_wp2_with fail
  refine hpc.mono ?_
  rintro e w9 ⟨g, rfl, og, hg, b9⟩
  clear hpc
  have R9 := R3.below b9 (by omega)
  have B9 := B3.trans (b9.mono (by omega))
  have HR9 := Lib.hid (HOR.out.below b9 (Nat.le_refl _))
  have HO9 := Lib.hid og
  have z9 := b9.size
  have lg := og.lt
  clear b9 og e0 e1 r0 r1 r2 r3 A3 R3 B3
  have r0 := R9.b0
  have r1 := R9.b1
  have r2 := R9.free 0
  have r3 := R9.free 1
  have CX := Lib.hid (below_set (below_set B9 (b := w.heap.size + 1) (by omega) 0 (.slice p9 m c9)) (b := w.heap.size + 1) (by omega) 1 (.slice (some ⟨g, 0, none⟩) n n))
  have UX := Lib.hid (show Upd (fun k => k = w.heap.size + 1) w9 ((w9.setCell ⟨w.heap.size + 1, 0, none⟩ (.slice p9 m c9)).setCell ⟨w.heap.size + 1, 1, none⟩ (.slice (some ⟨g, 0, none⟩) n n)) from ((Upd.of_only ((Only.refl (w.heap.size + 1) w9).setCell 0 (.slice p9 m c9))).trans (Upd.of_only ((Only.refl (w.heap.size + 1) (w9.setCell ⟨w.heap.size + 1, 0, none⟩ (.slice p9 m c9))).setCell 1 (.slice (some ⟨g, 0, none⟩) n n)))))
  go_wp2_with fail
  refine bodyPost_ret (v := .tuple #[.agg #[.slice p9 m c9, .slice (some ⟨g, 0, none⟩) n n], .int .i64 0]) (by simp [results, Tryz.results16, go_sem, r0, r1]) rfl ?_
  rw [H3.out.1, H3.out.2, H4.out]
  exact ⟨_, gr, g, rfl, ⟨_, _, rfl, HR9.out.upd UX.out (.inr (fun e => by (have e' : gr = w.heap.size + 1 := e); omega)), HO9.out.ownS.upd UX.out (.inr (fun e => by (have e' : g = w.heap.size + 1 := e); omega)), by omega⟩, by omega, by omega, CX.out⟩
set_option maxRecDepth 100000 in
set_option maxHeartbeats 8000000 in
theorem makeProofS_any (w : World) (v : Value) (n : Nat) (N : Nat → Nod) (m : Nat) (P : Nat → Pip) (lo hi : Nat) (h : NetAt w v n N m P lo hi) (hhi : hi ≤ w.heap.size) (hN : ∀ i, i < n → (N i).s.size ≤ 9223372036854775807) (va : Value) (K : Nat) (d : Nat → Int) (la ha : Nat) (hv : Sl w va K d la ha) (hha : ha ≤ w.heap.size) (hK9 : K ≤ 9223372036854775807) (lv : Int) :
    Calls Tryz.prog 17 #[v, va, .int .i64 lv] w (PIPost w (mkN n N m P K d lv) (mkF n m P d) (mkL n N m P K d lv) (mkV n m P d lv) (mkC n N m P K d lv)) := by
  obtain ⟨p0, c0, p1, c1, rfl, hn9, hm9⟩ := h.parts
  have HV := Lib.hid h
  have HN := Lib.hid hN
  obtain ⟨pa, ca, rfl⟩ := hv.sh
  have HSV := Lib.hid hv
  have A0 := (boxed w (.slice p0 n c0) (.slice p1 m c1) 27).keep (Below.heap_alloc _ (.cells #[.slice none 0 0, .slice none 0 0] 38) _ (by rw [szal]; omega))
  have R0 := boxed (w.alloc (.cells #[.slice p0 n c0, .slice p1 m c1] 27)) (.slice none 0 0) (.slice none 0 0) 38
  simp only [szal] at R0
  have B0 := bel2 w (.cells #[.slice p0 n c0, .slice p1 m c1] 27) (.cells #[.slice none 0 0, .slice none 0 0] 38)
  have hs0 : ((w.alloc (.cells #[.slice p0 n c0, .slice p1 m c1] 27)).alloc (.cells #[.slice none 0 0, .slice none 0 0] 38)).heap.size = w.heap.size + 1 + 1 := by simp
  clear h hN hv
  go_enter Tryz.func17, Tryz.ntmps17
  go_upto_region 1 with (fail)
  obtain ⟨w1, hw1⟩ : ∃ w1, (w.alloc (.cells #[.slice p0 n c0, .slice p1 m c1] 27)).alloc (.cells #[.slice none 0 0, .slice none 0 0] 38) = w1 := ⟨_, rfl⟩
  rw [hw1] at A0 R0 B0 hs0 ⊢
  have f2 := Nat.le_antisymm_iff.1 hs0
  clear hw1 hs0
  have e0 := A0.b0
  have e1 := A0.b1
  have r0 := R0.b0
  have r1 := R0.b1
  have r2 := R0.free 0
  have r3 := R0.free 1
  go_wp2_with fail
  refine (l12Code_any _ _ n N m P lo hi (HV.out.below B0 hhi) (by omega) HN.out _ K d la ha (HSV.out.below B0 hha) (by omega) hK9).mono ?_
  rintro e w2 ⟨rfl, b2⟩
  have A2 := A0.below b2 (by omega)
  have R2 := R0.below b2 (by omega)
  have B2 := B0.trans (b2.mono (by omega))
  have z2 := b2.size
  have u2 : w.heap.size + 1 < w2.heap.size := by omega
  clear A0 R0 B0 b2 e0 e1 r0 r1 r2 r3
  have e0 := A2.b0
  have e1 := A2.b1
  have r0 := R2.b0
  have r1 := R2.b1
  have r2 := R2.free 0
  have r3 := R2.free 1
  by_cases hc : coC n N m P K d = 0
  rotate_left 1
  · have hb1 : (coC n N m P K d != 0) = true := by simpa using hc
    have hb2 : (coC n N m P K d == 0) = false := by simpa using hc
    have HNE := Lib.hid hc
    have H4 := Lib.hid (show mkC n N m P K d lv = coC n N m P K d by unfold mkC; rw [if_neg hc])
    have H3 := Lib.hid (mk_no H4.out HNE.out)
    clear hc
    have CX := Lib.hid (below_set (below_set B2 (b := w.heap.size + 1) (by omega) 0 (.slice none 0 0)) (b := w.heap.size + 1) (by omega) 1 (.slice none 0 0))
    go_wp2_with fail
    refine bodyPost_ret (v := .tuple #[.agg #[.slice none 0 0, .slice none 0 0], .int .i64 (coC n N m P K d)]) (by simp [results, Tryz.results17, go_sem, r0, r1]) rfl (pi_err H3.out H4.out.symm rfl CX.out)
  obtain ⟨hsv, hcon⟩ := coC_ok hc
  obtain ⟨hB, hcn⟩ := conB_one hcon
  obtain ⟨hn1, hn24, hm40⟩ := net_sz hB
  have HSC := Lib.hid hc
  rw [hc]
  clear hc hsv hcon
  cases hy : rlB lv
  ·
    have H4 := Lib.hid (show mkC n N m P K d lv = 2 by unfold mkC; rw [if_pos HSC.out, hy]; rfl)
    have H3 := Lib.hid (mk_no H4.out (by omega))
    have CX := Lib.hid (below_set (below_set B2 (b := w.heap.size + 1) (by omega) 0 (.slice none 0 0)) (b := w.heap.size + 1) (by omega) 1 (.slice none 0 0))
    go_wp2_with (go_at_call 64; refine (l07Level_any lv _).mono ?_; rintro e w' ⟨rfl, rfl⟩; rw [hy])
    refine bodyPost_ret (v := .tuple #[.agg #[.slice none 0 0, .slice none 0 0], .int .i64 2]) (by simp [results, Tryz.results17, go_sem, r0, r1]) rfl (pi_err H3.out H4.out.symm rfl CX.out)
  have HMF := Lib.hid (show mkC n N m P K d lv = ffC n N m P K d by unfold mkC; rw [if_pos HSC.out, hy]; rfl)
  obtain ⟨hl0, hl1⟩ := inR_iff.1 hy
  go_wp2_with (go_at_call 64; refine (l07Level_any lv _).mono ?_; rintro e w' ⟨rfl, rfl⟩; rw [hy])
  refine (solveLoopsS_any _ _ n N m P lo hi (HV.out.below B2 hhi) (by omega) HN.out _ K d la ha (HSV.out.below B2 hha) (by omega) hK9).mono ?_
  rintro e w3 ⟨vr, gr, rfl, or, hgr, b3⟩
  have A3 := A2.below b3 (by omega)
  have R3 := R2.below b3 (by omega)
  have B3 := B2.trans (b3.mono (by omega))
  have z3 := b3.size
  have u3 : w.heap.size + 1 < w3.heap.size := by omega
  clear A2 R2 B2 b3 e0 e1 r0 r1 r2 r3
  have e0 := A3.b0
  have e1 := A3.b1
  have r0 := R3.b0
  have r1 := R3.b1
  have r2 := R3.free 0
  have r3 := R3.free 1
  by_cases hf : ffC n N m P K d = 0
  rotate_left 1
  · have hb1 : (ffC n N m P K d != 0) = true := by simpa using hf
    have HNE := Lib.hid hf
    have H4 := Lib.hid HMF.out
    have H3 := Lib.hid (mk_no H4.out HNE.out)
    obtain ⟨p9, c9, rfl⟩ := ownS_shE or
    clear hf or
    have CX := Lib.hid (below_set (below_set B3 (b := w.heap.size + 1) (by omega) 0 (.slice none 0 0)) (b := w.heap.size + 1) (by omega) 1 (.slice none 0 0))
    go_wp2_with fail
    refine bodyPost_ret (v := .tuple #[.agg #[.slice none 0 0, .slice none 0 0], .int .i64 (ffC n N m P K d)]) (by simp [results, Tryz.results17, go_sem, r0, r1]) rfl (pi_err H3.out H4.out.symm rfl CX.out)
  have hsn : slN n N m P K d = m := by unfold slN; rw [if_pos hf]
  have H4 := Lib.hid (HMF.out.trans hf)
  have H3 := Lib.hid (mk_yes H4.out)
  have HFR := Lib.hid (mkF_rng hf)
  rw [hf]
  rw [hsn] at or
  have OS := owns_sl1 or
  obtain ⟨p9, c9, rfl⟩ := ownS_shE or
  have HOR := Lib.hid or
  have hor := or.lt
  rw [show (rfR n m P (fflN n P m d) 32768).1 = mkF n m P d from rfl] at OS
  clear hf hsn or
  have hpc := l07Levels_any w3 _ n N m P lo hi (HV.out.below B3 hhi) (by omega) HN.out hB hcn _ (mkF n m P d) 0 _ OS (Nat.le_refl _) HFR.out 0 (by omega) lv (by omega) (by omega)
  clear OS hB hcn
  go_wp2_with fail
  refine hpc.mono ?_
  rintro e w9 ⟨v9, g, rfl, og, hg, b9⟩
  obtain ⟨cg, rfl⟩ := og.shape
  clear hpc
  have R9 := R3.below b9 (by omega)
  have B9 := B3.trans (b9.mono (by omega))
  have HR9 := Lib.hid (HOR.out.below b9 (Nat.le_refl _))
  have HO9 := Lib.hid og
  have z9 := b9.size
  have lg := og.lt
  clear b9 og e0 e1 r0 r1 r2 r3 A3 R3 B3
  have r0 := R9.b0
  have r1 := R9.b1
  have r2 := R9.free 0
  have r3 := R9.free 1
  have CX := Lib.hid (below_set (below_set B9 (b := w.heap.size + 1) (by omega) 0 (.slice p9 m c9)) (b := w.heap.size + 1) (by omega) 1 (.slice (some ⟨g, 0, none⟩) n cg))
  have UX := Lib.hid (show Upd (fun k => k = w.heap.size + 1) w9 ((w9.setCell ⟨w.heap.size + 1, 0, none⟩ (.slice p9 m c9)).setCell ⟨w.heap.size + 1, 1, none⟩ (.slice (some ⟨g, 0, none⟩) n cg)) from ((Upd.of_only ((Only.refl (w.heap.size + 1) w9).setCell 0 (.slice p9 m c9))).trans (Upd.of_only ((Only.refl (w.heap.size + 1) (w9.setCell ⟨w.heap.size + 1, 0, none⟩ (.slice p9 m c9))).setCell 1 (.slice (some ⟨g, 0, none⟩) n cg)))))
  go_wp2_with fail
  refine bodyPost_ret (v := .tuple #[.agg #[.slice p9 m c9, .slice (some ⟨g, 0, none⟩) n cg], .int .i64 0]) (by simp [results, Tryz.results17, go_sem, r0, r1]) rfl ?_
  rw [H3.out.1, H3.out.2, H4.out]
  exact ⟨_, gr, g, rfl, ⟨_, _, rfl, HR9.out.upd UX.out (.inr (fun e => by (have e' : gr = w.heap.size + 1 := e); omega)), HO9.out.ownS.upd UX.out (.inr (fun e => by (have e' : g = w.heap.size + 1 := e); omega)), by omega⟩, by omega, by omega, CX.out⟩
theorem agreeMakeProof (n : Nat) (N : Nat → Nod) (m : Nat) (P : Nat → Pip) (K : Nat) (d : Nat → Int) (lv : Int) (hN : ∀ i, i < n → (N i).s.size ≤ 9223372036854775807) (hn : n ≤ 2000000) (hm : m ≤ 2000000) (hK : K ≤ 2000000) :
    ∃ rn rd rm rl rc, rn ≤ 2000000 ∧ rm ≤ 2000000 ∧ (∀ w v va, NetAt w v n N m P 0 w.heap.size → Sl w va K d 0 w.heap.size → Calls Tryz.prog 16 #[v, va, .int .i64 lv] w (PIPost w rn rd rm rl rc)) ∧ (∀ w v va, NetAt w v n N m P 0 w.heap.size → Sl w va K d 0 w.heap.size → Calls Tryz.prog 17 #[v, va, .int .i64 lv] w (PIPost w rn rd rm rl rc)) :=
  ⟨mkN n N m P K d lv, mkF n m P d, mkL n N m P K d lv, mkV n m P d lv, mkC n N m P K d lv, by unfold mkN; split <;> omega, by unfold mkL; split <;> omega, fun w v va h hv => makeProofI_any w v n N m P 0 _ h (Nat.le_refl _) hN va K d 0 _ hv (Nat.le_refl _) (by omega) lv, fun w v va h hv => makeProofS_any w v n N m P 0 _ h (Nat.le_refl _) hN va K d 0 _ hv (Nat.le_refl _) (by omega) lv⟩
end Go.Proofs.YtdbgcbkmcbgdiaaGreat.mem

namespace Go.Proofs.YtdbgcbkmcbgdiaaGreat.mem
open Go.RowKit
set_option linter.unusedVariables false

def alB (n L : Nat) (l : Nat → Int) : Bool := decide (L = n) && irB (-1000000000000000000) 1000000000000000000 l L
theorem alB_iff {n L : Nat} {l : Nat → Int} : alB n L l = true ↔ L = n ∧ ∀ k, k < L → -1000000000000000000 ≤ l k ∧ l k ≤ 1000000000000000000 := by
  unfold alB
  rw [Bool.and_eq_true, decide_eq_true_iff, irB_iff]
  constructor
  · rintro ⟨h1, h2⟩
    exact ⟨h1, fun k hk => inR_iff.1 (h2 k hk)⟩
  · rintro ⟨h1, h2⟩
    exact ⟨h1, fun k hk => inR_iff.2 (h2 k hk)⟩
set_option maxRecDepth 100000 in
set_option maxHeartbeats 8000000 in
theorem areLevels_any (w : World) (p0 p1 : Option Addr) (n m c0 c1 : Nat) (va : Value) (L : Nat) (l : Nat → Int) (la ha : Nat) (hv : Sl w va L l la ha) (hha : ha ≤ w.heap.size) (hL9 : L ≤ 9223372036854775807) (hn9 : n ≤ 9223372036854775807) :
    Calls Tryz.prog 122 #[.agg #[.slice p0 n c0, .slice p1 m c1], va] w fun e w' => e = .returned (.bool (alB n L l)) ∧ Below w.heap.size w w' := by
  obtain ⟨pa, ca, rfl⟩ := hv.sh
  have A0 := boxed w (.slice p0 n c0) (.slice p1 m c1) 27
  have B0 := below_new w (.cells #[.slice p0 n c0, .slice p1 m c1] 27)
  have HS := Lib.hid (hv.below B0 hha)
  have e0 := A0.b0
  by_cases hLn : L = n
  · have hq : ((L : Int) == (n : Int)) = true := by subst hLn; simp
    have HR := Lib.hid (show irB (-1000000000000000000) 1000000000000000000 l L = alB n L l by unfold alB; rw [decide_eq_true hLn, Bool.true_and])
    clear hLn hv
    go_enter Tryz.func122, Tryz.ntmps122
    go_wp2_with (go_at_call 131; refine (areInRange_any _ _ _ _ L l la ha HS.out hL9).mono ?_; rintro e w' ⟨rfl, rfl⟩; rw [HR.out])
    go_ret
    exact ⟨rfl, B0⟩
  · have hq : ((L : Int) == (n : Int)) = false := by simp; omega
    have HR := Lib.hid (show alB n L l = false by unfold alB; rw [decide_eq_false hLn, Bool.false_and])
    clear hLn hv
    go_enter Tryz.func122, Tryz.ntmps122
    go_wp2_with fail
    go_ret
    exact ⟨ret_b HR.out.symm, B0⟩
theorem l01BigC_any (x : Int) (w : World) : Calls Tryz.prog 125 #[.int .i64 x] w fun e w' => e = .returned (.bool (inR x (-1000000000000000000) 1000000000000000000)) ∧ w = w' := by
  go_enter Tryz.func125, Tryz.ntmps125
  go_wp2_with (go_at_call 117; refine (l01In_any _ _ _ _).mono ?_; rintro e w' ⟨rfl, rfl⟩)
  go_ret
  exact ⟨rfl, rfl⟩
set_option maxRecDepth 100000 in
set_option maxHeartbeats 8000000 in
theorem l12Levels_any (w : World) (p0 p1 : Option Addr) (n m c0 c1 : Nat) (va : Value) (L : Nat) (l : Nat → Int) (la ha : Nat) (hv : Sl w va L l la ha) (hha : ha ≤ w.heap.size) (hL9 : L ≤ 9223372036854775807) (hn9 : n ≤ 9223372036854775807) :
    Calls Tryz.prog 69 #[.agg #[.slice p0 n c0, .slice p1 m c1], va] w fun e w' => e = .returned (.bool (alB n L l)) ∧ Below w.heap.size w w' := by
  have A0 := boxed w (.slice p0 n c0) (.slice p1 m c1) 27
  have B0 := Lib.hid (below_new w (.cells #[.slice p0 n c0, .slice p1 m c1] 27))
  obtain ⟨pa, ca, rfl, hc⟩ := hv.below B0.out hha
  have HC := Lib.hid hc
  have e0 := A0.b0
  clear hc A0 hv
  go_enter Tryz.func69, Tryz.ntmps69
  go_wp2_with fail
  generalize hw1 : w.alloc (.cells #[.slice p0 n c0, .slice p1 m c1] 27) = w1 at *
  clear hw1
  go_loopw [5] (fun iv wr => ∃ k : Nat, iv = .int .i64 k ∧ k ≤ L ∧ irB (-1000000000000000000) 1000000000000000000 l k = true ∧ wr = w1) (fun iv _ => L - (intOf iv).toNat)
  case atStart => exact ⟨0, rfl, Nat.zero_le _, rfl, rfl⟩
  case round =>
    obtain ⟨k, rfl, hk, hir, rfl⟩ := hrel
    have HI := Lib.hid hir
    clear hir
    have k0 : (0 : Int) ≤ (k : Int) := Int.natCast_nonneg _
    by_cases hlt : k < L
    · have k1 : (k : Int) < (L : Int) := by omega
      rcases HC.out with e | ⟨b, o, rfl, _, _, hx⟩
      · omega
      have y0 := hx k hlt
      clear hx
      cases hq : inR (l k) (-1000000000000000000) 1000000000000000000
      · have HR := Lib.hid (show alB n L l = false by unfold alB; rw [irB_no hlt hq, Bool.and_false])
        go_wp2_with (go_at_call 125; refine (l01BigC_any _ _).mono ?_; rintro e w' ⟨rfl, rfl⟩; rw [hq])
        go_ret
        exact ⟨ret_b HR.out.symm, B0.out⟩
      · have HR := Lib.hid (show irB (-1000000000000000000) 1000000000000000000 l (k + 1) = true by unfold irB; rw [HI.out, hq]; rfl)
        go_wp2_with (go_at_call 125; refine (l01BigC_any _ _).mono ?_; rintro e w' ⟨rfl, rfl⟩; rw [hq])
        go_roundw
        case rel => exact ⟨k + 1, by go_num, hlt, HR.out, (by first | rfl | trivial)⟩
        case measure => simp [intOf]; omega
    · have hkn : k = L := by omega
      have HI2 := Lib.hid (show irB (-1000000000000000000) 1000000000000000000 l L = true by rw [← hkn]; exact HI.out)
      have k1 : ¬ ((k : Int) < (L : Int)) := by omega
      have HR := Lib.hid (show ((L : Int) == (n : Int)) = alB n L l by
        unfold alB
        rw [HI2.out, Bool.and_true]
        by_cases e : L = n
        · rw [decide_eq_true e]; subst e; simp
        · rw [decide_eq_false e]; simp; omega)
      clear hkn
      go_wp2_with fail
      go_ret
      exact ⟨ret_b HR.out, B0.out⟩
def eqLB (K : Nat) (d : Nat → Int) (L : Nat) (e : Nat → Int) : Bool := decide (K = L) && smB d e K
theorem smB_iff {d e : Nat → Int} {n : Nat} : smB d e n = true ↔ ∀ k, k < n → d k = e k := by
  unfold smB
  rw [List.all_eq_true]
  constructor
  · intro h k hk
    simpa using h k (List.mem_range.2 hk)
  · intro h k hk
    simpa using h k (List.mem_range.1 hk)
theorem smB_comm (d e : Nat → Int) (n : Nat) : smB d e n = smB e d n := by
  rw [Bool.eq_iff_iff, smB_iff, smB_iff]
  exact ⟨fun h k hk => (h k hk).symm, fun h k hk => (h k hk).symm⟩
theorem smB_refl (d : Nat → Int) (n : Nat) : smB d d n = true := smB_iff.2 (fun _ _ => rfl)
set_option maxRecDepth 100000 in
set_option maxHeartbeats 8000000 in
theorem equal64_any (w : World) (va vb : Value) (K : Nat) (d : Nat → Int) (la ha : Nat) (hv : Sl w va K d la ha) (L : Nat) (e : Nat → Int) (lb hb : Nat) (hu : Sl w vb L e lb hb) (hK : K ≤ 9223372036854775807) (hL : L ≤ 9223372036854775807) :
    Calls Tryz.prog 74 #[va, vb] w fun e' w' => e' = .returned (.bool (eqLB K d L e)) ∧ Below w.heap.size w w' := by
  by_cases hKL : K = L
  rotate_left 1
  · obtain ⟨pa, ca, rfl, _⟩ := hv
    obtain ⟨pb, cb, rfl, _⟩ := hu
    have hb0 : ((K : Int) != (L : Int)) = true := bne_iff_ne.2 (fun e => hKL (Int.ofNat.inj e))
    have HR := Lib.hid (show eqLB K d L e = false by unfold eqLB; rw [decide_eq_false hKL, Bool.false_and])
    clear hKL
    go_enter Tryz.func74, Tryz.ntmps74
    go_wp2_with fail
    go_ret
    exact ⟨ret_b HR.out.symm, Below.refl _ _⟩
  subst hKL
  have HE := Lib.hid (show eqLB K d K e = smB d e K by unfold eqLB; rw [decide_eq_true rfl, Bool.true_and])
  obtain ⟨pa, ca, rfl, hva⟩ := hv
  obtain ⟨pb, cb, rfl, hvb⟩ := hu
  have HVA := Lib.hid hva
  have HVB := Lib.hid hvb
  have hb0 : ((K : Int) != (K : Int)) = false := by simp
  clear hva hvb
  go_enter Tryz.func74, Tryz.ntmps74
  go_wp2_with fail
  go_loopw [13] (fun iv wr => ∃ k z : Nat, iv = .int .i64 k ∧ k ≤ K ∧ smB d e k = true ∧ wr = w.drewN z) (fun iv _ => K - (intOf iv).toNat)
  case atStart => exact ⟨0, 0, rfl, Nat.zero_le _, rfl, rfl⟩
  case round =>
    obtain ⟨k, z, rfl, hk, hb', hw⟩ := hrel
    have HF := Lib.hid hb'
    have HWR := Lib.hid hw
    clear hb'
    have k0 : (0 : Int) ≤ (k : Int) := Int.natCast_nonneg _
    by_cases hlt : k < K
    · have k1 : (k : Int) < (K : Int) := by omega
      obtain ⟨ba, oa, rfl, _, _, hx⟩ : ∃ b o, pa = some ⟨b, o, none⟩ ∧ la ≤ b ∧ b < ha ∧ ∀ k, k < K → w.cell? ⟨b, o + k, none⟩ = some (.int .i64 (d k)) := by
        rcases HVA.out with e | e
        · omega
        · exact e
      obtain ⟨bb, ob, rfl, _, _, hz⟩ : ∃ b o, pb = some ⟨b, o, none⟩ ∧ lb ≤ b ∧ b < hb ∧ ∀ k, k < K → w.cell? ⟨b, o + k, none⟩ = some (.int .i64 (e k)) := by
        rcases HVB.out with e | e
        · omega
        · exact e
      have y0 : wr.cell? ⟨ba, oa + k, none⟩ = some (.int .i64 (d k)) := by rw [hw]; exact hx k hlt
      have y1 : wr.cell? ⟨bb, ob + k, none⟩ = some (.int .i64 (e k)) := by rw [hw]; exact hz k hlt
      clear hx hz hw
      cases hq : (d k == e k)
      · have HR := Lib.hid (smB_no hlt hq)
        have hq2 : (d k != e k) = true := by unfold bne; rw [hq]; rfl
        clear hq
        go_wp2_with fail
        go_quiet (fail)
        go_wp2_with fail
        go_ret
        exact ⟨ret_b (by rw [HE.out, HR.out]), by rw [HWR.out, World.drewN_drewN]; exact below_drNN (Below.refl _ _) _⟩
      · have HR := Lib.hid (show smB d e (k + 1) = true by rw [smB_succ, HF.out, hq]; rfl)
        have hq2 : (d k != e k) = false := by unfold bne; rw [hq]; rfl
        clear hq
        go_wp2_with fail
        go_quiet (fail)
        go_wp2_with fail
        go_roundw
        case rel => exact ⟨k + 1, z + nq, by go_num, hlt, HR.out, by rw [HWR.out]; exact (World.drewN_drewN _ _ _)⟩
        case measure => simp [intOf]; omega
    · have hkn : K = k := by omega
      have HR := Lib.hid (show smB d e K = true by rw [hkn]; exact HF.out)
      have k1 : ¬ ((k : Int) < (K : Int)) := by omega
      clear hkn hw
      go_wp2_with fail
      go_ret
      exact ⟨ret_b (by rw [HE.out, HR.out]), by rw [HWR.out]; exact below_drNN (Below.refl _ _) _⟩
set_option maxRecDepth 100000 in
set_option maxHeartbeats 8000000 in
theorem sameL_any (w : World) (va vb : Value) (K : Nat) (d : Nat → Int) (la ha : Nat) (hv : Sl w va K d la ha) (L : Nat) (e : Nat → Int) (lb hb : Nat) (hu : Sl w vb L e lb hb) (hK : K ≤ 9223372036854775807) (hL : L ≤ 9223372036854775807) :
    Calls Tryz.prog 68 #[va, vb] w fun e' w' => e' = .returned (.bool (eqLB K d L e)) ∧ Below w.heap.size w w' := by
  by_cases hKL : K = L
  rotate_left 1
  · obtain ⟨pa, ca, rfl, _⟩ := hv
    obtain ⟨pb, cb, rfl, _⟩ := hu
    have hb0 : ((K : Int) != (L : Int)) = true := bne_iff_ne.2 (fun e => hKL (Int.ofNat.inj e))
    have HR := Lib.hid (show eqLB K d L e = false by unfold eqLB; rw [decide_eq_false hKL, Bool.false_and])
    clear hKL
    go_enter Tryz.func68, Tryz.ntmps68
    go_wp2_with fail
    go_ret
    exact ⟨ret_b HR.out.symm, Below.refl _ _⟩
  subst hKL
  have HE := Lib.hid (show eqLB K d K e = smB d e K by unfold eqLB; rw [decide_eq_true rfl, Bool.true_and])
  obtain ⟨pa, ca, rfl, hva⟩ := hv
  obtain ⟨pb, cb, rfl, hvb⟩ := hu
  have HVA := Lib.hid hva
  have HVB := Lib.hid hvb
  have hb0 : ((K : Int) != (K : Int)) = false := by simp
  clear hva hvb
  go_enter Tryz.func68, Tryz.ntmps68
  go_wp2_with fail
  go_loopw [5] (fun iv wr => ∃ k z : Nat, iv = .int .i64 k ∧ k ≤ K ∧ smB d e k = true ∧ wr = w.drewN z) (fun iv _ => K - (intOf iv).toNat)
  case atStart => exact ⟨0, 0, rfl, Nat.zero_le _, rfl, rfl⟩
  case round =>
    obtain ⟨k, z, rfl, hk, hb', hw⟩ := hrel
    have HF := Lib.hid hb'
    have HWR := Lib.hid hw
    clear hb'
    have k0 : (0 : Int) ≤ (k : Int) := Int.natCast_nonneg _
    by_cases hlt : k < K
    · have k1 : (k : Int) < (K : Int) := by omega
      obtain ⟨ba, oa, rfl, _, _, hx⟩ : ∃ b o, pa = some ⟨b, o, none⟩ ∧ la ≤ b ∧ b < ha ∧ ∀ k, k < K → w.cell? ⟨b, o + k, none⟩ = some (.int .i64 (d k)) := by
        rcases HVA.out with e | e
        · omega
        · exact e
      obtain ⟨bb, ob, rfl, _, _, hz⟩ : ∃ b o, pb = some ⟨b, o, none⟩ ∧ lb ≤ b ∧ b < hb ∧ ∀ k, k < K → w.cell? ⟨b, o + k, none⟩ = some (.int .i64 (e k)) := by
        rcases HVB.out with e | e
        · omega
        · exact e
      have y0 : wr.cell? ⟨ba, oa + k, none⟩ = some (.int .i64 (d k)) := by rw [hw]; exact hx k hlt
      have y1 : wr.cell? ⟨bb, ob + k, none⟩ = some (.int .i64 (e k)) := by rw [hw]; exact hz k hlt
      clear hx hz hw
      cases hq : (d k == e k)
      · have HR := Lib.hid (smB_no hlt hq)
        have hq2 : (d k != e k) = true := by unfold bne; rw [hq]; rfl
        clear hq
        go_wp2_with fail
        go_quiet (fail)
        go_wp2_with fail
        go_ret
        exact ⟨ret_b (by rw [HE.out, HR.out]), by rw [HWR.out, World.drewN_drewN]; exact below_drNN (Below.refl _ _) _⟩
      · have HR := Lib.hid (show smB d e (k + 1) = true by rw [smB_succ, HF.out, hq]; rfl)
        have hq2 : (d k != e k) = false := by unfold bne; rw [hq]; rfl
        clear hq
        go_wp2_with fail
        go_quiet (fail)
        go_wp2_with fail
        go_roundw
        case rel => exact ⟨k + 1, z + nq, by go_num, hlt, HR.out, by rw [HWR.out]; exact (World.drewN_drewN _ _ _)⟩
        case measure => simp [intOf]; omega
    · have hkn : K = k := by omega
      have HR := Lib.hid (show smB d e K = true by rw [hkn]; exact HF.out)
      have k1 : ¬ ((k : Int) < (K : Int)) := by omega
      clear hkn hw
      go_wp2_with fail
      go_ret
      exact ⟨ret_b (by rw [HE.out, HR.out]), by rw [HWR.out]; exact below_drNN (Below.refl _ _) _⟩
noncomputable def kbB (n m : Nat) (P : Nat → Pip) (x : Nat → Int) : Nat → Bool
  | 0 => true
  | k + 1 => kbB n m P x k && decide (3 * ((rsS P x (cyc P (fE n P m) (fD n P m) (chS n P m k)) m).natAbs : Int) ≤ bdS P x (cyc P (fE n P m) (fD n P m) (chS n P m k)) m)
theorem kbB_no {n m : Nat} {P : Nat → Pip} {x : Nat → Int} {j : Nat} (h : ¬ 3 * ((rsS P x (cyc P (fE n P m) (fD n P m) (chS n P m j)) m).natAbs : Int) ≤ bdS P x (cyc P (fE n P m) (fD n P m) (chS n P m j)) m) : ∀ {k : Nat}, j < k → kbB n m P x k = false
  | 0, hk => by omega
  | k + 1, hk => by
    unfold kbB
    by_cases e : j = k
    · subst e; rw [decide_eq_false h, Bool.and_false]
    · rw [kbB_no h (by omega : j < k), Bool.false_and]
theorem kbB_all {n m : Nat} {P : Nat → Pip} {x : Nat → Int} : ∀ {k : Nat}, (∀ j, j < k → 3 * ((rsS P x (cyc P (fE n P m) (fD n P m) (chS n P m j)) m).natAbs : Int) ≤ bdS P x (cyc P (fE n P m) (fD n P m) (chS n P m j)) m) → kbB n m P x k = true
  | 0, _ => rfl
  | k + 1, h => by
    unfold kbB
    rw [kbB_all (fun j hj => h j (by omega)), decide_eq_true (h k (by omega))]
    rfl
theorem kbB_pad {n m : Nat} {P : Nat → Pip} {d : Nat → Int} : ∀ k, kbB n m P (pad m d) k = kbB n m P d k
  | 0 => rfl
  | k + 1 => by
    unfold kbB
    rw [kbB_pad k, rsS_congr (fun a ha => pad_at ha) (fun a _ => rfl), bdS_congr (fun a ha => pad_at ha) (fun a _ => rfl)]
set_option maxRecDepth 100000 in
set_option maxHeartbeats 8000000 in
theorem keepBounds_any (w : World) (p0 p1 : Option Addr) (c0 c1 : Nat) (n : Nat) (N : Nat → Nod) (m : Nat) (P : Nat → Pip) (lo hi : Nat) (h : NetAt w (.agg #[.slice p0 n c0, .slice p1 m c1]) n N m P lo hi) (hhi : hi ≤ w.heap.size) (hB : netB n N m P = true) (x : Nat → Int) (hx : ∀ k, k < m → -30000 ≤ x k ∧ x k ≤ 30000) :
    Calls Tryz.prog 124 #[.agg (nfL (.slice p0 n c0) (.slice p1 m c1) x).toArray] w fun e w' => e = .returned (.bool (kbB n m P x (chN n P m))) ∧ Below w.heap.size w w' := by
  obtain ⟨hn1, hn24, hm40⟩ := net_sz hB
  have hcn := chN_le n P m
  have HV := Lib.hid h
  have HX := Lib.hid hx
  have HBN := Lib.hid hB
  have HE := Lib.hid (show ∀ k, k < m → EgB (P k).k ((x k).natAbs : Int) from fun k hk => egB_of (net_pip hB hk) (hx k hk).1 (hx k hk).2)
  have HDR := Lib.hid (show ∀ a, a < m → -900000000000 ≤ drp (P a) (x a) ∧ drp (P a) (x a) ≤ 900000000000 from fun a ha => drp_bnd (net_pip hB ha) (hx a ha).1 (hx a ha).2)
  have A0 := Ob.newN w (.slice p0 n c0) (.slice p1 m c1) x 115
  have B0 := below_new w (.cells (nfL (.slice p0 n c0) (.slice p1 m c1) x).toArray 115)
  have hs0 : (w.alloc (.cells (nfL (.slice p0 n c0) (.slice p1 m c1) x).toArray 115)).heap.size = w.heap.size + 1 := by simp
  clear h hB hx
  go_enter Tryz.func124, Tryz.ntmps124
  go_upto_region 1 with (fail)
  obtain ⟨w1, hw1⟩ : ∃ w1, w.alloc (.cells (nfL (.slice p0 n c0) (.slice p1 m c1) x).toArray 115) = w1 := ⟨_, rfl⟩
  rw [hw1] at A0 B0 hs0 ⊢
  clear hw1
  have e0 := A0.n0
  have e1 := A0.n1
  have HA := Lib.hid A0
  have HB := Lib.hid B0
  clear A0 B0
  go_wp2_with fail
  refine (chords_any w1 _ n N m P lo hi (HV.out.below HB.out hhi) (by omega) HBN.out).mono ?_
  rintro e w3 ⟨vc, gc, rfl, oc, hgc, b3⟩
  obtain ⟨cc, rfl⟩ := oc.shape
  have HC := Lib.hid oc
  have hs3 := b3.size
  have lc3 := oc.lt
  have HB3 := Lib.hid (HB.out.trans (b3.mono (by omega)))
  have HA3 := Lib.hid (HA.out.below b3 (by omega))
  have hl3 : w.heap.size < w3.heap.size := by omega
  clear oc b3 HB HA e0 e1
  go_wp2_with fail
  go_loopw [9] (fun iv wr => ∃ k : Nat, iv = .int .i64 k ∧ k ≤ chN n P m ∧ kbB n m P x k = true ∧ w3.heap.size ≤ wr.heap.size ∧ Below w3.heap.size w3 wr) (fun iv _ => chN n P m - (intOf iv).toNat)
  case atStart => exact ⟨0, rfl, Nat.zero_le _, rfl, Nat.le_refl _, Below.refl _ _⟩
  case round =>
    obtain ⟨k, rfl, hk, hrx, hsz, hb⟩ := hrel
    have HBB := Lib.hid hb
    have HRX := Lib.hid hrx
    clear hb hrx
    have k0 : (0 : Int) ≤ (k : Int) := Int.natCast_nonneg _
    by_cases hlt : k < chN n P m
    · have k1 : (k : Int) < (chN n P m : Int) := by omega
      obtain ⟨hcm, hcp⟩ := chS_at (n := n) (P := P) (m := m) hlt
      have y0 : wr.cell? ⟨gc, k, none⟩ = some (.int .i64 (chS n P m k : Nat)) := (HC.out.below HBB.out (Nat.le_refl _)).row.cell k hlt
      have BW := Lib.hid (HB3.out.trans (HBB.out.mono (by omega)))
      have g0 := (HA3.out.below HBB.out (by omega)).nall
      have lw : w.heap.size < wr.heap.size := by omega
      have hir : hi ≤ wr.heap.size := by omega
      have hwr : w.heap.size ≤ wr.heap.size := by omega
      have rb := rsS_bnd (P := P) (x := x) (y := (cyc P (fE n P m) (fD n P m) (chS n P m k))) (k := m) HDR.out (fun a _ => cyc_one HBN.out hcm hcp a)
      have rr : -36000000000000 ≤ rsS P x (cyc P (fE n P m) (fD n P m) (chS n P m k)) m ∧ rsS P x (cyc P (fE n P m) (fD n P m) (chS n P m k)) m ≤ 36000000000000 := by omega
      have HT1 := Lib.hid (show ¬ 3 * ((rsS P x (cyc P (fE n P m) (fD n P m) (chS n P m k)) m).natAbs : Int) ≤ bdS P x (cyc P (fE n P m) (fD n P m) (chS n P m k)) m → kbB n m P x (chN n P m) = false from fun g => kbB_no g hlt)
      have HT2 := Lib.hid (show 3 * ((rsS P x (cyc P (fE n P m) (fD n P m) (chS n P m k)) m).natAbs : Int) ≤ bdS P x (cyc P (fE n P m) (fD n P m) (chS n P m k)) m → kbB n m P x (k + 1) = true from fun g => by unfold kbB; rw [HRX.out, decide_eq_true g]; rfl)
      clear rb
      have HRC := Lib.hid (fun (W : World) (hW : Below wr.heap.size wr W) => residual_any W p0 p1 c0 c1 n N m P lo hi (HV.out.below (BW.out.trans (hW.mono hwr)) hhi) (Nat.le_trans hir hW.size) HBN.out x HX.out _ hcm hcp)
      have HBC := Lib.hid (fun (W : World) (hW : Below wr.heap.size wr W) => residualBound_any W p0 p1 c0 c1 n N m P lo hi (HV.out.below (BW.out.trans (hW.mono hwr)) hhi) (Nat.le_trans hir hW.size) HBN.out x HX.out _ hcm hcp)
      generalize hI : rsS P x (cyc P (fE n P m) (fD n P m) (chS n P m k)) m = I at *
      generalize hJ : bdS P x (cyc P (fE n P m) (fD n P m) (chS n P m k)) m = J at *
      clear hI hJ
      have KS : ∀ W : World, Below wr.heap.size wr W → (Below wr.heap.size wr W ∧ W.rangeAt w.heap.size 0 (nfL (.slice p0 n c0) (.slice p1 m c1) x)) := fun W hW => ⟨hW, range_blockN g0 (hW.block _ lw)⟩
      have hmul : IntKind.i64.wrap (3 * (I.natAbs : Int)) = 3 * (I.natAbs : Int) := IntWalk.i64_in _ (by omega)
      by_cases hq : 3 * (I.natAbs : Int) ≤ J
      · have hd : decide (J < 3 * (I.natAbs : Int)) = false := decide_eq_false (by omega)
        have HR := Lib.hid (HT2.out (by omega))
        go_wp2_with fail
        refine wp_region_noPanic ?_
        refine wp_region_held_drew (S := fun w' : World => Below wr.heap.size wr w' ∧ w'.rangeAt w.heap.size 0 (nfL (.slice p0 n c0) (.slice p1 m c1) x)) (by kernel_rfl) (KS _ (below_drw (Below.refl _ _))) (fun sH => ?_)
        refine wpAnyH_take (i := 0) (v := .agg (nfL (.slice p0 n c0) (.slice p1 m c1) x).toArray) nthe0 (by kernel_rfl) (by kernel_rfl) (by kernel_rfl) (fun _ _ _ h => h) (yieldsIf_load_mid (by rfl) _ _ rfl w.heap.size 0 rfl (nfL (.slice p0 n c0) (.slice p1 m c1) x) _ (fun _ h => h.2) Tryz.underlying115 rfl (by rw [nfL_len]; exact nf_info)) sH ?_
        try simp only [Act.put, List.setIfInBounds_toArray, List.set_cons_zero, List.set_cons_succ]
        refine wpAnyH_take (i := 1) (v := ?_) nthe1 (by kernel_rfl) (by kernel_rfl) (by kernel_rfl) (fun _ _ _ h => h) (Or.inl ⟨by rfl, ?_⟩) sH ?_
        rotate_left
        · intro wS hSw; (try dsimp only at hSw); go_simp; try with_reducible rfl
        try simp only [Act.put, List.setIfInBounds_toArray, List.set_cons_zero, List.set_cons_succ]
        refine wpAnyH_take (i := 5) (v := .agg (nfL (.slice p0 n c0) (.slice p1 m c1) x).toArray) nthe5 (by kernel_rfl) (by kernel_rfl) (by kernel_rfl) (fun _ _ _ h => h) (yieldsIf_load_mid (by rfl) _ _ rfl w.heap.size 0 rfl (nfL (.slice p0 n c0) (.slice p1 m c1) x) _ (fun _ h => h.2) Tryz.underlying115 rfl (by rw [nfL_len]; exact nf_info)) sH ?_
        try simp only [Act.put, List.setIfInBounds_toArray, List.set_cons_zero, List.set_cons_succ]
        refine wpAnyH_take (i := 6) (v := ?_) nthe6 (by kernel_rfl) (by kernel_rfl) (by kernel_rfl) (fun _ _ _ h => h) (Or.inl ⟨by rfl, ?_⟩) sH ?_
        rotate_left
        · intro wS hSw; (try dsimp only at hSw); go_simp; try with_reducible rfl
        try simp only [Act.put, List.setIfInBounds_toArray, List.set_cons_zero, List.set_cons_succ]
        refine wpAnyH_ready (rs := [2]) (by kernel_rfl) (by simp) (AllReadyH.cons nthe2 (fun KON hKON => ?_) AllReadyH.nil)
        clear sH
        go_simp
        refine (HRC.out _ (below_drw (Below.refl _ _))).mono ?_
        rintro e wX ⟨rfl, hbX⟩
        have KX1 : Below wr.heap.size wr wX := (below_drw (Below.refl _ _)).trans (hbX.mono (Nat.le_refl _))
        refine hKON.out _ _ (KS _ KX1) (fun sH => ?_)
        clear hKON KON
        try simp only [Act.put, List.setIfInBounds_toArray, List.set_cons_zero, List.set_cons_succ]
        refine wpAnyH_ready (rs := [3]) (by kernel_rfl) (by simp) (AllReadyH.cons nthe3 (fun KON hKON => ?_) AllReadyH.nil)
        clear sH
        go_simp
        refine (absN_any _ _ (by omega) (by omega)).mono ?_
        rintro e wX' ⟨rfl, rfl⟩
        refine hKON.out _ _ (KS _ KX1) (fun sH => ?_)
        clear hKON KON
        try simp only [Act.put, List.setIfInBounds_toArray, List.set_cons_zero, List.set_cons_succ]
        refine wpAnyH_take (i := 4) (v := ?_) nthe4 (by kernel_rfl) (by kernel_rfl) (by kernel_rfl) (fun _ _ _ h => h) (Or.inl ⟨by rfl, ?_⟩) sH ?_
        rotate_left
        · intro wS hSw; (try dsimp only at hSw); go_simp; try with_reducible rfl
        try simp only [Act.put, List.setIfInBounds_toArray, List.set_cons_zero, List.set_cons_succ]
        refine wpAnyH_ready (rs := [7]) (by kernel_rfl) (by simp) (AllReadyH.cons nthe7 (fun KON hKON => ?_) AllReadyH.nil)
        clear sH
        go_simp
        refine (HBC.out _ KX1).mono ?_
        rintro e wY ⟨rfl, hbY⟩
        have KX2 := KX1.trans (hbY.mono KX1.size)
        refine hKON.out _ _ (KS _ KX2) (fun sH => ?_)
        clear hKON KON
        try simp only [Act.put, List.setIfInBounds_toArray, List.set_cons_zero, List.set_cons_succ]
        refine wpAnyH_take (i := 8) (v := ?_) nthe8 (by kernel_rfl) (by kernel_rfl) (by kernel_rfl) (fun _ _ _ h => h) (Or.inl ⟨by rfl, ?_⟩) sH ?_
        rotate_left
        · intro wS hSw; (try dsimp only at hSw); go_simp; try with_reducible rfl
        try simp only [Act.put, List.setIfInBounds_toArray, List.set_cons_zero, List.set_cons_succ]
        refine wpAnyH_done (by kernel_rfl) ?_ _
        refine NoPanic.normal ?_
        go_wp2_with fail
        go_roundw
        case rel => exact ⟨k + 1, by go_num, hlt, HR.out, by have := KX2.size; omega, HBB.out.trans (KX2.mono hsz)⟩
        case measure => simp [intOf]; omega
      · have hd : decide (J < 3 * (I.natAbs : Int)) = true := decide_eq_true (by omega)
        have HR := Lib.hid (HT1.out (by omega))
        go_wp2_with fail
        refine wp_region_noPanic ?_
        refine wp_region_held_drew (S := fun w' : World => Below wr.heap.size wr w' ∧ w'.rangeAt w.heap.size 0 (nfL (.slice p0 n c0) (.slice p1 m c1) x)) (by kernel_rfl) (KS _ (below_drw (Below.refl _ _))) (fun sH => ?_)
        refine wpAnyH_take (i := 0) (v := .agg (nfL (.slice p0 n c0) (.slice p1 m c1) x).toArray) nthe0 (by kernel_rfl) (by kernel_rfl) (by kernel_rfl) (fun _ _ _ h => h) (yieldsIf_load_mid (by rfl) _ _ rfl w.heap.size 0 rfl (nfL (.slice p0 n c0) (.slice p1 m c1) x) _ (fun _ h => h.2) Tryz.underlying115 rfl (by rw [nfL_len]; exact nf_info)) sH ?_
        try simp only [Act.put, List.setIfInBounds_toArray, List.set_cons_zero, List.set_cons_succ]
        refine wpAnyH_take (i := 1) (v := ?_) nthe1 (by kernel_rfl) (by kernel_rfl) (by kernel_rfl) (fun _ _ _ h => h) (Or.inl ⟨by rfl, ?_⟩) sH ?_
        rotate_left
        · intro wS hSw; (try dsimp only at hSw); go_simp; try with_reducible rfl
        try simp only [Act.put, List.setIfInBounds_toArray, List.set_cons_zero, List.set_cons_succ]
        refine wpAnyH_take (i := 5) (v := .agg (nfL (.slice p0 n c0) (.slice p1 m c1) x).toArray) nthe5 (by kernel_rfl) (by kernel_rfl) (by kernel_rfl) (fun _ _ _ h => h) (yieldsIf_load_mid (by rfl) _ _ rfl w.heap.size 0 rfl (nfL (.slice p0 n c0) (.slice p1 m c1) x) _ (fun _ h => h.2) Tryz.underlying115 rfl (by rw [nfL_len]; exact nf_info)) sH ?_
        try simp only [Act.put, List.setIfInBounds_toArray, List.set_cons_zero, List.set_cons_succ]
        refine wpAnyH_take (i := 6) (v := ?_) nthe6 (by kernel_rfl) (by kernel_rfl) (by kernel_rfl) (fun _ _ _ h => h) (Or.inl ⟨by rfl, ?_⟩) sH ?_
        rotate_left
        · intro wS hSw; (try dsimp only at hSw); go_simp; try with_reducible rfl
        try simp only [Act.put, List.setIfInBounds_toArray, List.set_cons_zero, List.set_cons_succ]
        refine wpAnyH_ready (rs := [2]) (by kernel_rfl) (by simp) (AllReadyH.cons nthe2 (fun KON hKON => ?_) AllReadyH.nil)
        clear sH
        go_simp
        refine (HRC.out _ (below_drw (Below.refl _ _))).mono ?_
        rintro e wX ⟨rfl, hbX⟩
        have KX1 : Below wr.heap.size wr wX := (below_drw (Below.refl _ _)).trans (hbX.mono (Nat.le_refl _))
        refine hKON.out _ _ (KS _ KX1) (fun sH => ?_)
        clear hKON KON
        try simp only [Act.put, List.setIfInBounds_toArray, List.set_cons_zero, List.set_cons_succ]
        refine wpAnyH_ready (rs := [3]) (by kernel_rfl) (by simp) (AllReadyH.cons nthe3 (fun KON hKON => ?_) AllReadyH.nil)
        clear sH
        go_simp
        refine (absN_any _ _ (by omega) (by omega)).mono ?_
        rintro e wX' ⟨rfl, rfl⟩
        refine hKON.out _ _ (KS _ KX1) (fun sH => ?_)
        clear hKON KON
        try simp only [Act.put, List.setIfInBounds_toArray, List.set_cons_zero, List.set_cons_succ]
        refine wpAnyH_take (i := 4) (v := ?_) nthe4 (by kernel_rfl) (by kernel_rfl) (by kernel_rfl) (fun _ _ _ h => h) (Or.inl ⟨by rfl, ?_⟩) sH ?_
        rotate_left
        · intro wS hSw; (try dsimp only at hSw); go_simp; try with_reducible rfl
        try simp only [Act.put, List.setIfInBounds_toArray, List.set_cons_zero, List.set_cons_succ]
        refine wpAnyH_ready (rs := [7]) (by kernel_rfl) (by simp) (AllReadyH.cons nthe7 (fun KON hKON => ?_) AllReadyH.nil)
        clear sH
        go_simp
        refine (HBC.out _ KX1).mono ?_
        rintro e wY ⟨rfl, hbY⟩
        have KX2 := KX1.trans (hbY.mono KX1.size)
        refine hKON.out _ _ (KS _ KX2) (fun sH => ?_)
        clear hKON KON
        try simp only [Act.put, List.setIfInBounds_toArray, List.set_cons_zero, List.set_cons_succ]
        refine wpAnyH_take (i := 8) (v := ?_) nthe8 (by kernel_rfl) (by kernel_rfl) (by kernel_rfl) (fun _ _ _ h => h) (Or.inl ⟨by rfl, ?_⟩) sH ?_
        rotate_left
        · intro wS hSw; (try dsimp only at hSw); go_simp; try with_reducible rfl
        try simp only [Act.put, List.setIfInBounds_toArray, List.set_cons_zero, List.set_cons_succ]
        refine wpAnyH_done (by kernel_rfl) ?_ _
        refine NoPanic.normal ?_
        go_wp2_with fail
        go_ret
        exact ⟨ret_b HR.out.symm, BW.out.trans (KX2.mono hwr)⟩
    · have hkn : k = chN n P m := by omega
      have k1 : ¬ ((k : Int) < (chN n P m : Int)) := by omega
      have HR := Lib.hid (show kbB n m P x (chN n P m) = true by rw [← hkn]; exact HRX.out)
      clear hkn
      go_wp2_with fail
      go_ret
      exact ⟨ret_b HR.out.symm, HB3.out.trans (HBB.out.mono (by omega))⟩
set_option maxRecDepth 100000 in
set_option maxHeartbeats 8000000 in
theorem l12Small_any (w : World) (v : Value) (n : Nat) (N : Nat → Nod) (m : Nat) (P : Nat → Pip) (lo hi : Nat) (h : NetAt w v n N m P lo hi) (hhi : hi ≤ w.heap.size) (hN : ∀ i, i < n → (N i).s.size ≤ 9223372036854775807) (hB : netB n N m P = true) (va : Value) (x : Nat → Int) (la ha : Nat) (hv : Sl w va m x la ha) (hha : ha ≤ w.heap.size) (hx : ∀ k, k < m → -30000 ≤ x k ∧ x k ≤ 30000) :
    Calls Tryz.prog 70 #[v, va] w fun e w' => e = .returned (.bool (kbB n m P x (chN n P m))) ∧ Below w.heap.size w w' := by
  obtain ⟨p0, c0, p1, c1, rfl, hn9, hm9⟩ := h.parts
  obtain ⟨hn1, hn24, hm40⟩ := net_sz hB
  obtain ⟨pa, ca, rfl⟩ := hv.sh
  have hcn := chN_le n P m
  have HV := Lib.hid h
  have HSV := Lib.hid hv
  have HX := Lib.hid hx
  have HBN := Lib.hid hB
  have HDR := Lib.hid (show ∀ a, a < m → -900000000000 ≤ drp (P a) (x a) ∧ drp (P a) (x a) ≤ 900000000000 from fun a ha => drp_bnd (net_pip hB ha) (hx a ha).1 (hx a ha).2)
  have A0 := boxed w (.slice p0 n c0) (.slice p1 m c1) 27
  have B0 := below_new w (.cells #[.slice p0 n c0, .slice p1 m c1] 27)
  have hs0 : (w.alloc (.cells #[.slice p0 n c0, .slice p1 m c1] 27)).heap.size = w.heap.size + 1 := by simp
  clear h hB hx hv
  go_enter Tryz.func70, Tryz.ntmps70
  have e0' := A0.b0
  have e1' := A0.b1
  go_wp2_with fail
  refine (l05Basis_any _ _ n N m P lo hi (HV.out.below B0 hhi) (by omega) hN HBN.out).mono ?_
  rintro e w2 ⟨vb, rfl, hb2, b2⟩
  obtain ⟨pb, cb, rfl⟩ := hb2.shape
  have A2 := A0.below b2 (by omega)
  have B2 := B0.trans (b2.mono (by omega))
  have hs2 := b2.size
  have HBA := Lib.hid hb2
  have HA := Lib.hid A2
  have HBB := Lib.hid B2
  have l3 : w.heap.size < w2.heap.size := by omega
  clear A0 A2 B0 B2 b2 hb2 e0' e1' hN
  go_wp2_with fail
  go_loopw [6] (fun iv wr => ∃ k : Nat, iv = .int .i64 k ∧ k ≤ chN n P m ∧ kbB n m P x k = true ∧ w2.heap.size ≤ wr.heap.size ∧ Below w2.heap.size w2 wr) (fun iv _ => chN n P m - (intOf iv).toNat)
  case atStart => exact ⟨0, rfl, Nat.zero_le _, rfl, Nat.le_refl _, Below.refl _ _⟩
  case round =>
    obtain ⟨k, rfl, hk, hrx, hsz, hb⟩ := hrel
    have HL := Lib.hid hb
    have HRX := Lib.hid hrx
    clear hb hrx
    have k0 : (0 : Int) ≤ (k : Int) := Int.natCast_nonneg _
    have BW := Lib.hid (HBB.out.trans (HL.out.mono (by omega)))
    by_cases hlt : k < chN n P m
    · have k1 : (k : Int) < (chN n P m : Int) := by omega
      obtain ⟨q, cap, G, C, ee, hql, hrow⟩ : ∃ (q cap : Nat) (G C : Nat → Nat), Value.slice pb (chN n P m) cb = .slice (some ⟨q, 0, none⟩) (chN n P m) cap ∧ q < w2.heap.size ∧ ∀ k, k < chN n P m → w2.cell? ⟨q, k, none⟩ = some (.slice (some ⟨G k, 0, none⟩) m (C k)) ∧ Own w2 (.slice (some ⟨G k, 0, none⟩) m (C k)) m ((fun i => cyc P (fE n P m) (fD n P m) (chS n P m i)) k) (G k) := by
        rcases HBA.out.at_ with e | e
        · omega
        · exact e
      obtain ⟨rfl, rfl⟩ : pb = some ⟨q, 0, none⟩ ∧ cb = cap := by
        injection ee with h1 _ h3
        exact ⟨h1, h3⟩
      clear ee
      obtain ⟨yr, yo⟩ := hrow k hlt
      clear hrow
      dsimp only at yo
      obtain ⟨hcm, hcp⟩ := chS_at (n := n) (P := P) (m := m) hlt
      have y2 : wr.cell? ⟨q, k, none⟩ = some (.slice (some ⟨G k, 0, none⟩) m (C k)) := (HL.out.cell (p := ⟨q, k, none⟩) hql).trans yr
      have HY := Lib.hid (yo.below HL.out (Nat.le_refl _))
      have lG := yo.lt
      have HSL := Lib.hid (HSV.out.below BW.out hha)
      have f0 := (HA.out.below HL.out (by omega)).b0
      have f1 := (HA.out.below HL.out (by omega)).b1
      have hir : hi ≤ wr.heap.size := by omega
      have har : ha ≤ wr.heap.size := by omega
      have hwr : w.heap.size ≤ wr.heap.size := by omega
      have lwr : w.heap.size < wr.heap.size := by omega
      have lqr : q < wr.heap.size := by omega
      have lGr : G k + 1 ≤ wr.heap.size := by omega
      have rb := rsS_bnd (P := P) (x := x) (y := (cyc P (fE n P m) (fD n P m) (chS n P m k))) (k := m) HDR.out (fun a _ => cyc_one HBN.out hcm hcp a)
      have rr : -36000000000000 ≤ rsS P x (cyc P (fE n P m) (fD n P m) (chS n P m k)) m ∧ rsS P x (cyc P (fE n P m) (fD n P m) (chS n P m k)) m ≤ 36000000000000 := by omega
      have HT1 := Lib.hid (show ¬ 3 * ((rsS P x (cyc P (fE n P m) (fD n P m) (chS n P m k)) m).natAbs : Int) ≤ bdS P x (cyc P (fE n P m) (fD n P m) (chS n P m k)) m → kbB n m P x (chN n P m) = false from fun g => kbB_no g hlt)
      have HT2 := Lib.hid (show 3 * ((rsS P x (cyc P (fE n P m) (fD n P m) (chS n P m k)) m).natAbs : Int) ≤ bdS P x (cyc P (fE n P m) (fD n P m) (chS n P m k)) m → kbB n m P x (k + 1) = true from fun g => by unfold kbB; rw [HRX.out, decide_eq_true g]; rfl)
      have HCR := Lib.hid (show ∀ a, a < m → -1 ≤ (cyc P (fE n P m) (fD n P m) (chS n P m k)) a ∧ (cyc P (fE n P m) (fD n P m) (chS n P m k)) a ≤ 1 from fun a _ => cyc_one HBN.out hcm hcp a)
      clear rb yr yo
      have HRC := Lib.hid (fun (W : World) (hW : Below wr.heap.size wr W) => l10Residual_any W _ n N m P lo hi (HV.out.below (BW.out.trans (hW.mono hwr)) hhi) (Nat.le_trans hir hW.size) HBN.out _ x la ha (HSL.out.below hW har) (Nat.le_trans har hW.size) HX.out _ (cyc P (fE n P m) (fD n P m) (chS n P m k)) _ _ (HY.out.sl.below hW lGr) (Nat.le_trans lGr hW.size) HCR.out)
      have HBC := Lib.hid (fun (W : World) (hW : Below wr.heap.size wr W) => l10Bound_any W _ n N m P lo hi (HV.out.below (BW.out.trans (hW.mono hwr)) hhi) (Nat.le_trans hir hW.size) HBN.out _ x la ha (HSL.out.below hW har) (Nat.le_trans har hW.size) HX.out _ (cyc P (fE n P m) (fD n P m) (chS n P m k)) _ _ (HY.out.sl.below hW lGr) (Nat.le_trans lGr hW.size) HCR.out)
      generalize hI : rsS P x (cyc P (fE n P m) (fD n P m) (chS n P m k)) m = I at *
      generalize hJ : bdS P x (cyc P (fE n P m) (fD n P m) (chS n P m k)) m = J at *
      clear hI hJ HCR
      have KS : ∀ W : World, Below wr.heap.size wr W → (W.cell? ⟨w.heap.size, 0, none⟩ = some (.slice p0 n c0) ∧ W.cell? ⟨w.heap.size, 1, none⟩ = some (.slice p1 m c1) ∧ W.cell? ⟨q, k, none⟩ = some (.slice (some ⟨G k, 0, none⟩) m (C k))) := fun W hW => ⟨(hW.cell (p := ⟨w.heap.size, 0, none⟩) lwr).trans f0, (hW.cell (p := ⟨w.heap.size, 1, none⟩) lwr).trans f1, (hW.cell (p := ⟨q, k, none⟩) lqr).trans y2⟩
      have K0 : Below wr.heap.size wr wr.drew := below_drw (Below.refl _ _)
      have hmul : IntKind.i64.wrap (3 * (I.natAbs : Int)) = 3 * (I.natAbs : Int) := IntWalk.i64_in _ (by omega)
      go_wp2_with fail
      by_cases hq : 3 * (I.natAbs : Int) ≤ J
      · have hd : decide (J < 3 * (I.natAbs : Int)) = false := decide_eq_false (by omega)
        have HR := Lib.hid (HT2.out (by omega))
        go_region_held3 (fun w' : World => w'.cell? ⟨w.heap.size, 0, none⟩ = some (.slice p0 n c0) ∧ w'.cell? ⟨w.heap.size, 1, none⟩ = some (.slice p1 m c1) ∧ w'.cell? ⟨q, k, none⟩ = some (.slice (some ⟨G k, 0, none⟩) m (C k))) (first | exact ⟨f0, f1, y2⟩ | exact KS _ KY | exact KS _ KX)
          (first
            | (go_at_call 127; refine (HRC.out _ K0).mono ?_; rintro e wX ⟨rfl, hbX⟩; have KX := K0.trans (hbX.mono K0.size); clear hbX)
            | (go_at_call 126; refine (absS_any _ _ (by omega) (by omega)).mono ?_; rintro e w' ⟨rfl, rfl⟩)
            | (go_at_call 128; refine (HBC.out _ KX).mono ?_; rintro e wY ⟨rfl, hbY⟩; have KY := KX.trans (hbY.mono KX.size); clear hbY))
        go_wp2_with fail
        go_roundw
        case rel => exact ⟨k + 1, by go_num, hlt, HR.out, by have := KY.size; omega, HL.out.trans (KY.mono hsz)⟩
        case measure => simp [intOf]; omega
      · have hd : decide (J < 3 * (I.natAbs : Int)) = true := decide_eq_true (by omega)
        have HR := Lib.hid (HT1.out (by omega))
        go_region_held3 (fun w' : World => w'.cell? ⟨w.heap.size, 0, none⟩ = some (.slice p0 n c0) ∧ w'.cell? ⟨w.heap.size, 1, none⟩ = some (.slice p1 m c1) ∧ w'.cell? ⟨q, k, none⟩ = some (.slice (some ⟨G k, 0, none⟩) m (C k))) (first | exact ⟨f0, f1, y2⟩ | exact KS _ KY | exact KS _ KX)
          (first
            | (go_at_call 127; refine (HRC.out _ K0).mono ?_; rintro e wX ⟨rfl, hbX⟩; have KX := K0.trans (hbX.mono K0.size); clear hbX)
            | (go_at_call 126; refine (absS_any _ _ (by omega) (by omega)).mono ?_; rintro e w' ⟨rfl, rfl⟩)
            | (go_at_call 128; refine (HBC.out _ KX).mono ?_; rintro e wY ⟨rfl, hbY⟩; have KY := KX.trans (hbY.mono KX.size); clear hbY))
        go_wp2_with fail
        go_ret
        exact ⟨ret_b HR.out.symm, BW.out.trans (KY.mono hwr)⟩
    · have hkn : k = chN n P m := by omega
      have k1 : ¬ ((k : Int) < (chN n P m : Int)) := by omega
      have HR := Lib.hid (show kbB n m P x (chN n P m) = true by rw [← hkn]; exact HRX.out)
      clear hkn
      go_wp2_with fail
      go_ret
      exact ⟨ret_b HR.out.symm, BW.out⟩
end Go.Proofs.YtdbgcbkmcbgdiaaGreat.mem

namespace Go.Proofs.YtdbgcbkmcbgdiaaGreat.mem
open Go.RowKit
set_option linter.unusedVariables false

def c2B (n m : Nat) (P : Nat → Pip) (f : Nat → Int) (L : Nat) (l : Nat → Int) : Bool := alB n L l && smB l (fun j => lvl n P m f ((0 : Nat) : Int) (l 0) (j : Nat)) n
noncomputable def ckV (n : Nat) (N : Nat → Nod) (m : Nat) (P : Nat → Pip) (K : Nat) (d : Nat → Int) (F : Nat) (f : Nat → Int) (L : Nat) (l : Nat → Int) : Int :=
  if ibB n N m P F f K d = true then (if c2B n m P f L l = true then (if kbB n m P f (chN n P m) = true then 0 else 3) else 2) else 1
noncomputable def ckA (n : Nat) (N : Nat → Nod) (m : Nat) (P : Nat → Pip) (K : Nat) (d : Nat → Int) (F : Nat) (f : Nat → Int) (L : Nat) (l : Nat → Int) : Int := if coC n N m P K d = 0 then ckV n N m P K d F f L l else 0
theorem ib_fl {n : Nat} {N : Nat → Nod} {m : Nat} {P : Nat → Pip} {F : Nat} {f : Nat → Int} {K : Nat} {d : Nat → Int} (h : ibB n N m P F f K d = true) : flC n N m P F f = 0 := by
  unfold ibB at h
  rw [Bool.and_eq_true, decide_eq_true_iff] at h
  exact h.1
theorem ib_li {n : Nat} {N : Nat → Nod} {m : Nat} {P : Nat → Pip} {F : Nat} {f : Nat → Int} {K : Nat} {d : Nat → Int} (hB : netB n N m P = true) (hs : svC n N m P K d = 0) : ibB n N m P F f K d = (liB m F f && smB (fun z => dv P f m ((z : Nat) : Int)) d n) := by
  unfold ibB smB
  rw [decide_eq_true hs, Bool.true_and]
  cases hl : liB m F f
  · rw [decide_eq_false (fun g => by rw [liB_iff.2 (flC_ok g).2] at hl; cases hl), Bool.false_and]
  · obtain ⟨rfl, h2⟩ := liB_iff.1 hl
    rw [decide_eq_true (flC_is hB h2)]
theorem ck_no1 {n : Nat} {N : Nat → Nod} {m : Nat} {P : Nat → Pip} {K : Nat} {d : Nat → Int} {F : Nat} {f : Nat → Int} {L : Nat} {l : Nat → Int} (hc : coC n N m P K d = 0) (h : ibB n N m P F f K d = false) : ckA n N m P K d F f L l = 1 := by
  unfold ckA ckV
  rw [if_pos hc, h]
  rfl
theorem ck_no2 {n : Nat} {N : Nat → Nod} {m : Nat} {P : Nat → Pip} {K : Nat} {d : Nat → Int} {F : Nat} {f : Nat → Int} {L : Nat} {l : Nat → Int} (hc : coC n N m P K d = 0) (h : ibB n N m P F f K d = true) (h2 : c2B n m P f L l = false) : ckA n N m P K d F f L l = 2 := by
  unfold ckA ckV
  rw [if_pos hc, h, h2]
  rfl
theorem ck_no3 {n : Nat} {N : Nat → Nod} {m : Nat} {P : Nat → Pip} {K : Nat} {d : Nat → Int} {F : Nat} {f : Nat → Int} {L : Nat} {l : Nat → Int} (hc : coC n N m P K d = 0) (h : ibB n N m P F f K d = true) (h2 : c2B n m P f L l = true) (h3 : kbB n m P f (chN n P m) = false) : ckA n N m P K d F f L l = 3 := by
  unfold ckA ckV
  rw [if_pos hc, h, h2, h3]
  rfl
theorem ck_yes {n : Nat} {N : Nat → Nod} {m : Nat} {P : Nat → Pip} {K : Nat} {d : Nat → Int} {F : Nat} {f : Nat → Int} {L : Nat} {l : Nat → Int} (hc : coC n N m P K d = 0) (h : ibB n N m P F f K d = true) (h2 : c2B n m P f L l = true) (h3 : kbB n m P f (chN n P m) = true) : ckA n N m P K d F f L l = 0 := by
  unfold ckA ckV
  rw [if_pos hc, h, h2, h3]
  rfl
theorem nthe16 {o0 o1 o2 o3 o4 o5 o6 o7 o8 o9 o10 o11 o12 o13 o14 o15 o16 : Oper} {l : List Oper} : (List.toArray (o0 :: o1 :: o2 :: o3 :: o4 :: o5 :: o6 :: o7 :: o8 :: o9 :: o10 :: o11 :: o12 :: o13 :: o14 :: o15 :: o16 :: l))[16]? = some o16 := rfl
theorem nthe17 {o0 o1 o2 o3 o4 o5 o6 o7 o8 o9 o10 o11 o12 o13 o14 o15 o16 o17 : Oper} {l : List Oper} : (List.toArray (o0 :: o1 :: o2 :: o3 :: o4 :: o5 :: o6 :: o7 :: o8 :: o9 :: o10 :: o11 :: o12 :: o13 :: o14 :: o15 :: o16 :: o17 :: l))[17]? = some o17 := rfl
theorem nthe18 {o0 o1 o2 o3 o4 o5 o6 o7 o8 o9 o10 o11 o12 o13 o14 o15 o16 o17 o18 : Oper} {l : List Oper} : (List.toArray (o0 :: o1 :: o2 :: o3 :: o4 :: o5 :: o6 :: o7 :: o8 :: o9 :: o10 :: o11 :: o12 :: o13 :: o14 :: o15 :: o16 :: o17 :: o18 :: l))[18]? = some o18 := rfl
theorem nthe19 {o0 o1 o2 o3 o4 o5 o6 o7 o8 o9 o10 o11 o12 o13 o14 o15 o16 o17 o18 o19 : Oper} {l : List Oper} : (List.toArray (o0 :: o1 :: o2 :: o3 :: o4 :: o5 :: o6 :: o7 :: o8 :: o9 :: o10 :: o11 :: o12 :: o13 :: o14 :: o15 :: o16 :: o17 :: o18 :: o19 :: l))[19]? = some o19 := rfl
theorem info_cond : (Tryz.prog.info? 92).map (·.size) = some 2 := by kernel_rfl
theorem run_indexC (w : World) (cs : Array Value) (k : IntKind) (i : Int) (h0 : 0 ≤ i) (h1 : i < 3) : (Instr.index 93 (.agg cs) (.int k i)).run Tryz.prog w = .ok (.agg (cs.extract (i.toNat * 2) (i.toNat * 2 + 2))) w := by
  obtain ⟨i0, hi0, hz⟩ : ∃ i0, Tryz.prog.info? 92 = some i0 ∧ i0.size = 2 := by
    have h := info_cond
    cases hx : Tryz.prog.info? 92 with
    | none => rw [hx] at h; simp at h
    | some i0 => rw [hx] at h; exact ⟨i0, rfl, by simpa using h⟩
  simp [Instr.index, run_underlying Tryz.underlying93, run_underlying Tryz.underlying92, asIntOf, h0, h1, part, isAgg, sizeOf, typeInfo, hi0, hz]
theorem wpList_indexC {ops : Array Oper} {rest : List Oper} {o : Oper} {a : Act} {w : World} {Q : Exit → Act → World → Prop} (hg : o.guard = none) (x y : Operand) (ho : o.op = .index 93 x y) (cs : Array Value) (k : IntKind) (i : Int) (v : Value) (hx : a.eval x = .agg cs) (hy : a.eval y = .int k i) (h0 : 0 ≤ i) (h1 : i < 3) (hv : Value.agg (cs.extract (i.toNat * 2) (i.toNat * 2 + 2)) = v)
    (h : wpList Tryz.prog ops Q rest (a.put o.dst v) w) : wpList Tryz.prog ops Q (o :: rest) a w := by
  refine wpList_plain hg fun K hK => ?_
  unfold Oper.wp execOp
  simp only [ho, Sem.run_bind, hx, hy, run_indexC w cs k i h0 h1, Result.andThen_ok, hv]
  exact hK _ _ h
set_option maxRecDepth 100000 in
set_option maxHeartbeats 8000000 in
theorem proofConditions_any (w : World) : Calls Tryz.prog 67 #[] w fun e w' => e = .returned (.agg #[.int .i64 1, .func (.func 120) #[] #[], .int .i64 2, .func (.func 121) #[] #[], .int .i64 3, .func (.func 123) #[] #[]]) ∧ Below w.heap.size w w' := by
  have B0 := below_new w (.cells #[.int .i64 1, .func (.func 120) #[] #[], .int .i64 2, .func (.func 121) #[] #[], .int .i64 3, .func (.func 123) #[] #[]] 93)
  go_enter Tryz.func67, Tryz.ntmps67
  have R0 := Ob.new w #[.int .i64 1, .func (.func 120) #[] #[], .int .i64 2, .func (.func 121) #[] #[], .int .i64 3, .func (.func 123) #[] #[]] 93 6 (fun j => #[.int .i64 1, .func (.func 120) #[] #[], .int .i64 2, .func (.func 121) #[] #[], .int .i64 3, .func (.func 123) #[] #[]].getD j default) rfl (by intro k hk; rcases (by omega : k = 0 ∨ k = 1 ∨ k = 2 ∨ k = 3 ∨ k = 4 ∨ k = 5) with rfl | rfl | rfl | rfl | rfl | rfl <;> rfl)
  have f0 := R0.cell 0 (by omega)
  have f1 := R0.cell 1 (by omega)
  have f2 := R0.cell 2 (by omega)
  have f3 := R0.cell 3 (by omega)
  have f4 := R0.cell 4 (by omega)
  have f5 := R0.cell 5 (by omega)
  clear R0
  go_wp2_with fail
  refine bodyPost_ret (v := .agg #[.int .i64 1, .func (.func 120) #[] #[], .int .i64 2, .func (.func 121) #[] #[], .int .i64 3, .func (.func 123) #[] #[]]) (by simp [results, Tryz.results67, go_sem, f0, f1, f2, f3, f4, f5]) rfl ⟨rfl, B0⟩
set_option maxRecDepth 100000 in
set_option maxHeartbeats 8000000 in
theorem cond1_any (w : World) (v : Value) (n : Nat) (N : Nat → Nod) (m : Nat) (P : Nat → Pip) (lo hi : Nat) (h : NetAt w v n N m P lo hi) (hhi : hi ≤ w.heap.size) (hN : ∀ i, i < n → (N i).s.size ≤ 9223372036854775807) (va : Value) (K : Nat) (d : Nat → Int) (la ha : Nat) (hv : Sl w va K d la ha) (hha : ha ≤ w.heap.size) (hK9 : K ≤ 9223372036854775807) (vp : Value) (F : Nat) (f : Nat → Int) (L : Nat) (l : Nat → Int) (lp hp : Nat) (hpr : PrAt w vp F f L l lp hp) (hhp : hp ≤ w.heap.size) (hF9 : F ≤ 9223372036854775807) (hL9 : L ≤ 9223372036854775807) :
    Calls Tryz.prog 120 #[v, va, vp] w (BPost w (ibB n N m P F f K d)) := by
  obtain ⟨p0, c0, p1, c1, rfl, hn9, hm9⟩ := h.parts
  obtain ⟨q0, d0, q1, d1, rfl⟩ := hpr.shape
  obtain ⟨sf, sl⟩ := hpr.two
  obtain ⟨pa, ca, rfl⟩ := hv.sh
  have HV := Lib.hid h
  have HPR := Lib.hid hpr
  have HF := Lib.hid sf
  have HL := Lib.hid sl
  have HSV := Lib.hid hv
  have HN := Lib.hid hN
  clear hN
  have A0 := (boxed w (.slice p0 n c0) (.slice p1 m c1) 27).keep (Below.heap_alloc _ (.cells #[.slice q0 F d0, .slice q1 L d1] 38) _ (by rw [szal]; omega))
  have C0 := boxed (w.alloc (.cells #[.slice p0 n c0, .slice p1 m c1] 27)) (.slice q0 F d0) (.slice q1 L d1) 38
  simp only [szal] at C0
  have B0 := (below_new w (.cells #[.slice p0 n c0, .slice p1 m c1] 27)).trans ((below_new _ (.cells #[.slice q0 F d0, .slice q1 L d1] 38)).mono (by rw [szal]; omega))
  have hs0 : ((w.alloc (.cells #[.slice p0 n c0, .slice p1 m c1] 27)).alloc (.cells #[.slice q0 F d0, .slice q1 L d1] 38)).heap.size = w.heap.size + 1 + 1 := by simp
  clear h hpr sf sl hv
  go_enter Tryz.func120, Tryz.ntmps120
  go_upto_region 1 with (fail)
  obtain ⟨w1, hw1⟩ : ∃ w1, (w.alloc (.cells #[.slice p0 n c0, .slice p1 m c1] 27)).alloc (.cells #[.slice q0 F d0, .slice q1 L d1] 38) = w1 := ⟨_, rfl⟩
  rw [hw1] at A0 C0 B0 hs0 ⊢
  clear hw1
  have hs1 := Nat.le_antisymm_iff.1 hs0
  clear hs0
  have e0 := A0.b0
  have e1 := A0.b1
  have k0 := C0.b0
  have k1 := C0.b1
  go_wp2_with (go_at_call 14; refine (isBalancedI_any _ _ n N m P lo hi (HV.out.below B0 hhi) (by omega) HN.out _ F f lp hp (HF.out.below B0 hhp) (by omega) hF9 _ K d la ha (HSV.out.below B0 hha) (by omega) hK9).mono ?_; rintro e w2 ⟨rfl, b2⟩)
  go_ret
  exact ⟨rfl, B0.trans (b2.mono (by omega))⟩
set_option maxRecDepth 100000 in
set_option maxHeartbeats 8000000 in
theorem cond2_any (w : World) (v : Value) (n : Nat) (N : Nat → Nod) (m : Nat) (P : Nat → Pip) (lo hi : Nat) (h : NetAt w v n N m P lo hi) (hhi : hi ≤ w.heap.size) (va : Value) (K : Nat) (d : Nat → Int) (la ha : Nat) (hv : Sl w va K d la ha) (vp : Value) (f : Nat → Int) (L : Nat) (l : Nat → Int) (lp hp : Nat) (hpr : PrAt w vp m f L l lp hp) (hhp : hp ≤ w.heap.size) (hL9 : L ≤ 9223372036854775807) (hf : ∀ k, k < m → -30000 ≤ f k ∧ f k ≤ 30000) (hB : netB n N m P = true) (hone : cnt n P m = 1) :
    Calls Tryz.prog 121 #[v, va, vp] w (BPost w (c2B n m P f L l)) := by
  obtain ⟨p0, c0, p1, c1, rfl, hn9, hm9⟩ := h.parts
  obtain ⟨q0, d0, q1, d1, rfl⟩ := hpr.shape
  obtain ⟨sf, sl⟩ := hpr.two
  obtain ⟨pa, ca, rfl⟩ := hv.sh
  have HV := Lib.hid h
  have HPR := Lib.hid hpr
  have HF := Lib.hid sf
  have HL := Lib.hid sl
  have HSV := Lib.hid hv
  have A0 := (boxed w (.slice p0 n c0) (.slice p1 m c1) 27).keep (Below.heap_alloc _ (.cells #[.slice q0 m d0, .slice q1 L d1] 38) _ (by rw [szal]; omega))
  have C0 := boxed (w.alloc (.cells #[.slice p0 n c0, .slice p1 m c1] 27)) (.slice q0 m d0) (.slice q1 L d1) 38
  simp only [szal] at C0
  have B0 := (below_new w (.cells #[.slice p0 n c0, .slice p1 m c1] 27)).trans ((below_new _ (.cells #[.slice q0 m d0, .slice q1 L d1] 38)).mono (by rw [szal]; omega))
  have hs0 : ((w.alloc (.cells #[.slice p0 n c0, .slice p1 m c1] 27)).alloc (.cells #[.slice q0 m d0, .slice q1 L d1] 38)).heap.size = w.heap.size + 1 + 1 := by simp
  clear h hpr sf sl hv
  go_enter Tryz.func121, Tryz.ntmps121
  go_upto_region 1 with (fail)
  obtain ⟨w1, hw1⟩ : ∃ w1, (w.alloc (.cells #[.slice p0 n c0, .slice p1 m c1] 27)).alloc (.cells #[.slice q0 m d0, .slice q1 L d1] 38) = w1 := ⟨_, rfl⟩
  rw [hw1] at A0 C0 B0 hs0 ⊢
  clear hw1
  have hs1 := Nat.le_antisymm_iff.1 hs0
  clear hs0
  have e0 := A0.b0
  have e1 := A0.b1
  have k0 := C0.b0
  have k1 := C0.b1
  have HBN := Lib.hid hB
  have HON := Lib.hid hone
  have HFR := Lib.hid hf
  obtain ⟨hn1, hn24, hm40⟩ := net_sz hB
  clear hB hone hf
  have HBB := Lib.hid B0
  have A1 := A0
  clear B0
  have n0 : w.heap.size < w1.heap.size := by omega
  have n1 : w.heap.size + 1 < w1.heap.size := by omega
  have K0 : Below w1.heap.size w1 w1.drew := below_drw (Below.refl _ _)
  have HAL := Lib.hid (fun (W : World) (hW : Below w1.heap.size w1 W) => areLevels_any W p0 p1 n m c0 c1 _ L l lp hp (HL.out.below (HBB.out.trans (hW.mono (by omega))) hhp) (by have := hW.size; omega) hL9 hn9)
  cases hal : alB n L l
  · have g0 := range2 e0 e1
    have KS : ∀ W : World, Below w1.heap.size w1 W → (Below w1.heap.size w1 W ∧ W.rangeAt w.heap.size 0 [.slice p0 n c0, .slice p1 m c1] ∧ W.cell? ⟨w.heap.size + 1, 1, none⟩ = some (.slice q1 L d1)) := fun W hW => ⟨hW, range_blockN g0 (hW.block _ n0), (hW.cell (p := ⟨w.heap.size + 1, 1, none⟩) n1).trans k1⟩
    have nN : (Tryz.prog.info? 27).map (·.size) = some 2 := by kernel_rfl
    have UN := Tryz.underlying27
    have HR := Lib.hid (show c2B n m P f L l = false by unfold c2B; rw [hal, Bool.false_and])
    refine wp_region_noPanic ?_
    refine wp_region_held_drew (S := fun w' : World => Below w1.heap.size w1 w' ∧ w'.rangeAt w.heap.size 0 [.slice p0 n c0, .slice p1 m c1] ∧ w'.cell? ⟨w.heap.size + 1, 1, none⟩ = some (.slice q1 L d1)) (by kernel_rfl) (KS _ (below_drw (Below.refl _ _))) (fun sH => ?_)
    refine wpAnyH_take (i := 0) (v := .agg ([.slice p0 n c0, .slice p1 m c1]).toArray) nthe0 (by kernel_rfl) (by kernel_rfl) (by kernel_rfl) (fun _ _ _ h => h) (yieldsIf_load_mid (by rfl) _ _ rfl w.heap.size 0 rfl ([.slice p0 n c0, .slice p1 m c1]) _ (fun _ h => h.2.1) UN rfl (by exact nN)) sH ?_
    try simp only [Act.put, List.setIfInBounds_toArray, List.set_cons_zero, List.set_cons_succ]
    refine wpAnyH_take (i := 1) (v := ?_) nthe1 (by kernel_rfl) (by kernel_rfl) (by kernel_rfl) (fun _ _ _ h => h) (Or.inl ⟨by rfl, ?_⟩) sH ?_
    rotate_left
    · intro wS hSw; (try dsimp only at hSw); go_simp; try with_reducible rfl
    try simp only [Act.put, List.setIfInBounds_toArray, List.set_cons_zero, List.set_cons_succ]
    refine wpAnyH_take (i := 2) (v := ?_) nthe2 (by kernel_rfl) (by kernel_rfl) (by kernel_rfl) (fun _ _ _ h => h) (Or.inl ⟨by rfl, ?_⟩) sH ?_
    rotate_left
    · intro wS hSw; (try dsimp only at hSw); go_simp; try with_reducible rfl
    try simp only [Act.put, List.setIfInBounds_toArray, List.set_cons_zero, List.set_cons_succ]
    refine wpAnyH_ready (rs := [3]) (by kernel_rfl) (by simp) (AllReadyH.cons nthe3 (fun KON hKON => ?_) AllReadyH.nil)
    clear sH
    go_simp
    refine (HAL.out _ (below_drw (Below.refl _ _))).mono ?_
    rintro e wX ⟨rfl, hbX⟩
    rw [hal]
    have KX : Below w1.heap.size w1 wX := (below_drw (Below.refl _ _)).trans (hbX.mono (Nat.le_refl _))
    refine hKON.out _ _ (KS _ KX) (fun sH => ?_)
    clear hKON KON
    try simp only [Act.put, List.setIfInBounds_toArray, List.set_cons_zero, List.set_cons_succ]
    refine wpAnyH_take (i := 4) (v := ?_) nthe4 (by kernel_rfl) (by kernel_rfl) (by kernel_rfl) (fun _ _ _ h => h) (Or.inl ⟨by rfl, ?_⟩) sH ?_
    rotate_left
    · intro wS hSw; (try dsimp only at hSw); go_simp; try with_reducible rfl
    try simp only [Act.put, List.setIfInBounds_toArray, List.set_cons_zero, List.set_cons_succ]
    refine wpAnyH_take (i := 5) (v := undef) nthe5 (by kernel_rfl) (by kernel_rfl) (by kernel_rfl) (fun _ _ _ h => h) (Or.inr ⟨by rfl, rfl⟩) sH ?_
    try simp only [Act.put, List.setIfInBounds_toArray, List.set_cons_zero, List.set_cons_succ]
    refine wpAnyH_take (i := 6) (v := undef) nthe6 (by kernel_rfl) (by kernel_rfl) (by kernel_rfl) (fun _ _ _ h => h) (Or.inr ⟨by rfl, rfl⟩) sH ?_
    try simp only [Act.put, List.setIfInBounds_toArray, List.set_cons_zero, List.set_cons_succ]
    refine wpAnyH_take (i := 7) (v := undef) nthe7 (by kernel_rfl) (by kernel_rfl) (by kernel_rfl) (fun _ _ _ h => h) (Or.inr ⟨by rfl, rfl⟩) sH ?_
    try simp only [Act.put, List.setIfInBounds_toArray, List.set_cons_zero, List.set_cons_succ]
    refine wpAnyH_take (i := 8) (v := undef) nthe8 (by kernel_rfl) (by kernel_rfl) (by kernel_rfl) (fun _ _ _ h => h) (Or.inr ⟨by rfl, rfl⟩) sH ?_
    try simp only [Act.put, List.setIfInBounds_toArray, List.set_cons_zero, List.set_cons_succ]
    refine wpAnyH_take (i := 9) (v := undef) nthe9 (by kernel_rfl) (by kernel_rfl) (by kernel_rfl) (fun _ _ _ h => h) (Or.inr ⟨by rfl, rfl⟩) sH ?_
    try simp only [Act.put, List.setIfInBounds_toArray, List.set_cons_zero, List.set_cons_succ]
    refine wpAnyH_take (i := 10) (v := undef) nthe10 (by kernel_rfl) (by kernel_rfl) (by kernel_rfl) (fun _ _ _ h => h) (Or.inr ⟨by rfl, rfl⟩) sH ?_
    try simp only [Act.put, List.setIfInBounds_toArray, List.set_cons_zero, List.set_cons_succ]
    refine wpAnyH_take (i := 11) (v := undef) nthe11 (by kernel_rfl) (by kernel_rfl) (by kernel_rfl) (fun _ _ _ h => h) (Or.inr ⟨by rfl, rfl⟩) sH ?_
    try simp only [Act.put, List.setIfInBounds_toArray, List.set_cons_zero, List.set_cons_succ]
    refine wpAnyH_take (i := 12) (v := undef) nthe12 (by kernel_rfl) (by kernel_rfl) (by kernel_rfl) (fun _ _ _ h => h) (Or.inr ⟨by rfl, rfl⟩) sH ?_
    try simp only [Act.put, List.setIfInBounds_toArray, List.set_cons_zero, List.set_cons_succ]
    refine wpAnyH_take (i := 13) (v := undef) nthe13 (by kernel_rfl) (by kernel_rfl) (by kernel_rfl) (fun _ _ _ h => h) (Or.inr ⟨by rfl, rfl⟩) sH ?_
    try simp only [Act.put, List.setIfInBounds_toArray, List.set_cons_zero, List.set_cons_succ]
    refine wpAnyH_take (i := 14) (v := undef) nthe14 (by kernel_rfl) (by kernel_rfl) (by kernel_rfl) (fun _ _ _ h => h) (Or.inr ⟨by rfl, rfl⟩) sH ?_
    try simp only [Act.put, List.setIfInBounds_toArray, List.set_cons_zero, List.set_cons_succ]
    refine wpAnyH_take (i := 15) (v := undef) nthe15 (by kernel_rfl) (by kernel_rfl) (by kernel_rfl) (fun _ _ _ h => h) (Or.inr ⟨by rfl, rfl⟩) sH ?_
    try simp only [Act.put, List.setIfInBounds_toArray, List.set_cons_zero, List.set_cons_succ]
    refine wpAnyH_take (i := 16) (v := ?_) nthe16 (by kernel_rfl) (by kernel_rfl) (by kernel_rfl) (fun _ _ _ h => h) (Or.inl ⟨by rfl, ?_⟩) sH ?_
    rotate_left
    · intro wS hSw; (try dsimp only at hSw); go_simp; try with_reducible rfl
    try simp only [Act.put, List.setIfInBounds_toArray, List.set_cons_zero, List.set_cons_succ]
    refine wpAnyH_take (i := 17) (v := ?_) nthe17 (by kernel_rfl) (by kernel_rfl) (by kernel_rfl) (fun _ _ _ h => h) (Or.inl ⟨by rfl, ?_⟩) sH ?_
    rotate_left
    · intro wS hSw; (try dsimp only at hSw); go_simp; try with_reducible rfl
    try simp only [Act.put, List.setIfInBounds_toArray, List.set_cons_zero, List.set_cons_succ]
    refine wpAnyH_done (by kernel_rfl) ?_ _
    refine NoPanic.normal ?_
    go_wp2_with fail
    go_ret
    exact ⟨ret_b HR.out.symm, HBB.out.trans (KX.mono (by omega))⟩
  · obtain ⟨hLn, hlr⟩ := alB_iff.1 hal
    subst hLn
    have HLR := Lib.hid hlr
    obtain ⟨_, _, eel, hcl⟩ := (HL.out.below HBB.out hhp).ex
    injection eel with ee1 _ ee3
    subst ee1 ee3
    obtain ⟨bl, ol, rfl, _, hbl, hxl⟩ : ∃ b o, q1 = some ⟨b, o, none⟩ ∧ lp ≤ b ∧ b < hp ∧ ∀ k, k < L → w1.cell? ⟨b, o + k, none⟩ = some (.int .i64 (l k)) := by
      rcases hcl with e | e
      · omega
      · exact e
    have t0 : w1.cell? ⟨bl, ol, none⟩ = some (.int .i64 (l 0)) := hxl 0 (by omega)
    have hLp : 0 < L := by omega
    have hLpi : (0 : Int) < (L : Int) := by omega
    have hl0 := hlr 0 (by omega)
    have n2 : bl < w1.heap.size := by omega
    clear hcl hxl hlr
    have KS : ∀ W : World, Below w1.heap.size w1 W → (W.cell? ⟨w.heap.size, 0, none⟩ = some (.slice p0 L c0) ∧ W.cell? ⟨w.heap.size, 1, none⟩ = some (.slice p1 m c1) ∧ W.cell? ⟨w.heap.size + 1, 0, none⟩ = some (.slice q0 m d0) ∧ W.cell? ⟨w.heap.size + 1, 1, none⟩ = some (.slice (some ⟨bl, ol, none⟩) L d1) ∧ W.cell? ⟨bl, ol, none⟩ = some (.int .i64 (l 0))) := fun W hW => ⟨(hW.cell (p := ⟨w.heap.size, 0, none⟩) n0).trans e0, (hW.cell (p := ⟨w.heap.size, 1, none⟩) n0).trans e1, (hW.cell (p := ⟨w.heap.size + 1, 0, none⟩) n1).trans k0, (hW.cell (p := ⟨w.heap.size + 1, 1, none⟩) n1).trans k1, (hW.cell (p := ⟨bl, ol, none⟩) n2).trans t0⟩
    have HFL := Lib.hid (fun (W : World) (hW : Below w1.heap.size w1 W) => forestLevels_any W _ L N m P lo hi (HV.out.below (HBB.out.trans (hW.mono (by omega))) hhi) (by have := hW.size; omega) HBN.out HON.out _ f lp hp (HF.out.below (HBB.out.trans (hW.mono (by omega))) hhp) (by have := hW.size; omega) HFR.out 0 (by omega) (l 0) hl0.1 hl0.2)
    have HR := Lib.hid (show c2B L m P f L l = smB l (fun j => lvl L P m f ((0 : Nat) : Int) (l 0) (j : Nat)) L by unfold c2B; rw [hal, Bool.true_and])
    have hn9' : L ≤ 9223372036854775807 := hL9
    go_region_held3 (fun W : World => W.cell? ⟨w.heap.size, 0, none⟩ = some (.slice p0 L c0) ∧ W.cell? ⟨w.heap.size, 1, none⟩ = some (.slice p1 m c1) ∧ W.cell? ⟨w.heap.size + 1, 0, none⟩ = some (.slice q0 m d0) ∧ W.cell? ⟨w.heap.size + 1, 1, none⟩ = some (.slice (some ⟨bl, ol, none⟩) L d1) ∧ W.cell? ⟨bl, ol, none⟩ = some (.int .i64 (l 0))) (first | exact ⟨e0, e1, k0, k1, t0⟩ | exact KS _ KZ | exact KS _ KY | exact KS _ KX)
      (first
        | (go_at_call 122; refine (HAL.out _ K0).mono ?_; rintro e wX ⟨rfl, hbX⟩; rw [hal]; have KX := K0.trans (hbX.mono K0.size); clear hbX)
        | (go_at_call 62; refine (HFL.out _ KX).mono ?_; rintro e wY ⟨g, rfl, OY, hgY, hbY⟩; have KY := KX.trans (hbY.mono KX.size); clear hbY)
        | (go_at_call 74; refine (equal64_any _ _ _ L l lp hp (HL.out.below (HBB.out.trans (KY.mono (by omega))) hhp) L (fun j => lvl L P m f ((0 : Nat) : Int) (l 0) (j : Nat)) _ _ OY.sl hL9 hL9).mono ?_; rintro e wZ ⟨rfl, hbZ⟩; rw [show eqLB L l L (fun j => lvl L P m f ((0 : Nat) : Int) (l 0) (j : Nat)) = c2B L m P f L l by rw [HR.out]; unfold eqLB; rw [decide_eq_true rfl, Bool.true_and]]; have KZ := KY.trans (hbZ.mono KY.size); clear hbZ))
    go_wp2_with fail
    go_ret
    exact ⟨rfl, HBB.out.trans (KZ.mono (by omega))⟩
set_option maxRecDepth 100000 in
set_option maxHeartbeats 8000000 in
theorem cond3_any (w : World) (v : Value) (n : Nat) (N : Nat → Nod) (m : Nat) (P : Nat → Pip) (lo hi : Nat) (h : NetAt w v n N m P lo hi) (hhi : hi ≤ w.heap.size) (va : Value) (K : Nat) (d : Nat → Int) (la ha : Nat) (hv : Sl w va K d la ha) (vp : Value) (f : Nat → Int) (L : Nat) (l : Nat → Int) (lp hp : Nat) (hpr : PrAt w vp m f L l lp hp) (hhp : hp ≤ w.heap.size) (hL9 : L ≤ 9223372036854775807) (hf : ∀ k, k < m → -30000 ≤ f k ∧ f k ≤ 30000) (hB : netB n N m P = true) :
    Calls Tryz.prog 123 #[v, va, vp] w (BPost w (kbB n m P f (chN n P m))) := by
  obtain ⟨p0, c0, p1, c1, rfl, hn9, hm9⟩ := h.parts
  obtain ⟨q0, d0, q1, d1, rfl⟩ := hpr.shape
  obtain ⟨sf, sl⟩ := hpr.two
  obtain ⟨pa, ca, rfl⟩ := hv.sh
  have HV := Lib.hid h
  have HPR := Lib.hid hpr
  have HF := Lib.hid sf
  have HL := Lib.hid sl
  have HSV := Lib.hid hv
  have A0 := (boxed w (.slice p0 n c0) (.slice p1 m c1) 27).keep (Below.heap_alloc _ (.cells #[.slice q0 m d0, .slice q1 L d1] 38) _ (by rw [szal]; omega))
  have C0 := boxed (w.alloc (.cells #[.slice p0 n c0, .slice p1 m c1] 27)) (.slice q0 m d0) (.slice q1 L d1) 38
  simp only [szal] at C0
  have B0 := (below_new w (.cells #[.slice p0 n c0, .slice p1 m c1] 27)).trans ((below_new _ (.cells #[.slice q0 m d0, .slice q1 L d1] 38)).mono (by rw [szal]; omega))
  have hs0 : ((w.alloc (.cells #[.slice p0 n c0, .slice p1 m c1] 27)).alloc (.cells #[.slice q0 m d0, .slice q1 L d1] 38)).heap.size = w.heap.size + 1 + 1 := by simp
  clear h hpr sf sl hv
  go_enter Tryz.func123, Tryz.ntmps123
  go_upto_region 1 with (fail)
  obtain ⟨w1, hw1⟩ : ∃ w1, (w.alloc (.cells #[.slice p0 n c0, .slice p1 m c1] 27)).alloc (.cells #[.slice q0 m d0, .slice q1 L d1] 38) = w1 := ⟨_, rfl⟩
  rw [hw1] at A0 C0 B0 hs0 ⊢
  clear hw1
  have hs1 := Nat.le_antisymm_iff.1 hs0
  clear hs0
  have e0 := A0.b0
  have e1 := A0.b1
  have k0 := C0.b0
  have k1 := C0.b1
  obtain ⟨hn1, hn24, hm40⟩ := net_sz hB
  have HBN := Lib.hid hB
  have HFR := Lib.hid hf
  have HKP := Lib.hid (kbB_pad (n := n) (m := m) (P := P) (d := f) (chN n P m))
  clear hB hf
  go_wp2_with (first
    | (go_at_call 94; refine (withFlows_any _ p0 p1 c0 c1 n m _ m f lp hp (HF.out.below B0 hhp) (by omega) hm40).mono ?_; rintro e wX ⟨rfl, hbX⟩; have zX := hbX.size; have BX := B0.trans (hbX.mono (by omega)))
    | (go_at_call 124; refine (keepBounds_any _ p0 p1 c0 c1 n N m P lo hi (HV.out.below BX hhi) (by omega) HBN.out (pad m f) (fun k _ => pad_rng HFR.out k)).mono ?_; rintro e wY ⟨rfl, hbY⟩; rw [HKP.out]))
  go_ret
  exact ⟨rfl, BX.trans (hbY.mono (by omega))⟩
set_option maxRecDepth 100000 in
set_option maxHeartbeats 8000000 in
theorem ckProofI_any (w : World) (v : Value) (n : Nat) (N : Nat → Nod) (m : Nat) (P : Nat → Pip) (lo hi : Nat) (h : NetAt w v n N m P lo hi) (hhi : hi ≤ w.heap.size) (hN : ∀ i, i < n → (N i).s.size ≤ 9223372036854775807) (va : Value) (K : Nat) (d : Nat → Int) (la ha : Nat) (hv : Sl w va K d la ha) (hha : ha ≤ w.heap.size) (hK9 : K ≤ 9223372036854775807) (vp : Value) (F : Nat) (f : Nat → Int) (L : Nat) (l : Nat → Int) (lp hp : Nat) (hpr : PrAt w vp F f L l lp hp) (hhp : hp ≤ w.heap.size) (hF9 : F ≤ 9223372036854775807) (hL9 : L ≤ 9223372036854775807) :
    Calls Tryz.prog 19 #[v, va, vp] w (IIPost w (ckA n N m P K d F f L l) (coC n N m P K d)) := by
  obtain ⟨p0, c0, p1, c1, rfl, hn9, hm9⟩ := h.parts
  obtain ⟨q0, d0, q1, d1, rfl⟩ := hpr.shape
  obtain ⟨sf, sl⟩ := hpr.two
  obtain ⟨pa, ca, rfl⟩ := hv.sh
  have HV := Lib.hid h
  have HPR := Lib.hid hpr
  have HF := Lib.hid sf
  have HL := Lib.hid sl
  have HSV := Lib.hid hv
  have HN := Lib.hid hN
  clear hN
  have A0 := (boxed w (.slice p0 n c0) (.slice p1 m c1) 27).keep (Below.heap_alloc _ (.cells #[.slice q0 F d0, .slice q1 L d1] 38) _ (by rw [szal]; omega))
  have C0 := boxed (w.alloc (.cells #[.slice p0 n c0, .slice p1 m c1] 27)) (.slice q0 F d0) (.slice q1 L d1) 38
  simp only [szal] at C0
  have B0 := (below_new w (.cells #[.slice p0 n c0, .slice p1 m c1] 27)).trans ((below_new _ (.cells #[.slice q0 F d0, .slice q1 L d1] 38)).mono (by rw [szal]; omega))
  have hs0 : ((w.alloc (.cells #[.slice p0 n c0, .slice p1 m c1] 27)).alloc (.cells #[.slice q0 F d0, .slice q1 L d1] 38)).heap.size = w.heap.size + 1 + 1 := by simp
  clear h hpr sf sl hv
  go_enter Tryz.func19, Tryz.ntmps19
  go_upto_region 1 with (fail)
  obtain ⟨w1, hw1⟩ : ∃ w1, (w.alloc (.cells #[.slice p0 n c0, .slice p1 m c1] 27)).alloc (.cells #[.slice q0 F d0, .slice q1 L d1] 38) = w1 := ⟨_, rfl⟩
  rw [hw1] at A0 C0 B0 hs0 ⊢
  clear hw1
  have hs1 := Nat.le_antisymm_iff.1 hs0
  clear hs0
  have e0 := A0.b0
  have e1 := A0.b1
  have k0 := C0.b0
  have k1 := C0.b1
  go_wp2_with fail
  refine (checkConnected_any _ _ n N m P lo hi (HV.out.below B0 hhi) (by omega) HN.out _ K d la ha (HSV.out.below B0 hha) (by omega) hK9).mono ?_
  rintro e w2 ⟨rfl, b2⟩
  have A2 := A0.below b2 (by omega)
  have C2 := C0.below b2 (by omega)
  have B2 := B0.trans (b2.mono (by omega))
  have hs2 := b2.size
  have u2 : w.heap.size + 1 + 1 ≤ w2.heap.size := by omega
  clear A0 C0 B0 b2 hs2 e0 e1 k0 k1
  have e0 := A2.b0
  have e1 := A2.b1
  have k0 := C2.b0
  have k1 := C2.b1
  by_cases hc : coC n N m P K d = 0
  rotate_left 1
  · have hb1 : (coC n N m P K d != 0) = true := by simpa using hc
    have H3 := Lib.hid (show ckA n N m P K d F f L l = 0 by unfold ckA; rw [if_neg hc])
    clear hc
    go_wp2_with fail
    go_ret2
    exact ⟨ret_2 H3.out.symm rfl, B2⟩
  obtain ⟨hsv, hcon⟩ := coC_ok hc
  obtain ⟨hB, hone⟩ := conB_one hcon
  have HBN := Lib.hid hB
  have HON := Lib.hid hone
  have HCO := Lib.hid hc
  rw [hc]
  clear hc hsv hcon hB hone
  go_wp2_with fail
  refine (proofConditions_any _).mono ?_
  rintro e w3 ⟨rfl, b3⟩
  have A3 := A2.below b3 (by omega)
  have C3 := C2.below b3 (by omega)
  have B3 := B2.trans (b3.mono (by omega))
  have hs3 := b3.size
  have u3 : w.heap.size + 1 + 1 ≤ w3.heap.size := by omega
  clear A2 C2 B2 b3 hs3 e0 e1 k0 k1
  have e0 := A3.b0
  have e1 := A3.b1
  have k0 := C3.b0
  have k1 := C3.b1
  have HA := Lib.hid A3
  have HC := Lib.hid C3
  have HB := Lib.hid B3
  clear A3 C3 B3 e0 e1 k0 k1
  go_wp2_with fail
  go_loopw [18] (fun iv wr => ∃ k : Nat, iv = .int .i64 k ∧ k ≤ 3 ∧ (0 < k → ibB n N m P F f K d = true) ∧ (1 < k → c2B n m P f L l = true) ∧ (2 < k → kbB n m P f (chN n P m) = true) ∧ w3.heap.size ≤ wr.heap.size ∧ Below w3.heap.size w3 wr) (fun iv _ => 3 - (intOf iv).toNat)
  case atStart => exact ⟨0, rfl, by omega, fun h => by omega, fun h => by omega, fun h => by omega, Nat.le_refl _, Below.refl _ _⟩
  case round =>
    obtain ⟨k, rfl, hk, hf1, hf2, hf3, hsz, hb⟩ := hrel
    have HBB := Lib.hid hb
    have BW := Lib.hid (HB.out.trans (HBB.out.mono (by omega)))
    clear hb
    rcases (by omega : k = 0 ∨ k = 1 ∨ k = 2 ∨ k = 3) with rfl | rfl | rfl | rfl
    · have b4 := below_new wr (.cells #[.int .i64 1, .func (.func 120) #[] #[]] 92)
      have hs4 : (wr.alloc (.cells #[.int .i64 1, .func (.func 120) #[] #[]] 92)).heap.size = wr.heap.size + 1 := by simp
      have y0 : (wr.alloc (.cells #[.int .i64 1, .func (.func 120) #[] #[]] 92)).cell? ⟨wr.heap.size, 0, none⟩ = some (.int .i64 1) := (Ob.new wr #[.int .i64 1, .func (.func 120) #[] #[]] 92 2 (fun j => if j = 0 then .int .i64 1 else .func (.func 120) #[] #[]) rfl (by intro k hk; rcases (by omega : k = 0 ∨ k = 1) with rfl | rfl <;> rfl)).cell 0 (by omega)
      have y1 : (wr.alloc (.cells #[.int .i64 1, .func (.func 120) #[] #[]] 92)).cell? ⟨wr.heap.size, 1, none⟩ = some (.func (.func 120) #[] #[]) := (Ob.new wr #[.int .i64 1, .func (.func 120) #[] #[]] 92 2 (fun j => if j = 0 then .int .i64 1 else .func (.func 120) #[] #[]) rfl (by intro k hk; rcases (by omega : k = 0 ∨ k = 1) with rfl | rfl <;> rfl)).cell 1 (by omega)
      go_upto_region 7 with (first
        | (refine wpList_indexC rfl _ _ rfl #[.int .i64 1, .func (.func 120) #[] #[], .int .i64 2, .func (.func 121) #[] #[], .int .i64 3, .func (.func 123) #[] #[]] _ _ (.agg #[.int .i64 1, .func (.func 120) #[] #[]]) rfl rfl (by omega) (by omega) rfl ?_))
      obtain ⟨w4, hw4⟩ : ∃ w4, wr.alloc (.cells #[.int .i64 1, .func (.func 120) #[] #[]] 92) = w4 := ⟨_, rfl⟩
      rw [hw4] at b4 hs4 y0 y1 ⊢
      clear hw4
      have B4 := Lib.hid (BW.out.trans (b4.mono (by omega)))
      have HB4 := Lib.hid (HBB.out.trans (b4.mono hsz))
      have e0 := (HA.out.below HB4.out (by omega)).b0
      have e1 := (HA.out.below HB4.out (by omega)).b1
      have k0 := (HC.out.below HB4.out (by omega)).b0
      have k1 := (HC.out.below HB4.out (by omega)).b1
      have hs6 := Nat.le_antisymm_iff.1 hs4
      clear b4 hs4
      cases ht : ibB n N m P F f K d
      · have HR := Lib.hid (show ckA n N m P K d F f L l = 1 from ck_no1 HCO.out ht)
        go_wp2_with (go_at_call 120; refine (cond1_any w4 _ n N m P lo hi (HV.out.below B4.out hhi) (by omega) HN.out _ K d la ha (HSV.out.below B4.out hha) (by omega) hK9 _ F f L l lp hp (HPR.out.below B4.out hhp) (by omega) hF9 hL9).mono ?_; rintro e w5 ⟨rfl, b5⟩; rw [ht]; have y2 := (b5.cell (p := ⟨wr.heap.size, 0, none⟩) (by show wr.heap.size < _; omega)).trans y0; have z5 := b5.size)
        go_ret2
        exact ⟨ret_2 HR.out.symm HCO.out.symm, B4.out.trans (b5.mono (by omega))⟩
      · have HT := Lib.hid ht
        go_wp2_with (go_at_call 120; refine (cond1_any w4 _ n N m P lo hi (HV.out.below B4.out hhi) (by omega) HN.out _ K d la ha (HSV.out.below B4.out hha) (by omega) hK9 _ F f L l lp hp (HPR.out.below B4.out hhp) (by omega) hF9 hL9).mono ?_; rintro e w5 ⟨rfl, b5⟩; rw [ht]; have y2 := (b5.cell (p := ⟨wr.heap.size, 0, none⟩) (by show wr.heap.size < _; omega)).trans y0; have z5 := b5.size)
        go_roundw
        case rel => exact ⟨1, by go_num, by omega, (fun _ => HT.out), (fun h => by omega), (fun h => by omega), by omega, HB4.out.trans (b5.mono (by omega))⟩
        case measure => simp [intOf]
    · have hib := hf1 (by omega)
      obtain ⟨_, hFm, hfl⟩ := flC_ok (ib_fl hib)
      subst hFm
      have HIB := Lib.hid hib
      have HFR := Lib.hid (show ∀ k, k < F → -30000 ≤ f k ∧ f k ≤ 30000 from fun k hk => flQ_iff.1 (flB_iff.1 hfl k hk))
      clear hfl hib
      have b4 := below_new wr (.cells #[.int .i64 2, .func (.func 121) #[] #[]] 92)
      have hs4 : (wr.alloc (.cells #[.int .i64 2, .func (.func 121) #[] #[]] 92)).heap.size = wr.heap.size + 1 := by simp
      have y0 : (wr.alloc (.cells #[.int .i64 2, .func (.func 121) #[] #[]] 92)).cell? ⟨wr.heap.size, 0, none⟩ = some (.int .i64 2) := (Ob.new wr #[.int .i64 2, .func (.func 121) #[] #[]] 92 2 (fun j => if j = 0 then .int .i64 2 else .func (.func 121) #[] #[]) rfl (by intro k hk; rcases (by omega : k = 0 ∨ k = 1) with rfl | rfl <;> rfl)).cell 0 (by omega)
      have y1 : (wr.alloc (.cells #[.int .i64 2, .func (.func 121) #[] #[]] 92)).cell? ⟨wr.heap.size, 1, none⟩ = some (.func (.func 121) #[] #[]) := (Ob.new wr #[.int .i64 2, .func (.func 121) #[] #[]] 92 2 (fun j => if j = 0 then .int .i64 2 else .func (.func 121) #[] #[]) rfl (by intro k hk; rcases (by omega : k = 0 ∨ k = 1) with rfl | rfl <;> rfl)).cell 1 (by omega)
      go_upto_region 7 with (first
        | (refine wpList_indexC rfl _ _ rfl #[.int .i64 1, .func (.func 120) #[] #[], .int .i64 2, .func (.func 121) #[] #[], .int .i64 3, .func (.func 123) #[] #[]] _ _ (.agg #[.int .i64 2, .func (.func 121) #[] #[]]) rfl rfl (by omega) (by omega) rfl ?_))
      obtain ⟨w4, hw4⟩ : ∃ w4, wr.alloc (.cells #[.int .i64 2, .func (.func 121) #[] #[]] 92) = w4 := ⟨_, rfl⟩
      rw [hw4] at b4 hs4 y0 y1 ⊢
      clear hw4
      have B4 := Lib.hid (BW.out.trans (b4.mono (by omega)))
      have HB4 := Lib.hid (HBB.out.trans (b4.mono hsz))
      have e0 := (HA.out.below HB4.out (by omega)).b0
      have e1 := (HA.out.below HB4.out (by omega)).b1
      have k0 := (HC.out.below HB4.out (by omega)).b0
      have k1 := (HC.out.below HB4.out (by omega)).b1
      have hs6 := Nat.le_antisymm_iff.1 hs4
      clear b4 hs4
      cases ht : c2B n F P f L l
      · have HR := Lib.hid (show ckA n N F P K d F f L l = 2 from ck_no2 HCO.out HIB.out ht)
        go_wp2_with (go_at_call 121; refine (cond2_any w4 _ n N F P lo hi (HV.out.below B4.out hhi) (by omega) _ K d la ha (HSV.out.below B4.out hha) _ f L l lp hp (HPR.out.below B4.out hhp) (by omega) hL9 HFR.out HBN.out HON.out).mono ?_; rintro e w5 ⟨rfl, b5⟩; rw [ht]; have y2 := (b5.cell (p := ⟨wr.heap.size, 0, none⟩) (by show wr.heap.size < _; omega)).trans y0; have z5 := b5.size)
        go_ret2
        exact ⟨ret_2 HR.out.symm HCO.out.symm, B4.out.trans (b5.mono (by omega))⟩
      · have HT := Lib.hid ht
        go_wp2_with (go_at_call 121; refine (cond2_any w4 _ n N F P lo hi (HV.out.below B4.out hhi) (by omega) _ K d la ha (HSV.out.below B4.out hha) _ f L l lp hp (HPR.out.below B4.out hhp) (by omega) hL9 HFR.out HBN.out HON.out).mono ?_; rintro e w5 ⟨rfl, b5⟩; rw [ht]; have y2 := (b5.cell (p := ⟨wr.heap.size, 0, none⟩) (by show wr.heap.size < _; omega)).trans y0; have z5 := b5.size)
        go_roundw
        case rel => exact ⟨2, by go_num, by omega, (fun _ => HIB.out), (fun _ => HT.out), (fun h => by omega), by omega, HB4.out.trans (b5.mono (by omega))⟩
        case measure => simp [intOf]
    · have hib := hf1 (by omega)
      obtain ⟨_, hFm, hfl⟩ := flC_ok (ib_fl hib)
      subst hFm
      have HIB := Lib.hid hib
      have HC2 := Lib.hid (hf2 (by omega))
      have HFR := Lib.hid (show ∀ k, k < F → -30000 ≤ f k ∧ f k ≤ 30000 from fun k hk => flQ_iff.1 (flB_iff.1 hfl k hk))
      clear hfl hib
      have b4 := below_new wr (.cells #[.int .i64 3, .func (.func 123) #[] #[]] 92)
      have hs4 : (wr.alloc (.cells #[.int .i64 3, .func (.func 123) #[] #[]] 92)).heap.size = wr.heap.size + 1 := by simp
      have y0 : (wr.alloc (.cells #[.int .i64 3, .func (.func 123) #[] #[]] 92)).cell? ⟨wr.heap.size, 0, none⟩ = some (.int .i64 3) := (Ob.new wr #[.int .i64 3, .func (.func 123) #[] #[]] 92 2 (fun j => if j = 0 then .int .i64 3 else .func (.func 123) #[] #[]) rfl (by intro k hk; rcases (by omega : k = 0 ∨ k = 1) with rfl | rfl <;> rfl)).cell 0 (by omega)
      have y1 : (wr.alloc (.cells #[.int .i64 3, .func (.func 123) #[] #[]] 92)).cell? ⟨wr.heap.size, 1, none⟩ = some (.func (.func 123) #[] #[]) := (Ob.new wr #[.int .i64 3, .func (.func 123) #[] #[]] 92 2 (fun j => if j = 0 then .int .i64 3 else .func (.func 123) #[] #[]) rfl (by intro k hk; rcases (by omega : k = 0 ∨ k = 1) with rfl | rfl <;> rfl)).cell 1 (by omega)
      go_upto_region 7 with (first
        | (refine wpList_indexC rfl _ _ rfl #[.int .i64 1, .func (.func 120) #[] #[], .int .i64 2, .func (.func 121) #[] #[], .int .i64 3, .func (.func 123) #[] #[]] _ _ (.agg #[.int .i64 3, .func (.func 123) #[] #[]]) rfl rfl (by omega) (by omega) rfl ?_))
      obtain ⟨w4, hw4⟩ : ∃ w4, wr.alloc (.cells #[.int .i64 3, .func (.func 123) #[] #[]] 92) = w4 := ⟨_, rfl⟩
      rw [hw4] at b4 hs4 y0 y1 ⊢
      clear hw4
      have B4 := Lib.hid (BW.out.trans (b4.mono (by omega)))
      have HB4 := Lib.hid (HBB.out.trans (b4.mono hsz))
      have e0 := (HA.out.below HB4.out (by omega)).b0
      have e1 := (HA.out.below HB4.out (by omega)).b1
      have k0 := (HC.out.below HB4.out (by omega)).b0
      have k1 := (HC.out.below HB4.out (by omega)).b1
      have hs6 := Nat.le_antisymm_iff.1 hs4
      clear b4 hs4
      cases ht : kbB n F P f (chN n P F)
      · have HR := Lib.hid (show ckA n N F P K d F f L l = 3 from ck_no3 HCO.out HIB.out HC2.out ht)
        go_wp2_with (go_at_call 123; refine (cond3_any w4 _ n N F P lo hi (HV.out.below B4.out hhi) (by omega) _ K d la ha (HSV.out.below B4.out hha) _ f L l lp hp (HPR.out.below B4.out hhp) (by omega) hL9 HFR.out HBN.out).mono ?_; rintro e w5 ⟨rfl, b5⟩; rw [ht]; have y2 := (b5.cell (p := ⟨wr.heap.size, 0, none⟩) (by show wr.heap.size < _; omega)).trans y0; have z5 := b5.size)
        go_ret2
        exact ⟨ret_2 HR.out.symm HCO.out.symm, B4.out.trans (b5.mono (by omega))⟩
      · have HT := Lib.hid ht
        go_wp2_with (go_at_call 123; refine (cond3_any w4 _ n N F P lo hi (HV.out.below B4.out hhi) (by omega) _ K d la ha (HSV.out.below B4.out hha) _ f L l lp hp (HPR.out.below B4.out hhp) (by omega) hL9 HFR.out HBN.out).mono ?_; rintro e w5 ⟨rfl, b5⟩; rw [ht]; have y2 := (b5.cell (p := ⟨wr.heap.size, 0, none⟩) (by show wr.heap.size < _; omega)).trans y0; have z5 := b5.size)
        go_roundw
        case rel => exact ⟨3, by go_num, by omega, (fun _ => HIB.out), (fun _ => HC2.out), (fun _ => HT.out), by omega, HB4.out.trans (b5.mono (by omega))⟩
        case measure => simp [intOf]
    · have h1 := hf1 (by omega)
      have h2 := hf2 (by omega)
      have h3 := hf3 (by omega)
      have HR := Lib.hid (show ckA n N m P K d F f L l = 0 from ck_yes HCO.out h1 h2 h3)
      clear h1 h2 h3 hf1 hf2 hf3
      go_wp2_with fail
      go_ret2
      exact ⟨ret_2 HR.out.symm HCO.out.symm, BW.out⟩
set_option maxRecDepth 100000 in
set_option maxHeartbeats 8000000 in
theorem ckProofS_any (w : World) (v : Value) (n : Nat) (N : Nat → Nod) (m : Nat) (P : Nat → Pip) (lo hi : Nat) (h : NetAt w v n N m P lo hi) (hhi : hi ≤ w.heap.size) (hN : ∀ i, i < n → (N i).s.size ≤ 9223372036854775807) (va : Value) (K : Nat) (d : Nat → Int) (la ha : Nat) (hv : Sl w va K d la ha) (hha : ha ≤ w.heap.size) (hK9 : K ≤ 9223372036854775807) (vp : Value) (F : Nat) (f : Nat → Int) (L : Nat) (l : Nat → Int) (lp hp : Nat) (hpr : PrAt w vp F f L l lp hp) (hhp : hp ≤ w.heap.size) (hF9 : F ≤ 9223372036854775807) (hL9 : L ≤ 9223372036854775807) :
    Calls Tryz.prog 20 #[v, va, vp] w (IIPost w (ckA n N m P K d F f L l) (coC n N m P K d)) := by
  obtain ⟨p0, c0, p1, c1, rfl, hn9, hm9⟩ := h.parts
  obtain ⟨q0, d0, q1, d1, rfl⟩ := hpr.shape
  obtain ⟨sf, sl⟩ := hpr.two
  obtain ⟨pa, ca, rfl⟩ := hv.sh
  have HV := Lib.hid h
  have HPR := Lib.hid hpr
  have HF := Lib.hid sf
  have HL := Lib.hid sl
  have HSV := Lib.hid hv
  have HN := Lib.hid hN
  clear hN
  have A0 := (boxed w (.slice p0 n c0) (.slice p1 m c1) 27).keep (Below.heap_alloc _ (.cells #[.slice q0 F d0, .slice q1 L d1] 38) _ (by rw [szal]; omega))
  have C0 := boxed (w.alloc (.cells #[.slice p0 n c0, .slice p1 m c1] 27)) (.slice q0 F d0) (.slice q1 L d1) 38
  simp only [szal] at C0
  have B0 := (below_new w (.cells #[.slice p0 n c0, .slice p1 m c1] 27)).trans ((below_new _ (.cells #[.slice q0 F d0, .slice q1 L d1] 38)).mono (by rw [szal]; omega))
  have hs0 : ((w.alloc (.cells #[.slice p0 n c0, .slice p1 m c1] 27)).alloc (.cells #[.slice q0 F d0, .slice q1 L d1] 38)).heap.size = w.heap.size + 1 + 1 := by simp
  clear h hpr sf sl hv
  go_enter Tryz.func20, Tryz.ntmps20
  go_upto_region 1 with (fail)
  obtain ⟨w1, hw1⟩ : ∃ w1, (w.alloc (.cells #[.slice p0 n c0, .slice p1 m c1] 27)).alloc (.cells #[.slice q0 F d0, .slice q1 L d1] 38) = w1 := ⟨_, rfl⟩
  rw [hw1] at A0 C0 B0 hs0 ⊢
  clear hw1
  have hs1 := Nat.le_antisymm_iff.1 hs0
  clear hs0
  have e0 := A0.b0
  have e1 := A0.b1
  have k0 := C0.b0
  have k1 := C0.b1
  go_wp2_with fail
  refine (l12Code_any _ _ n N m P lo hi (HV.out.below B0 hhi) (by omega) HN.out _ K d la ha (HSV.out.below B0 hha) (by omega) hK9).mono ?_
  rintro e w2 ⟨rfl, b2⟩
  have A2 := A0.below b2 (by omega)
  have C2 := C0.below b2 (by omega)
  have B2 := B0.trans (b2.mono (by omega))
  have hs2 := b2.size
  have u2 : w.heap.size + 1 + 1 ≤ w2.heap.size := by omega
  clear A0 C0 B0 b2 hs2 e0 e1 k0 k1
  have e0 := A2.b0
  have e1 := A2.b1
  have k0 := C2.b0
  have k1 := C2.b1
  by_cases hc : coC n N m P K d = 0
  rotate_left 1
  · have hb1 : (coC n N m P K d != 0) = true := by simpa using hc
    have H3 := Lib.hid (show ckA n N m P K d F f L l = 0 by unfold ckA; rw [if_neg hc])
    clear hc
    go_wp2_with fail
    go_ret2
    exact ⟨ret_2 H3.out.symm rfl, B2⟩
  obtain ⟨hsv, hcon⟩ := coC_ok hc
  obtain ⟨hB, hone⟩ := conB_one hcon
  obtain ⟨_, hKn, _⟩ := svC_ok hsv
  subst hKn
  obtain ⟨hn1, hn24, hm40⟩ := net_sz hB
  have HIL := Lib.hid (ib_li (F := F) (f := f) hB hsv)
  have HBN := Lib.hid hB
  have HON := Lib.hid hone
  have HCO := Lib.hid hc
  rw [hc]
  clear hc hsv hcon hB hone
  cases hl : liB m F f
  · have HR := Lib.hid (show ckA K N m P K d F f L l = 1 from ck_no1 HCO.out (by rw [HIL.out, hl]; rfl))
    go_wp2_with (go_at_call 52; refine (l05List_any _ p0 p1 K m c0 c1 _ F f lp hp (HF.out.below B2 hhp) (by omega) hF9 hm9).mono ?_; rintro e w3 ⟨rfl, b3⟩; rw [hl])
    go_ret2
    exact ⟨ret_2 HR.out.symm HCO.out.symm, B2.trans (b3.mono (by omega))⟩
  obtain ⟨hFm, hfl⟩ := liB_iff.1 hl
  subst hFm
  have HFR := Lib.hid (show ∀ k, k < F → -30000 ≤ f k ∧ f k ≤ 30000 from fun k hk => flQ_iff.1 (flB_iff.1 hfl k hk))
  have HFLB := Lib.hid hfl
  clear hfl
  cases hs : smB (fun z => dv P f F ((z : Nat) : Int)) d K
  · have HSM := Lib.hid hs
    have HR := Lib.hid (show ckA K N F P K d F f L l = 1 from ck_no1 HCO.out (by rw [HIL.out, hl, hs]; rfl))
    clear hs
    go_wp2_with (first
      | (go_at_call 52; refine (l05List_any w2 p0 p1 K F c0 c1 _ F f lp hp (HF.out.below B2 hhp) (by omega) hF9 hm9).mono ?_; rintro e w3 ⟨rfl, b3⟩; rw [hl]; have B3 := B2.trans (b3.mono (by omega)); have A3 := A2.below b3 (by omega); have C3 := C2.below b3 (by omega); have z3 := b3.size; have x0 := A3.b0; have x1 := A3.b1; have x2 := C3.b0; have x3 := C3.b1)
      | (go_at_call 48; refine (l05Out_any w3 _ K N F P lo hi (HV.out.below B3 hhi) (by omega) HN.out HBN.out _ f lp hp (HF.out.below B3 hhp) (by omega) HFLB.out).mono ?_; rintro e w4 ⟨vo, go, rfl, ho, hgo, hgo2, b4⟩; obtain ⟨po, co, rfl⟩ := ho.sh; have z4 := b4.size; have B4 := B3.trans (b4.mono (by omega)))
      | (go_at_call 68; refine (l06Same_any w4 _ _ K (fun z => dv P f F ((z : Nat) : Int)) go (go + 1) ho d la ha (HSV.out.below B4 hha) hK9).mono ?_; rintro e w5 ⟨rfl, b5⟩; rw [HSM.out]; have z5 := b5.size; have B5 := B4.trans (b5.mono (by omega))))
    go_ret2
    exact ⟨ret_2 HR.out.symm HCO.out.symm, B5⟩
  have HSM := Lib.hid hs
  have HIB := Lib.hid (show ibB K N F P F f K d = true by rw [HIL.out, hl, hs]; rfl)
  clear hs
  go_wp2_with (first
    | (go_at_call 52; refine (l05List_any w2 p0 p1 K F c0 c1 _ F f lp hp (HF.out.below B2 hhp) (by omega) hF9 hm9).mono ?_; rintro e w3 ⟨rfl, b3⟩; rw [hl]; have B3 := B2.trans (b3.mono (by omega)); have A3 := A2.below b3 (by omega); have C3 := C2.below b3 (by omega); have z3 := b3.size; have x0 := A3.b0; have x1 := A3.b1; have x2 := C3.b0; have x3 := C3.b1)
    | (go_at_call 48; refine (l05Out_any w3 _ K N F P lo hi (HV.out.below B3 hhi) (by omega) HN.out HBN.out _ f lp hp (HF.out.below B3 hhp) (by omega) HFLB.out).mono ?_; rintro e w4 ⟨vo, go, rfl, ho, hgo, hgo2, b4⟩; obtain ⟨po, co, rfl⟩ := ho.sh; have z4 := b4.size; have B4 := B3.trans (b4.mono (by omega)))
    | (go_at_call 68; refine (l06Same_any w4 _ _ K (fun z => dv P f F ((z : Nat) : Int)) go (go + 1) ho d la ha (HSV.out.below B4 hha) hK9).mono ?_; rintro e w5 ⟨rfl, b5⟩; rw [HSM.out]; have z5 := b5.size; have B5 := B4.trans (b5.mono (by omega))))
  have A5 := (A3.below b4 (by omega)).below b5 (by omega)
  have C5 := (C3.below b4 (by omega)).below b5 (by omega)
  have HB5 := Lib.hid B5
  have HA5 := Lib.hid A5
  have HC5 := Lib.hid C5
  have u5 : w.heap.size + 1 + 1 ≤ w5.heap.size := by omega
  clear A2 C2 B2 A3 C3 B3 b3 ho b4 B4 b5 B5 x0 x1 x2 x3 e0 e1 k0 k1 hl
  have e0 := HA5.out.b0
  have e1 := HA5.out.b1
  have k0 := HC5.out.b0
  have k1 := HC5.out.b1
  clear A5 C5
  have n0 : w.heap.size < w5.heap.size := by omega
  have n1 : w.heap.size + 1 < w5.heap.size := by omega
  have K0 : Below w5.heap.size w5 w5.drew := below_drw (Below.refl _ _)
  have HAL := Lib.hid (fun (W : World) (hW : Below w5.heap.size w5 W) => l12Levels_any W p0 p1 K F c0 c1 _ L l lp hp (HL.out.below (HB5.out.trans (hW.mono (by omega))) hhp) (by have := hW.size; omega) hL9 hn9)
  cases hal : alB K L l
  · have g0 := range2 e0 e1
    have KS : ∀ W : World, Below w5.heap.size w5 W → (Below w5.heap.size w5 W ∧ W.rangeAt w.heap.size 0 [.slice p0 K c0, .slice p1 F c1] ∧ W.cell? ⟨w.heap.size + 1, 1, none⟩ = some (.slice q1 L d1)) := fun W hW => ⟨hW, range_blockN g0 (hW.block _ n0), (hW.cell (p := ⟨w.heap.size + 1, 1, none⟩) n1).trans k1⟩
    have nN : (Tryz.prog.info? 27).map (·.size) = some 2 := by kernel_rfl
    have UN := Tryz.underlying27
    have HR := Lib.hid (show c2B K F P f L l = false by unfold c2B; rw [hal, Bool.false_and])
    refine wp_region_noPanic ?_
    refine wp_region_held_drew (S := fun w' : World => Below w5.heap.size w5 w' ∧ w'.rangeAt w.heap.size 0 [.slice p0 K c0, .slice p1 F c1] ∧ w'.cell? ⟨w.heap.size + 1, 1, none⟩ = some (.slice q1 L d1)) (by kernel_rfl) (KS _ (below_drw (Below.refl _ _))) (fun sH => ?_)
    refine wpAnyH_take (i := 0) (v := .agg ([.slice p0 K c0, .slice p1 F c1]).toArray) nthe0 (by kernel_rfl) (by kernel_rfl) (by kernel_rfl) (fun _ _ _ h => h) (yieldsIf_load_mid (by rfl) _ _ rfl w.heap.size 0 rfl ([.slice p0 K c0, .slice p1 F c1]) _ (fun _ h => h.2.1) UN rfl (by exact nN)) sH ?_
    try simp only [Act.put, List.setIfInBounds_toArray, List.set_cons_zero, List.set_cons_succ]
    refine wpAnyH_take (i := 1) (v := ?_) nthe1 (by kernel_rfl) (by kernel_rfl) (by kernel_rfl) (fun _ _ _ h => h) (Or.inl ⟨by rfl, ?_⟩) sH ?_
    rotate_left
    · intro wS hSw; (try dsimp only at hSw); go_simp; try with_reducible rfl
    try simp only [Act.put, List.setIfInBounds_toArray, List.set_cons_zero, List.set_cons_succ]
    refine wpAnyH_take (i := 2) (v := ?_) nthe2 (by kernel_rfl) (by kernel_rfl) (by kernel_rfl) (fun _ _ _ h => h) (Or.inl ⟨by rfl, ?_⟩) sH ?_
    rotate_left
    · intro wS hSw; (try dsimp only at hSw); go_simp; try with_reducible rfl
    try simp only [Act.put, List.setIfInBounds_toArray, List.set_cons_zero, List.set_cons_succ]
    refine wpAnyH_ready (rs := [3]) (by kernel_rfl) (by simp) (AllReadyH.cons nthe3 (fun KON hKON => ?_) AllReadyH.nil)
    clear sH
    go_simp
    refine (HAL.out _ (below_drw (Below.refl _ _))).mono ?_
    rintro e wX ⟨rfl, hbX⟩
    rw [hal]
    have KX : Below w5.heap.size w5 wX := (below_drw (Below.refl _ _)).trans (hbX.mono (Nat.le_refl _))
    refine hKON.out _ _ (KS _ KX) (fun sH => ?_)
    clear hKON KON
    try simp only [Act.put, List.setIfInBounds_toArray, List.set_cons_zero, List.set_cons_succ]
    refine wpAnyH_take (i := 4) (v := ?_) nthe4 (by kernel_rfl) (by kernel_rfl) (by kernel_rfl) (fun _ _ _ h => h) (Or.inl ⟨by rfl, ?_⟩) sH ?_
    rotate_left
    · intro wS hSw; (try dsimp only at hSw); go_simp; try with_reducible rfl
    try simp only [Act.put, List.setIfInBounds_toArray, List.set_cons_zero, List.set_cons_succ]
    refine wpAnyH_take (i := 5) (v := ?_) nthe5 (by kernel_rfl) (by kernel_rfl) (by kernel_rfl) (fun _ _ _ h => h) (Or.inl ⟨by rfl, ?_⟩) sH ?_
    rotate_left
    · intro wS hSw; (try dsimp only at hSw); go_simp; try with_reducible rfl
    try simp only [Act.put, List.setIfInBounds_toArray, List.set_cons_zero, List.set_cons_succ]
    refine wpAnyH_take (i := 6) (v := undef) nthe6 (by kernel_rfl) (by kernel_rfl) (by kernel_rfl) (fun _ _ _ h => h) (Or.inr ⟨by rfl, rfl⟩) sH ?_
    try simp only [Act.put, List.setIfInBounds_toArray, List.set_cons_zero, List.set_cons_succ]
    refine wpAnyH_take (i := 7) (v := undef) nthe7 (by kernel_rfl) (by kernel_rfl) (by kernel_rfl) (fun _ _ _ h => h) (Or.inr ⟨by rfl, rfl⟩) sH ?_
    try simp only [Act.put, List.setIfInBounds_toArray, List.set_cons_zero, List.set_cons_succ]
    refine wpAnyH_take (i := 8) (v := undef) nthe8 (by kernel_rfl) (by kernel_rfl) (by kernel_rfl) (fun _ _ _ h => h) (Or.inr ⟨by rfl, rfl⟩) sH ?_
    try simp only [Act.put, List.setIfInBounds_toArray, List.set_cons_zero, List.set_cons_succ]
    refine wpAnyH_take (i := 9) (v := undef) nthe9 (by kernel_rfl) (by kernel_rfl) (by kernel_rfl) (fun _ _ _ h => h) (Or.inr ⟨by rfl, rfl⟩) sH ?_
    try simp only [Act.put, List.setIfInBounds_toArray, List.set_cons_zero, List.set_cons_succ]
    refine wpAnyH_take (i := 10) (v := undef) nthe10 (by kernel_rfl) (by kernel_rfl) (by kernel_rfl) (fun _ _ _ h => h) (Or.inr ⟨by rfl, rfl⟩) sH ?_
    try simp only [Act.put, List.setIfInBounds_toArray, List.set_cons_zero, List.set_cons_succ]
    refine wpAnyH_take (i := 11) (v := undef) nthe11 (by kernel_rfl) (by kernel_rfl) (by kernel_rfl) (fun _ _ _ h => h) (Or.inr ⟨by rfl, rfl⟩) sH ?_
    try simp only [Act.put, List.setIfInBounds_toArray, List.set_cons_zero, List.set_cons_succ]
    refine wpAnyH_take (i := 12) (v := undef) nthe12 (by kernel_rfl) (by kernel_rfl) (by kernel_rfl) (fun _ _ _ h => h) (Or.inr ⟨by rfl, rfl⟩) sH ?_
    try simp only [Act.put, List.setIfInBounds_toArray, List.set_cons_zero, List.set_cons_succ]
    refine wpAnyH_take (i := 13) (v := undef) nthe13 (by kernel_rfl) (by kernel_rfl) (by kernel_rfl) (fun _ _ _ h => h) (Or.inr ⟨by rfl, rfl⟩) sH ?_
    try simp only [Act.put, List.setIfInBounds_toArray, List.set_cons_zero, List.set_cons_succ]
    refine wpAnyH_take (i := 14) (v := undef) nthe14 (by kernel_rfl) (by kernel_rfl) (by kernel_rfl) (fun _ _ _ h => h) (Or.inr ⟨by rfl, rfl⟩) sH ?_
    try simp only [Act.put, List.setIfInBounds_toArray, List.set_cons_zero, List.set_cons_succ]
    refine wpAnyH_take (i := 15) (v := undef) nthe15 (by kernel_rfl) (by kernel_rfl) (by kernel_rfl) (fun _ _ _ h => h) (Or.inr ⟨by rfl, rfl⟩) sH ?_
    try simp only [Act.put, List.setIfInBounds_toArray, List.set_cons_zero, List.set_cons_succ]
    refine wpAnyH_take (i := 16) (v := undef) nthe16 (by kernel_rfl) (by kernel_rfl) (by kernel_rfl) (fun _ _ _ h => h) (Or.inr ⟨by rfl, rfl⟩) sH ?_
    try simp only [Act.put, List.setIfInBounds_toArray, List.set_cons_zero, List.set_cons_succ]
    refine wpAnyH_take (i := 17) (v := undef) nthe17 (by kernel_rfl) (by kernel_rfl) (by kernel_rfl) (fun _ _ _ h => h) (Or.inr ⟨by rfl, rfl⟩) sH ?_
    try simp only [Act.put, List.setIfInBounds_toArray, List.set_cons_zero, List.set_cons_succ]
    refine wpAnyH_take (i := 18) (v := ?_) nthe18 (by kernel_rfl) (by kernel_rfl) (by kernel_rfl) (fun _ _ _ h => h) (Or.inl ⟨by rfl, ?_⟩) sH ?_
    rotate_left
    · intro wS hSw; (try dsimp only at hSw); go_simp; try with_reducible rfl
    try simp only [Act.put, List.setIfInBounds_toArray, List.set_cons_zero, List.set_cons_succ]
    refine wpAnyH_take (i := 19) (v := ?_) nthe19 (by kernel_rfl) (by kernel_rfl) (by kernel_rfl) (fun _ _ _ h => h) (Or.inl ⟨by rfl, ?_⟩) sH ?_
    rotate_left
    · intro wS hSw; (try dsimp only at hSw); go_simp; try with_reducible rfl
    try simp only [Act.put, List.setIfInBounds_toArray, List.set_cons_zero, List.set_cons_succ]
    refine wpAnyH_done (by kernel_rfl) ?_ _
    refine NoPanic.normal ?_
    have HQ := Lib.hid (show ckA K N F P K d F f L l = 2 from ck_no2 HCO.out HIB.out (by first | exact HR.out | exact h2))
    go_wp2_with fail
    go_ret2
    exact ⟨ret_2 HQ.out.symm HCO.out.symm, HB5.out.trans (KX.mono (by omega))⟩
  · obtain ⟨hLn, hlr⟩ := alB_iff.1 hal
    subst hLn
    have HLR := Lib.hid hlr
    obtain ⟨_, _, eel, hcl⟩ := (HL.out.below HB5.out hhp).ex
    injection eel with ee1 _ ee3
    subst ee1 ee3
    obtain ⟨bl, ol, rfl, _, hbl, hxl⟩ : ∃ b o, q1 = some ⟨b, o, none⟩ ∧ lp ≤ b ∧ b < hp ∧ ∀ k, k < L → w5.cell? ⟨b, o + k, none⟩ = some (.int .i64 (l k)) := by
      rcases hcl with e | e
      · omega
      · exact e
    have t0 : w5.cell? ⟨bl, ol, none⟩ = some (.int .i64 (l 0)) := hxl 0 (by omega)
    have hLp : 0 < L := by omega
    have hLpi : (0 : Int) < (L : Int) := by omega
    have hl0 := hlr 0 (by omega)
    have n2 : bl < w5.heap.size := by omega
    clear hcl hxl hlr
    have KS : ∀ W : World, Below w5.heap.size w5 W → (W.cell? ⟨w.heap.size, 0, none⟩ = some (.slice p0 L c0) ∧ W.cell? ⟨w.heap.size, 1, none⟩ = some (.slice p1 F c1) ∧ W.cell? ⟨w.heap.size + 1, 0, none⟩ = some (.slice q0 F d0) ∧ W.cell? ⟨w.heap.size + 1, 1, none⟩ = some (.slice (some ⟨bl, ol, none⟩) L d1) ∧ W.cell? ⟨bl, ol, none⟩ = some (.int .i64 (l 0))) := fun W hW => ⟨(hW.cell (p := ⟨w.heap.size, 0, none⟩) n0).trans e0, (hW.cell (p := ⟨w.heap.size, 1, none⟩) n0).trans e1, (hW.cell (p := ⟨w.heap.size + 1, 0, none⟩) n1).trans k0, (hW.cell (p := ⟨w.heap.size + 1, 1, none⟩) n1).trans k1, (hW.cell (p := ⟨bl, ol, none⟩) n2).trans t0⟩
    have HFL := Lib.hid (fun (W : World) (hW : Below w5.heap.size w5 W) => l07Levels_any W _ L N F P lo hi (HV.out.below (HB5.out.trans (hW.mono (by omega))) hhi) (by have := hW.size; omega) HN.out HBN.out HON.out _ f lp hp (HF.out.below (HB5.out.trans (hW.mono (by omega))) hhp) (by have := hW.size; omega) HFR.out 0 (by omega) (l 0) hl0.1 hl0.2)
    have HR := Lib.hid (show c2B L F P f L l = smB l (fun j => lvl L P F f ((0 : Nat) : Int) (l 0) (j : Nat)) L by unfold c2B; rw [hal, Bool.true_and])
    have hn9' : L ≤ 9223372036854775807 := hL9
    cases h2 : c2B L F P f L l
    · go_region_held3 (fun W : World => W.cell? ⟨w.heap.size, 0, none⟩ = some (.slice p0 L c0) ∧ W.cell? ⟨w.heap.size, 1, none⟩ = some (.slice p1 F c1) ∧ W.cell? ⟨w.heap.size + 1, 0, none⟩ = some (.slice q0 F d0) ∧ W.cell? ⟨w.heap.size + 1, 1, none⟩ = some (.slice (some ⟨bl, ol, none⟩) L d1) ∧ W.cell? ⟨bl, ol, none⟩ = some (.int .i64 (l 0))) (first | exact ⟨e0, e1, k0, k1, t0⟩ | exact KS _ KZ | exact KS _ KY | exact KS _ KX)
        (first
          | (go_at_call 69; refine (HAL.out _ K0).mono ?_; rintro e wX ⟨rfl, hbX⟩; rw [hal]; have KX := K0.trans (hbX.mono K0.size); clear hbX)
          | (go_at_call 65; refine (HFL.out _ KX).mono ?_; rintro e wY ⟨v9, g, rfl, OY, hgY, hbY⟩; obtain ⟨cg, rfl⟩ := OY.shape; have KY := KX.trans (hbY.mono KX.size); clear hbY)
          | (go_at_call 68; refine (sameL_any _ _ _ L (fun j => lvl L P F f ((0 : Nat) : Int) (l 0) (j : Nat)) _ _ OY.sl L l lp hp (HL.out.below (HB5.out.trans (KY.mono (by omega))) hhp) hL9 hL9).mono ?_; rintro e wZ ⟨rfl, hbZ⟩; rw [show eqLB L (fun j => lvl L P F f ((0 : Nat) : Int) (l 0) (j : Nat)) L l = c2B L F P f L l by rw [HR.out, smB_comm]; unfold eqLB; rw [decide_eq_true rfl, Bool.true_and]]; rw [h2]; have KZ := KY.trans (hbZ.mono KY.size); clear hbZ))
      have HQ := Lib.hid (show ckA L N F P L d F f L l = 2 from ck_no2 HCO.out HIB.out (by first | exact HR.out | exact h2))
      go_wp2_with fail
      go_ret2
      exact ⟨ret_2 HQ.out.symm HCO.out.symm, HB5.out.trans (KZ.mono (by omega))⟩
    · go_region_held3 (fun W : World => W.cell? ⟨w.heap.size, 0, none⟩ = some (.slice p0 L c0) ∧ W.cell? ⟨w.heap.size, 1, none⟩ = some (.slice p1 F c1) ∧ W.cell? ⟨w.heap.size + 1, 0, none⟩ = some (.slice q0 F d0) ∧ W.cell? ⟨w.heap.size + 1, 1, none⟩ = some (.slice (some ⟨bl, ol, none⟩) L d1) ∧ W.cell? ⟨bl, ol, none⟩ = some (.int .i64 (l 0))) (first | exact ⟨e0, e1, k0, k1, t0⟩ | exact KS _ KZ | exact KS _ KY | exact KS _ KX)
        (first
          | (go_at_call 69; refine (HAL.out _ K0).mono ?_; rintro e wX ⟨rfl, hbX⟩; rw [hal]; have KX := K0.trans (hbX.mono K0.size); clear hbX)
          | (go_at_call 65; refine (HFL.out _ KX).mono ?_; rintro e wY ⟨v9, g, rfl, OY, hgY, hbY⟩; obtain ⟨cg, rfl⟩ := OY.shape; have KY := KX.trans (hbY.mono KX.size); clear hbY)
          | (go_at_call 68; refine (sameL_any _ _ _ L (fun j => lvl L P F f ((0 : Nat) : Int) (l 0) (j : Nat)) _ _ OY.sl L l lp hp (HL.out.below (HB5.out.trans (KY.mono (by omega))) hhp) hL9 hL9).mono ?_; rintro e wZ ⟨rfl, hbZ⟩; rw [show eqLB L (fun j => lvl L P F f ((0 : Nat) : Int) (l 0) (j : Nat)) L l = c2B L F P f L l by rw [HR.out, smB_comm]; unfold eqLB; rw [decide_eq_true rfl, Bool.true_and]]; rw [h2]; have KZ := KY.trans (hbZ.mono KY.size); clear hbZ))
      have H2T := Lib.hid h2
      have HB6 := Lib.hid (HB5.out.trans (KZ.mono (by omega)))
      have z6 := KZ.size
      obtain ⟨f0, f1, g0, g1, _⟩ := KS _ KZ
      clear KS KX KY e0 e1 k0 k1 t0
      cases h3 : kbB L F P f (chN L P F)
      all_goals
        go_wp2_with (go_at_call 70; refine (l12Small_any wZ _ L N F P lo hi (HV.out.below HB6.out hhi) (by omega) HN.out HBN.out _ f lp hp (HF.out.below HB6.out hhp) (by omega) HFR.out).mono ?_; rintro e w7 ⟨rfl, b7⟩; rw [h3])
        go_ret2
        exact ⟨ret_2 (by first | exact (ck_no3 HCO.out HIB.out H2T.out h3).symm | exact (ck_yes HCO.out HIB.out H2T.out h3).symm) HCO.out.symm, HB6.out.trans (b7.mono (by omega))⟩

theorem agreeCheckProof (n : Nat) (N : Nat → Nod) (m : Nat) (P : Nat → Pip) (K : Nat) (d : Nat → Int) (F : Nat) (f : Nat → Int) (L : Nat) (l : Nat → Int) (hN : ∀ i, i < n → (N i).s.size ≤ 9223372036854775807) (_hn : n ≤ 2000000) (_hm : m ≤ 2000000) (hK : K ≤ 2000000) (hF : F ≤ 2000000) (hL : L ≤ 2000000) :
    ∃ ra rc, (∀ w v va vp, NetAt w v n N m P 0 w.heap.size → Sl w va K d 0 w.heap.size → PrAt w vp F f L l 0 w.heap.size → Calls Tryz.prog 19 #[v, va, vp] w (IIPost w ra rc)) ∧ (∀ w v va vp, NetAt w v n N m P 0 w.heap.size → Sl w va K d 0 w.heap.size → PrAt w vp F f L l 0 w.heap.size → Calls Tryz.prog 20 #[v, va, vp] w (IIPost w ra rc)) :=
  ⟨ckA n N m P K d F f L l, coC n N m P K d, fun w v va vp h hv hp => ckProofI_any w v n N m P 0 _ h (Nat.le_refl _) hN va K d 0 _ hv (Nat.le_refl _) (by omega) vp F f L l 0 _ hp (Nat.le_refl _) (by omega) (by omega), fun w v va vp h hv hp => ckProofS_any w v n N m P 0 _ h (Nat.le_refl _) hN va K d 0 _ hv (Nat.le_refl _) (by omega) vp F f L l 0 _ hp (Nat.le_refl _) (by omega) (by omega)⟩
end Go.Proofs.YtdbgcbkmcbgdiaaGreat.mem

namespace Go.Proofs.YtdbgcbkmcbgdiaaGreat.fnExactCheckProof
open Go.ChangeShapes Go.WideShapes Go.ChangeAt Go.RowKit Go.Proofs.YtdbgcbkmcbgdiaaGreat.mem
set_option linter.unusedVariables false

theorem own : ownKnob Tryz.prog.godebug = none := by kernel_rfl
theorem laidOut : laidOutB Tryz.prog = true := by kernel_rfl

set_option maxRecDepth 100000 in
set_option maxHeartbeats 20000000 in
theorem walk (a0 : Value) (a1 : Value) (a2 : Value) (w : World) (hc0 : NetArg w a0) (hc1 : IntsArg w a1) (hc2 : PrArg w a2) :
    Calls Tryz.prog 8 #[a0, a1, a2] w fun e w' => e = .returned (.bool true) ∧ Below w.heap.size w w' := by
  obtain ⟨n0, N0, m0, P0, V0, hN0⟩ := hc0
  obtain ⟨p0, c0, q0, d0, rfl⟩ := V0.shape
  have HN0 := Lib.hid hN0
  clear hN0
  have HV0 := Lib.hid V0
  clear V0
  obtain ⟨K1, D1, hK1, hS1⟩ := hc1
  have hsh1 : ∃ p cap, a1 = .slice p K1 cap := by
    obtain ⟨p, cap, e, _⟩ := hS1.ex
    exact ⟨p, cap, e⟩
  obtain ⟨pp1, cc1, rfl⟩ := hsh1
  have HV1 := Lib.hid hS1
  clear hS1
  obtain ⟨F2, f2, L2, l2, V2, hF2, hL2⟩ := hc2
  obtain ⟨p2, c2, q2, d2, rfl⟩ := V2.shape
  have HV2 := Lib.hid V2
  clear V2
  by_cases hbig1 : (1048576 : Int) < K1
  · go_enter Tryz.func8, Tryz.ntmps8
    go_wp2_with fail
    go_ret
    exact ⟨rfl, bel2 _ _ _⟩
  have hKs1 : K1 ≤ 2000000 := by omega
  have A01 := (boxed w (.slice p0 n0 c0) (.slice q0 m0 d0) 52).keep (Below.heap_alloc _ (.cells #[.slice p2 F2 c2, .slice q2 L2 d2] 62) _ (by rw [szal]; omega))
  have A21 := boxed (w.alloc (Obj.cells #[.slice p0 n0 c0, .slice q0 m0 d0] 52)) (.slice p2 F2 c2) (.slice q2 L2 d2) 62
  simp only [szal] at A21
  have C1 : Below w.heap.size w _ := bel2 w (.cells #[.slice p0 n0 c0, .slice q0 m0 d0] 52) (.cells #[.slice p2 F2 c2, .slice q2 L2 d2] 62)
  have hs1 := C1.size
  go_enter Tryz.func8, Tryz.ntmps8
  go_wp2_with fail
  generalize hW1 : ((w.alloc (Obj.cells #[.slice p0 n0 c0, .slice q0 m0 d0] 52)).alloc (Obj.cells #[.slice p2 F2 c2, .slice q2 L2 d2] 62)) = w1 at *
  clear hW1
  have lA0 := A01.lt
  have lA2 := A21.lt
  refine (szNetwork_any _ _ n0 N0 m0 P0 0 w.heap.size 1048576 (HV0.out.below C1 (Nat.le_refl _)) (by omega) (by omega) (by omega) HN0.out).mono ?_
  rintro e w2 ⟨r0, rfl, hr0, bb⟩
  have hs2 := bb.size
  have C2 := belowNext C1 bb
  have A0_2 := A01.next bb
  have A2_2 := A21.next bb
  clear bb C1 A01 A21
  rcases hr0 with rfl | ⟨hr00, hr01, hr02⟩
  · go_wp2_with fail
    go_ret
    exact ⟨rfl, C2⟩
  have qA00 := A0_2.b0
  have qA01 := A0_2.b1
  have qA02 := A0_2.lt
  have qA20 := A2_2.b0
  have qA21 := A2_2.b1
  have qA22 := A2_2.lt
  go_wp2_with fail
  refine (szProof_any _ _ F2 f2 L2 l2 0 w.heap.size r0 (HV2.out.below C2 (Nat.le_refl _)) hF2 hL2 hr00 (by omega)).mono ?_
  rintro e w3 ⟨r2, rfl, hr2, bb⟩
  have hs3 := bb.size
  have C3 := belowNext C2 bb
  have A0_3 := A0_2.next bb
  have A2_3 := A2_2.next bb
  clear qA00 qA01 qA02 qA20 qA21 qA22
  clear bb C2 A0_2 A2_2
  rcases hr2 with rfl | ⟨hr20, hr21, hr22⟩
  · go_wp2_with fail
    go_ret
    exact ⟨rfl, C3⟩
  have hn0b : n0 ≤ 2000000 := by omega
  have hm0b : m0 ≤ 2000000 := by omega
  have hF2b : F2 ≤ 2000000 := by omega
  have hL2b : L2 ≤ 2000000 := by omega
  clear hr01 hr02 hr21 hr22
  obtain ⟨ra, rc, agi, ags⟩ := agreeCheckProof n0 N0 m0 P0 K1 D1 F2 f2 L2 l2 HN0.out hn0b hm0b hKs1 hF2b hL2b
  have GI := Lib.hid agi
  have GS := Lib.hid ags
  clear agi ags
  have hb1 : (ra != ra) = false := by simp
  have hb2 : (rc != rc) = false := by simp
  have qA00 := A0_3.b0
  have qA01 := A0_3.b1
  have qA02 := A0_3.lt
  have qA20 := A2_3.b0
  have qA21 := A2_3.b1
  have qA22 := A2_3.lt
  go_wp2_with fail
  have KS : ∀ W : World, Below w3.heap.size w3 W → (W.cell? ⟨w.heap.size, 0, none⟩ = some (.slice p0 n0 c0) ∧ W.cell? ⟨w.heap.size, 1, none⟩ = some (.slice q0 m0 d0) ∧ W.cell? ⟨w.heap.size + 1, 0, none⟩ = some (.slice p2 F2 c2) ∧ W.cell? ⟨w.heap.size + 1, 1, none⟩ = some (.slice q2 L2 d2)) := fun W hW => ⟨(hW.cell (p := ⟨w.heap.size, 0, none⟩) qA02).trans qA00, (hW.cell (p := ⟨w.heap.size, 1, none⟩) qA02).trans qA01, (hW.cell (p := ⟨w.heap.size + 1, 0, none⟩) qA22).trans qA20, (hW.cell (p := ⟨w.heap.size + 1, 1, none⟩) qA22).trans qA21⟩
  have K0 : Below w3.heap.size w3 w3.drew := below_drw (Below.refl _ _)
  have KC := Lib.hid C3
  go_region_held3 (fun W : World => W.cell? ⟨w.heap.size, 0, none⟩ = some (.slice p0 n0 c0) ∧ W.cell? ⟨w.heap.size, 1, none⟩ = some (.slice q0 m0 d0) ∧ W.cell? ⟨w.heap.size + 1, 0, none⟩ = some (.slice p2 F2 c2) ∧ W.cell? ⟨w.heap.size + 1, 1, none⟩ = some (.slice q2 L2 d2)) (first | exact ⟨qA00, qA01, qA20, qA21⟩ | exact KS _ KX | exact KS _ KT2 | exact KS _ KT1 | exact KS _ KT0)
    (first
      | (go_at_call 26; refine (toNetwork_any _ _ n0 N0 m0 P0 0 w.heap.size (HV0.out.below (KC.out.trans (K0.mono (by omega))) (Nat.le_refl _)) hn0b hm0b (by have := K0.size; omega)).mono ?_; rintro e wt0 ⟨x0', g01, g02, rfl, T0, _, _, hb⟩; have KT0 := K0.trans (hb.mono K0.size); have hsz0 := hb.size; clear hb)
      | (go_at_call 27; refine (copy_any _ _ K1 D1 0 w.heap.size (HV1.out.below (KC.out.trans (KT0.mono (by omega))) (Nat.le_refl _)) hKs1 (by have := KT0.size; omega)).mono ?_; rintro e wt1 ⟨rfl, T1, hb, zz1⟩; have T0_1 := T0.next hb; have KT1 := KT0.trans (hb.mono KT0.size); have hsz1 := hb.size; clear hb)
      | (go_at_call 37; refine (toProof_any _ _ F2 f2 L2 l2 0 w.heap.size (HV2.out.below (KC.out.trans (KT1.mono (by omega))) (Nat.le_refl _)) hF2b hL2b (by have := KT1.size; omega)).mono ?_; rintro e wt2 ⟨z21, z22, z23, z24, rfl, T2, hb⟩; have T0_2 := T0_1.next hb; have T1_2 := T1.next hb (by omega); have KT2 := KT1.trans (hb.mono KT1.size); have hsz2 := hb.size; clear hb)
      | (go_at_call 20; refine (GS.out _ _ _ _ T0_2.net (T1_2.all (by omega)) T2).mono ?_; rintro e wS ⟨rfl, hb⟩; have KX := KT2.trans (hb.mono KT2.size); clear hb))
  obtain ⟨w4, hwb⟩ : ∃ w', w' = wS := ⟨_, rfl⟩
  subst hwb
  have bb := KX
  clear KS K0 KX KT0 KT1 KT2 T0_2 T1_2 T2 T0 T1
  have hs4 := bb.size
  have C4 := belowNext C3 bb
  have A0_4 := A0_3.next bb
  have A2_4 := A2_3.next bb
  clear qA00 qA01 qA02 qA20 qA21 qA22
  clear bb C3 A0_3 A2_3
  have qA00 := A0_4.b0
  have qA01 := A0_4.b1
  have qA02 := A0_4.lt
  have qA20 := A2_4.b0
  have qA21 := A2_4.b1
  have qA22 := A2_4.lt
  go_wp2_with fail
  refine (toNetwork_any _ _ n0 N0 m0 P0 0 w.heap.size (HV0.out.below C4 (Nat.le_refl _)) hn0b hm0b (by omega)).mono ?_
  rintro e w5 ⟨xx0, g01, g02, rfl, ox0, _, _, bb⟩
  obtain ⟨sx01, sx02, sx03, sx04, rfl⟩ := ox0.shape
  have hs5 := bb.size
  have C5 := belowNext C4 bb
  have A0_5 := A0_4.next bb
  have A2_5 := A2_4.next bb
  clear qA00 qA01 qA02 qA20 qA21 qA22
  clear bb C4 A0_4 A2_4
  have qA00 := A0_5.b0
  have qA01 := A0_5.b1
  have qA02 := A0_5.lt
  have qA20 := A2_5.b0
  have qA21 := A2_5.b1
  have qA22 := A2_5.lt
  go_wp2_with fail
  have bb := below_new w5 (.cells #[.slice sx01 n0 sx02, .slice sx03 m0 sx04] 27)
  have B_x0 := boxed w5 (.slice sx01 n0 sx02) (.slice sx03 m0 sx04) 27
  have hs6 := bb.size
  have C6 := belowNext C5 bb
  have A0_6 := A0_5.next bb
  have A2_6 := A2_5.next bb
  have x0_6 := ox0.next bb
  clear qA00 qA01 qA02 qA20 qA21 qA22
  clear bb C5 A0_5 A2_5 ox0
  generalize hW6 : w5.alloc (Obj.cells #[.slice sx01 n0 sx02, .slice sx03 m0 sx04] 27) = w6 at *
  clear hW6
  have Bx0_6 := B_x0
  clear B_x0
  have lBx0 := Bx0_6.lt
  refine (copy_any _ _ K1 D1 0 w.heap.size (HV1.out.below C6 (Nat.le_refl _)) hKs1 (by omega)).mono ?_
  rintro e w7 ⟨rfl, ox1, bb, zz⟩
  have hs7 := bb.size
  have C7 := belowNext C6 bb
  have A0_7 := A0_6.next bb
  have A2_7 := A2_6.next bb
  have x0_7 := x0_6.next bb
  have Bx0_7 := Bx0_6.next bb
  clear bb C6 A0_6 A2_6 x0_6 Bx0_6
  have qA00 := A0_7.b0
  have qA01 := A0_7.b1
  have qA02 := A0_7.lt
  have qA20 := A2_7.b0
  have qA21 := A2_7.b1
  have qA22 := A2_7.lt
  have qBx00 := Bx0_7.b0
  have qBx01 := Bx0_7.b1
  have qBx02 := Bx0_7.lt
  go_wp2_with fail
  refine (toProof_any _ _ F2 f2 L2 l2 0 w.heap.size (HV2.out.below C7 (Nat.le_refl _)) hF2b hL2b (by omega)).mono ?_
  rintro e w8 ⟨sx21, sx22, sx23, sx24, rfl, ox2, bb⟩
  have hs8 := bb.size
  have C8 := belowNext C7 bb
  have A0_8 := A0_7.next bb
  have A2_8 := A2_7.next bb
  have x0_8 := x0_7.next bb
  have Bx0_8 := Bx0_7.next bb
  have x1_8 := ox1.next bb (by omega)
  clear qA00 qA01 qA02 qA20 qA21 qA22 qBx00 qBx01 qBx02
  clear bb C7 A0_7 A2_7 x0_7 Bx0_7 ox1
  have qA00 := A0_8.b0
  have qA01 := A0_8.b1
  have qA02 := A0_8.lt
  have qA20 := A2_8.b0
  have qA21 := A2_8.b1
  have qA22 := A2_8.lt
  have qBx00 := Bx0_8.b0
  have qBx01 := Bx0_8.b1
  have qBx02 := Bx0_8.lt
  go_wp2_with fail
  have bb := below_new w8 (.cells #[.slice sx21 F2 sx22, .slice sx23 L2 sx24] 38)
  have B_x2 := boxed w8 (.slice sx21 F2 sx22) (.slice sx23 L2 sx24) 38
  have hs9 := bb.size
  have C9 := belowNext C8 bb
  have A0_9 := A0_8.next bb
  have A2_9 := A2_8.next bb
  have x0_9 := x0_8.next bb
  have Bx0_9 := Bx0_8.next bb
  have x1_9 := x1_8.next bb (by omega)
  have x2_9 := ox2.next bb
  clear qA00 qA01 qA02 qA20 qA21 qA22 qBx00 qBx01 qBx02
  clear bb C8 A0_8 A2_8 x0_8 Bx0_8 x1_8 ox2
  generalize hW9 : w8.alloc (Obj.cells #[.slice sx21 F2 sx22, .slice sx23 L2 sx24] 38) = w9 at *
  clear hW9
  have Bx2_9 := B_x2
  clear B_x2
  have lBx2 := Bx2_9.lt
  refine (GI.out _ _ _ _ x0_9.net (x1_9.all (by omega)) x2_9).mono ?_
  rintro e w10 ⟨rfl, bb⟩
  have hs10 := bb.size
  have C10 := belowNext C9 bb
  have A0_10 := A0_9.next bb
  have A2_10 := A2_9.next bb
  have x0_10 := x0_9.next bb
  have Bx0_10 := Bx0_9.next bb
  have x1_10 := x1_9.next bb (by omega)
  have x2_10 := x2_9.next bb
  have Bx2_10 := Bx2_9.next bb
  clear bb C9 A0_9 A2_9 x0_9 Bx0_9 x1_9 x2_9 Bx2_9
  have qA00 := A0_10.b0
  have qA01 := A0_10.b1
  have qA02 := A0_10.lt
  have qA20 := A2_10.b0
  have qA21 := A2_10.b1
  have qA22 := A2_10.lt
  have qBx00 := Bx0_10.b0
  have qBx01 := Bx0_10.b1
  have qBx02 := Bx0_10.lt
  have qBx20 := Bx2_10.b0
  have qBx21 := Bx2_10.b1
  have qBx22 := Bx2_10.lt
  go_wp2_with fail
  have KS : ∀ W : World, Below w10.heap.size w10 W → (W.cell? ⟨w.heap.size, 0, none⟩ = some (.slice p0 n0 c0) ∧ W.cell? ⟨w.heap.size, 1, none⟩ = some (.slice q0 m0 d0) ∧ W.cell? ⟨w5.heap.size, 0, none⟩ = some (.slice sx01 n0 sx02) ∧ W.cell? ⟨w5.heap.size, 1, none⟩ = some (.slice sx03 m0 sx04)) := fun W hW => ⟨(hW.cell (p := ⟨w.heap.size, 0, none⟩) qA02).trans qA00, (hW.cell (p := ⟨w.heap.size, 1, none⟩) qA02).trans qA01, (hW.cell (p := ⟨w5.heap.size, 0, none⟩) qBx02).trans qBx00, (hW.cell (p := ⟨w5.heap.size, 1, none⟩) qBx02).trans qBx01⟩
  have K0 : Below w10.heap.size w10 w10.drew := below_drw (Below.refl _ _)
  have KC := Lib.hid C10
  have XF := Lib.hid x0_10
  go_region_held3 (fun W : World => W.cell? ⟨w.heap.size, 0, none⟩ = some (.slice p0 n0 c0) ∧ W.cell? ⟨w.heap.size, 1, none⟩ = some (.slice q0 m0 d0) ∧ W.cell? ⟨w5.heap.size, 0, none⟩ = some (.slice sx01 n0 sx02) ∧ W.cell? ⟨w5.heap.size, 1, none⟩ = some (.slice sx03 m0 sx04)) (first | exact ⟨qA00, qA01, qBx00, qBx01⟩ | exact KS _ KX | exact KS _ K1)
    (first
      | (go_at_call 26; refine (toNetwork_any _ _ n0 N0 m0 P0 0 w.heap.size (HV0.out.below (KC.out.trans (K0.mono (by omega))) (Nat.le_refl _)) hn0b hm0b (by have := K0.size; omega)).mono ?_; rintro e wa ⟨xy, gy1, gy2, rfl, oy, _, _, hb⟩; have K1 := K0.trans (hb.mono K0.size); have XG := XF.out.next K1; clear hb)
      | (go_at_call 29; refine (eqNetwork_any _ _ _ n0 N0 m0 P0 0 _ 0 _ XG.net oy.net (Nat.le_refl _) (Nat.le_refl _)).mono ?_; rintro e wS ⟨rfl, hb⟩; have KX := K1.trans (hb.mono K1.size); clear hb))
  obtain ⟨w11, hwb⟩ : ∃ w', w' = wS := ⟨_, rfl⟩
  subst hwb
  have bb := KX
  clear KS K0 K1 KX KC XF XG oy
  have hs11 := bb.size
  have C11 := belowNext C10 bb
  have A0_11 := A0_10.next bb
  have A2_11 := A2_10.next bb
  have x0_11 := x0_10.next bb
  have Bx0_11 := Bx0_10.next bb
  have x1_11 := x1_10.next bb (by omega)
  have x2_11 := x2_10.next bb
  have Bx2_11 := Bx2_10.next bb
  clear qA00 qA01 qA02 qA20 qA21 qA22 qBx00 qBx01 qBx02 qBx20 qBx21 qBx22
  clear bb C10 A0_10 A2_10 x0_10 Bx0_10 x1_10 x2_10 Bx2_10
  have qA00 := A0_11.b0
  have qA01 := A0_11.b1
  have qA02 := A0_11.lt
  have qA20 := A2_11.b0
  have qA21 := A2_11.b1
  have qA22 := A2_11.lt
  have qBx00 := Bx0_11.b0
  have qBx01 := Bx0_11.b1
  have qBx02 := Bx0_11.lt
  have qBx20 := Bx2_11.b0
  have qBx21 := Bx2_11.b1
  have qBx22 := Bx2_11.lt
  go_wp2_with fail
  refine (copy_any _ _ K1 D1 0 w.heap.size (HV1.out.below C11 (Nat.le_refl _)) hKs1 (by omega)).mono ?_
  rintro e w12 ⟨rfl, oy1, bb, zz⟩
  have hs12 := bb.size
  have C12 := belowNext C11 bb
  have A0_12 := A0_11.next bb
  have A2_12 := A2_11.next bb
  have x0_12 := x0_11.next bb
  have Bx0_12 := Bx0_11.next bb
  have x1_12 := x1_11.next bb (by omega)
  have x2_12 := x2_11.next bb
  have Bx2_12 := Bx2_11.next bb
  clear qA00 qA01 qA02 qA20 qA21 qA22 qBx00 qBx01 qBx02 qBx20 qBx21 qBx22
  clear bb C11 A0_11 A2_11 x0_11 Bx0_11 x1_11 x2_11 Bx2_11
  have qA00 := A0_12.b0
  have qA01 := A0_12.b1
  have qA02 := A0_12.lt
  have qA20 := A2_12.b0
  have qA21 := A2_12.b1
  have qA22 := A2_12.lt
  have qBx00 := Bx0_12.b0
  have qBx01 := Bx0_12.b1
  have qBx02 := Bx0_12.lt
  have qBx20 := Bx2_12.b0
  have qBx21 := Bx2_12.b1
  have qBx22 := Bx2_12.lt
  go_wp2_with fail
  refine (eq_any _ _ _ K1 D1 0 w12.heap.size 0 w12.heap.size (x1_12.all (by omega)) (oy1.all (by omega)) hKs1).mono ?_
  rintro e w13 ⟨rfl, mm, hmm⟩
  have bb : Below w12.heap.size w12 w13 := by rw [hmm]; exact below_drNN (Below.refl _ _) mm
  clear hmm
  clear oy1
  have hs13 := bb.size
  have C13 := belowNext C12 bb
  have A0_13 := A0_12.next bb
  have A2_13 := A2_12.next bb
  have x0_13 := x0_12.next bb
  have Bx0_13 := Bx0_12.next bb
  have x1_13 := x1_12.next bb (by omega)
  have x2_13 := x2_12.next bb
  have Bx2_13 := Bx2_12.next bb
  clear qA00 qA01 qA02 qA20 qA21 qA22 qBx00 qBx01 qBx02 qBx20 qBx21 qBx22
  clear bb C12 A0_12 A2_12 x0_12 Bx0_12 x1_12 x2_12 Bx2_12
  have qA00 := A0_13.b0
  have qA01 := A0_13.b1
  have qA02 := A0_13.lt
  have qA20 := A2_13.b0
  have qA21 := A2_13.b1
  have qA22 := A2_13.lt
  have qBx00 := Bx0_13.b0
  have qBx01 := Bx0_13.b1
  have qBx02 := Bx0_13.lt
  have qBx20 := Bx2_13.b0
  have qBx21 := Bx2_13.b1
  have qBx22 := Bx2_13.lt
  go_wp2_with fail
  have KS : ∀ W : World, Below w13.heap.size w13 W → (W.cell? ⟨w.heap.size + 1, 0, none⟩ = some (.slice p2 F2 c2) ∧ W.cell? ⟨w.heap.size + 1, 1, none⟩ = some (.slice q2 L2 d2) ∧ W.cell? ⟨w8.heap.size, 0, none⟩ = some (.slice sx21 F2 sx22) ∧ W.cell? ⟨w8.heap.size, 1, none⟩ = some (.slice sx23 L2 sx24)) := fun W hW => ⟨(hW.cell (p := ⟨w.heap.size + 1, 0, none⟩) qA22).trans qA20, (hW.cell (p := ⟨w.heap.size + 1, 1, none⟩) qA22).trans qA21, (hW.cell (p := ⟨w8.heap.size, 0, none⟩) qBx22).trans qBx20, (hW.cell (p := ⟨w8.heap.size, 1, none⟩) qBx22).trans qBx21⟩
  have K0 : Below w13.heap.size w13 w13.drew := below_drw (Below.refl _ _)
  have KC := Lib.hid C13
  have XF := Lib.hid x2_13
  go_region_held3 (fun W : World => W.cell? ⟨w.heap.size + 1, 0, none⟩ = some (.slice p2 F2 c2) ∧ W.cell? ⟨w.heap.size + 1, 1, none⟩ = some (.slice q2 L2 d2) ∧ W.cell? ⟨w8.heap.size, 0, none⟩ = some (.slice sx21 F2 sx22) ∧ W.cell? ⟨w8.heap.size, 1, none⟩ = some (.slice sx23 L2 sx24)) (first | exact ⟨qA20, qA21, qBx20, qBx21⟩ | exact KS _ KX | exact KS _ K1)
    (first
      | (go_at_call 37; refine (toProof_any _ _ F2 f2 L2 l2 0 w.heap.size (HV2.out.below (KC.out.trans (K0.mono (by omega))) (Nat.le_refl _)) hF2b hL2b (by have := K0.size; omega)).mono ?_; rintro e wa ⟨y1, y2, y3, y4, rfl, oy, hb⟩; have K1 := K0.trans (hb.mono K0.size); have XG := XF.out.next K1; clear hb)
      | (go_at_call 33; refine (eqProof_any _ _ _ F2 f2 L2 l2 0 _ 0 _ XG oy hF2b hL2b (Nat.le_refl _) (Nat.le_refl _)).mono ?_; rintro e wS ⟨rfl, hb⟩; have KX := K1.trans (hb.mono K1.size); clear hb))
  obtain ⟨w14, hwb⟩ : ∃ w', w' = wS := ⟨_, rfl⟩
  subst hwb
  have bb := KX
  clear KS K0 K1 KX KC XF XG oy
  have hs14 := bb.size
  have C14 := belowNext C13 bb
  have A0_14 := A0_13.next bb
  have A2_14 := A2_13.next bb
  have x0_14 := x0_13.next bb
  have Bx0_14 := Bx0_13.next bb
  have x1_14 := x1_13.next bb (by omega)
  have x2_14 := x2_13.next bb
  have Bx2_14 := Bx2_13.next bb
  clear qA00 qA01 qA02 qA20 qA21 qA22 qBx00 qBx01 qBx02 qBx20 qBx21 qBx22
  clear bb C13 A0_13 A2_13 x0_13 Bx0_13 x1_13 x2_13 Bx2_13
  go_wp2_with fail
  go_ret
  exact ⟨rfl, C14⟩

set_option maxRecDepth 100000 in
theorem lifted (os : Os) (started : os.Started) (H : Type) (enc : TypeId × Value → H) :
    ReturnsInHanded {} Tryz.checked os 8 .any (Rows.fnExactCheckProofSpec.pre6 enc Tryz.prog Tryz.f8 Rows.fnExactCheckProofRow.domain false) (Rows.fnExactCheckProofSpec.post enc Tryz.prog Tryz.f8 false true false false) := by
  refine returnsInHanded_of_change (C := Tryz.checked) own started (by kernel_rfl) Tryz.func8
    (ChangeSpec.witness6 (enc := enc) (C := Tryz.checked) false ⟨#[], #[.agg #[.slice none 0 0, .slice none 0 0], .slice none 0 0, .agg #[.slice none 0 0, .slice none 0 0]], []⟩ 8 (by kernel_rfl) (by kernel_rfl) (by kernel_rfl) (by kernel_rfl)) ?_
  intro W base args ds gs before hval0 hW hcnd _
  have hval : ∀ (j : Nat) t v, Tryz.f8.params[j]? = some t → args[j]? = some v → Value.okWide Tryz.prog W .any base t v := hval0
  have hW' := hW
  obtain ⟨p, q, hA0, hV, rfl, hfz, hnd⟩ := hW
  have hA : DataW.TrodAll enc Tryz.prog W 0 (fun _ => true) true Tryz.f8.params.toList args.toList ds p := hA0
  rw [Tryz.params8] at hA hval
  obtain ⟨v0, vs0, d0, ds0, p0, q0, hargs, rfl, rfl, h0, r0⟩ := trodAll_cons hA
  obtain ⟨v1, vs1, d1, ds1, p1, q1, rfl, rfl, rfl, h1, r1⟩ := trodAll_cons r0
  obtain ⟨v2, vs2, d2, ds2, p2, q2, rfl, rfl, rfl, h2, r2⟩ := trodAll_cons r1
  obtain ⟨rfl, rfl, rfl⟩ := trodAll_nil r2
  obtain rfl : args = #[v0, v1, v2] := by cases args; simp_all
  obtain ⟨rfl, rfl⟩ := trodVars_none hV
  have hc0 := open_net (hval 0 52 v0 rfl rfl) h0
  have hc1 := open_ints64 (hval 1 28 v1 rfl rfl) h1
  have hc2 := open_proof (hval 2 62 v2 rfl rfl) h2
  refine (walk v0 v1 v2 W hc0 hc1 hc2).mono fun e W' ⟨he, hg⟩ => ?_
  subst he
  exact ⟨_, rfl, law.law_post hW' hg laidOut (by kernel_rfl) rfl rfl (by kernel_rfl) Tryz.underlying4⟩

theorem over : Rows.fnExactCheckProofRow.holds Tryz.pinned (OpenSpec.ofChange Rows.fnExactCheckProofSpec) :=
  OpenClaim.holds_of_wide 8 Tryz.f8 rfl rfl rfl rfl rfl rfl rfl ⟨rfl, rfl, rfl, rfl, rfl⟩ rfl rfl rfl rfl rfl (by kernel_rfl) Tryz.func8 (by kernel_rfl)
    (of_decide_eq_true (by kernel_rfl)) (by unfold Func.isWrapper; first | (rw [if_pos (by decide +kernel)]; kernel_rfl) | (rw [if_neg (by decide +kernel)]; exact ⟨rfl, rfl⟩))
    (fun os started H enc _ => lifted os started H enc)

theorem proved : Rows.FnExactCheckProofSaid :=
  over
#print axioms proved
end Go.Proofs.YtdbgcbkmcbgdiaaGreat.fnExactCheckProof
