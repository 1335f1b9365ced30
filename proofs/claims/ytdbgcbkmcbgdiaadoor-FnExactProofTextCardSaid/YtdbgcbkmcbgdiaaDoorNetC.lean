/-
  Contracts of the laws' own helpers on networks: size, conversion, equality. Conditions: as each states.
-/
import Derived.Test.YtdbgcbkmcbgdiaaDoorRows
import Derived.Test.YtdbgcbkmcbgdiaaDoorToN
import Derived.WalkKit
import Derived.ProofKit
import Derived.Outline
import Derived.OwnWalk
import Derived.Lib.Hide
import Derived.Deep.RegionHeld3
namespace Go.Proofs.YtdbgcbkmcbgdiaaDoor.mem
open Go.RowKit
set_option linter.unusedVariables false

/-- how much is left: less than 0 where it is too much -/
def SzPost (w : World) (left : Int) (n : Nat) (e : Ending) (w' : World) : Prop := ∃ r : Int, e = .returned (.int .i64 r) ∧ (r = -1 ∨ (0 ≤ r ∧ r ≤ left ∧ (n : Int) ≤ left)) ∧ Below w.heap.size w w'
theorem szNode_any (w : World) (s : ByteArray) (a b left : Int) (h0 : 0 ≤ left) (h1 : left ≤ 1048576) (hs : s.size ≤ 9223372036854775807) :
    Calls Tryd.prog 27 #[.agg #[.string s, .int .i64 a, .int .i64 b], .int .i64 left] w (SzPost w left 0) := by
  by_cases h : left - s.size < 0
  all_goals
    go_enter Tryd.func27, Tryd.ntmps27
    go_wp2_with fail
    go_ret
  · exact ⟨-1, rfl, .inl rfl, below_new _ _⟩
  · exact ⟨left - s.size, rfl, .inr ⟨by omega, by omega, by omega⟩, below_new _ _⟩
theorem szPipeS_any (w : World) (p : Option Addr) (n cap : Nat) (left : Int) (h0 : 0 ≤ left) (h1 : left ≤ 1048576) (hn : n ≤ 9223372036854775807) :
    Calls Tryd.prog 13 #[.slice p n cap, .int .i64 left] w (SzPost w left n) := by
  by_cases h : left - n < 0
  all_goals
    go_enter Tryd.func13, Tryd.ntmps13
    go_wp2_with fail
    go_ret
  · exact ⟨-1, rfl, .inl rfl, Below.refl _ _⟩
  · exact ⟨left - n, rfl, .inr ⟨by omega, by omega, by omega⟩, Below.refl _ _⟩
set_option maxHeartbeats 1000000 in
theorem szNodeS_any (w : World) (v : Value) (n : Nat) (N : Nat → Nod) (lo hi : Nat) (left : Int) (h : Cs w v n 3 (nodC N) lo hi) (hn : n ≤ 9223372036854775807) (hhi : hi ≤ w.heap.size) (h0 : 0 ≤ left) (h1 : left ≤ 1048576)
    (hN : ∀ i, i < n → (N i).s.size ≤ 9223372036854775807) : Calls Tryd.prog 12 #[v, .int .i64 left] w (SzPost w left n) := by
  obtain ⟨p, cap, rfl, h2, h9, hc⟩ := h
  have HC := Lib.hid hc
  have HN := Lib.hid hN
  clear hc hN
  by_cases hbig : left - n < 0
  · go_enter Tryd.func12, Tryd.ntmps12
    go_wp2_with fail
    go_ret
    exact ⟨-1, rfl, .inl rfl, Below.refl _ _⟩
  go_enter Tryd.func12, Tryd.ntmps12
  go_wp2_with fail
  generalize hO : w.heap.size = ob at *
  have HOB := Lib.hid hO
  clear hO
  go_loopw [1, 5] (fun l i wr => ∃ (k : Nat) (L : Int), i = .int .i64 k ∧ l = .int .i64 L ∧ 0 ≤ L ∧ L ≤ left ∧ k ≤ n ∧ Below ob w wr ∧ ob ≤ wr.heap.size) (fun _ i _ => n - (intOf i).toNat)
  case atStart => exact ⟨0, left - n, rfl, rfl, by omega, by omega, Nat.zero_le _, Below.refl _ _, by rw [HOB.out]; exact Nat.le_refl _⟩
  case round =>
    obtain ⟨k, L, rfl, rfl, hL0, hL1, hk, hbel, hsz⟩ := hrel
    have HB := Lib.hid hbel
    clear hbel
    by_cases hlt : k < n
    · rcases HC.out with h0 | ⟨b, o, rfl, g1, g2, g3⟩
      · omega
      have c0 : wr.cell? ⟨b, o + k * 3, none⟩ = some (.string (N k).s) := (HB.out.cell (p := ⟨b, o + k * 3, none⟩) (by show b < ob; omega)).trans (g3.cell k 0 hlt (by omega))
      have c1 : wr.cell? ⟨b, o + k * 3 + 1, none⟩ = some (.int .i64 (N k).lo) := (HB.out.cell (p := ⟨b, o + k * 3 + 1, none⟩) (by show b < ob; omega)).trans (g3.cell k 1 hlt (by omega))
      have c2 : wr.cell? ⟨b, o + k * 3 + 2, none⟩ = some (.int .i64 (N k).hi) := (HB.out.cell (p := ⟨b, o + k * 3 + 2, none⟩) (by show b < ob; omega)).trans (g3.cell k 2 hlt (by omega))
      clear g3
      go_wp2_with fail
      refine (szNode_any _ _ _ _ L hL0 (by omega) (HN.out k hlt)).mono ?_
      rintro e w2 ⟨r, rfl, hr, b2⟩
      have HB2 := Lib.hid (HB.out.trans (b2.mono hsz))
      have hs2 : ob ≤ w2.heap.size := Nat.le_trans hsz b2.size
      clear b2 c0 c1 c2
      rcases hr with rfl | ⟨hr0, hr1, _⟩
      · go_wp2_with fail
        go_ret
        exact ⟨-1, rfl, .inl rfl, by rw [HOB.out]; exact HB2.out⟩
      · go_wp2_with fail
        go_roundw
        case rel => exact ⟨k + 1, r, by go_num, rfl, hr0, by omega, hlt, HB2.out, hs2⟩
        case measure => simp [intOf]; omega
    · go_wp2_with fail
      go_ret
      exact ⟨L, rfl, .inr ⟨hL0, hL1, by omega⟩, by rw [HOB.out]; exact HB.out⟩

/-- what reads as a network: n nodes N, m pipes P, in blocks from lo on and below hi -/
structure NetAt (w : World) (v : Value) (n : Nat) (N : Nat → Nod) (m : Nat) (P : Nat → Pip) (lo hi : Nat) : Prop where
  ex : ∃ v0 v1, v = .agg #[v0, v1] ∧ Cs w v0 n 3 (nodC N) lo hi ∧ Cs w v1 m 5 (pipC P) lo hi
theorem NetAt.below {w w' : World} {v : Value} {n m : Nat} {N : Nat → Nod} {P : Nat → Pip} {lo hi B : Nat} (h : NetAt w v n N m P lo hi) (g : Below B w w') (hB : hi ≤ B) : NetAt w' v n N m P lo hi := by
  obtain ⟨v0, v1, rfl, h0, h1⟩ := h.ex
  exact ⟨v0, v1, rfl, h0.below g hB, h1.below g hB⟩
theorem NetAt.mono {w : World} {v : Value} {n m : Nat} {N : Nat → Nod} {P : Nat → Pip} {lo hi lo' hi' : Nat} (h : NetAt w v n N m P lo hi) (h1 : lo' ≤ lo) (h2 : hi ≤ hi') : NetAt w v n N m P lo' hi' := by
  obtain ⟨v0, v1, rfl, g0, g1⟩ := h.ex
  exact ⟨v0, v1, rfl, g0.mono h1 h2, g1.mono h1 h2⟩
theorem NetAt.upd {X : Nat → Prop} {w w' : World} {v : Value} {n m : Nat} {N : Nat → Nod} {P : Nat → Pip} {lo hi : Nat} (h : NetAt w v n N m P lo hi) (g : Upd X w w') (hi1 : hi ≤ w.heap.size) (hx : ∀ k, lo ≤ k → k < hi → ¬ X k) : NetAt w' v n N m P lo hi := by
  obtain ⟨v0, v1, rfl, g0, g1⟩ := h.ex
  exact ⟨v0, v1, rfl, g0.upd g hi1 hx, g1.upd g hi1 hx⟩
/-- a network of the call's own, its rows in blocks b1 and b2 -/
structure NetOwn (w : World) (v : Value) (n : Nat) (N : Nat → Nod) (m : Nat) (P : Nat → Pip) (b1 b2 : Nat) : Prop where
  ex : ∃ v0 v1, v = .agg #[v0, v1] ∧ OwnS w v0 n 3 (nodC N) b1 ∧ OwnS w v1 m 5 (pipC P) b2 ∧ (n = 0 ∨ m = 0 ∨ b1 ≠ b2)
theorem NetOwn.upd {X : Nat → Prop} {w w' : World} {v : Value} {n m b1 b2 : Nat} {N : Nat → Nod} {P : Nat → Pip} (h : NetOwn w v n N m P b1 b2) (g : Upd X w w') (h1 : n = 0 ∨ ¬ X b1) (h2 : m = 0 ∨ ¬ X b2) : NetOwn w' v n N m P b1 b2 := by
  obtain ⟨v0, v1, rfl, g0, g1, g2⟩ := h.ex
  exact ⟨v0, v1, rfl, g0.upd g h1, g1.upd g h2, g2⟩
theorem NetOwn.below {w w' : World} {v : Value} {n m b1 b2 B : Nat} {N : Nat → Nod} {P : Nat → Pip} (h : NetOwn w v n N m P b1 b2) (g : Below B w w') (hB : w.heap.size ≤ B) : NetOwn w' v n N m P b1 b2 := by
  obtain ⟨v0, v1, rfl, g0, g1, g2⟩ := h.ex
  exact ⟨v0, v1, rfl, g0.below g hB, g1.below g hB, g2⟩
theorem NetOwn.net {w : World} {v : Value} {n m b1 b2 : Nat} {N : Nat → Nod} {P : Nat → Pip} (h : NetOwn w v n N m P b1 b2) : NetAt w v n N m P 0 w.heap.size := by
  obtain ⟨v0, v1, rfl, g0, g1, g2⟩ := h.ex
  exact ⟨v0, v1, rfl, g0.cs (.inr rfl) (Nat.le_refl _), g1.cs (.inr rfl) (Nat.le_refl _)⟩
theorem NetOwn.lt1 {w : World} {v : Value} {n m b1 b2 : Nat} {N : Nat → Nod} {P : Nat → Pip} (h : NetOwn w v n N m P b1 b2) : n = 0 ∨ b1 < w.heap.size := by
  obtain ⟨v0, v1, rfl, g0, g1, g2⟩ := h.ex
  exact g0.lt
theorem NetOwn.lt2 {w : World} {v : Value} {n m b1 b2 : Nat} {N : Nat → Nod} {P : Nat → Pip} (h : NetOwn w v n N m P b1 b2) : m = 0 ∨ b2 < w.heap.size := by
  obtain ⟨v0, v1, rfl, g0, g1, g2⟩ := h.ex
  exact g1.lt
theorem NetOwn.none_ (w : World) (N : Nat → Nod) (P : Nat → Pip) (b1 b2 : Nat) : NetOwn w (.agg #[.slice none 0 0, .slice none 0 0]) 0 N 0 P b1 b2 := ⟨_, _, rfl, OwnS.none_ _ _ _ _, OwnS.none_ _ _ _ _, .inl rfl⟩

def NewNet (w : World) (n : Nat) (N : Nat → Nod) (m : Nat) (P : Nat → Pip) (e : Ending) (w' : World) : Prop :=
  ∃ v b1 b2, e = .returned v ∧ NetOwn w' v n N m P b1 b2 ∧ w.heap.size ≤ b1 ∧ w.heap.size ≤ b2 ∧ Below w.heap.size w w'
set_option maxHeartbeats 1000000 in
theorem toNetwork_any (w : World) (v : Value) (n : Nat) (N : Nat → Nod) (m : Nat) (P : Nat → Pip) (lo hi : Nat) (h : NetAt w v n N m P lo hi) (hn : n ≤ 2000000) (hm : m ≤ 2000000) (hhi : hi ≤ w.heap.size) :
    Calls Tryd.prog 7 #[v] w (NewNet w n N m P) := by
  obtain ⟨v0, v1, rfl, g0, g1⟩ := h.ex
  obtain ⟨p0, c0, rfl⟩ := g0.shape
  obtain ⟨p1, c1, rfl⟩ := g1.shape
  have G0 := Lib.hid g0
  have G1 := Lib.hid g1
  clear h g0 g1
  go_enter Tryd.func7, Tryd.ntmps7
  go_wp2_with fail
  generalize hW : ((w.alloc _).alloc _).alloc _ = W1
  have a0 : Ob W1 w.heap.size 2 (fun k => if k = 0 then .slice p0 n c0 else .slice p1 m c1) := by
    rw [← hW]
    exact ((Ob.new w _ _ 2 _ rfl (by intro k hk; rcases (by omega : k = 0 ∨ k = 1) with rfl | rfl <;> rfl)).keep (Below.heap_alloc _ _ _ (by simp))).keep (Below.heap_alloc _ _ _ (by simp; omega))
  have a1 : Ob W1 (w.heap.size + 1) 2 (fun _ => .slice none 0 0) := by
    rw [← hW]
    have := (Ob.new (w.alloc (Obj.cells #[Value.slice p0 n c0, Value.slice p1 m c1] 25)) #[.slice none 0 0, .slice none 0 0] 35 2 (fun _ => .slice none 0 0) rfl (by intro k hk; rcases (by omega : k = 0 ∨ k = 1) with rfl | rfl <;> rfl)).keep (Below.heap_alloc _ (Obj.cells #[Value.slice none 0 0, Value.slice none 0 0] 35) _ (by simp))
    simpa using this
  have a2 : Ob W1 (w.heap.size + 1 + 1) 2 (fun _ => .slice none 0 0) := by
    rw [← hW]
    have := Ob.new ((w.alloc (Obj.cells #[Value.slice p0 n c0, Value.slice p1 m c1] 25)).alloc (Obj.cells #[Value.slice none 0 0, Value.slice none 0 0] 35)) #[.slice none 0 0, .slice none 0 0] 35 2 (fun _ => .slice none 0 0) rfl (by intro k hk; rcases (by omega : k = 0 ∨ k = 1) with rfl | rfl <;> rfl)
    simpa using this
  have b0 : Below w.heap.size w W1 := by rw [← hW]; exact bel3 _ _ _ _
  have z0 : W1.heap.size = w.heap.size + 3 := by rw [← hW]; simp
  clear hW
  replace z0 := Nat.le_antisymm_iff.1 z0
  have A0 := Lib.hid a0
  have A1 := Lib.hid a1
  have A2 := Lib.hid a2
  have B0 := Lib.hid b0
  clear a0 a1 a2 b0
  refine (toNodeS_any _ _ n N lo hi (G0.out.below B0.out hhi) hn (by omega)).mono ?_
  rintro e w2 ⟨rfl, r1, b1⟩
  have A0' := Lib.hid (A0.out.below b1 (by omega))
  have A1' := Lib.hid (A1.out.below b1 (by omega))
  have A2' := Lib.hid (A2.out.below b1 (by omega))
  have B1 := Lib.hid (B0.out.trans (b1.mono (by omega)))
  have z1 := b1.size
  have R1 := Lib.hid r1
  have f0 := A2'.out.cell 0 (by omega)
  have f1 := A2'.out.free 0
  have f2 := A0'.out.cell 1 (by omega)
  have z2 := r1.lt
  simp only [if_false, Nat.one_ne_zero] at f2
  clear b1 r1 A0 A1 A2
  go_wp2_with fail
  generalize hW : w2.setCell _ _ = w3
  have u3 : Only (w.heap.size + 1 + 1) w2 w3 := by rw [← hW]; exact (Only.refl _ _).setCell _ _
  have s3 : Ob w3 (w.heap.size + 1 + 1) 2 (updV (fun _ => .slice none 0 0) 0 (.slice (some ⟨W1.heap.size, 0, none⟩) n n)) := by rw [← hW]; exact A2'.out.set 0 _ (by omega)
  have z3 := Nat.le_antisymm_iff.1 u3.size
  clear hW f0 f1 f2
  have U3 := Lib.hid u3
  have S3 := Lib.hid s3
  clear u3 s3
  refine (toPipeS_any _ _ m P lo hi ((G1.out.below B1.out hhi).only U3.out (by omega)) hm (by omega)).mono ?_
  rintro e w4 ⟨rfl, r2, b2⟩
  have S4 := Lib.hid (S3.out.below b2 (by omega))
  have A1'' := Lib.hid ((A1'.out.only U3.out (by omega)).below b2 (by omega))
  have R1' := Lib.hid ((R1.out.only U3.out (by omega)).below b2 (by omega))
  have B2 := Lib.hid ((below_only B1.out U3.out (by omega)).trans (b2.mono (by omega)))
  have R2 := Lib.hid r2
  have z4 := b2.size
  have z5 := r2.lt
  have f0 := S4.out.cell 0 (by omega)
  have f1 := S4.out.free 1
  have f2 := S4.out.cell 1 (by omega)
  have f3 := A1''.out.cell 0 (by omega)
  have f4 := A1''.out.cell 1 (by omega)
  have f5 := A1''.out.free 0
  have f6 := A1''.out.free 1
  simp only [updV, if_true, if_false, Nat.one_ne_zero] at f0 f2
  clear b2 r2
  go_wp2_with fail
  have u5 : Upd (fun k => k = w.heap.size + 1 + 1 ∨ k = w.heap.size + 1) w4 (((w4.setCell ⟨w.heap.size + 1 + 1, 1, none⟩ (.slice (some ⟨w3.heap.size, 0, none⟩) m m)).setCell ⟨w.heap.size + 1, 0, none⟩ (.slice (some ⟨W1.heap.size, 0, none⟩) n n)).setCell ⟨w.heap.size + 1, 1, none⟩ (.slice (some ⟨w3.heap.size, 0, none⟩) m m)) :=
    ((Upd.of_only ((Only.refl _ w4).setCell _ _)).mono (fun k _ e => .inl e)).trans ((Upd.of_only (((Only.refl _ _).setCell _ _).setCell _ _)).mono (fun k _ e => .inr e))
  refine bodyPost_ret (v := .agg #[.slice (some ⟨W1.heap.size, 0, none⟩) n n, .slice (some ⟨w3.heap.size, 0, none⟩) m m]) (by simp [results, Tryd.results7, go_sem, f3, f4]) rfl
    ⟨_, W1.heap.size, w3.heap.size, rfl, ⟨_, _, rfl, ?_, ?_, .inr (.inr (by omega))⟩, by omega, by omega, ?_⟩
  · exact (R1'.out.own (Nat.le_refl _) (by omega)).upd u5 (.inr (by omega))
  · exact (R2.out.own (Nat.le_refl _) (by omega)).upd u5 (.inr (by omega))
  · exact B2.out.trans (u5.below (by omega) (by omega))
end Go.Proofs.YtdbgcbkmcbgdiaaDoor.mem
