/-
  The iterator of a search: its rounds are the visits, in their order. Conditions: as it states.
-/
import Derived.Test.YtkgekaedpdgmdaaRows
import Derived.Test.YtkgekaedpdgmdaaNetX
import Derived.Test.YtkgekaedpdgmdaaVisB
import Derived.Test.YtkgekaedpdgmdaaRng
import Derived.WalkKit
import Derived.ProofKit
import Derived.Outline
import Derived.OwnWalk
import Derived.Lib.Hide
import Derived.LoopIn
import Derived.TacticsIn
import Derived.RegionIn
namespace Go.Proofs.Ytkgekaedpdgmdaa.mem
open Go.RowKit
set_option linter.unusedVariables false
attribute [local go_sem] Oper.semAt_some

def encV (v : Vs) : Array Value := #[.agg #[.int .i64 v.nd, .int .i64 v.en, .int .i64 v.ds]]
/-- the table of the visits so far lies in block b -/
structure Fnd (w : World) (b : Nat) (fs : List Vs) : Prop where
  ex : ∃ d, Ob w b 72 d ∧ ∀ i v, fs[i]? = some v → d (i * 3) = .int .i64 v.nd ∧ d (i * 3 + 1) = .int .i64 v.en ∧ d (i * 3 + 2) = .int .i64 v.ds
theorem Fnd.keep {w w' : World} {b : Nat} {fs : List Vs} (h : Fnd w b fs) (e : w'.heap[b]? = w.heap[b]?) : Fnd w' b fs := by
  obtain ⟨d, h1, h2⟩ := h.ex
  exact ⟨d, h1.keep e, h2⟩
theorem Fnd.lt {w : World} {b : Nat} {fs : List Vs} (h : Fnd w b fs) : b < w.heap.size := by
  obtain ⟨d, h1, h2⟩ := h.ex
  exact h1.lt
theorem Fnd.cell {w : World} {b : Nat} {fs : List Vs} (h : Fnd w b fs) {i : Nat} {v : Vs} (hv : fs[i]? = some v) (hi : i < 24) :
    w.cell? ⟨b, i * 3, none⟩ = some (.int .i64 v.nd) ∧ w.cell? ⟨b, i * 3 + 1, none⟩ = some (.int .i64 v.en) ∧ w.cell? ⟨b, i * 3 + 2, none⟩ = some (.int .i64 v.ds) := by
  obtain ⟨d, h1, h2⟩ := h.ex
  obtain ⟨e0, e1, e2⟩ := h2 i v hv
  rw [← e0, ← e1, ← e2]
  exact ⟨h1.cell _ (by omega), h1.cell _ (by omega), h1.cell _ (by omega)⟩
theorem Fnd.free {w : World} {b : Nat} {fs : List Vs} (h : Fnd w b fs) (k : Nat) : w.frozen? ⟨b, k, none⟩ = false := by
  obtain ⟨d, h1, h2⟩ := h.ex
  exact h1.free k
theorem Fnd.has {w : World} {b : Nat} {fs : List Vs} (h : Fnd w b fs) (k : Nat) (hk : k < 72) : ∃ v, w.cell? ⟨b, k, none⟩ = some v := by
  obtain ⟨d, h1, h2⟩ := h.ex
  exact ⟨_, h1.cell k hk⟩
theorem Fnd.more {w : World} {b : Nat} {fs : List Vs} (h : Fnd w b fs) (v : Vs) (hl : fs.length < 24) :
    Fnd (((w.setCell ⟨b, fs.length * 3, none⟩ (.int .i64 v.nd)).setCell ⟨b, fs.length * 3 + 1, none⟩ (.int .i64 v.en)).setCell ⟨b, fs.length * 3 + 2, none⟩ (.int .i64 v.ds)) b (fs ++ [v]) := by
  obtain ⟨d, h1, h2⟩ := h.ex
  refine ⟨_, ((h1.set _ _ (by omega)).set _ _ (by omega)).set _ _ (by omega), fun i u hu => ?_⟩
  unfold updV
  rcases Nat.lt_or_ge i fs.length with hi | hi
  · rw [List.getElem?_append_left hi] at hu
    obtain ⟨e0, e1, e2⟩ := h2 i u hu
    refine ⟨?_, ?_, ?_⟩
    · rw [if_neg (by omega), if_neg (by omega), if_neg (by omega), e0]
    · rw [if_neg (by omega), if_neg (by omega), if_neg (by omega), e1]
    · rw [if_neg (by omega), if_neg (by omega), if_neg (by omega), e2]
  · have hil := get_lt hu
    simp only [List.length_append, List.length_cons, List.length_nil] at hil
    obtain rfl : i = fs.length := by omega
    simp only [List.getElem?_append_right (Nat.le_refl _), Nat.sub_self, List.getElem?_cons_zero, Option.some.injEq] at hu
    subst hu
    refine ⟨?_, ?_, ?_⟩
    · rw [if_neg (by omega), if_neg (by omega), if_pos rfl]
    · rw [if_neg (by omega), if_pos rfl]
    · rw [if_pos rfl]
theorem Fnd.nil {w : World} {b : Nat} {d : Nat → Value} (h : Ob w b 72 d) : Fnd w b [] := ⟨d, h, fun i v hv => by simp at hv⟩
def vsC (v : Vs) : Nat → Value := fun k => if k = 0 then .int .i64 v.nd else if k = 1 then .int .i64 v.en else .int .i64 v.ds
theorem boxedV (w : World) (v : Vs) (t : TypeId) : Ob (w.alloc (.cells #[.int .i64 v.nd, .int .i64 v.en, .int .i64 v.ds] t)) w.heap.size 3 (vsC v) :=
  Ob.new w _ _ 3 _ rfl (by intro k hk; rcases (by omega : k = 0 ∨ k = 1 ∨ k = 2) with rfl | rfl | rfl <;> rfl)
/-- which nodes have been visited, block b -/
def flagC (fs : List Vs) : Nat → Value := fun k => .bool (vhas fs ((k : Nat) : Int))
theorem flag_more {w : World} {b : Nat} {fs : List Vs} (h : Ob w b 24 (flagC fs)) (v : Vs) (k : Nat) (hk : k < 24) (e : v.nd = (k : Int)) : Ob (w.setCell ⟨b, k, none⟩ (.bool true)) b 24 (flagC (fs ++ [v])) := by
  refine (h.set k (.bool true) hk).congr fun j hj => ?_
  unfold updV flagC
  rw [vhas_app, e]
  by_cases hjk : j = k
  · subst hjk
    simp
  · rw [if_neg hjk]
    have : (((k : Nat) : Int) == ((j : Nat) : Int)) = false := by rw [beq_eq_false_iff_ne]; omega
    rw [this, Bool.or_false]

theorem start_flags (W : World) (X0 : Nat) (hX : X0 < 24) (t : TypeId) (l : List Value) (hl : l.length = 24) (h0 : ∀ k, k < 24 → l[k]? = some (.bool false)) (v : Vs) (hv : v.nd = (X0 : Int)) :
    Ob (W.alloc (.cells (l.set X0 (.bool true)).toArray t)) W.heap.size 24 (flagC [v]) := by
  refine Ob.new _ _ _ _ _ (by simp [hl]) fun k hk => ?_
  simp only [List.getElem?_toArray, List.getElem?_set, h0 k hk, hl]
  unfold flagC
  have e : vhas [v] ((k : Nat) : Int) = (v.nd == ((k : Nat) : Int)) := by simp [vhas]
  rw [e, hv]
  by_cases hk0 : X0 = k
  · subst hk0
    simp [hX]
  · have : (((X0 : Nat) : Int) == ((k : Nat) : Int)) = false := by rw [beq_eq_false_iff_ne]; omega
    simp [hk0, this]
theorem start_fnd (W : World) (cur : Array Value) (t : TypeId) (hs : cur.size = 72) (v : Vs) (e0 : cur[0]? = some (.int .i64 v.nd)) (e1 : cur[1]? = some (.int .i64 v.en)) (e2 : cur[2]? = some (.int .i64 v.ds)) :
    Fnd (W.alloc (.cells cur t)) W.heap.size [v] := by
  refine ⟨fun k => (cur[k]?).getD default, Ob.new _ _ _ _ _ hs fun k hk => ?_, fun i u hu => ?_⟩
  · rw [Array.getElem?_eq_getElem (by omega)]
    rfl
  · have := get_lt hu
    simp only [List.length_cons, List.length_nil] at this
    obtain rfl : i = 0 := by omega
    simp only [List.getElem?_cons_zero, Option.some.injEq] at hu
    subst hu
    simp only [Nat.zero_mul, Nat.zero_add]
    rw [e0, e1, e2]
    exact ⟨rfl, rfl, rfl⟩

theorem Vok.dsle {n : Nat} {P : Nat → Pip} {m : Nat} {x : Int} {fs : List Vs} (h : Vok n P m x fs) : ∀ (i : Nat) (v : Vs), fs[i]? = some v → v.ds ≤ i := by
  intro i
  induction i using Nat.strongRecOn with
  | _ i ih =>
    intro v hv
    rcases Nat.eq_zero_or_pos i with rfl | hi
    · rw [h.fst] at hv
      injection hv with hv
      subst hv
      exact Int.le_refl _
    · obtain ⟨j, u, k, hj, hu, _, _, _, _, hd⟩ := h.par i v hi hv
      have := ih j hj u hu
      omega
/-- between two rounds: k visits have been handed out -/
def VRel (R : Nat → Prop) (B : Nat) (w : World) (P : Nat → Pip) (m : Nat) (x : Int) (J : List Vs → (Nat → Prop) → World → Prop) (cnt i : Value) (wr : World) : Prop :=
  ∃ (k : Nat) (fs : List Vs) (Y : Nat → Prop), i = .int .i64 k ∧ cnt = .int .i64 fs.length ∧ fs = vup P m x k ∧ k ≤ fs.length ∧ J (fs.take k) Y wr ∧ Upd (fun b => ¬ R b) w wr ∧ B + 2 ≤ wr.heap.size ∧
    Ob wr B 24 (flagC fs) ∧ Fnd wr (B + 1) fs ∧ ∀ b, Y b → b < wr.heap.size ∧ b ≠ B ∧ b ≠ B + 1 ∧ ¬ R b
/-- between two pipes: the first q pipes of visit v have been looked at, which lies in block bv -/
def VRel2 (R : Nat → Prop) (B bv : Nat) (w : World) (P : Nat → Pip) (m : Nat) (v : Vs) (fs : List Vs) (J : (Nat → Prop) → World → Prop) (cnt i : Value) (wr : World) : Prop :=
  ∃ (q : Nat) (gs : List Vs) (Y : Nat → Prop), i = .int .i64 q ∧ q ≤ m ∧ cnt = .int .i64 gs.length ∧ gs = vrow P v q fs ∧ J Y wr ∧ Upd (fun b => ¬ R b) w wr ∧ B + 2 ≤ wr.heap.size ∧
    Ob wr B 24 (flagC gs) ∧ Fnd wr (B + 1) gs ∧ Ob wr bv 3 (vsC v) ∧ ∀ b, Y b → b < wr.heap.size ∧ b ≠ B ∧ b ≠ B + 1 ∧ b ≠ bv ∧ ¬ R b

set_option maxRecDepth 100000 in
set_option maxHeartbeats 4000000 in
theorem visits1_any (nn : Nat) (h3 : 3 ≤ nn) (w : World) (v : Value) (n : Nat) (N : Nat → Nod) (m : Nat) (P : Nat → Pip) (lo hi : Nat) (h : NetAt w v n N m P lo hi) (n₀ : Nat) (hhi : hi ≤ n₀) (hn0 : n₀ ≤ w.heap.size) (hB : netB n N m P = true) (X0 : Nat) (hX : X0 < n)
    (v0 v1 : Value) (hv : v = .agg #[v0, v1]) (c1 c2 : Nat) (b1 : Ob w c1 1 (fun _ => .int .i64 (X0 : Nat))) (b2 : Ob w c2 2 (bx v0 v1)) :
    SeqV Fence.wide nn Try.prog 133 #[.pointer (some ⟨c1, 0, none⟩), .pointer (some ⟨c2, 0, none⟩)] encV (vis n P m (X0 : Nat)) (fun r => r < n₀ ∨ r = c1 ∨ r = c2) w := by
  subst hv
  obtain ⟨_, _, hv, g0, g1⟩ := h.ex
  simp only [Value.agg.injEq, Array.mk.injEq, List.cons.injEq, and_true] at hv
  obtain ⟨rfl, rfl⟩ := hv
  obtain ⟨p0, k0, rfl⟩ := g0.shape
  obtain ⟨p1, k1, rfl⟩ := g1.shape
  intro l Y0 J W hU hY0 hJ HY hJ0
  refine callsIn_of_wp Try.func133 rfl trivial ?_ rfl
  simp only [Try.ntmps133, List.size_toArray, List.length_cons, List.length_nil, Nat.reduceAdd, Nat.reduceSub, Array.replicate_succ, Array.replicate_zero, List.push_toArray, List.append_toArray, List.nil_append, List.cons_append]
  have hX24 : X0 < 24 := by have := net_sz hB; omega
  have i0 : (0 : Int) ≤ (X0 : Int) := Int.natCast_nonneg _
  have i1 : (X0 : Int) < 24 := by omega
  have l1 := b1.lt
  have l2 := b2.lt
  have hz := hU.size
  have c1' := b1.keep (hU.block c1 l1 (by omega))
  have c2' := b2.keep (hU.block c2 l2 (by omega))
  have y0 := c1'.cell 0 (by omega)
  have y1 : c1 < W.heap.size := by omega
  gi_wp2
  gi_loopw [6, 7] (fun cnt i wr => VRel (fun r => r < n₀ ∨ r = c1 ∨ r = c2) W.heap.size w P m (X0 : Nat) J cnt i wr) (fun _ i _ => 24 - (intOf i).toNat)
  case atStart =>
    have hz0 : vup P m X0 0 = [⟨X0, -1, 0⟩] := rfl
    refine ⟨0, _, Y0, rfl, rfl, hz0.symm, Nat.zero_le _, hJ _ _ _ _ hJ0 ((Upd.alloc _ _ _).trans (Upd.alloc _ _ _)), (hU.trans (Upd.alloc _ _ _)).trans (Upd.alloc _ _ _), by simp, ?_, ?_, fun b hb => ?_⟩
    · exact (start_flags W X0 hX24 _ _ rfl (by intro k hk; rcases (by omega : k = 0 ∨ k = 1 ∨ k = 2 ∨ k = 3 ∨ k = 4 ∨ k = 5 ∨ k = 6 ∨ k = 7 ∨ k = 8 ∨ k = 9 ∨ k = 10 ∨ k = 11 ∨ k = 12 ∨ k = 13 ∨ k = 14 ∨ k = 15 ∨ k = 16 ∨ k = 17 ∨ k = 18 ∨ k = 19 ∨ k = 20 ∨ k = 21 ∨ k = 22 ∨ k = 23) with rfl | rfl | rfl | rfl | rfl | rfl | rfl | rfl | rfl | rfl | rfl | rfl | rfl | rfl | rfl | rfl | rfl | rfl | rfl | rfl | rfl | rfl | rfl | rfl <;> rfl) ⟨X0, -1, 0⟩ rfl).keep (Below.heap_alloc _ _ _ (by simp))
    · have := start_fnd (W.alloc (Obj.cells ([Value.bool false, Value.bool false, Value.bool false, Value.bool false, Value.bool false, Value.bool false, Value.bool false, Value.bool false, Value.bool false, Value.bool false, Value.bool false, Value.bool false, Value.bool false, Value.bool false, Value.bool false, Value.bool false, Value.bool false, Value.bool false, Value.bool false, Value.bool false, Value.bool false, Value.bool false, Value.bool false, Value.bool false].set X0 (Value.bool true)).toArray 124))
        (((Try.zeroCells125.setIfInBounds 0 (Value.int IntKind.i64 X0)).setIfInBounds 1 (Value.int IntKind.i64 (-1))).setIfInBounds 2 (Value.int IntKind.i64 0)) 125 (by simp) ⟨X0, -1, 0⟩ rfl rfl rfl
      rwa [World.size_alloc] at this
    · have := hY0 b hb
      simp only [World.size_alloc]
      exact ⟨by omega, by omega, by omega, this.2⟩
  case round =>
    obtain ⟨k, fs, Y, rfl, rfl, hfs, hk, hj, hu, hsz, hof, hfn, hyb⟩ := hrel
    have ok := vup_ok hB ⟨i0, by omega⟩ k
    rw [← hfs] at ok
    have hlen := ok.len
    have hn24 := (net_sz hB).2.1
    have hpre : fs <+: vis n P m (X0 : Nat) := by rw [hfs]; exact vup_vis hB ⟨i0, by omega⟩
    have HFS := Lib.hid hfs
    have HU := Lib.hid hu
    have HOF := Lib.hid hof
    have HFN := Lib.hid hfn
    have HYB := Lib.hid hyb
    clear hfs hu hof hfn hyb
    by_cases hlt : k < fs.length
    · obtain ⟨v, hv⟩ : ∃ v, fs[k]? = some v := ⟨_, List.getElem?_eq_getElem hlt⟩
      obtain ⟨z0, z1, z2⟩ := HFN.out.cell hv (by omega)
      have j1 : (k : Int) < 24 := by omega
      have j0 : (0 : Int) ≤ (k : Int) := Int.natCast_nonneg _
      have j2 : (k : Int) < (fs.length : Int) := by omega
      have z3 : W.heap.size + 1 < wr.heap.size := HFN.out.lt
      have hA : ∀ X, Upd X wr (wr.alloc (Obj.cells #[.int .i64 v.nd, .int .i64 v.en, .int .i64 v.ds] 117)) := fun X => Upd.alloc _ _ _
      obtain ⟨post, hpost⟩ : ∃ post, vis n P m (X0 : Nat) = fs.take k ++ v :: post := by
        obtain ⟨r, hr⟩ := hpre
        refine ⟨fs.drop (k + 1) ++ r, ?_⟩
        rw [← hr, ← List.cons_append, ← List.append_assoc]
        congr 1
        rw [List.getElem?_eq_getElem hlt, Option.some.injEq] at hv
        rw [← hv, List.getElem_cons_drop, List.take_append_drop]
      have HA0 := HY _ v post Y _ hpost (hJ _ _ _ _ hj (hA _)) (by simp; omega) (fun b hb => by have := HYB.out b hb; simp only [World.size_alloc]; exact ⟨by omega, by omega, by omega⟩)
      obtain ⟨fn, tm, asg, bd, hy, hR⟩ := HA0
      simp only [encV] at hy
      have HR := Lib.hid hR
      clear hR
      generalize hQ : Exit.then _ _ = Q
      have HQ := Lib.hid hQ
      clear hQ
      gi_wp2
      refine ⟨fun _ => by omega, HR.out.mono ?_⟩
      rintro e wb ⟨rfl, Y', hj', hu', hy'⟩
      have hs' := hu'.size
      simp only [World.size_alloc] at hs' hy'
      have hbk : ∀ b, b < wr.heap.size → ¬ Y b → wb.heap[b]? = wr.heap[b]? := fun b h1 h2 => (hu'.block b (by simp; omega) h2).trans (Below.heap_alloc _ _ _ h1)
      have oB : Hid (Ob wb wr.heap.size 3 (vsC v)) := Lib.hid ((boxedV wr v _).keep (hu'.block _ (by simp) (fun h => by have := HYB.out _ h; omega)))
      have HU2 : Hid (Upd (fun b => ¬(b < n₀ ∨ b = c1 ∨ b = c2)) w wb) := Lib.hid ((HU.out.trans (hA _)).trans (hu'.mono fun b _ h => (HYB.out b h).2.2.2))
      have HOF2 : Hid (Ob wb W.heap.size 24 (flagC fs)) := Lib.hid (HOF.out.keep (hbk _ (by omega) (fun h => (HYB.out _ h).2.1 rfl)))
      have HFN2 : Hid (Fnd wb (W.heap.size + 1) fs) := Lib.hid (HFN.out.keep (hbk _ (by omega) (fun h => (HYB.out _ h).2.2.1 rfl)))
      have HYB2 : Hid (∀ b, Y' b → b < wb.heap.size ∧ b ≠ W.heap.size ∧ b ≠ W.heap.size + 1 ∧ b ≠ wr.heap.size ∧ ¬ (b < n₀ ∨ b = c1 ∨ b = c2)) := Lib.hid (fun b hb => by
        rcases hy' b hb with h | h
        · have := HYB.out b h
          exact ⟨by omega, this.2.1, this.2.2.1, by omega, this.2.2.2⟩
        · exact ⟨by omega, by omega, by omega, by omega, by omega⟩)
      have HJ2 := Lib.hid hj'
      have z5 : wb.cell? ⟨c2, 1, none⟩ = some (.slice p1 m k1) := (b2.keep (HU2.out.block c2 l2 (by omega))).b1
      have z6 : c2 < wb.heap.size := by omega
      clear hbk hu' hy' hj' HOF HFN HU HYB hy HR hA hj z0 z1 z2 hJ0
      have hbv0 : W.heap.size + 2 ≤ wr.heap.size := hsz
      have hbv1 : wr.heap.size < wb.heap.size := by omega
      clear hsz hs' z3
      generalize wr.heap.size = bv at *
      gi_wp2
      gi_loopw [6, 32] (fun cnt i wr => VRel2 (fun r => r < n₀ ∨ r = c1 ∨ r = c2) W.heap.size bv w P m v fs (J (fs.take k ++ [v])) cnt i wr) (fun _ i _ => m - (intOf i).toNat)
      case atStart => exact ⟨0, fs, Y', rfl, Nat.zero_le _, rfl, rfl, HJ2.out, HU2.out, by omega, HOF2.out, HFN2.out, oB.out, HYB2.out⟩
      case round =>
        generalize hQ2 : Exit.then _ _ = Q2
        have HQ2 := Lib.hid hQ2
        clear hQ2
        obtain ⟨q, gs, Y2, rfl, hqm, rfl, hgs, hj2, hu2, hsz2, hof2, hfn2, hbx2, hyb2⟩ := hrel
        have HGS := Lib.hid hgs
        have HU3 := Lib.hid hu2
        have HOF3 := Lib.hid hof2
        have HFN3 := Lib.hid hfn2
        have HBX3 := Lib.hid hbx2
        have HYB3 := Lib.hid hyb2
        have HJ3 := Lib.hid hj2
        clear hgs hu2 hof2 hfn2 hbx2 hyb2 hj2 HU2 HOF2 HFN2 oB HYB2 HJ2 z5 z6
        have w0 : wr.cell? ⟨bv, 0, none⟩ = some (.int .i64 v.nd) := HBX3.out.cell 0 (by omega)
        have w2 : wr.cell? ⟨bv, 2, none⟩ = some (.int .i64 v.ds) := HBX3.out.cell 2 (by omega)
        have w3 : bv < wr.heap.size := HBX3.out.lt
        by_cases hq : q < m
        · rcases g1.ex with ⟨p, cap, he, _, hcap, hc⟩
          injection he with e1 _ e2
          subst e1 e2
          rcases hc with h0 | ⟨b, o, rfl, hlo, hb, g3⟩
          · omega
          have g4 := g3.congrW (HU3.out.block b (by omega) (by simp; omega))
          have y0 : wr.cell? ⟨b, o + q * 5, none⟩ = some (.int .i64 (P q).f) := g4.cell q 0 hq (by omega)
          have y1 : wr.cell? ⟨b, o + q * 5 + 1, none⟩ = some (.int .i64 (P q).t) := g4.cell q 1 hq (by omega)
          have y2 : wr.cell? ⟨b, o + q * 5 + 2, none⟩ = some (.int .i64 (P q).k) := g4.cell q 2 hq (by omega)
          have y3 : wr.cell? ⟨b, o + q * 5 + 3, none⟩ = some (.int .i64 (P q).v) := g4.cell q 3 hq (by omega)
          have y4 : wr.cell? ⟨b, o + q * 5 + 4, none⟩ = some (.int .i64 (P q).l) := g4.cell q 4 hq (by omega)
          clear g3 g4
          have hpq := net_pip hB hq
          have hbP := boxedP wr (P q) 71
          cases hE : endB (P q) v.nd
          · gi_wp2
            refine ⟨trivial, fun _ => by omega, (callsIn_wide.2 (endsAt_any (P q) v.nd _)).mono ?_⟩
            rintro e w4 ⟨rfl, b4⟩
            have b5 : Below wr.heap.size wr w4 := (below_new wr _).trans (b4.mono (by simp))
            have hs4 := b5.size
            rw [hE]
            clear y0 y1 y2 y3 y4 w0 w2
            gi_wp2
            refine ⟨trivial, ?_⟩
            gi_wp2
            rw [← HQ2.out]
            refine ⟨⟨_, _, _, _, _, _, _, _, _, _, _, _, _, _, _, _, _, _, _, _, _, _, _, _, _, _, _, _, _, _, _, _, _, _, _, _, _, _, _, ?rel, rfl⟩, ?measure⟩
            case rel => exact ⟨q + 1, gs, Y2, by go_num, hq, rfl, by rw [vrow_succ, ← HGS.out]; unfold vadd; rw [hE]; rfl, hJ _ _ _ _ HJ3.out (Upd.of_below b5), HU3.out.trans (Upd.of_below b5), by omega, HOF3.out.below b5 (by omega), HFN3.out.keep (b5.block _ (by omega)), HBX3.out.below b5 w3, fun b hb => by have := HYB3.out b hb; exact ⟨by omega, this.2⟩⟩
            case measure => simp [intOf]; omega
          · obtain ⟨hz0, hz1⟩ := oth_rng hpq (y := v.nd)
            obtain ⟨Z, hZ⟩ := Int.eq_ofNat_of_zero_le hz0
            have HZ := Lib.hid hZ
            have q0 : (0 : Int) ≤ (Z : Int) := Int.natCast_nonneg _
            have q1 : (Z : Int) < 24 := by omega
            cases hF : vhas gs (Z : Int)
            · have okq := Vok.row hB ok hv (q + 1) (by omega)
              rw [vrow_succ, ← HGS.out] at okq
              have hadd : vadd P v gs q = gs ++ [⟨Z, q, v.ds + 1⟩] := by unfold vadd; rw [hE, HZ.out]; simp [hF]
              rw [hadd] at okq
              have hlg := okq.len
              simp only [List.length_append, List.length_cons, List.length_nil] at hlg
              have d0 := ok.ds0 k v hv
              have d1 := ok.dsle k v hv
              gi_wp2
              refine ⟨trivial, fun _ => by omega, (callsIn_wide.2 (endsAt_any (P q) v.nd _)).mono ?_⟩
              rintro e w4 ⟨rfl, b4⟩
              have b5 : Below wr.heap.size wr w4 := (below_new wr _).trans (b4.mono (by simp))
              have hs4 := b4.size
              simp only [World.size_alloc] at hs4
              rw [hE]
              have hbP4 := hbP.below b4 (by simp)
              have x0 : w4.cell? ⟨wr.heap.size, 0, none⟩ = some (.int .i64 (P q).f) := hbP4.cell 0 (by omega)
              have x1 : w4.cell? ⟨wr.heap.size, 1, none⟩ = some (.int .i64 (P q).t) := hbP4.cell 1 (by omega)
              have x2 : w4.cell? ⟨wr.heap.size, 2, none⟩ = some (.int .i64 (P q).k) := hbP4.cell 2 (by omega)
              have x3 : w4.cell? ⟨wr.heap.size, 3, none⟩ = some (.int .i64 (P q).v) := hbP4.cell 3 (by omega)
              have x4 : w4.cell? ⟨wr.heap.size, 4, none⟩ = some (.int .i64 (P q).l) := hbP4.cell 4 (by omega)
              have x5 : w4.cell? ⟨bv, 0, none⟩ = some (.int .i64 v.nd) := (HBX3.out.below b5 w3).cell 0 (by omega)
              clear y0 y1 y2 y3 y4 w0 w2
              gi_wp2
              refine ⟨trivial, fun _ => by omega, (callsIn_wide.2 (otherEnd_any (P q) v.nd _)).mono ?_⟩
              rintro e w5 ⟨rfl, b6⟩
              have b7 : Below wr.heap.size wr w5 := b5.trans (b6.mono (by omega))
              have hs5 := b6.size
              rw [HZ.out]
              have x6 : w5.cell? ⟨W.heap.size, Z, none⟩ = some (.bool (vhas gs (Z : Int))) := (HOF3.out.below b7 (by omega)).cell Z (by omega)
              rw [hF] at x6
              clear x0 x1 x2 x3 x4 x5
              have hbP5 := hbP4.below b6 (by omega)
              have x0 : w5.cell? ⟨wr.heap.size, 0, none⟩ = some (.int .i64 (P q).f) := hbP5.cell 0 (by omega)
              have x1 : w5.cell? ⟨wr.heap.size, 1, none⟩ = some (.int .i64 (P q).t) := hbP5.cell 1 (by omega)
              have x2 : w5.cell? ⟨wr.heap.size, 2, none⟩ = some (.int .i64 (P q).k) := hbP5.cell 2 (by omega)
              have x3 : w5.cell? ⟨wr.heap.size, 3, none⟩ = some (.int .i64 (P q).v) := hbP5.cell 3 (by omega)
              have x4 : w5.cell? ⟨wr.heap.size, 4, none⟩ = some (.int .i64 (P q).l) := hbP5.cell 4 (by omega)
              have x5 : w5.cell? ⟨bv, 0, none⟩ = some (.int .i64 v.nd) := (HBX3.out.below b7 w3).cell 0 (by omega)
              gi_wp2
              refine ⟨trivial, fun _ => by omega, (callsIn_wide.2 (otherEnd_any (P q) v.nd _)).mono ?_⟩
              rintro e w6 ⟨rfl, b8⟩
              have b9 : Below wr.heap.size wr w6 := b7.trans (b8.mono (by omega))
              have hs6 := b8.size
              rw [HZ.out]
              clear x0 x1 x2 x3 x4 x5 x6
              have hof6 := HOF3.out.below b9 (by omega)
              have hfn6 := HFN3.out.keep (b9.block _ (by omega))
              have hbx6 := HBX3.out.below b9 w3
              have x0 : w6.cell? ⟨W.heap.size, Z, none⟩ = some (.bool (vhas gs (Z : Int))) := hof6.cell Z (by omega)
              have x1 : w6.frozen? ⟨W.heap.size, Z, none⟩ = false := hof6.free Z
              have x2 : w6.cell? ⟨bv, 2, none⟩ = some (.int .i64 v.ds) := hbx6.cell 2 (by omega)
              have x3 : W.heap.size < w6.heap.size := by omega
              have x4 : W.heap.size + 1 < w6.heap.size := by omega
              have x5 : bv < w6.heap.size := by omega
              have q2 : (0 : Int) ≤ (gs.length : Int) := Int.natCast_nonneg _
              have q3 : (gs.length : Int) < 24 := by omega
              have f0 : w6.frozen? ⟨W.heap.size + 1, gs.length * 3, none⟩ = false := hfn6.free _
              have f1 : w6.frozen? ⟨W.heap.size + 1, gs.length * 3 + 1, none⟩ = false := hfn6.free _
              have f2 : w6.frozen? ⟨W.heap.size + 1, gs.length * 3 + 2, none⟩ = false := hfn6.free _
              obtain ⟨t0, f3⟩ := hfn6.has (gs.length * 3) (by omega)
              obtain ⟨t1, f4⟩ := hfn6.has (gs.length * 3 + 1) (by omega)
              obtain ⟨t2, f5⟩ := hfn6.has (gs.length * 3 + 2) (by omega)
              gi_wp2
              have k1' := flag_more hof6 ⟨(Z : Int), q, v.ds + 1⟩ Z (by omega) rfl
              have k2' := hfn6.keep (Below.heap_setCell w6 ⟨W.heap.size, Z, none⟩ (.bool true) (W.heap.size + 1) (by simp))
              have k3' := k2'.more ⟨(Z : Int), q, v.ds + 1⟩ (by omega)
              have o1 : Only (W.heap.size + 1) (w6.setCell ⟨W.heap.size, Z, none⟩ (.bool true)) _ := (((Only.refl (W.heap.size + 1) (w6.setCell ⟨W.heap.size, Z, none⟩ (.bool true))).setCell (gs.length * 3) (.int .i64 (Z : Int))).setCell (gs.length * 3 + 1) (.int .i64 (q : Int))).setCell (gs.length * 3 + 2) (.int .i64 (v.ds + 1))
              have o2 := (Only.refl W.heap.size w6).setCell Z (.bool true)
              have u1 : ∀ X : Nat → Prop, X W.heap.size → X (W.heap.size + 1) → Upd X w6 _ := fun X h1 h2 => ((Upd.of_only o2).mono (fun b _ e => by rw [e]; exact h1)).trans ((Upd.of_only o1).mono (fun b _ e => by rw [e]; exact h2))
              have hz9 := (u1 (fun _ => True) trivial trivial).size
              rw [← HQ2.out]
              refine ⟨⟨_, _, _, _, _, _, _, _, _, _, _, _, _, _, _, _, _, _, _, _, _, _, _, _, _, _, _, _, _, _, _, _, _, _, _, _, _, _, _, ?rel, rfl⟩, ?measure⟩
              case rel => exact ⟨q + 1, gs ++ [⟨(Z : Int), q, v.ds + 1⟩], Y2, by go_num, hq, by simp, by rw [vrow_succ, ← HGS.out, hadd], hJ _ _ _ _ HJ3.out ((Upd.of_below b9).trans (u1 _ (.inl rfl) (.inr rfl))), (HU3.out.trans (Upd.of_below b9)).trans (u1 _ (by omega) (by omega)), by omega, k1'.only o1 (by omega), k3', (hbx6.only o2 (by omega)).only o1 (by omega), fun b hb => by have := HYB3.out b hb; exact ⟨by omega, this.2⟩⟩
              case measure => simp [intOf]; omega
            · gi_wp2
              refine ⟨trivial, fun _ => by omega, (callsIn_wide.2 (endsAt_any (P q) v.nd _)).mono ?_⟩
              rintro e w4 ⟨rfl, b4⟩
              have b5 : Below wr.heap.size wr w4 := (below_new wr _).trans (b4.mono (by simp))
              have hs4 := b4.size
              simp only [World.size_alloc] at hs4
              rw [hE]
              have hbP4 := hbP.below b4 (by simp)
              have x0 : w4.cell? ⟨wr.heap.size, 0, none⟩ = some (.int .i64 (P q).f) := hbP4.cell 0 (by omega)
              have x1 : w4.cell? ⟨wr.heap.size, 1, none⟩ = some (.int .i64 (P q).t) := hbP4.cell 1 (by omega)
              have x2 : w4.cell? ⟨wr.heap.size, 2, none⟩ = some (.int .i64 (P q).k) := hbP4.cell 2 (by omega)
              have x3 : w4.cell? ⟨wr.heap.size, 3, none⟩ = some (.int .i64 (P q).v) := hbP4.cell 3 (by omega)
              have x4 : w4.cell? ⟨wr.heap.size, 4, none⟩ = some (.int .i64 (P q).l) := hbP4.cell 4 (by omega)
              have x5 : w4.cell? ⟨bv, 0, none⟩ = some (.int .i64 v.nd) := (HBX3.out.below b5 w3).cell 0 (by omega)
              clear y0 y1 y2 y3 y4 w0 w2
              gi_wp2
              refine ⟨trivial, fun _ => by omega, (callsIn_wide.2 (otherEnd_any (P q) v.nd _)).mono ?_⟩
              rintro e w5 ⟨rfl, b6⟩
              have b7 : Below wr.heap.size wr w5 := b5.trans (b6.mono (by omega))
              have hs5 := b6.size
              rw [HZ.out]
              have x6 : w5.cell? ⟨W.heap.size, Z, none⟩ = some (.bool (vhas gs (Z : Int))) := (HOF3.out.below b7 (by omega)).cell Z (by omega)
              rw [hF] at x6
              clear x0 x1 x2 x3 x4 x5
              gi_wp2
              rw [← HQ2.out]
              refine ⟨⟨_, _, _, _, _, _, _, _, _, _, _, _, _, _, _, _, _, _, _, _, _, _, _, _, _, _, _, _, _, _, _, _, _, _, _, _, _, _, _, ?rel, rfl⟩, ?measure⟩
              case rel => exact ⟨q + 1, gs, Y2, by go_num, hq, rfl, by rw [vrow_succ, ← HGS.out]; unfold vadd; rw [hE, HZ.out]; simp [hF], hJ _ _ _ _ HJ3.out (Upd.of_below b7), HU3.out.trans (Upd.of_below b7), by omega, HOF3.out.below b7 (by omega), HFN3.out.keep (b7.block _ (by omega)), HBX3.out.below b7 w3, fun b hb => by have := HYB3.out b hb; exact ⟨by omega, this.2⟩⟩
              case measure => simp [intOf]; omega
        · obtain rfl : q = m := by omega
          gi_wp2
          rw [← HQ2.out]
          gi_wp2
          have hgv : vup P q (X0 : Nat) (k + 1) = gs := by rw [HGS.out, HFS.out]; exact vup_succ (by rw [← HFS.out]; exact hv)
          have hpg : fs <+: gs := by rw [← hgv, HFS.out]; exact vup_pre1 _ _ _ _
          have hkg : k + 1 ≤ gs.length := Nat.le_trans hlt hpg.length_le
          have htk : gs.take (k + 1) = fs.take k ++ [v] := by rw [← take_pre hpg (by omega), take_one hv]
          rw [← HQ.out]
          refine ⟨⟨_, _, _, _, _, _, _, _, _, _, _, _, _, _, _, _, _, _, _, _, _, _, _, _, _, _, _, _, _, _, _, _, _, _, _, _, _, _, _, _, _, _, _, _, _, _, _, _, _, _, _, _, _, _, _, _, ?rel, rfl⟩, ?measure⟩
          case rel => exact ⟨k + 1, gs, Y2, by go_num, rfl, hgv.symm, hkg, by rw [htk]; exact HJ3.out, HU3.out, hsz2, HOF3.out, HFN3.out, fun b hb => by have := HYB3.out b hb; exact ⟨this.1, this.2.1, this.2.2.1, this.2.2.2.2⟩⟩
          case measure => simp [intOf]; omega
    · have j2 : ¬ ((k : Int) < (fs.length : Int)) := by omega
      generalize hQ : Exit.then _ _ = Q
      have HQ := Lib.hid hQ
      clear hQ
      gi_wp2
      rw [← HQ.out]
      gi_wp2
      have hend : fs = vis n P m (X0 : Nat) := by rw [HFS.out]; exact vup_end hB ⟨i0, by omega⟩ (by rw [← HFS.out]; omega) (by omega)
      have htk : fs.take k = vis n P m (X0 : Nat) := by rw [List.take_of_length_le (by omega)]; exact hend
      rw [htk] at hj
      go_end0
      exact ⟨⟨_, rfl⟩, Y, hj⟩
end Go.Proofs.Ytkgekaedpdgmdaa.mem
