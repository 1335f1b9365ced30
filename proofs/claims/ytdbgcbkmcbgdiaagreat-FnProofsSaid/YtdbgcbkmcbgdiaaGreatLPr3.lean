/-
  Several texts in one, part 3 of 6.
-/
import Derived.Test.YtdbgcbkmcbgdiaaGreatRows
import Derived.WalkKit
import Derived.ProofKit
import Derived.OpenShut
import Derived.Below
import Derived.ChangeSame
import Derived.ChangeSlices
import Derived.WideKeyArgs
import Derived.Lib.Hide
import Derived.RegionTactic
import Derived.BigRegion
import Derived.Deep.QuietTactic
import Derived.BigQuiet
import Derived.Outline
import Derived.OwnWalk
import Derived.Deep.RegionHeld3
import Derived.WalkSpells
import Derived.Maps.OwnSet
import Derived.Maps.OwnOps
import Derived.Deep.RegionHeldLaw
import Derived.Lib.ItoaNum
import Derived.Laws.IdiomStrings
import Derived.Lib.SmallJoins
import Derived.Deep.Slices
import Derived.Deep.Fields
import Derived.Laws.AppendOwn
import Derived.RangeFuncNested
import Derived.RangeFuncLeaves
import Derived.RangeFuncCalls
import Derived.Laws.CopyOwn
import Derived.Deep.Cut
import Derived.Deep.RegionLaw
import Derived.LoopIn
import Derived.TacticsIn
import Derived.RegionIn
import Derived.Shelf.SlicesE.Reverse
import Derived.Test.YtdbgcbkmcbgdiaaGreatLsr
import Derived.OwnWalkIn
import Derived.Sort.Grow
import Derived.Deep.WholeRow
import Derived.WalkMore
import Derived.Deep.MidRow
import Derived.Great.BuildSlice
import Derived.Deep.CutRange
import Derived.Deep.RegionWith
import Derived.Laws.StructEq
import Derived.StillTailTactics
import Derived.IntWalk
import Derived.Laws.EntriesVeiled
import Derived.Laws.ResultCell
import Derived.WideShapes
import Derived.Lib.MinMax
import Derived.Test.YtdbgcbkmcbgdiaaGreatLPr2

namespace Go.Proofs.YtdbgcbkmcbgdiaaGreat.mem
open Go.RowKit
set_option linter.unusedVariables false

theorem arr_len (x : Nat → Int) : (arrL x).length = 40 := by unfold arrL; simp
theorem arrL_get (x : Nat → Int) (k : Nat) (hk : k < 40) : (arrL x)[k]? = some (ia x k) := by unfold arrL; simp [hk]
theorem arr_oneL (x : Nat → Int) : ∀ v ∈ arrL x, v.oneCell' = true := fun v hv => by
  obtain ⟨k, _, rfl⟩ := List.mem_map.1 hv
  rfl
theorem Ob.range {w : World} {b : Nat} {x : Nat → Int} (h : Ob w b 40 (ia x)) : w.rangeAt b 0 (arrL x) := by
  intro j v hv
  have hj : j < 40 := by have := get_lt hv; rw [arr_len] at this; exact this
  rw [arrL_get x j hj] at hv
  injection hv with hv
  rw [Nat.zero_add, h.cell j hj, hv]
theorem Ob.there {w : World} {b N : Nat} {d : Nat → Value} (h : Ob w b N d) : w.there b 0 N := fun j hj => by
  rw [Nat.zero_add]
  exact ⟨by rw [h.cell j hj]; rfl, h.free j⟩
theorem there_lt {w : World} {b : Nat} (h : w.there b 0 40) : b < w.heap.size := by
  have := (h 0 (by omega)).1
  simp only [World.cell?] at this
  rcases Nat.lt_or_ge b w.heap.size with g | g
  · exact g
  · rw [Array.getElem?_eq_none g] at this
    cases this
theorem there_block {w w' : World} {b : Nat} (h : w.there b 0 40) (e : w'.heap[b]? = w.heap[b]?) : w'.there b 0 40 := fun j hj => by
  have := h j hj
  rw [World.cell?_of_block (a := ⟨b, 0 + j, none⟩) e, World.frozen?_of_block (a := ⟨b, 0 + j, none⟩) e]
  exact this
theorem range_block {w w' : World} {b : Nat} {cs : List Value} (h : w.rangeAt b 0 cs) (e : w'.heap[b]? = w.heap[b]?) : w'.rangeAt b 0 cs := fun j v hv => by
  rw [World.cell?_of_block (a := ⟨b, 0 + j, none⟩) e]
  exact h j v hv
theorem Only.setCs {g : Nat} {w : World} : ∀ (cs : List Value) (o : Nat) {w' : World}, Only g w w' → Only g w (w'.setCells g o cs)
  | [], _, _, h => h
  | v :: r, o, _, h => Only.setCs r (o + 1) (h.setCell o v)
theorem Ob.setCs {b N : Nat} : ∀ (cs : List Value) (o : Nat) {w : World} {d : Nat → Value}, Ob w b N d → o + cs.length ≤ N → Ob (w.setCells b o cs) b N (fun k => (if o ≤ k then cs[k - o]? else none).getD (d k))
  | [], o, w, d, h, _ => h.congr fun k _ => by simp
  | v :: r, o, w, d, h, hl => by
    simp only [List.length_cons] at hl
    have h1 := Ob.setCs r (o + 1) (h.set o v (by omega)) (by omega)
    refine h1.congr fun k hk => ?_
    unfold updV
    by_cases e : k = o
    · subst e
      rw [if_neg (show ¬ k + 1 ≤ k by omega), if_pos rfl, if_pos (Nat.le_refl k)]
      simp
    · rw [if_neg e]
      by_cases g : o + 1 ≤ k
      · rw [if_pos g, if_pos (show o ≤ k by omega), show k - o = (k - (o + 1)) + 1 by omega, List.getElem?_cons_succ]
      · rw [if_neg g, if_neg (show ¬ o ≤ k by omega)]
theorem Ob.setArr {w : World} {b : Nat} {d : Nat → Value} (h : Ob w b 40 d) (x : Nat → Int) : Ob (w.setCells b 0 (arrL x)) b 40 (ia x) := by
  refine (h.setCs (arrL x) 0 (by rw [arr_len]; omega)).congr fun k hk => ?_
  rw [if_pos (Nat.zero_le k), Nat.sub_zero, arrL_get x k hk]
  rfl

theorem below_sc {B b o : Nat} {w w' : World} {cs : List Value} (h : Below B w w') (hb : B ≤ b) : Below B w (w'.setCells b o cs) := h.trans (((Only.refl b w').setCs cs o).below hb)
theorem drew_size (w : World) : w.drew.heap.size = w.heap.size := rfl
theorem rangeAt_lt {w : World} {b : Nat} {cs : List Value} (h : w.rangeAt b 0 cs) (hc : 0 < cs.length) : b < w.heap.size := by
  have := h 0 cs[0] (List.getElem?_eq_getElem hc)
  simp only [World.cell?] at this
  rcases Nat.lt_or_ge b w.heap.size with g | g
  · exact g
  · rw [Array.getElem?_eq_none g] at this
    cases this
theorem zset (c : Nat) (hc : c < 40) (v : Int) : ([Value.int IntKind.i64 0, Value.int IntKind.i64 0, Value.int IntKind.i64 0, Value.int IntKind.i64 0, Value.int IntKind.i64 0, Value.int IntKind.i64 0, Value.int IntKind.i64 0, Value.int IntKind.i64 0, Value.int IntKind.i64 0, Value.int IntKind.i64 0, Value.int IntKind.i64 0, Value.int IntKind.i64 0, Value.int IntKind.i64 0, Value.int IntKind.i64 0, Value.int IntKind.i64 0, Value.int IntKind.i64 0, Value.int IntKind.i64 0, Value.int IntKind.i64 0, Value.int IntKind.i64 0, Value.int IntKind.i64 0, Value.int IntKind.i64 0, Value.int IntKind.i64 0, Value.int IntKind.i64 0, Value.int IntKind.i64 0, Value.int IntKind.i64 0, Value.int IntKind.i64 0, Value.int IntKind.i64 0, Value.int IntKind.i64 0, Value.int IntKind.i64 0, Value.int IntKind.i64 0, Value.int IntKind.i64 0, Value.int IntKind.i64 0, Value.int IntKind.i64 0, Value.int IntKind.i64 0, Value.int IntKind.i64 0, Value.int IntKind.i64 0, Value.int IntKind.i64 0, Value.int IntKind.i64 0, Value.int IntKind.i64 0, Value.int IntKind.i64 0].set c (.int .i64 v)).toArray = arr (upd (fun _ => 0) c v) := by
  refine arr_eq (by simp) fun k hk => ?_
  rw [List.getElem?_toArray, List.getElem?_set]
  unfold ia upd
  by_cases e : c = k
  · subst e
    rw [if_pos rfl, if_pos rfl]
    simp [hc]
  · rw [if_neg e, if_neg (fun g => e g.symm)]
    have h := zeros40 k hk
    rw [List.getElem?_toArray] at h
    exact h
set_option maxRecDepth 100000 in
set_option maxHeartbeats 8000000 in
theorem cycleOf_any (w : World) (v : Value) (n : Nat) (N : Nat → Nod) (m : Nat) (P : Nat → Pip) (lo hi : Nat) (h : NetAt w v n N m P lo hi) (hhi : hi ≤ w.heap.size) (hB : netB n N m P = true) (c : Nat) (hc : c < m) :
    Calls Tryz.prog 167 #[v, .int .i64 (c : Nat)] w fun e w' => e = .returned (.agg (arr (cyc P (fE n P m) (fD n P m) c))) ∧ Below w.heap.size w w' := by
  obtain ⟨p0, c0, p1, c1, rfl, hn9, hm9⟩ := h.parts
  obtain ⟨hn1, hn24, hm40⟩ := net_sz hB
  have HV := Lib.hid h
  have HB := Lib.hid hB
  have HFO := Lib.hid (fo_net (P := P) (m := m) hB)
  obtain ⟨hpf, hpt, _⟩ := pip_end (net_pip hB hc)
  have B1 := (below_new w (.cells #[.slice p0 n c0, .slice p1 m c1] 27)).trans ((below_new _ (.cells #[Value.int IntKind.i64 0, Value.int IntKind.i64 0, Value.int IntKind.i64 0, Value.int IntKind.i64 0, Value.int IntKind.i64 0, Value.int IntKind.i64 0, Value.int IntKind.i64 0, Value.int IntKind.i64 0, Value.int IntKind.i64 0, Value.int IntKind.i64 0, Value.int IntKind.i64 0, Value.int IntKind.i64 0, Value.int IntKind.i64 0, Value.int IntKind.i64 0, Value.int IntKind.i64 0, Value.int IntKind.i64 0, Value.int IntKind.i64 0, Value.int IntKind.i64 0, Value.int IntKind.i64 0, Value.int IntKind.i64 0, Value.int IntKind.i64 0, Value.int IntKind.i64 0, Value.int IntKind.i64 0, Value.int IntKind.i64 0, Value.int IntKind.i64 0, Value.int IntKind.i64 0, Value.int IntKind.i64 0, Value.int IntKind.i64 0, Value.int IntKind.i64 0, Value.int IntKind.i64 0, Value.int IntKind.i64 0, Value.int IntKind.i64 0, Value.int IntKind.i64 0, Value.int IntKind.i64 0, Value.int IntKind.i64 0, Value.int IntKind.i64 0, Value.int IntKind.i64 0, Value.int IntKind.i64 0, Value.int IntKind.i64 0, Value.int IntKind.i64 0] 111)).mono (by simp only [World.size_alloc]; omega))
  have A1 := (boxed w (.slice p0 n c0) (.slice p1 m c1) 27).keep (Below.heap_alloc _ (.cells #[Value.int IntKind.i64 0, Value.int IntKind.i64 0, Value.int IntKind.i64 0, Value.int IntKind.i64 0, Value.int IntKind.i64 0, Value.int IntKind.i64 0, Value.int IntKind.i64 0, Value.int IntKind.i64 0, Value.int IntKind.i64 0, Value.int IntKind.i64 0, Value.int IntKind.i64 0, Value.int IntKind.i64 0, Value.int IntKind.i64 0, Value.int IntKind.i64 0, Value.int IntKind.i64 0, Value.int IntKind.i64 0, Value.int IntKind.i64 0, Value.int IntKind.i64 0, Value.int IntKind.i64 0, Value.int IntKind.i64 0, Value.int IntKind.i64 0, Value.int IntKind.i64 0, Value.int IntKind.i64 0, Value.int IntKind.i64 0, Value.int IntKind.i64 0, Value.int IntKind.i64 0, Value.int IntKind.i64 0, Value.int IntKind.i64 0, Value.int IntKind.i64 0, Value.int IntKind.i64 0, Value.int IntKind.i64 0, Value.int IntKind.i64 0, Value.int IntKind.i64 0, Value.int IntKind.i64 0, Value.int IntKind.i64 0, Value.int IntKind.i64 0, Value.int IntKind.i64 0, Value.int IntKind.i64 0, Value.int IntKind.i64 0, Value.int IntKind.i64 0] 111) _ (by simp only [World.size_alloc]; omega))
  have R1 := Ob.new0 (w.alloc (.cells #[.slice p0 n c0, .slice p1 m c1] 27)) 111
  simp only [World.size_alloc] at R1
  obtain ⟨bp, op, rfl, q1, q2, r0, r1, r2, r3, r4⟩ := (h.below B1 hhi).pipe hc
  have e0 := A1.b0
  have e1 := A1.b1
  have k0 : (0 : Int) ≤ (c : Int) := Int.natCast_nonneg _
  have k1 : (c : Int) < (m : Int) := by omega
  have k2 : (c : Int) < 40 := by omega
  have hc40 : c < 40 := by omega
  have A4 := (A1.keep (Below.heap_alloc ((w.alloc (.cells #[.slice p0 n c0, .slice (some ⟨bp, op, none⟩) m c1] 27)).alloc (.cells #[Value.int IntKind.i64 0, Value.int IntKind.i64 0, Value.int IntKind.i64 0, Value.int IntKind.i64 0, Value.int IntKind.i64 0, Value.int IntKind.i64 0, Value.int IntKind.i64 0, Value.int IntKind.i64 0, Value.int IntKind.i64 0, Value.int IntKind.i64 0, Value.int IntKind.i64 0, Value.int IntKind.i64 0, Value.int IntKind.i64 0, Value.int IntKind.i64 0, Value.int IntKind.i64 0, Value.int IntKind.i64 0, Value.int IntKind.i64 0, Value.int IntKind.i64 0, Value.int IntKind.i64 0, Value.int IntKind.i64 0, Value.int IntKind.i64 0, Value.int IntKind.i64 0, Value.int IntKind.i64 0, Value.int IntKind.i64 0, Value.int IntKind.i64 0, Value.int IntKind.i64 0, Value.int IntKind.i64 0, Value.int IntKind.i64 0, Value.int IntKind.i64 0, Value.int IntKind.i64 0, Value.int IntKind.i64 0, Value.int IntKind.i64 0, Value.int IntKind.i64 0, Value.int IntKind.i64 0, Value.int IntKind.i64 0, Value.int IntKind.i64 0, Value.int IntKind.i64 0, Value.int IntKind.i64 0, Value.int IntKind.i64 0, Value.int IntKind.i64 0] 111)) (.cells #[.int .i64 (P c).f, .int .i64 (P c).t, .int .i64 (P c).k, .int .i64 (P c).v, .int .i64 (P c).l] 121) _ (by simp only [World.size_alloc]; omega))).keep (Below.heap_alloc (((w.alloc (.cells #[.slice p0 n c0, .slice (some ⟨bp, op, none⟩) m c1] 27)).alloc (.cells #[Value.int IntKind.i64 0, Value.int IntKind.i64 0, Value.int IntKind.i64 0, Value.int IntKind.i64 0, Value.int IntKind.i64 0, Value.int IntKind.i64 0, Value.int IntKind.i64 0, Value.int IntKind.i64 0, Value.int IntKind.i64 0, Value.int IntKind.i64 0, Value.int IntKind.i64 0, Value.int IntKind.i64 0, Value.int IntKind.i64 0, Value.int IntKind.i64 0, Value.int IntKind.i64 0, Value.int IntKind.i64 0, Value.int IntKind.i64 0, Value.int IntKind.i64 0, Value.int IntKind.i64 0, Value.int IntKind.i64 0, Value.int IntKind.i64 0, Value.int IntKind.i64 0, Value.int IntKind.i64 0, Value.int IntKind.i64 0, Value.int IntKind.i64 0, Value.int IntKind.i64 0, Value.int IntKind.i64 0, Value.int IntKind.i64 0, Value.int IntKind.i64 0, Value.int IntKind.i64 0, Value.int IntKind.i64 0, Value.int IntKind.i64 0, Value.int IntKind.i64 0, Value.int IntKind.i64 0, Value.int IntKind.i64 0, Value.int IntKind.i64 0, Value.int IntKind.i64 0, Value.int IntKind.i64 0, Value.int IntKind.i64 0, Value.int IntKind.i64 0] 111)).alloc (.cells #[.int .i64 (P c).f, .int .i64 (P c).t, .int .i64 (P c).k, .int .i64 (P c).v, .int .i64 (P c).l] 121)) (.cells ([Value.int IntKind.i64 0, Value.int IntKind.i64 0, Value.int IntKind.i64 0, Value.int IntKind.i64 0, Value.int IntKind.i64 0, Value.int IntKind.i64 0, Value.int IntKind.i64 0, Value.int IntKind.i64 0, Value.int IntKind.i64 0, Value.int IntKind.i64 0, Value.int IntKind.i64 0, Value.int IntKind.i64 0, Value.int IntKind.i64 0, Value.int IntKind.i64 0, Value.int IntKind.i64 0, Value.int IntKind.i64 0, Value.int IntKind.i64 0, Value.int IntKind.i64 0, Value.int IntKind.i64 0, Value.int IntKind.i64 0, Value.int IntKind.i64 0, Value.int IntKind.i64 0, Value.int IntKind.i64 0, Value.int IntKind.i64 0, Value.int IntKind.i64 0, Value.int IntKind.i64 0, Value.int IntKind.i64 0, Value.int IntKind.i64 0, Value.int IntKind.i64 0, Value.int IntKind.i64 0, Value.int IntKind.i64 0, Value.int IntKind.i64 0, Value.int IntKind.i64 0, Value.int IntKind.i64 0, Value.int IntKind.i64 0, Value.int IntKind.i64 0, Value.int IntKind.i64 0, Value.int IntKind.i64 0, Value.int IntKind.i64 0, Value.int IntKind.i64 0].set c (.int .i64 1)).toArray 111) _ (by simp only [World.size_alloc]; omega))
  have R4 := (R1.keep (Below.heap_alloc ((w.alloc (.cells #[.slice p0 n c0, .slice (some ⟨bp, op, none⟩) m c1] 27)).alloc (.cells #[Value.int IntKind.i64 0, Value.int IntKind.i64 0, Value.int IntKind.i64 0, Value.int IntKind.i64 0, Value.int IntKind.i64 0, Value.int IntKind.i64 0, Value.int IntKind.i64 0, Value.int IntKind.i64 0, Value.int IntKind.i64 0, Value.int IntKind.i64 0, Value.int IntKind.i64 0, Value.int IntKind.i64 0, Value.int IntKind.i64 0, Value.int IntKind.i64 0, Value.int IntKind.i64 0, Value.int IntKind.i64 0, Value.int IntKind.i64 0, Value.int IntKind.i64 0, Value.int IntKind.i64 0, Value.int IntKind.i64 0, Value.int IntKind.i64 0, Value.int IntKind.i64 0, Value.int IntKind.i64 0, Value.int IntKind.i64 0, Value.int IntKind.i64 0, Value.int IntKind.i64 0, Value.int IntKind.i64 0, Value.int IntKind.i64 0, Value.int IntKind.i64 0, Value.int IntKind.i64 0, Value.int IntKind.i64 0, Value.int IntKind.i64 0, Value.int IntKind.i64 0, Value.int IntKind.i64 0, Value.int IntKind.i64 0, Value.int IntKind.i64 0, Value.int IntKind.i64 0, Value.int IntKind.i64 0, Value.int IntKind.i64 0, Value.int IntKind.i64 0] 111)) (.cells #[.int .i64 (P c).f, .int .i64 (P c).t, .int .i64 (P c).k, .int .i64 (P c).v, .int .i64 (P c).l] 121) _ (by simp only [World.size_alloc]; omega))).keep (Below.heap_alloc (((w.alloc (.cells #[.slice p0 n c0, .slice (some ⟨bp, op, none⟩) m c1] 27)).alloc (.cells #[Value.int IntKind.i64 0, Value.int IntKind.i64 0, Value.int IntKind.i64 0, Value.int IntKind.i64 0, Value.int IntKind.i64 0, Value.int IntKind.i64 0, Value.int IntKind.i64 0, Value.int IntKind.i64 0, Value.int IntKind.i64 0, Value.int IntKind.i64 0, Value.int IntKind.i64 0, Value.int IntKind.i64 0, Value.int IntKind.i64 0, Value.int IntKind.i64 0, Value.int IntKind.i64 0, Value.int IntKind.i64 0, Value.int IntKind.i64 0, Value.int IntKind.i64 0, Value.int IntKind.i64 0, Value.int IntKind.i64 0, Value.int IntKind.i64 0, Value.int IntKind.i64 0, Value.int IntKind.i64 0, Value.int IntKind.i64 0, Value.int IntKind.i64 0, Value.int IntKind.i64 0, Value.int IntKind.i64 0, Value.int IntKind.i64 0, Value.int IntKind.i64 0, Value.int IntKind.i64 0, Value.int IntKind.i64 0, Value.int IntKind.i64 0, Value.int IntKind.i64 0, Value.int IntKind.i64 0, Value.int IntKind.i64 0, Value.int IntKind.i64 0, Value.int IntKind.i64 0, Value.int IntKind.i64 0, Value.int IntKind.i64 0, Value.int IntKind.i64 0] 111)).alloc (.cells #[.int .i64 (P c).f, .int .i64 (P c).t, .int .i64 (P c).k, .int .i64 (P c).v, .int .i64 (P c).l] 121)) (.cells ([Value.int IntKind.i64 0, Value.int IntKind.i64 0, Value.int IntKind.i64 0, Value.int IntKind.i64 0, Value.int IntKind.i64 0, Value.int IntKind.i64 0, Value.int IntKind.i64 0, Value.int IntKind.i64 0, Value.int IntKind.i64 0, Value.int IntKind.i64 0, Value.int IntKind.i64 0, Value.int IntKind.i64 0, Value.int IntKind.i64 0, Value.int IntKind.i64 0, Value.int IntKind.i64 0, Value.int IntKind.i64 0, Value.int IntKind.i64 0, Value.int IntKind.i64 0, Value.int IntKind.i64 0, Value.int IntKind.i64 0, Value.int IntKind.i64 0, Value.int IntKind.i64 0, Value.int IntKind.i64 0, Value.int IntKind.i64 0, Value.int IntKind.i64 0, Value.int IntKind.i64 0, Value.int IntKind.i64 0, Value.int IntKind.i64 0, Value.int IntKind.i64 0, Value.int IntKind.i64 0, Value.int IntKind.i64 0, Value.int IntKind.i64 0, Value.int IntKind.i64 0, Value.int IntKind.i64 0, Value.int IntKind.i64 0, Value.int IntKind.i64 0, Value.int IntKind.i64 0, Value.int IntKind.i64 0, Value.int IntKind.i64 0, Value.int IntKind.i64 0].set c (.int .i64 1)).toArray 111) _ (by simp only [World.size_alloc]; omega))
  have P4 := (Ob.new ((w.alloc (.cells #[.slice p0 n c0, .slice (some ⟨bp, op, none⟩) m c1] 27)).alloc (.cells #[Value.int IntKind.i64 0, Value.int IntKind.i64 0, Value.int IntKind.i64 0, Value.int IntKind.i64 0, Value.int IntKind.i64 0, Value.int IntKind.i64 0, Value.int IntKind.i64 0, Value.int IntKind.i64 0, Value.int IntKind.i64 0, Value.int IntKind.i64 0, Value.int IntKind.i64 0, Value.int IntKind.i64 0, Value.int IntKind.i64 0, Value.int IntKind.i64 0, Value.int IntKind.i64 0, Value.int IntKind.i64 0, Value.int IntKind.i64 0, Value.int IntKind.i64 0, Value.int IntKind.i64 0, Value.int IntKind.i64 0, Value.int IntKind.i64 0, Value.int IntKind.i64 0, Value.int IntKind.i64 0, Value.int IntKind.i64 0, Value.int IntKind.i64 0, Value.int IntKind.i64 0, Value.int IntKind.i64 0, Value.int IntKind.i64 0, Value.int IntKind.i64 0, Value.int IntKind.i64 0, Value.int IntKind.i64 0, Value.int IntKind.i64 0, Value.int IntKind.i64 0, Value.int IntKind.i64 0, Value.int IntKind.i64 0, Value.int IntKind.i64 0, Value.int IntKind.i64 0, Value.int IntKind.i64 0, Value.int IntKind.i64 0, Value.int IntKind.i64 0] 111)) #[.int .i64 (P c).f, .int .i64 (P c).t, .int .i64 (P c).k, .int .i64 (P c).v, .int .i64 (P c).l] 121 5 (fun j => (#[.int .i64 (P c).f, .int .i64 (P c).t, .int .i64 (P c).k, .int .i64 (P c).v, .int .i64 (P c).l] : Array Value)[j]!) rfl (fun k hk => by rcases (by omega : k = 0 ∨ k = 1 ∨ k = 2 ∨ k = 3 ∨ k = 4) with rfl | rfl | rfl | rfl | rfl <;> rfl)).keep (Below.heap_alloc (((w.alloc (.cells #[.slice p0 n c0, .slice (some ⟨bp, op, none⟩) m c1] 27)).alloc (.cells #[Value.int IntKind.i64 0, Value.int IntKind.i64 0, Value.int IntKind.i64 0, Value.int IntKind.i64 0, Value.int IntKind.i64 0, Value.int IntKind.i64 0, Value.int IntKind.i64 0, Value.int IntKind.i64 0, Value.int IntKind.i64 0, Value.int IntKind.i64 0, Value.int IntKind.i64 0, Value.int IntKind.i64 0, Value.int IntKind.i64 0, Value.int IntKind.i64 0, Value.int IntKind.i64 0, Value.int IntKind.i64 0, Value.int IntKind.i64 0, Value.int IntKind.i64 0, Value.int IntKind.i64 0, Value.int IntKind.i64 0, Value.int IntKind.i64 0, Value.int IntKind.i64 0, Value.int IntKind.i64 0, Value.int IntKind.i64 0, Value.int IntKind.i64 0, Value.int IntKind.i64 0, Value.int IntKind.i64 0, Value.int IntKind.i64 0, Value.int IntKind.i64 0, Value.int IntKind.i64 0, Value.int IntKind.i64 0, Value.int IntKind.i64 0, Value.int IntKind.i64 0, Value.int IntKind.i64 0, Value.int IntKind.i64 0, Value.int IntKind.i64 0, Value.int IntKind.i64 0, Value.int IntKind.i64 0, Value.int IntKind.i64 0, Value.int IntKind.i64 0] 111)).alloc (.cells #[.int .i64 (P c).f, .int .i64 (P c).t, .int .i64 (P c).k, .int .i64 (P c).v, .int .i64 (P c).l] 121)) (.cells ([Value.int IntKind.i64 0, Value.int IntKind.i64 0, Value.int IntKind.i64 0, Value.int IntKind.i64 0, Value.int IntKind.i64 0, Value.int IntKind.i64 0, Value.int IntKind.i64 0, Value.int IntKind.i64 0, Value.int IntKind.i64 0, Value.int IntKind.i64 0, Value.int IntKind.i64 0, Value.int IntKind.i64 0, Value.int IntKind.i64 0, Value.int IntKind.i64 0, Value.int IntKind.i64 0, Value.int IntKind.i64 0, Value.int IntKind.i64 0, Value.int IntKind.i64 0, Value.int IntKind.i64 0, Value.int IntKind.i64 0, Value.int IntKind.i64 0, Value.int IntKind.i64 0, Value.int IntKind.i64 0, Value.int IntKind.i64 0, Value.int IntKind.i64 0, Value.int IntKind.i64 0, Value.int IntKind.i64 0, Value.int IntKind.i64 0, Value.int IntKind.i64 0, Value.int IntKind.i64 0, Value.int IntKind.i64 0, Value.int IntKind.i64 0, Value.int IntKind.i64 0, Value.int IntKind.i64 0, Value.int IntKind.i64 0, Value.int IntKind.i64 0, Value.int IntKind.i64 0, Value.int IntKind.i64 0, Value.int IntKind.i64 0, Value.int IntKind.i64 0].set c (.int .i64 1)).toArray 111) _ (by simp only [World.size_alloc]; omega))
  have C4' := Ob.new (((w.alloc (.cells #[.slice p0 n c0, .slice (some ⟨bp, op, none⟩) m c1] 27)).alloc (.cells #[Value.int IntKind.i64 0, Value.int IntKind.i64 0, Value.int IntKind.i64 0, Value.int IntKind.i64 0, Value.int IntKind.i64 0, Value.int IntKind.i64 0, Value.int IntKind.i64 0, Value.int IntKind.i64 0, Value.int IntKind.i64 0, Value.int IntKind.i64 0, Value.int IntKind.i64 0, Value.int IntKind.i64 0, Value.int IntKind.i64 0, Value.int IntKind.i64 0, Value.int IntKind.i64 0, Value.int IntKind.i64 0, Value.int IntKind.i64 0, Value.int IntKind.i64 0, Value.int IntKind.i64 0, Value.int IntKind.i64 0, Value.int IntKind.i64 0, Value.int IntKind.i64 0, Value.int IntKind.i64 0, Value.int IntKind.i64 0, Value.int IntKind.i64 0, Value.int IntKind.i64 0, Value.int IntKind.i64 0, Value.int IntKind.i64 0, Value.int IntKind.i64 0, Value.int IntKind.i64 0, Value.int IntKind.i64 0, Value.int IntKind.i64 0, Value.int IntKind.i64 0, Value.int IntKind.i64 0, Value.int IntKind.i64 0, Value.int IntKind.i64 0, Value.int IntKind.i64 0, Value.int IntKind.i64 0, Value.int IntKind.i64 0, Value.int IntKind.i64 0] 111)).alloc (.cells #[.int .i64 (P c).f, .int .i64 (P c).t, .int .i64 (P c).k, .int .i64 (P c).v, .int .i64 (P c).l] 121)) ([Value.int IntKind.i64 0, Value.int IntKind.i64 0, Value.int IntKind.i64 0, Value.int IntKind.i64 0, Value.int IntKind.i64 0, Value.int IntKind.i64 0, Value.int IntKind.i64 0, Value.int IntKind.i64 0, Value.int IntKind.i64 0, Value.int IntKind.i64 0, Value.int IntKind.i64 0, Value.int IntKind.i64 0, Value.int IntKind.i64 0, Value.int IntKind.i64 0, Value.int IntKind.i64 0, Value.int IntKind.i64 0, Value.int IntKind.i64 0, Value.int IntKind.i64 0, Value.int IntKind.i64 0, Value.int IntKind.i64 0, Value.int IntKind.i64 0, Value.int IntKind.i64 0, Value.int IntKind.i64 0, Value.int IntKind.i64 0, Value.int IntKind.i64 0, Value.int IntKind.i64 0, Value.int IntKind.i64 0, Value.int IntKind.i64 0, Value.int IntKind.i64 0, Value.int IntKind.i64 0, Value.int IntKind.i64 0, Value.int IntKind.i64 0, Value.int IntKind.i64 0, Value.int IntKind.i64 0, Value.int IntKind.i64 0, Value.int IntKind.i64 0, Value.int IntKind.i64 0, Value.int IntKind.i64 0, Value.int IntKind.i64 0, Value.int IntKind.i64 0].set c (.int .i64 1)).toArray 111 40 (ia (one1 c)) (by simp) (fun k hk => by
    rw [zset c hc40 1, arr_get _ k hk]
    rfl)
  simp only [World.size_alloc] at P4 C4'
  have B4 := (B1.trans ((below_new ((w.alloc (.cells #[.slice p0 n c0, .slice (some ⟨bp, op, none⟩) m c1] 27)).alloc (.cells #[Value.int IntKind.i64 0, Value.int IntKind.i64 0, Value.int IntKind.i64 0, Value.int IntKind.i64 0, Value.int IntKind.i64 0, Value.int IntKind.i64 0, Value.int IntKind.i64 0, Value.int IntKind.i64 0, Value.int IntKind.i64 0, Value.int IntKind.i64 0, Value.int IntKind.i64 0, Value.int IntKind.i64 0, Value.int IntKind.i64 0, Value.int IntKind.i64 0, Value.int IntKind.i64 0, Value.int IntKind.i64 0, Value.int IntKind.i64 0, Value.int IntKind.i64 0, Value.int IntKind.i64 0, Value.int IntKind.i64 0, Value.int IntKind.i64 0, Value.int IntKind.i64 0, Value.int IntKind.i64 0, Value.int IntKind.i64 0, Value.int IntKind.i64 0, Value.int IntKind.i64 0, Value.int IntKind.i64 0, Value.int IntKind.i64 0, Value.int IntKind.i64 0, Value.int IntKind.i64 0, Value.int IntKind.i64 0, Value.int IntKind.i64 0, Value.int IntKind.i64 0, Value.int IntKind.i64 0, Value.int IntKind.i64 0, Value.int IntKind.i64 0, Value.int IntKind.i64 0, Value.int IntKind.i64 0, Value.int IntKind.i64 0, Value.int IntKind.i64 0] 111)) (.cells #[.int .i64 (P c).f, .int .i64 (P c).t, .int .i64 (P c).k, .int .i64 (P c).v, .int .i64 (P c).l] 121)).mono (by simp only [World.size_alloc]; omega))).trans ((below_new (((w.alloc (.cells #[.slice p0 n c0, .slice (some ⟨bp, op, none⟩) m c1] 27)).alloc (.cells #[Value.int IntKind.i64 0, Value.int IntKind.i64 0, Value.int IntKind.i64 0, Value.int IntKind.i64 0, Value.int IntKind.i64 0, Value.int IntKind.i64 0, Value.int IntKind.i64 0, Value.int IntKind.i64 0, Value.int IntKind.i64 0, Value.int IntKind.i64 0, Value.int IntKind.i64 0, Value.int IntKind.i64 0, Value.int IntKind.i64 0, Value.int IntKind.i64 0, Value.int IntKind.i64 0, Value.int IntKind.i64 0, Value.int IntKind.i64 0, Value.int IntKind.i64 0, Value.int IntKind.i64 0, Value.int IntKind.i64 0, Value.int IntKind.i64 0, Value.int IntKind.i64 0, Value.int IntKind.i64 0, Value.int IntKind.i64 0, Value.int IntKind.i64 0, Value.int IntKind.i64 0, Value.int IntKind.i64 0, Value.int IntKind.i64 0, Value.int IntKind.i64 0, Value.int IntKind.i64 0, Value.int IntKind.i64 0, Value.int IntKind.i64 0, Value.int IntKind.i64 0, Value.int IntKind.i64 0, Value.int IntKind.i64 0, Value.int IntKind.i64 0, Value.int IntKind.i64 0, Value.int IntKind.i64 0, Value.int IntKind.i64 0, Value.int IntKind.i64 0] 111)).alloc (.cells #[.int .i64 (P c).f, .int .i64 (P c).t, .int .i64 (P c).k, .int .i64 (P c).v, .int .i64 (P c).l] 121)) (.cells ([Value.int IntKind.i64 0, Value.int IntKind.i64 0, Value.int IntKind.i64 0, Value.int IntKind.i64 0, Value.int IntKind.i64 0, Value.int IntKind.i64 0, Value.int IntKind.i64 0, Value.int IntKind.i64 0, Value.int IntKind.i64 0, Value.int IntKind.i64 0, Value.int IntKind.i64 0, Value.int IntKind.i64 0, Value.int IntKind.i64 0, Value.int IntKind.i64 0, Value.int IntKind.i64 0, Value.int IntKind.i64 0, Value.int IntKind.i64 0, Value.int IntKind.i64 0, Value.int IntKind.i64 0, Value.int IntKind.i64 0, Value.int IntKind.i64 0, Value.int IntKind.i64 0, Value.int IntKind.i64 0, Value.int IntKind.i64 0, Value.int IntKind.i64 0, Value.int IntKind.i64 0, Value.int IntKind.i64 0, Value.int IntKind.i64 0, Value.int IntKind.i64 0, Value.int IntKind.i64 0, Value.int IntKind.i64 0, Value.int IntKind.i64 0, Value.int IntKind.i64 0, Value.int IntKind.i64 0, Value.int IntKind.i64 0, Value.int IntKind.i64 0, Value.int IntKind.i64 0, Value.int IntKind.i64 0, Value.int IntKind.i64 0, Value.int IntKind.i64 0].set c (.int .i64 1)).toArray 111)).mono (by simp only [World.size_alloc]; omega))
  have hs4 : ((((w.alloc (.cells #[.slice p0 n c0, .slice (some ⟨bp, op, none⟩) m c1] 27)).alloc (.cells #[Value.int IntKind.i64 0, Value.int IntKind.i64 0, Value.int IntKind.i64 0, Value.int IntKind.i64 0, Value.int IntKind.i64 0, Value.int IntKind.i64 0, Value.int IntKind.i64 0, Value.int IntKind.i64 0, Value.int IntKind.i64 0, Value.int IntKind.i64 0, Value.int IntKind.i64 0, Value.int IntKind.i64 0, Value.int IntKind.i64 0, Value.int IntKind.i64 0, Value.int IntKind.i64 0, Value.int IntKind.i64 0, Value.int IntKind.i64 0, Value.int IntKind.i64 0, Value.int IntKind.i64 0, Value.int IntKind.i64 0, Value.int IntKind.i64 0, Value.int IntKind.i64 0, Value.int IntKind.i64 0, Value.int IntKind.i64 0, Value.int IntKind.i64 0, Value.int IntKind.i64 0, Value.int IntKind.i64 0, Value.int IntKind.i64 0, Value.int IntKind.i64 0, Value.int IntKind.i64 0, Value.int IntKind.i64 0, Value.int IntKind.i64 0, Value.int IntKind.i64 0, Value.int IntKind.i64 0, Value.int IntKind.i64 0, Value.int IntKind.i64 0, Value.int IntKind.i64 0, Value.int IntKind.i64 0, Value.int IntKind.i64 0, Value.int IntKind.i64 0] 111)).alloc (.cells #[.int .i64 (P c).f, .int .i64 (P c).t, .int .i64 (P c).k, .int .i64 (P c).v, .int .i64 (P c).l] 121)).alloc (.cells ([Value.int IntKind.i64 0, Value.int IntKind.i64 0, Value.int IntKind.i64 0, Value.int IntKind.i64 0, Value.int IntKind.i64 0, Value.int IntKind.i64 0, Value.int IntKind.i64 0, Value.int IntKind.i64 0, Value.int IntKind.i64 0, Value.int IntKind.i64 0, Value.int IntKind.i64 0, Value.int IntKind.i64 0, Value.int IntKind.i64 0, Value.int IntKind.i64 0, Value.int IntKind.i64 0, Value.int IntKind.i64 0, Value.int IntKind.i64 0, Value.int IntKind.i64 0, Value.int IntKind.i64 0, Value.int IntKind.i64 0, Value.int IntKind.i64 0, Value.int IntKind.i64 0, Value.int IntKind.i64 0, Value.int IntKind.i64 0, Value.int IntKind.i64 0, Value.int IntKind.i64 0, Value.int IntKind.i64 0, Value.int IntKind.i64 0, Value.int IntKind.i64 0, Value.int IntKind.i64 0, Value.int IntKind.i64 0, Value.int IntKind.i64 0, Value.int IntKind.i64 0, Value.int IntKind.i64 0, Value.int IntKind.i64 0, Value.int IntKind.i64 0, Value.int IntKind.i64 0, Value.int IntKind.i64 0, Value.int IntKind.i64 0, Value.int IntKind.i64 0].set c (.int .i64 1)).toArray 111)).heap.size = w.heap.size + 1 + 1 + 1 + 1 := by simp only [World.size_alloc]
  clear h hB
  go_enter Tryz.func167, Tryz.ntmps167
  go_wp2_with fail
  obtain ⟨w4, hw4⟩ : ∃ w4, ((((w.alloc (.cells #[.slice p0 n c0, .slice (some ⟨bp, op, none⟩) m c1] 27)).alloc (.cells #[Value.int IntKind.i64 0, Value.int IntKind.i64 0, Value.int IntKind.i64 0, Value.int IntKind.i64 0, Value.int IntKind.i64 0, Value.int IntKind.i64 0, Value.int IntKind.i64 0, Value.int IntKind.i64 0, Value.int IntKind.i64 0, Value.int IntKind.i64 0, Value.int IntKind.i64 0, Value.int IntKind.i64 0, Value.int IntKind.i64 0, Value.int IntKind.i64 0, Value.int IntKind.i64 0, Value.int IntKind.i64 0, Value.int IntKind.i64 0, Value.int IntKind.i64 0, Value.int IntKind.i64 0, Value.int IntKind.i64 0, Value.int IntKind.i64 0, Value.int IntKind.i64 0, Value.int IntKind.i64 0, Value.int IntKind.i64 0, Value.int IntKind.i64 0, Value.int IntKind.i64 0, Value.int IntKind.i64 0, Value.int IntKind.i64 0, Value.int IntKind.i64 0, Value.int IntKind.i64 0, Value.int IntKind.i64 0, Value.int IntKind.i64 0, Value.int IntKind.i64 0, Value.int IntKind.i64 0, Value.int IntKind.i64 0, Value.int IntKind.i64 0, Value.int IntKind.i64 0, Value.int IntKind.i64 0, Value.int IntKind.i64 0, Value.int IntKind.i64 0] 111)).alloc (.cells #[.int .i64 (P c).f, .int .i64 (P c).t, .int .i64 (P c).k, .int .i64 (P c).v, .int .i64 (P c).l] 121)).alloc (.cells ([Value.int IntKind.i64 0, Value.int IntKind.i64 0, Value.int IntKind.i64 0, Value.int IntKind.i64 0, Value.int IntKind.i64 0, Value.int IntKind.i64 0, Value.int IntKind.i64 0, Value.int IntKind.i64 0, Value.int IntKind.i64 0, Value.int IntKind.i64 0, Value.int IntKind.i64 0, Value.int IntKind.i64 0, Value.int IntKind.i64 0, Value.int IntKind.i64 0, Value.int IntKind.i64 0, Value.int IntKind.i64 0, Value.int IntKind.i64 0, Value.int IntKind.i64 0, Value.int IntKind.i64 0, Value.int IntKind.i64 0, Value.int IntKind.i64 0, Value.int IntKind.i64 0, Value.int IntKind.i64 0, Value.int IntKind.i64 0, Value.int IntKind.i64 0, Value.int IntKind.i64 0, Value.int IntKind.i64 0, Value.int IntKind.i64 0, Value.int IntKind.i64 0, Value.int IntKind.i64 0, Value.int IntKind.i64 0, Value.int IntKind.i64 0, Value.int IntKind.i64 0, Value.int IntKind.i64 0, Value.int IntKind.i64 0, Value.int IntKind.i64 0, Value.int IntKind.i64 0, Value.int IntKind.i64 0, Value.int IntKind.i64 0, Value.int IntKind.i64 0].set c (.int .i64 1)).toArray 111)) = w4 := ⟨_, rfl⟩
  rw [hw4] at A4 R4 P4 C4' B4 hs4 ⊢
  clear hw4 e0 e1 r0 r1 r2 r3 r4 B1 A1 R1
  have f0 := A4.b0
  have f1 := A4.b1
  have f2 : w4.cell? ⟨w.heap.size + 1 + 1, 0, none⟩ = some (.int .i64 (P c).f) := P4.cell 0 (by omega)
  have f3 : w4.cell? ⟨w.heap.size + 1 + 1, 1, none⟩ = some (.int .i64 (P c).t) := P4.cell 1 (by omega)
  have KS : ∀ W', Below w4.heap.size w4 W' → (Below w4.heap.size w4 W' ∧ W'.cell? ⟨w.heap.size, 0, none⟩ = some (.slice p0 n c0) ∧ W'.cell? ⟨w.heap.size, 1, none⟩ = some (.slice (some ⟨bp, op, none⟩) m c1) ∧ W'.cell? ⟨w.heap.size + 1 + 1, 0, none⟩ = some (.int .i64 (P c).f) ∧ W'.cell? ⟨w.heap.size + 1 + 1, 1, none⟩ = some (.int .i64 (P c).t)) := fun W' h => ⟨h, (h.cell (p := ⟨w.heap.size, 0, none⟩) (by show w.heap.size < _; omega)).trans f0, (h.cell (p := ⟨w.heap.size, 1, none⟩) (by show w.heap.size < _; omega)).trans f1, (h.cell (p := ⟨w.heap.size + 1 + 1, 0, none⟩) (by show w.heap.size + 1 + 1 < _; omega)).trans f2, (h.cell (p := ⟨w.heap.size + 1 + 1, 1, none⟩) (by show w.heap.size + 1 + 1 < _; omega)).trans f3⟩
  have HA := Lib.hid A4
  have HR := Lib.hid R4
  have HC := Lib.hid C4'
  have HBB := Lib.hid B4
  clear A4 R4 P4 C4' B4
  obtain ⟨Lt, hLt, eLt⟩ : ∃ L : List Value, arr (asc P (fE n P m) (fD n P m) (P c).t) = List.toArray L ∧ L = arrL (asc P (fE n P m) (fD n P m) (P c).t) := ⟨_, rfl, rfl⟩
  obtain ⟨Lf, hLf, eLf⟩ : ∃ L : List Value, arr (asc P (fE n P m) (fD n P m) (P c).f) = List.toArray L ∧ L = arrL (asc P (fE n P m) (fD n P m) (P c).f) := ⟨_, rfl, rfl⟩
  have nLt : Lt.length = 40 := by rw [eLt, arr_len]
  have nLf : Lf.length = 40 := by rw [eLf, arr_len]
  have oLt : ∀ v ∈ Lt, v.oneCell' = true := by rw [eLt]; exact arr_oneL _
  have oLf : ∀ v ∈ Lf, v.oneCell' = true := by rw [eLf]; exact arr_oneL _
  have HLt := Lib.hid (And.intro hLt eLt)
  have HLf := Lib.hid (And.intro hLf eLf)
  clear hLt eLt hLf eLf
  go_cut [7, 8] from 16 to 23 (fun s7 s8 wx => ∃ b7 b8 : Nat, s7 = .pointer (some ⟨b7, 0, none⟩) ∧ s8 = .pointer (some ⟨b8, 0, none⟩) ∧ wx.rangeAt b7 0 Lt ∧ wx.rangeAt b8 0 Lf ∧ w4.heap.size ≤ b7 ∧ w4.heap.size ≤ b8 ∧ Below w4.heap.size w4 wx)
  case first =>
    have T1 : ∀ W : World, (W.alloc (.cells #[Value.int IntKind.i64 0, Value.int IntKind.i64 0, Value.int IntKind.i64 0, Value.int IntKind.i64 0, Value.int IntKind.i64 0, Value.int IntKind.i64 0, Value.int IntKind.i64 0, Value.int IntKind.i64 0, Value.int IntKind.i64 0, Value.int IntKind.i64 0, Value.int IntKind.i64 0, Value.int IntKind.i64 0, Value.int IntKind.i64 0, Value.int IntKind.i64 0, Value.int IntKind.i64 0, Value.int IntKind.i64 0, Value.int IntKind.i64 0, Value.int IntKind.i64 0, Value.int IntKind.i64 0, Value.int IntKind.i64 0, Value.int IntKind.i64 0, Value.int IntKind.i64 0, Value.int IntKind.i64 0, Value.int IntKind.i64 0, Value.int IntKind.i64 0, Value.int IntKind.i64 0, Value.int IntKind.i64 0, Value.int IntKind.i64 0, Value.int IntKind.i64 0, Value.int IntKind.i64 0, Value.int IntKind.i64 0, Value.int IntKind.i64 0, Value.int IntKind.i64 0, Value.int IntKind.i64 0, Value.int IntKind.i64 0, Value.int IntKind.i64 0, Value.int IntKind.i64 0, Value.int IntKind.i64 0, Value.int IntKind.i64 0, Value.int IntKind.i64 0] 111)).there W.heap.size 0 40 := fun W => (Ob.new0 W _).there
    have T2 : ∀ (W : World) (o : Obj), ((W.alloc o).alloc (.cells #[Value.int IntKind.i64 0, Value.int IntKind.i64 0, Value.int IntKind.i64 0, Value.int IntKind.i64 0, Value.int IntKind.i64 0, Value.int IntKind.i64 0, Value.int IntKind.i64 0, Value.int IntKind.i64 0, Value.int IntKind.i64 0, Value.int IntKind.i64 0, Value.int IntKind.i64 0, Value.int IntKind.i64 0, Value.int IntKind.i64 0, Value.int IntKind.i64 0, Value.int IntKind.i64 0, Value.int IntKind.i64 0, Value.int IntKind.i64 0, Value.int IntKind.i64 0, Value.int IntKind.i64 0, Value.int IntKind.i64 0, Value.int IntKind.i64 0, Value.int IntKind.i64 0, Value.int IntKind.i64 0, Value.int IntKind.i64 0, Value.int IntKind.i64 0, Value.int IntKind.i64 0, Value.int IntKind.i64 0, Value.int IntKind.i64 0, Value.int IntKind.i64 0, Value.int IntKind.i64 0, Value.int IntKind.i64 0, Value.int IntKind.i64 0, Value.int IntKind.i64 0, Value.int IntKind.i64 0, Value.int IntKind.i64 0, Value.int IntKind.i64 0, Value.int IntKind.i64 0, Value.int IntKind.i64 0, Value.int IntKind.i64 0, Value.int IntKind.i64 0] 111)).there (W.heap.size + 1) 0 40 := fun W o => by have := T1 (W.alloc o); rwa [World.size_alloc] at this
    have T3 : ∀ (W : World) (o : Obj) (b : Nat), W.there b 0 40 → (W.alloc o).there b 0 40 := fun W o b h => there_block h (Below.heap_alloc _ _ _ (there_lt h))
    have T4 : ∀ (W : World) (b b' : Nat) (cs : List Value), W.there b 0 40 → (W.setCells b' 0 cs).there b 0 40 := fun W b b' cs h => World.there_setCells h _ _ _
    have FI := flow_info
    have hs5 : w.heap.size + 4 ≤ w4.heap.size := by omega
    have hs6 : w4.heap.size ≤ w.heap.size + 4 := by omega
    clear hs4
    have hle4 : w.heap.size ≤ w4.heap.size := by omega
    have hhi4 : hi ≤ w4.heap.size := by omega
    go_region_held3 (fun w' : World => Below w4.heap.size w4 w' ∧ w'.cell? ⟨w.heap.size, 0, none⟩ = some (.slice p0 n c0) ∧ w'.cell? ⟨w.heap.size, 1, none⟩ = some (.slice (some ⟨bp, op, none⟩) m c1) ∧ w'.cell? ⟨w.heap.size + 1 + 1, 0, none⟩ = some (.int .i64 (P c).f) ∧ w'.cell? ⟨w.heap.size + 1 + 1, 1, none⟩ = some (.int .i64 (P c).t))
      (first | with_reducible exact KS _ (below_sc (by assumption : Below w4.heap.size w4 _ ∧ _).1 (by omega)) | with_reducible exact KS _ (below_alloc (by assumption : Below w4.heap.size w4 _ ∧ _).1 (by assumption : Below w4.heap.size w4 _ ∧ _).1.size _) | with_reducible exact KS _ SB | with_reducible exact KS _ SA | with_reducible exact KS _ (below_drw (Below.refl _ _)) | with_reducible exact KS _ (Below.refl _ _) | with_reducible exact KS _ (below_drw (below_alloc (Below.refl _ _) (Nat.le_refl _) _)) | with_reducible exact KS _ (below_drw (below_alloc (below_alloc (Below.refl _ _) (Nat.le_refl _) _) (by simp only [World.size_alloc]; omega) _)))
      (first
        | (go_at_call_of 166 (Value.int IntKind.i64 (P c).t); refine (ascentFrom_any _ _ n N m P lo hi (HV.out.below (HBB.out.trans ((by assumption : Below w4.heap.size w4 _ ∧ _).1.mono hle4)) hhi) (Nat.le_trans hhi4 (by assumption : Below w4.heap.size w4 _ ∧ _).1.size) HB.out (P c).t hpt).mono ?_; rintro e wA ⟨rfl, hbA⟩; rw [HLt.out.1]; have SA : Below w4.heap.size w4 wA := Below.trans (by assumption : Below w4.heap.size w4 _ ∧ _).1 (hbA.mono (by assumption : Below w4.heap.size w4 _ ∧ _).1.size); have TA := fun b (h : World.there _ b 0 40) => there_block h (hbA.block b (there_lt h)); have zA := SA.size; have yA := hbA.size; (try simp only [drew_size, World.size_alloc] at yA); (try have tA1 := TA _ (T1 w4)); (try have tA1 := TA _ (T3 _ (.cells #[Value.int IntKind.i64 0, Value.int IntKind.i64 0, Value.int IntKind.i64 0, Value.int IntKind.i64 0, Value.int IntKind.i64 0, Value.int IntKind.i64 0, Value.int IntKind.i64 0, Value.int IntKind.i64 0, Value.int IntKind.i64 0, Value.int IntKind.i64 0, Value.int IntKind.i64 0, Value.int IntKind.i64 0, Value.int IntKind.i64 0, Value.int IntKind.i64 0, Value.int IntKind.i64 0, Value.int IntKind.i64 0, Value.int IntKind.i64 0, Value.int IntKind.i64 0, Value.int IntKind.i64 0, Value.int IntKind.i64 0, Value.int IntKind.i64 0, Value.int IntKind.i64 0, Value.int IntKind.i64 0, Value.int IntKind.i64 0, Value.int IntKind.i64 0, Value.int IntKind.i64 0, Value.int IntKind.i64 0, Value.int IntKind.i64 0, Value.int IntKind.i64 0, Value.int IntKind.i64 0, Value.int IntKind.i64 0, Value.int IntKind.i64 0, Value.int IntKind.i64 0, Value.int IntKind.i64 0, Value.int IntKind.i64 0, Value.int IntKind.i64 0, Value.int IntKind.i64 0, Value.int IntKind.i64 0, Value.int IntKind.i64 0, Value.int IntKind.i64 0] 111) _ (T1 w4))); (try have tA2 := TA _ (T2 w4 (.cells #[Value.int IntKind.i64 0, Value.int IntKind.i64 0, Value.int IntKind.i64 0, Value.int IntKind.i64 0, Value.int IntKind.i64 0, Value.int IntKind.i64 0, Value.int IntKind.i64 0, Value.int IntKind.i64 0, Value.int IntKind.i64 0, Value.int IntKind.i64 0, Value.int IntKind.i64 0, Value.int IntKind.i64 0, Value.int IntKind.i64 0, Value.int IntKind.i64 0, Value.int IntKind.i64 0, Value.int IntKind.i64 0, Value.int IntKind.i64 0, Value.int IntKind.i64 0, Value.int IntKind.i64 0, Value.int IntKind.i64 0, Value.int IntKind.i64 0, Value.int IntKind.i64 0, Value.int IntKind.i64 0, Value.int IntKind.i64 0, Value.int IntKind.i64 0, Value.int IntKind.i64 0, Value.int IntKind.i64 0, Value.int IntKind.i64 0, Value.int IntKind.i64 0, Value.int IntKind.i64 0, Value.int IntKind.i64 0, Value.int IntKind.i64 0, Value.int IntKind.i64 0, Value.int IntKind.i64 0, Value.int IntKind.i64 0, Value.int IntKind.i64 0, Value.int IntKind.i64 0, Value.int IntKind.i64 0, Value.int IntKind.i64 0, Value.int IntKind.i64 0] 111))))
        | (go_at_call_of 166 (Value.int IntKind.i64 (P c).f); refine (ascentFrom_any _ _ n N m P lo hi (HV.out.below (HBB.out.trans ((by assumption : Below w4.heap.size w4 _ ∧ _).1.mono hle4)) hhi) (Nat.le_trans hhi4 (by assumption : Below w4.heap.size w4 _ ∧ _).1.size) HB.out (P c).f hpf).mono ?_; rintro e wB ⟨rfl, hbB⟩; rw [HLf.out.1]; have SB : Below w4.heap.size w4 wB := Below.trans (by assumption : Below w4.heap.size w4 _ ∧ _).1 (hbB.mono (by assumption : Below w4.heap.size w4 _ ∧ _).1.size); have TB := fun b (h : World.there _ b 0 40) => there_block h (hbB.block b (there_lt h)); have zB := SB.size; have yB := hbB.size; (try simp only [World.size_alloc] at yB); (try have tB1 := TB _ (T1 wA)); (try have tB1 := TB _ (T3 _ (.cells #[Value.int IntKind.i64 0, Value.int IntKind.i64 0, Value.int IntKind.i64 0, Value.int IntKind.i64 0, Value.int IntKind.i64 0, Value.int IntKind.i64 0, Value.int IntKind.i64 0, Value.int IntKind.i64 0, Value.int IntKind.i64 0, Value.int IntKind.i64 0, Value.int IntKind.i64 0, Value.int IntKind.i64 0, Value.int IntKind.i64 0, Value.int IntKind.i64 0, Value.int IntKind.i64 0, Value.int IntKind.i64 0, Value.int IntKind.i64 0, Value.int IntKind.i64 0, Value.int IntKind.i64 0, Value.int IntKind.i64 0, Value.int IntKind.i64 0, Value.int IntKind.i64 0, Value.int IntKind.i64 0, Value.int IntKind.i64 0, Value.int IntKind.i64 0, Value.int IntKind.i64 0, Value.int IntKind.i64 0, Value.int IntKind.i64 0, Value.int IntKind.i64 0, Value.int IntKind.i64 0, Value.int IntKind.i64 0, Value.int IntKind.i64 0, Value.int IntKind.i64 0, Value.int IntKind.i64 0, Value.int IntKind.i64 0, Value.int IntKind.i64 0, Value.int IntKind.i64 0, Value.int IntKind.i64 0, Value.int IntKind.i64 0, Value.int IntKind.i64 0] 111) _ (T1 wA))); (try have tB2 := TB _ (T2 wA (.cells #[Value.int IntKind.i64 0, Value.int IntKind.i64 0, Value.int IntKind.i64 0, Value.int IntKind.i64 0, Value.int IntKind.i64 0, Value.int IntKind.i64 0, Value.int IntKind.i64 0, Value.int IntKind.i64 0, Value.int IntKind.i64 0, Value.int IntKind.i64 0, Value.int IntKind.i64 0, Value.int IntKind.i64 0, Value.int IntKind.i64 0, Value.int IntKind.i64 0, Value.int IntKind.i64 0, Value.int IntKind.i64 0, Value.int IntKind.i64 0, Value.int IntKind.i64 0, Value.int IntKind.i64 0, Value.int IntKind.i64 0, Value.int IntKind.i64 0, Value.int IntKind.i64 0, Value.int IntKind.i64 0, Value.int IntKind.i64 0, Value.int IntKind.i64 0, Value.int IntKind.i64 0, Value.int IntKind.i64 0, Value.int IntKind.i64 0, Value.int IntKind.i64 0, Value.int IntKind.i64 0, Value.int IntKind.i64 0, Value.int IntKind.i64 0, Value.int IntKind.i64 0, Value.int IntKind.i64 0, Value.int IntKind.i64 0, Value.int IntKind.i64 0, Value.int IntKind.i64 0, Value.int IntKind.i64 0, Value.int IntKind.i64 0, Value.int IntKind.i64 0] 111))); (try have tC1 := TB _ tA1); (try have tC1 := TB _ (T3 _ (.cells #[Value.int IntKind.i64 0, Value.int IntKind.i64 0, Value.int IntKind.i64 0, Value.int IntKind.i64 0, Value.int IntKind.i64 0, Value.int IntKind.i64 0, Value.int IntKind.i64 0, Value.int IntKind.i64 0, Value.int IntKind.i64 0, Value.int IntKind.i64 0, Value.int IntKind.i64 0, Value.int IntKind.i64 0, Value.int IntKind.i64 0, Value.int IntKind.i64 0, Value.int IntKind.i64 0, Value.int IntKind.i64 0, Value.int IntKind.i64 0, Value.int IntKind.i64 0, Value.int IntKind.i64 0, Value.int IntKind.i64 0, Value.int IntKind.i64 0, Value.int IntKind.i64 0, Value.int IntKind.i64 0, Value.int IntKind.i64 0, Value.int IntKind.i64 0, Value.int IntKind.i64 0, Value.int IntKind.i64 0, Value.int IntKind.i64 0, Value.int IntKind.i64 0, Value.int IntKind.i64 0, Value.int IntKind.i64 0, Value.int IntKind.i64 0, Value.int IntKind.i64 0, Value.int IntKind.i64 0, Value.int IntKind.i64 0, Value.int IntKind.i64 0, Value.int IntKind.i64 0, Value.int IntKind.i64 0, Value.int IntKind.i64 0, Value.int IntKind.i64 0] 111) _ tA1)); (try have tC2 := TB _ tA2)))
    all_goals
      go_wp2_with fail
      go_meet
      refine ⟨_, _, rfl, rfl, World.rangeAt_setCells_apart (World.rangeAt_setCells_same _ _ _ _ ?_) _ _ _ (.inl (by omega)), World.rangeAt_setCells_same _ _ _ _ ?_, by omega, by omega, (by assumption : Below w4.heap.size w4 _ ∧ _).1⟩
      · rw [nLt]; (repeat first | exact T1 _ | exact T2 _ _ | assumption | with_reducible apply T3 | with_reducible apply T4)
      · rw [nLf]; (repeat first | exact T1 _ | exact T2 _ _ | assumption | with_reducible apply T3 | with_reducible apply T4)
  case rest =>
    obtain ⟨b7, b8, rfl, rfl, g7, g8, l7, l8, hb⟩ := hcut
    have zc := hb.size
    have HR5 := HR.out.below hb (by omega)
    have HC5 := HC.out.below hb (by omega)
    have HB5 := Lib.hid (HBB.out.trans (hb.mono (by omega)))
    obtain ⟨Lc, hLc, eLc⟩ : ∃ L : List Value, arr (one1 c) = List.toArray L ∧ L = arrL (one1 c) := ⟨_, rfl, rfl⟩
    have nLc : Lc.length = 40 := by rw [eLc, arr_len]
    have g6 : wc.rangeAt (w.heap.size + 1 + 1 + 1) 0 Lc := by rw [eLc]; exact HC5.range
    have g4 := HR5.there
    have HR4 := Lib.hid HR5
    obtain ⟨Lz, hLz, eLz⟩ : ∃ L : List Value, arr (fun k => (one1 c k + asc P (fE n P m) (fD n P m) (P c).t k) + asc P (fE n P m) (fD n P m) (P c).f k * (-1)) = List.toArray L ∧ L = arrL (fun k => (one1 c k + asc P (fE n P m) (fD n P m) (P c).t k) + asc P (fE n P m) (fD n P m) (P c).f k * (-1)) := ⟨_, rfl, rfl⟩
    have nLz : Lz.length = 40 := by rw [eLz, arr_len]
    have oLz : ∀ v ∈ Lz, v.oneCell' = true := by rw [eLz]; exact arr_oneL _
    have HLc := Lib.hid hLc
    have HLz := Lib.hid hLz
    have HEz := Lib.hid eLz
    clear hLc eLc hLz eLz HR5 HC5 KS f0 f1 f2 f3 hb
    have l6 : w.heap.size + 1 + 1 + 1 < wc.heap.size := by omega
    have l4 : w.heap.size + 1 < wc.heap.size := by omega
    have n6 : w.heap.size + 1 + 1 + 1 ≠ w.heap.size + 1 := by omega
    have n7 : b7 ≠ w.heap.size + 1 := by omega
    have n8 : b8 ≠ w.heap.size + 1 := by omega
    have i7 : b7 < wc.heap.size := rangeAt_lt g7 (by omega)
    have i8 : b8 < wc.heap.size := rangeAt_lt g8 (by omega)
    clear hs4
    have FI := flow_info
    have UI := Tryz.underlying111
    have H1 := Lib.hid (show ∀ k, k < 40 → (-1 ≤ one1 c k ∧ one1 c k ≤ 1) ∧ (-1 ≤ asc P (fE n P m) (fD n P m) (P c).t k ∧ asc P (fE n P m) (fD n P m) (P c).t k ≤ 1) ∧ (-1 ≤ asc P (fE n P m) (fD n P m) (P c).f k ∧ asc P (fE n P m) (fD n P m) (P c).f k ≤ 1) from fun k _ => ⟨by unfold one1; split <;> omega, HFO.out.asc_rng hpt k, HFO.out.asc_rng hpf k⟩)
    go_wp2_with fail
    refine wp_region_noPanic ?_
    refine wp_region_held_drew (S := fun w' : World => w'.rangeAt (w.heap.size + 1 + 1 + 1) 0 Lc ∧ w'.rangeAt b7 0 Lt ∧ w'.rangeAt b8 0 Lf ∧ w'.there (w.heap.size + 1) 0 40) (by kernel_rfl) ⟨range_block g6 rfl, range_block g7 rfl, range_block g8 rfl, there_block g4 rfl⟩ (fun s0 => ?_)
    refine wpAnyH_take (i := 0) (v := .agg (List.toArray Lc)) rfl (by kernel_rfl) (by kernel_rfl) (by kernel_rfl) (fun _ _ _ h => h) (yieldsIf_load_mid (by rfl) _ _ rfl _ _ rfl _ _ (fun _ h => h.1) UI rfl (by rw [nLc]; exact FI)) s0 ?_
    try simp only [Act.put, List.setIfInBounds_toArray]
    refine wpAnyH_take (i := 1) (v := .agg (List.toArray Lt)) rfl (by kernel_rfl) (by kernel_rfl) (by kernel_rfl) (fun _ _ _ h => h) (yieldsIf_load_mid (by rfl) _ _ rfl _ _ rfl _ _ (fun _ h => h.2.1) UI rfl (by rw [nLt]; exact FI)) s0 ?_
    try simp only [Act.put]
    refine wpAnyH_take (i := 3) (v := .agg (List.toArray Lf)) rfl (by kernel_rfl) (by kernel_rfl) (by kernel_rfl) (fun _ _ _ h => h) (yieldsIf_load_mid (by rfl) _ _ rfl _ _ rfl _ _ (fun _ h => h.2.2.1) UI rfl (by rw [nLf]; exact FI)) s0 ?_
    try simp only [Act.put]
    refine wpAnyH_ready (rs := [2]) (by kernel_rfl) (by simp) (AllReadyH.cons rfl (fun K hK => ?_) AllReadyH.nil)
    clear s0
    go_simp
    rw [← HLc.out, ← HLt.out.1]
    refine (plus_any _ _ _ _ (fun k hk => by have := H1.out k hk; omega) (fun k hk => by have := H1.out k hk; omega)).mono ?_
    rintro e wX ⟨rfl, hbX⟩
    have hbX' := below_dr0 hbX
    have SX : wX.rangeAt (w.heap.size + 1 + 1 + 1) 0 Lc ∧ wX.rangeAt b7 0 Lt ∧ wX.rangeAt b8 0 Lf ∧ wX.there (w.heap.size + 1) 0 40 := ⟨range_block g6 (hbX'.block _ l6), range_block g7 (hbX'.block _ i7), range_block g8 (hbX'.block _ i8), there_block g4 (hbX'.block _ l4)⟩
    have zX := hbX'.size
    refine hK.out _ _ SX (fun s2 => ?_)
    clear hK K s2
    try simp only [Act.put, List.setIfInBounds_toArray]
    refine wpAnyH_ready (rs := [4]) (by kernel_rfl) (by simp) (AllReadyH.cons rfl (fun K hK => ?_) AllReadyH.nil)
    go_simp
    rw [← HLf.out.1]
    refine (plus_any _ _ _ _ (fun k hk => by have := H1.out k hk; omega) (fun k hk => by have := H1.out k hk; omega)).mono ?_
    rintro e wY ⟨rfl, hbY⟩
    rw [HLz.out]
    have SY : wY.rangeAt (w.heap.size + 1 + 1 + 1) 0 Lc ∧ wY.rangeAt b7 0 Lt ∧ wY.rangeAt b8 0 Lf ∧ wY.there (w.heap.size + 1) 0 40 := ⟨range_block SX.1 (hbY.block _ (by omega)), range_block SX.2.1 (hbY.block _ (by omega)), range_block SX.2.2.1 (hbY.block _ (by omega)), there_block SX.2.2.2 (hbY.block _ (by omega))⟩
    refine hK.out _ _ SY (fun s4 => ?_)
    clear hK K s4
    try simp only [Act.put, List.setIfInBounds_toArray]
    refine wpAnyH_ready (rs := [5]) (by kernel_rfl) (by simp) (AllReadyH.cons rfl (fun K hK => ?_) AllReadyH.nil)
    rw [if_pos (by rfl)]
    refine wp_store_mid _ _ _ rfl _ _ (List.toArray Lz) rfl rfl (by show wY.there (w.heap.size + 1) 0 Lz.length; rw [nLz]; exact SY.2.2.2) (by show _ = some Lz.length; rw [nLz]; exact FI) (all_oneCell_toArray oLz) ?_
    simp only [Act.put, List.setIfInBounds_toArray]
    refine hK.out _ _ ⟨World.rangeAt_setCells_apart SY.1 _ _ _ (.inl n6), World.rangeAt_setCells_apart SY.2.1 _ _ _ (.inl n7), World.rangeAt_setCells_apart SY.2.2.1 _ _ _ (.inl n8), World.there_setCells SY.2.2.2 _ _ _⟩ (fun s5 => ?_)
    refine wpAnyH_done (by kernel_rfl) ?_ _
    refine NoPanic.normal ?_
    have o4 := (HR4.out.below hbX' l4).below hbY (by omega)
    have o5 := o4.setArr (fun k => (one1 c k + asc P (fE n P m) (fD n P m) (P c).t k) + asc P (fE n P m) (fD n P m) (P c).f k * (-1))
    rw [← HEz.out] at o5
    have hb6 := (hbX'.mono (show w.heap.size ≤ wc.heap.size by omega)).trans (hbY.mono (by omega))
    go_wp2_with fail
    refine bodyPost_ret (results_arr rfl rfl o5) rfl ⟨?_, (HB5.out.trans hb6).trans (((Only.refl (w.heap.size + 1) wY).setCs Lz 0).below (by omega))⟩
    rw [arr_congr (y := cyc P (fE n P m) (fD n P m) c) (fun k _ => by unfold cyc; omega)]
end Go.Proofs.YtdbgcbkmcbgdiaaGreat.mem

namespace Go.Proofs.YtdbgcbkmcbgdiaaGreat.mem
open Go.RowKit
set_option linter.unusedVariables false

theorem info_flow : (Tryz.prog.info? 111).map (fun i => (i.zero, i.size, i.bytes)) = some (some (.agg (arr fun _ => 0)), 40, 320) := by kernel_rfl
/-- a slice literal of one array -/
theorem wpList_bsF {ops : Array Oper} {rest : List Oper} {o : Oper} {a : Act} {w : World} {Q : Exit → Act → World → Prop} (hg : o.guard = none) (x : Operand) (ho : o.op = .buildSlice 153 1 #[(0, x)]) (L : List Value) (hx : a.eval x = .agg L.toArray) (hL : L.length = 40)
    (h : wpList Tryz.prog ops Q rest (a.put o.dst (.slice (some ⟨w.heap.size, 0, none⟩) 1 1)) (w.alloc (.cells L.toArray 111))) : wpList Tryz.prog ops Q (o :: rest) a w := by
  obtain ⟨i0, hi0, hz0, hz1, hz2⟩ := info_parts info_flow
  refine wpList_buildSlice hg 153 111 1 _ ho L.toArray i0 _ Tryz.underlying153 hi0 hz0 (by rw [hz1]; decide) (by rw [hz1]; decide) ?_ h
  rw [hz1]
  have e := Great.fill_whole (s := 40) (by omega) [Value.agg L.toArray] ((Array.range (1 * 40)).map ((Value.agg (arr fun _ => 0)).cells[· % (Value.agg (arr fun _ => 0)).cells.size]!)) (fun v hv => by
    obtain rfl := List.mem_singleton.1 hv
    show L.toArray.size = 40
    rw [List.size_toArray, hL]) (by simp)
  have e2 : ((#[(0, x)] : Array (Nat × Operand)).map fun (i, x) => (i, a.eval x)).toList = ([Value.agg L.toArray].zipIdx 0).map fun x => (x.2, x.1) := by
    simp [hx]
  rw [e2, e]
  have e3 : ([Value.agg L.toArray].flatMap fun v => v.cells.toList) = L := by
    show L.toArray.toList ++ [] = L
    simp
  rw [e3]
theorem wpList_ldF {ops : Array Oper} {rest : List Oper} {o : Oper} {a : Act} {w : World} {Q : Exit → Act → World → Prop} (hg : o.guard = none) (x : Operand) (ho : o.op = .load 111 x) (b off : Nat) (L : List Value) (hx : a.eval x = .pointer (some ⟨b, off, none⟩)) (hL : L.length = 40) (hc : w.rangeAt b off L)
    (h : wpList Tryz.prog ops Q rest (a.put o.dst (.agg L.toArray)) w) : wpList Tryz.prog ops Q (o :: rest) a w :=
  wpList_load_mid hg 111 x ho b off hx L _ hc Tryz.underlying111 rfl (by rw [hL]; exact flow_info) h
theorem wpList_stF {ops : Array Oper} {rest : List Oper} {o : Oper} {a : Act} {w : World} {Q : Exit → Act → World → Prop} (hg : o.guard = none) (x y : Operand) (ho : o.op = .store 111 x y) (b : Nat) (L : List Value) (hx : a.eval x = .pointer (some ⟨b, 0, none⟩)) (hy : a.eval y = .agg L.toArray) (hL : L.length = 40) (h1 : ∀ v ∈ L, v.oneCell' = true) (ht : w.there b 0 40)
    (h : wpList Tryz.prog ops Q rest (a.put o.dst undef) (w.setCells b 0 L)) : wpList Tryz.prog ops Q (o :: rest) a w :=
  wpList_store_mid hg 111 x y ho b 0 L.toArray hx hy (by rw [List.size_toArray, hL]; exact ht) (by rw [List.size_toArray, hL]; exact flow_info) (all_oneCell_toArray h1) h
theorem run_ixF (w : World) (g n c i : Nat) (hi : i < n) : (Instr.indexAt 153 (.slice (some ⟨g, 0, none⟩) n c) (.int .i64 (i : Nat))).run Tryz.prog w = .ok (.pointer (some ⟨g, i * 40, none⟩)) w := by
  obtain ⟨i0, hi0, hz0, hz1, hz2⟩ := info_parts info_flow
  have h0 : (0 : Int) ≤ (i : Int) := Int.natCast_nonneg _
  have h1 : (i : Int) < (n : Int) := by omega
  simp [Instr.indexAt, run_underlying Tryz.underlying153, asIntOf, sizeOf, typeInfo, hi0, hz1, Addr.add]
  rw [if_pos hi]
  by_cases e : i * 40 = 0
  · rw [if_pos e, e]
  · rw [if_neg e]
/-- the address of an element of a slice of arrays -/
theorem wpList_ixF {ops : Array Oper} {rest : List Oper} {o : Oper} {a : Act} {w : World} {Q : Exit → Act → World → Prop} (hg : o.guard = none) (x y : Operand) (ho : o.op = .indexAddr 153 x y) (g n c i : Nat) (hx : a.eval x = .slice (some ⟨g, 0, none⟩) n c) (hy : a.eval y = .int .i64 (i : Nat)) (hi : i < n)
    (h : wpList Tryz.prog ops Q rest (a.put o.dst (.pointer (some ⟨g, i * 40, none⟩))) w) : wpList Tryz.prog ops Q (o :: rest) a w := by
  refine wpList_plain hg fun K hK => ?_
  unfold Oper.wp execOp
  simp only [ho, Sem.run_bind, hx, hy, run_ixF w g n c i hi, Result.andThen_ok]
  exact hK _ _ h
theorem run_allocF (w : World) : (Instr.alloc 111 true (.tuple #[])).run Tryz.prog w = .ok (.pointer (some ⟨w.heap.size, 0, none⟩)) (w.alloc (.cells (arr fun _ => 0) 111)) := by
  obtain ⟨i0, hi0, hz0, hz1, hz2⟩ := info_parts info_flow
  simp [Instr.alloc, zeroValue, typeInfo, hi0, hz0, newVar, newRow, Value.cells]
/-- an array of zeros -/
theorem wpList_allocF {ops : Array Oper} {rest : List Oper} {o : Oper} {a : Act} {w : World} {Q : Exit → Act → World → Prop} (hg : o.guard = none) (ho : o.op = .alloc 111)
    (h : wpList Tryz.prog ops Q rest (a.put o.dst (.pointer (some ⟨w.heap.size, 0, none⟩))) (w.alloc (.cells (arr fun _ => 0) 111))) : wpList Tryz.prog ops Q (o :: rest) a w := by
  refine wpList_plain hg fun K hK => ?_
  unfold Oper.wp execOp
  simp only [ho, Sem.run_bind, run_allocF, Result.andThen_ok]
  exact hK _ _ h
theorem row_ownF {B z : Nat} {w : World} {v u : Value} {K n g : Nat} {c : Nat → Nat → Value} {d : Nat → Int} (h : RowE B 111 z w v K c) (o : Own w u n d g) : v.ownBlock ≠ some g := by
  intro hk
  rcases h.own.2 with ⟨rfl, _⟩ | ⟨q, cap, cur, rfl, _, h3, _⟩
  · simp [Value.ownBlock] at hk
  obtain ⟨cap', cur', _, h1, _⟩ := o.ex
  simp [Value.ownBlock] at hk
  subst hk
  rw [h3] at h1
  injection h1 with h1
  injection h1 with _ h1
  exact absurd h1 (by decide)
/-- an element of such a slice -/
theorem own_rng {w : World} {p : Option Addr} {K c g : Nat} {Y : Nat → Nat → Int} (h : OwnS w (.slice p K c) K 40 (fun j => ia (Y j)) g) {k : Nat} (hk : k < K) : p = some ⟨g, 0, none⟩ ∧ g < w.heap.size ∧ K ≤ c ∧ w.rangeAt g (k * 40) (arrL (Y k)) := by
  obtain ⟨p', cap, hv, h1, h2, h3⟩ := h.ex
  injection hv with e1 _ e3
  subst e1
  rcases h3 with h3 | ⟨h3, h4⟩
  · omega
  · refine ⟨h3, h4.lt, by omega, fun j v hj => ?_⟩
    have hl : j < 40 := by have := get_lt hj; rw [arr_len] at this; exact this
    rw [arrL_get _ j hl] at hj
    injection hj with hj
    rw [h4.cell k j hk hl, ← hj]
set_option maxRecDepth 100000 in
set_option maxHeartbeats 8000000 in
theorem cyclesR_any (w : World) (v : Value) (n : Nat) (N : Nat → Nod) (m : Nat) (P : Nat → Pip) (lo hi : Nat) (h : NetAt w v n N m P lo hi) (hhi : hi ≤ w.heap.size) (hB : netB n N m P = true) :
    Calls Tryz.prog 144 #[v] w fun e w' => ∃ v2, e = .returned v2 ∧ RowE (w.heap.size + 1) 111 40 w' v2 (chN n P m) (fun j => ia (cyc P (fE n P m) (fD n P m) (chS n P m j))) ∧ Below w.heap.size w w' := by
  obtain ⟨p0, c0, p1, c1, rfl, hn9, hm9⟩ := h.parts
  obtain ⟨hn1, hn24, hm40⟩ := net_sz hB
  have hcn := chN_le n P m
  have HV := Lib.hid h
  have HB := Lib.hid hB
  have A0 := boxed w (.slice p0 n c0) (.slice p1 m c1) 27
  have B0 := below_new w (.cells #[.slice p0 n c0, .slice p1 m c1] 27)
  have hs0 : (w.alloc (.cells #[.slice p0 n c0, .slice p1 m c1] 27)).heap.size = w.heap.size + 1 := by simp
  obtain ⟨w1, hw1⟩ : ∃ w1, w.alloc (.cells #[.slice p0 n c0, .slice p1 m c1] 27) = w1 := ⟨_, rfl⟩
  rw [hw1] at A0 B0 hs0
  have F0 := rowE_nil (B := w.heap.size + 1) (e := 111) (z := 40) w1 (fun j => ia (cyc P (fE n P m) (fD n P m) (chS n P m j))) (by omega)
  have b2 := below_new w1 (.cells #[] 111)
  have A2 := A0.below b2 (by omega)
  have B2 := B0.trans (b2.mono (by omega))
  have hs2 : (w1.alloc (.cells #[] 111)).heap.size = w.heap.size + 2 := by simp [hs0]
  have e0 := A2.b0
  have e1 := A2.b1
  have HF := Lib.hid F0
  have HBB := Lib.hid B2
  have HA := Lib.hid A2
  clear h hB A0 B0 F0 b2 A2 B2
  subst hw1
  go_enter Tryz.func144, Tryz.ntmps144
  go_wp2_with fail
  generalize hW : (w.alloc (.cells #[.slice p0 n c0, .slice p1 m c1] 27)).alloc (.cells #[] 111) = w2 at *
  clear hW e0 e1
  refine (chords_any w2 _ n N m P lo hi (HV.out.below HBB.out hhi) (by omega) HB.out).mono ?_
  rintro e w3 ⟨vc, gc, rfl, oc, hgc, b3⟩
  obtain ⟨cc, rfl⟩ := oc.shape
  have HC := Lib.hid oc
  have HF3 := Lib.hid (HF.out.next b3)
  have HB3 := Lib.hid (HBB.out.trans (b3.mono (by omega)))
  have HA3 := Lib.hid (HA.out.below b3 (by omega))
  have hs3 := b3.size
  clear oc b3 HF HBB HA
  go_wp2_with fail
  go_loopw [3, 10] (fun ov iv wr => ∃ (k : Nat) (ov' : Value), ov' = ov ∧ iv = .int .i64 k ∧ k ≤ chN n P m ∧ RowE (w.heap.size + 1) 111 40 wr ov' k (fun j => ia (cyc P (fE n P m) (fD n P m) (chS n P m j))) ∧ Own wr (.slice (some ⟨gc, 0, none⟩) (chN n P m) cc) (chN n P m) (fd (chP n P m) m) gc ∧ w3.heap.size ≤ wr.heap.size ∧ Below (w.heap.size + 1) w3 wr) (fun _ iv _ => chN n P m - (intOf iv).toNat)
  case atStart => exact ⟨0, _, rfl, rfl, Nat.zero_le _, by have := HF3.out; simp only [World.size_alloc] at this; exact this, HC.out, Nat.le_refl _, Below.refl _ _⟩
  case round =>
    obtain ⟨k, ov, rfl, rfl, hk, ho, oc, hsz, hb⟩ := hrel
    obtain ⟨po, co, rfl⟩ := ho.shape
    clear HF3 HC
    have HO := Lib.hid ho
    have HC := Lib.hid oc
    have HL := Lib.hid hb
    have lc := oc.lt
    have HAP := Lib.hid (row_ownF ho oc)
    clear ho oc hb
    have k0 : (0 : Int) ≤ (k : Int) := Int.natCast_nonneg _
    have BW := Lib.hid (HB3.out.trans (HL.out.mono (by omega)))
    by_cases hlt : k < chN n P m
    · have k1 : (k : Int) < (chN n P m : Int) := by omega
      obtain ⟨hcm, hcp⟩ := chS_at (n := n) (P := P) (m := m) hlt
      have y0 : wr.cell? ⟨gc, k, none⟩ = some (.int .i64 (chS n P m k : Nat)) := HC.out.row.cell k hlt
      have f0 := (HA3.out.below HL.out (by omega)).b0
      have f1 := (HA3.out.below HL.out (by omega)).b1
      have hir : hi ≤ wr.heap.size := by omega
      have hwr : w.heap.size + 1 ≤ wr.heap.size := by omega
      obtain ⟨y, hy⟩ : ∃ y, cyc P (fE n P m) (fD n P m) (chS n P m k) = y := ⟨_, rfl⟩
      have HY := Lib.hid hy
      obtain ⟨Ly, hLy, eLy⟩ : ∃ L : List Value, arr y = List.toArray L ∧ L = arrL y := ⟨_, rfl, rfl⟩
      have nLy : Ly.length = 40 := by rw [eLy, arr_len]
      have oLy : ∀ v ∈ Ly, v.oneCell' = true := by rw [eLy]; exact arr_oneL _
      have HLy := Lib.hid hLy
      have HEy := Lib.hid eLy
      clear hLy eLy hy
      go_wp2_with (first
        | (go_at_call 167; refine (cycleOf_any wr _ n N m P lo hi (HV.out.below BW.out hhi) hir HB.out (chS n P m k) hcm).mono ?_; rintro e wX ⟨rfl, hbX⟩; rw [HY.out, HLy.out]; obtain ⟨v7, wz, hr7, hrow7, u7⟩ := appOne (c' := fun j => ia (cyc P (fE n P m) (fD n P m) (chS n P m j))) Tryz.underlying153 info_flow (by omega) (arr_size _) (by omega) (w.heap.size + 1) wX _ k _ (HO.out.next hbX) (Nat.le_trans hwr hbX.size) Ly nLy oLy (fun i j _ _ => rfl) (fun j hj => by rw [HEy.out, ← HY.out]; exact arrL_get _ j hj) (by omega))
        | (refine wpList_bsF rfl _ rfl Ly rfl nLy ?_)
        | (at_builtin; refine wpList_appT hr7 rfl _ _ rfl rfl rfl rfl ?_))
      have zX := hbX.size
      have zz := u7.size
      have HO7 := Lib.hid hrow7
      have HL7 := Lib.hid (HL.out.trans ((hbX.mono hwr).trans (u7.below (Nat.le_trans hwr zX) (fun q _ hq => ((HO.out.next hbX).own.lt q hq.symm).1))))
      have HC7 := Lib.hid ((HC.out.below hbX (Nat.le_refl _)).keep (u7.block gc (by omega) (fun e => HAP.out e.symm)))
      clear hr7 hrow7 u7 hbX f0 f1 y0
      go_roundw
      case rel => exact ⟨k + 1, v7, rfl, by go_num, hlt, HO7.out, HC7.out, by omega, HL7.out⟩
      case measure => simp [intOf]; omega
    · have hkn : chN n P m = k := by omega
      have HOF := Lib.hid (show RowE (w.heap.size + 1) 111 40 wr (.slice po k co) (chN n P m) (fun j => ia (cyc P (fE n P m) (fD n P m) (chS n P m j))) by rw [hkn]; exact HO.out)
      have k1 : ¬ ((k : Int) < (chN n P m : Int)) := by omega
      clear hkn
      go_wp2_with fail
      go_ret
      exact ⟨_, rfl, HOF.out, BW.out⟩
theorem cycles_any (w : World) (v : Value) (n : Nat) (N : Nat → Nod) (m : Nat) (P : Nat → Pip) (lo hi : Nat) (h : NetAt w v n N m P lo hi) (hhi : hi ≤ w.heap.size) (hB : netB n N m P = true) :
    Calls Tryz.prog 144 #[v] w fun e w' => ∃ v2 g, e = .returned v2 ∧ OwnS w' v2 (chN n P m) 40 (fun j => ia (cyc P (fE n P m) (fD n P m) (chS n P m j))) g ∧ (w.heap.size < g ∨ chN n P m = 0) ∧ Below w.heap.size w w' := by
  refine (cyclesR_any w v n N m P lo hi h hhi hB).mono ?_
  rintro e w' ⟨v2, rfl, hr, hb⟩
  obtain ⟨g, hg, hg2⟩ := hr.ownS
  exact ⟨v2, g, rfl, hg, by omega, hb⟩
end Go.Proofs.YtdbgcbkmcbgdiaaGreat.mem

namespace Go.Proofs.YtdbgcbkmcbgdiaaGreat.mem
open Go.RowKit
set_option linter.unusedVariables false

/-- the code of a network and a list of flows -/
noncomputable def flC (n : Nat) (N : Nat → Nod) (m : Nat) (P : Nat → Pip) (K : Nat) (d : Nat → Int) : Int := if netB n N m P = true then (if K = m ∧ flB d K = true then 0 else 3) else 1
/-- are all these lists flow lists? -/
def flsB (m : Nat) (K : Nat → Nat) (d : Nat → Nat → Int) : Nat → Bool
  | 0 => true
  | k + 1 => flsB m K d k && (decide (K k = m) && flB (d k) (K k))
theorem flsB_no {m : Nat} {K : Nat → Nat} {d : Nat → Nat → Int} {k : Nat} (h : (decide (K k = m) && flB (d k) (K k)) = false) : ∀ {n : Nat}, k < n → flsB m K d n = false
  | 0, hk => by omega
  | n + 1, hk => by
    unfold flsB
    by_cases e : k = n
    · subst e; rw [h, Bool.and_false]
    · rw [flsB_no h (by omega : k < n), Bool.false_and]
noncomputable def flCL (n : Nat) (N : Nat → Nod) (m : Nat) (P : Nat → Pip) (K : Nat → Nat) (d : Nat → Nat → Int) (L : Nat) : Int := if netB n N m P = true then (if flsB m K d L = true then 0 else 3) else 1
set_option maxHeartbeats 4000000 in
theorem checkFlowsL_any (w : World) (v : Value) (n : Nat) (N : Nat → Nod) (m : Nat) (P : Nat → Pip) (lo hi : Nat) (h : NetAt w v n N m P lo hi) (hhi : hi ≤ w.heap.size) (hN : ∀ i, i < n → (N i).s.size ≤ 9223372036854775807) (b : Nat) (vl : Nat → Value) (L cap : Nat) (K : Nat → Nat) (d : Nat → Nat → Int) (la ha : Nat) (hvl : ∀ j, j < L → w.cell? ⟨b, j, none⟩ = some (vl j)) (hb : b < w.heap.size) (hv : ∀ j, j < L → Sl w (vl j) (K j) (d j) la ha) (hha : ha ≤ w.heap.size) (hK : ∀ j, j < L → K j ≤ 9223372036854775807) (hL : L ≤ 40) :
    Calls Tryz.prog 54 #[v, .slice (some ⟨b, 0, none⟩) L cap] w fun e w' => e = .returned (.int .i64 (flCL n N m P K d L)) ∧ Below w.heap.size w w' := by
  obtain ⟨p0, c0, p1, c1, rfl, hn9, hm9⟩ := h.parts
  have HV := Lib.hid h
  have HN := Lib.hid hN
  have HVL := Lib.hid hvl
  have HVS := Lib.hid hv
  have HK := Lib.hid hK
  have A0 := boxed w (.slice p0 n c0) (.slice p1 m c1) 27
  have B0 := below_new w (.cells #[.slice p0 n c0, .slice p1 m c1] 27)
  have hs0 : (w.alloc (.cells #[.slice p0 n c0, .slice p1 m c1] 27)).heap.size = w.heap.size + 1 := by simp
  clear h hN hvl hv hK
  go_enter Tryz.func54, Tryz.ntmps54
  have e0' := A0.b0
  have e1' := A0.b1
  go_wp2_with fail
  refine (isNetwork_any _ _ n N m P lo hi (HV.out.below B0 hhi) (by omega) HN.out).mono ?_
  rintro e w1 ⟨rfl, b1⟩
  have A1 := A0.below b1 (by omega)
  have B1 := B0.trans (b1.mono (by omega))
  have hs1 := b1.size
  have e1 := A1.b1
  clear A0 B0 b1 e0' e1'
  cases hB : netB n N m P
  · have H2 := Lib.hid (show flCL n N m P K d L = 1 by unfold flCL; rw [hB]; rfl)
    clear hB
    go_wp2_with fail
    go_ret
    exact ⟨ret_i H2.out.symm, B1⟩
  · have H3 := Lib.hid (show ∀ j, j < L → (decide (K j = m) && flB (d j) (K j)) = false → flCL n N m P K d L = 3 from fun j hj g => by unfold flCL; rw [hB, flsB_no g hj]; rfl)
    have H0 := Lib.hid (show flsB m K d L = true → flCL n N m P K d L = 0 from fun g => by unfold flCL; rw [hB, g]; rfl)
    have HB1 := Lib.hid B1
    clear hB B1 A1
    go_wp2_with fail
    go_loopw [12] (fun iv wr => ∃ k : Nat, iv = .int .i64 k ∧ k ≤ L ∧ flsB m K d k = true ∧ w1 = wr) (fun iv _ => L - (intOf iv).toNat)
    case atStart => exact ⟨0, rfl, Nat.zero_le _, rfl, rfl⟩
    case round =>
      obtain ⟨k, rfl, hk, hb', rfl⟩ := hrel
      generalize hQ : Exit.then _ _ = Q
      have HQ := Lib.hid hQ
      clear hQ
      have HF := Lib.hid hb'
      clear hb'
      have k0 : (0 : Int) ≤ (k : Int) := Int.natCast_nonneg _
      by_cases hlt : k < L
      · have k1 : (k : Int) < (L : Int) := by omega
        have S := (HVS.out k hlt).below HB1.out hha
        have HS := Lib.hid S
        have hKk := HK.out k hlt
        obtain ⟨pa, ca, ea, _⟩ := S.ex
        have y0 : w1.cell? ⟨b, k, none⟩ = some (.slice pa (K k) ca) := by
          rw [← ea]
          exact (HB1.out.cell (p := ⟨b, k, none⟩) hb).trans (HVL.out k hlt)
        have HS' := Lib.hid (ea ▸ HS.out)
        clear S HS ea
        generalize hKK : K k = KK at *
        generalize hdd : d k = dd at *
        have HKK := Lib.hid hKK
        have HDD := Lib.hid hdd
        clear hKK hdd
        by_cases hKm : KK = m
        · have hb1 : ((KK : Int) != (m : Int)) = false := by simp [hKm]
          cases hf : flB dd KK
          · have H2 := Lib.hid (H3.out k hlt (by rw [HKK.out, HDD.out, hf, Bool.and_false]))
            clear hKm
            go_wp2_with (go_at_call 106; refine (areFlows_any _ _ KK dd _ _ HS'.out hKk).mono ?_; rintro e w' ⟨rfl, rfl⟩; rw [hf])
            rw [← HQ.out]
            go_wp2_with fail
            go_ret
            exact ⟨ret_i H2.out.symm, HB1.out⟩
          · have HR := Lib.hid (show flsB m K d (k + 1) = true by unfold flsB; rw [HF.out, HKK.out, HDD.out, hf, hKm]; simp)
            clear hKm
            go_wp2_with (go_at_call 106; refine (areFlows_any _ _ KK dd _ _ HS'.out hKk).mono ?_; rintro e w' ⟨rfl, rfl⟩; rw [hf])
            rw [← HQ.out]
            refine ⟨⟨_, _, _, _, _, _, _, _, _, _, _, _, _, _, _, _, _, _, ?rel, rfl⟩, ?measure⟩
            case rel => exact ⟨k + 1, by go_num, hlt, HR.out, rfl⟩
            case measure => simp [intOf]; omega
        · have hb1 : ((KK : Int) != (m : Int)) = true := by simp; omega
          have H2 := Lib.hid (H3.out k hlt (by rw [HKK.out, decide_eq_false hKm, Bool.false_and]))
          clear hKm
          go_wp2_with fail
          rw [← HQ.out]
          go_wp2_with fail
          go_ret
          exact ⟨ret_i H2.out.symm, HB1.out⟩
      · have hkn : L = k := by omega
        have H2 := Lib.hid (H0.out (by rw [hkn]; exact HF.out))
        have k1 : ¬ ((k : Int) < (L : Int)) := by omega
        clear hkn
        go_wp2_with fail
        rw [← HQ.out]
        go_wp2_with fail
        go_ret
        exact ⟨ret_i H2.out.symm, HB1.out⟩
theorem flC_one (n : Nat) (N : Nat → Nod) (m : Nat) (P : Nat → Pip) (K : Nat) (d : Nat → Int) : flCL n N m P (fun _ => K) (fun _ => d) 1 = flC n N m P K d := by
  unfold flCL flC
  simp [flsB]
theorem checkFlows_any (w : World) (v : Value) (n : Nat) (N : Nat → Nod) (m : Nat) (P : Nat → Pip) (lo hi : Nat) (h : NetAt w v n N m P lo hi) (hhi : hi ≤ w.heap.size) (hN : ∀ i, i < n → (N i).s.size ≤ 9223372036854775807) (va : Value) (b : Nat) (hb : w.cell? ⟨b, 0, none⟩ = some va) (hbl : b < w.heap.size) (K : Nat) (d : Nat → Int) (la ha : Nat) (hv : Sl w va K d la ha) (hha : ha ≤ w.heap.size) (hK : K ≤ 9223372036854775807) :
    Calls Tryz.prog 54 #[v, .slice (some ⟨b, 0, none⟩) 1 1] w fun e w' => e = .returned (.int .i64 (flC n N m P K d)) ∧ Below w.heap.size w w' := by
  rw [← flC_one]
  exact checkFlowsL_any w v n N m P lo hi h hhi hN b (fun _ => va) 1 1 (fun _ => K) (fun _ => d) la ha (fun j hj => by rw [show j = 0 by omega]; exact hb) hbl (fun _ _ => hv) hha (fun _ _ => hK) (by omega)

set_option maxRecDepth 100000 in
set_option maxHeartbeats 4000000 in
theorem flowListOf_any (w : World) (p0 p1 : Option Addr) (n m c0 c1 : Nat) (x : Nat → Int) (hm : m ≤ 40) :
    Calls Tryz.prog 90 #[.agg #[.slice p0 n c0, .slice p1 m c1], .agg (arr x)] w fun e w' => Below w.heap.size w w' ∧ ((flB x 40 = true ∧ ∃ v2 g, e = .returned (.tuple #[v2, .int .i64 0]) ∧ Own w' v2 m x g ∧ w.heap.size ≤ g) ∨ (flB x 40 = false ∧ e = .returned (.tuple #[.slice none 0 0, .int .i64 2]))) := by
  have a0 := (boxed w (.slice p0 n c0) (.slice p1 m c1) 27).keep (Below.heap_alloc _ (.cells (arr x) 111) _ (by simp only [World.size_alloc]; omega))
  have a1 := Ob.newA (w.alloc (.cells #[.slice p0 n c0, .slice p1 m c1] 27)) x 111
  simp only [World.size_alloc] at a1
  have b0 := below_new w (.cells #[.slice p0 n c0, .slice p1 m c1] 27)
  have b1 := b0.trans ((below_new _ (.cells (arr x) 111)).mono (by simp only [World.size_alloc]; omega))
  have hs0 : ((w.alloc (.cells #[.slice p0 n c0, .slice p1 m c1] 27)).alloc (.cells (arr x) 111)).heap.size = w.heap.size + 1 + 1 := by simp
  obtain ⟨t1, g1⟩ := a1.row
  have HA := Lib.hid a1
  have HB := Lib.hid b1
  have HS := Lib.hid hs0
  have y0 := a0.b0
  have y1 := a0.b1
  clear a0 a1 b0 b1 hs0
  cases hf : flB x 40
  · go_enter Tryz.func90, Tryz.ntmps90
    go_wp2_with (go_at_call 106; refine (areFlows_any _ _ 40 x _ _ (HA.out.sl 40 40 (Nat.le_refl _)) (by omega)).mono ?_; rintro e w' ⟨rfl, rfl⟩; rw [hf])
    go_ret2
    exact ⟨HB.out, .inr ⟨by first | exact hf | trivial, rfl⟩⟩
  · go_enter Tryz.func90, Tryz.ntmps90
    go_wp2_with (first
      | (go_at_call 106; refine (areFlows_any _ _ 40 x _ _ (HA.out.sl 40 40 (Nat.le_refl _)) (by omega)).mono ?_; rintro e w' ⟨rfl, rfl⟩; rw [hf])
      | (refine wpList_load_row rfl 111 _ rfl (w.heap.size + 1) rfl t1 _ (0, 0) _ g1 Tryz.underlying111 rfl (by rw [arr_size]; exact flow_info) ?_)
      | (go_at_call 96; refine (listOf_any _ p0 p1 n m c0 c1 x hm).mono ?_; rintro e w5 ⟨v2, g, rfl, ho, hg, hb⟩))
    go_ret2
    exact ⟨HB.out.trans (hb.mono (by have := HS.out; omega)), .inl ⟨by first | exact hf | trivial, v2, g, rfl, ho, by have := HS.out; omega⟩⟩
end Go.Proofs.YtdbgcbkmcbgdiaaGreat.mem

namespace Go.Proofs.YtdbgcbkmcbgdiaaGreat.mem
open Go.RowKit
set_option linter.unusedVariables false

theorem Sl.sh {w : World} {v : Value} {n : Nat} {d : Nat → Int} {lo hi : Nat} (h : Sl w v n d lo hi) : ∃ p cap, v = .slice p n cap := by
  obtain ⟨p, cap, e, _⟩ := h.ex
  exact ⟨p, cap, e⟩
theorem cell_newV (w : World) (x : Value) (t : TypeId) : (w.alloc (.cells #[x] t)).cell? ⟨w.heap.size, 0, none⟩ = some x := by
  have := heap_alloc_new w (Obj.cells #[x] t)
  simp only [World.cell?, this]
  simp
/-- what flowListOf answers, as a list and a code -/
def FloOut (m : Nat) (x : Nat → Int) (b : Nat) (w' : World) (v2 : Value) (cd : Int) : Prop := (flB x 40 = true ∧ cd = 0 ∧ ∃ g, Own w' v2 m x g ∧ b ≤ g) ∨ (flB x 40 = false ∧ cd = 2 ∧ v2 = .slice none 0 0)
theorem flo_out {m : Nat} {x : Nat → Int} {b : Nat} {w' : World} {e : Ending} (h : (flB x 40 = true ∧ ∃ v2 g, e = .returned (.tuple #[v2, .int .i64 0]) ∧ Own w' v2 m x g ∧ b ≤ g) ∨ (flB x 40 = false ∧ e = .returned (.tuple #[.slice none 0 0, .int .i64 2]))) :
    ∃ v2 cd, e = .returned (.tuple #[v2, .int .i64 cd]) ∧ Shut (FloOut m x b w' v2 cd) := by
  rcases h with ⟨h1, v2, g, rfl, ho, hg⟩ | ⟨h1, rfl⟩
  · exact ⟨v2, 0, rfl, show FloOut m x b w' v2 0 from .inl ⟨h1, rfl, g, ho, hg⟩⟩
  · exact ⟨_, 2, rfl, show FloOut m x b w' (.slice none 0 0) 2 from .inr ⟨h1, rfl, rfl⟩⟩
def cyD (n : Nat) (P : Nat → Pip) (m : Nat) (x : Int) : Nat → Int := cyc P (fE n P m) (fD n P m) x.toNat
theorem flC_ok {n : Nat} {N : Nat → Nod} {m : Nat} {P : Nat → Pip} {K : Nat} {d : Nat → Int} (h : flC n N m P K d = 0) : netB n N m P = true ∧ K = m ∧ flB d K = true := by
  unfold flC at h
  split at h
  · next hB =>
    split at h
    · next hk => exact ⟨hB, hk⟩
    · omega
  · omega
end Go.Proofs.YtdbgcbkmcbgdiaaGreat.mem

namespace Go.Proofs.YtdbgcbkmcbgdiaaGreat.mem
open Go.RowKit
set_option linter.unusedVariables false

theorem sl_dr {w : World} {v : Value} {n : Nat} {d : Nat → Int} {lo hi : Nat} (h : Sl w v n d lo hi) : Sl w.drew v n d lo hi := h.drewN 1
theorem flB_mono {d : Nat → Int} {m : Nat} (h : ∀ k, m ≤ k → d k = 0) : ∀ j, flB d (m + j) = flB d m
  | 0 => rfl
  | j + 1 => by
    show (flB d (m + j) && flQ (d (m + j))) = _
    rw [flB_mono h j, h (m + j) (by omega)]
    simp [flQ, inR]
theorem flB_ext {d : Nat → Int} {m K : Nat} (hm : m ≤ K) (h : ∀ k, m ≤ k → d k = 0) : flB d K = flB d m := by
  have := flB_mono h (K - m)
  rwa [show m + (K - m) = K by omega] at this
theorem flQ_iff {x : Int} : flQ x = true ↔ -30000 ≤ x ∧ x ≤ 30000 := by
  unfold flQ
  rw [inR_iff]
end Go.Proofs.YtdbgcbkmcbgdiaaGreat.mem

namespace Go.Proofs.YtdbgcbkmcbgdiaaGreat.mem
open Go.RowKit
set_option linter.unusedVariables false

theorem cyc_off {n : Nat} {N : Nat → Nod} {P : Nat → Pip} {m : Nat} (hN : netB n N m P = true) {c a : Nat} (hc : c < m) (ha : m ≤ a) : cyc P (fE n P m) (fD n P m) c a = 0 := by
  rw [(fo_net hN).cyc_chord hc (fun z z0 z1 e => by
    rcases (fo_net (P := P) (m := m) hN).par z z0 z1 with g | ⟨b, hb, g, _⟩ <;> omega)]
  unfold one1
  rw [if_neg (by omega)]
def adD (n : Nat) (P : Nat → Pip) (m : Nat) (d : Nat → Int) (x y : Int) (k : Nat) : Int := d k + y * cyD n P m x k
/-- are two arrays equal? -/
def eqL (x y : Nat → Int) : List Nat → Bool
  | [] => true
  | i :: l => x i == y i && eqL x y l
theorem eqL_iff {x y : Nat → Int} : ∀ {l : List Nat}, eqL x y l = true ↔ ∀ i ∈ l, x i = y i
  | [] => by simp [eqL]
  | i :: l => by
    unfold eqL
    rw [Bool.and_eq_true, eqL_iff, beq_iff_eq]
    simp
end Go.Proofs.YtdbgcbkmcbgdiaaGreat.mem

namespace Go.Proofs.YtdbgcbkmcbgdiaaGreat.mem
open Go.RowKit
set_option linter.unusedVariables false

/-- what the first k numbers add up to whose mark is z -/
def csm (R : Nat → Int) (s : Nat → Int) : Nat → Int → Int
  | 0, _ => 0
  | k + 1, z => csm R s k z + (if R k = z then s k else 0)
theorem csm_congr {R s t : Nat → Int} {z : Int} : ∀ {k : Nat}, (∀ i, i < k → s i = t i) → csm R s k z = csm R t k z
  | 0, _ => rfl
  | k + 1, h => by
    unfold csm
    rw [csm_congr (k := k) (fun i hi => h i (by omega)), h k (by omega)]
theorem csm_add (R s t : Nat → Int) (z : Int) : ∀ k, csm R (fun i => s i + t i) k z = csm R s k z + csm R t k z
  | 0 => rfl
  | k + 1 => by
    unfold csm
    rw [csm_add R s t z k]
    split <;> omega
theorem csm_sub (R s t : Nat → Int) (z : Int) : ∀ k, csm R (fun i => s i - t i) k z = csm R s k z - csm R t k z
  | 0 => rfl
  | k + 1 => by
    unfold csm
    rw [csm_sub R s t z k]
    split <;> omega
theorem csm_zero (R : Nat → Int) (z : Int) : ∀ k, csm R (fun _ => 0) k z = 0
  | 0 => rfl
  | k + 1 => by
    unfold csm
    rw [csm_zero R z k]
    split <;> rfl
theorem csm_only {R s : Nat → Int} {z : Int} {r : Nat} : ∀ k, (∀ i, i < k → R i = z → i ≠ r → s i = 0) → csm R s k z = if r < k ∧ R r = z then s r else 0
  | 0, _ => by rw [if_neg (by omega)]; rfl
  | k + 1, h => by
    unfold csm
    rw [csm_only (r := r) k (fun i hi => h i (by omega))]
    by_cases e : k = r
    · subst e
      rw [if_neg (by omega), Int.zero_add]
      by_cases g : R k = z
      · rw [if_pos g, if_pos ⟨by omega, g⟩]
      · rw [if_neg g, if_neg (fun q => g q.2)]
    · have hk : (if R k = z then s k else 0) = 0 := by
        split
        · next g => exact h k (by omega) g e
        · rfl
      rw [hk, Int.add_zero]
      by_cases g : r < k ∧ R r = z
      · rw [if_pos g, if_pos ⟨by omega, g.2⟩]
      · rw [if_neg g, if_neg (fun q => g ⟨by omega, q.2⟩)]
theorem csm_at (R : Nat → Int) (z c y : Int) (n : Nat) (hy : 0 ≤ y ∧ y < n) : csm R (fun i => if y = ((i : Nat) : Int) then c else 0) n z = if R y.toNat = z then c else 0 := by
  rw [csm_only (r := y.toNat) n (fun i _ _ hne => if_neg (by omega))]
  have e : y = ((y.toNat : Nat) : Int) := by omega
  rw [if_pos e]
  by_cases g : R y.toNat = z
  · rw [if_pos g, if_pos ⟨by omega, g⟩]
  · rw [if_neg g, if_neg (fun q => g q.2)]
/-- what a flow balances adds up to 0 over the nodes of one mark, if no pipe leads to another mark -/
theorem csm_dv {P : Nat → Pip} {x R : Nat → Int} {n : Nat} {z : Int} : ∀ k, (∀ a, a < k → (0 ≤ (P a).f ∧ (P a).f < n) ∧ (0 ≤ (P a).t ∧ (P a).t < n) ∧ R (P a).f.toNat = R (P a).t.toNat) → csm R (fun i => dv P x k ((i : Nat) : Int)) n z = 0
  | 0, _ => csm_zero R z n
  | k + 1, h => by
    obtain ⟨h1, h2, h3⟩ := h k (by omega)
    have e : (fun i : Nat => dv P x (k + 1) ((i : Nat) : Int)) = fun i => (dv P x k ((i : Nat) : Int) + (if (P k).f = ((i : Nat) : Int) then x k else 0)) - (if (P k).t = ((i : Nat) : Int) then x k else 0) := rfl
    rw [e, csm_sub, csm_add, csm_dv k (fun a ha => h a (by omega)), csm_at R z _ _ n h1, csm_at R z _ _ n h2, h3]
    omega

/-- what the ways up carry together -/
def ffl (P : Nat → Pip) (E D : Int → Int) (s : Nat → Int) : Nat → Nat → Int
  | 0, _ => 0
  | k + 1, a => ffl P E D s k a + asc P E D ((k : Nat) : Int) a * s k
theorem Fo.ffl_dv {n : Nat} {P : Nat → Pip} {m : Nat} {E D R : Int → Int} (h : Fo n P m E D) (r0 : ∀ z : Int, 0 ≤ z ∧ z < n → E z = -1 → R z = z) (r1 : ∀ z : Int, 0 ≤ z ∧ z < n → ∀ c : Nat, c < m → E z = (c : Int) → R (othV (P c) z) = R z) {s : Nat → Int} (y : Nat) :
    ∀ k, k ≤ n → dv P (ffl P E D s k) m ((y : Nat) : Int) = (if y < k then s y else 0) - csm (fun i => R ((i : Nat) : Int)) s k ((y : Nat) : Int)
  | 0, _ => by
    rw [if_neg (by omega)]
    exact dv_zero P _ m
  | k + 1, hk => by
    have e : ffl P E D s (k + 1) = fun a => ffl P E D s k a + (fun b => s k * asc P E D ((k : Nat) : Int) b) a := by
      funext a
      show _ + _ = _ + _
      rw [Int.mul_comm]
    rw [e, dv_add, h.ffl_dv r0 r1 y k (by omega), dv_mul, h.asc_dv r0 r1 (z := ((k : Nat) : Int)) ⟨by omega, by omega⟩]
    show _ = _ - (csm _ s k _ + (if R ((k : Nat) : Int) = ((y : Nat) : Int) then s k else 0))
    by_cases e1 : k = y
    · subst e1
      rw [if_neg (Nat.lt_irrefl k), if_pos (Nat.lt_succ_self k), if_pos rfl]
      by_cases g : R ((k : Nat) : Int) = ((k : Nat) : Int)
      · rw [if_pos g, if_pos g]; omega
      · rw [if_neg g, if_neg g]; omega
    · rw [if_neg (show ¬ ((k : Nat) : Int) = ((y : Nat) : Int) by omega)]
      have e2 : (if y < k then s y else 0) = if y < k + 1 then s y else 0 := by
        by_cases g : y < k
        · rw [if_pos g, if_pos (by omega)]
        · rw [if_neg g, if_neg (by omega)]
      rw [← e2]
      by_cases g : R ((k : Nat) : Int) = ((y : Nat) : Int)
      · rw [if_pos g, if_pos g]; omega
      · rw [if_neg g, if_neg g]; omega
theorem Fo.ffl_sup {n : Nat} {P : Nat → Pip} {m : Nat} {E D : Int → Int} (h : Fo n P m E D) {s : Nat → Int} {a : Nat} : ∀ k, k ≤ n → ffl P E D s k a ≠ 0 → ∃ z : Int, 0 ≤ z ∧ z < n ∧ E z = (a : Int)
  | 0, _, hx => absurd rfl hx
  | k + 1, hk, hx => by
    by_cases e : ffl P E D s k a = 0
    · by_cases g : asc P E D ((k : Nat) : Int) a = 0
      · exact absurd (show ffl P E D s k a + asc P E D ((k : Nat) : Int) a * s k = 0 by rw [e, g, Int.zero_mul]; rfl) hx
      · obtain ⟨z, z0, z1, z2, _⟩ := h.asc_sup (z := ((k : Nat) : Int)) ⟨by omega, by omega⟩ a g
        exact ⟨z, z0, z1, z2⟩
    · exact h.ffl_sup k (by omega) e
theorem mul1 {x c : Int} (hx : -30000 ≤ x ∧ x ≤ 30000) (hc : -1 ≤ c ∧ c ≤ 1) : -30000 ≤ c * x ∧ c * x ≤ 30000 := by
  rcases (by omega : c = -1 ∨ c = 0 ∨ c = 1) with rfl | rfl | rfl <;> omega
theorem Fo.ffl_bd {n : Nat} {P : Nat → Pip} {m : Nat} {E D : Int → Int} (h : Fo n P m E D) {s : Nat → Int} (a : Nat) : ∀ k, k ≤ n → (∀ i, i < k → -30000 ≤ s i ∧ s i ≤ 30000) → -30000 * (k : Int) ≤ ffl P E D s k a ∧ ffl P E D s k a ≤ 30000 * (k : Int)
  | 0, _, _ => by show _ ≤ (0 : Int) ∧ (0 : Int) ≤ _; omega
  | k + 1, hk, hs => by
    have ih := h.ffl_bd (s := s) a k (by omega) (fun i hi => hs i (by omega))
    have h1 := mul1 (hs k (by omega)) (h.asc_rng (z := ((k : Nat) : Int)) ⟨by omega, by omega⟩ a)
    show _ ≤ ffl P E D s k a + asc P E D ((k : Nat) : Int) a * s k ∧ ffl P E D s k a + asc P E D ((k : Nat) : Int) a * s k ≤ _
    omega
/-- the marks: the least nodes of the components -/
def cmpN (n : Nat) (P : Nat → Pip) (m : Nat) (i : Nat) : Int := cmp n P m n ((i : Nat) : Int)
/-- are supplies even? -/
def evB (n : Nat) (P : Nat → Pip) (m : Nat) (s : Nat → Int) : Bool := (List.range n).all (fun z => csm (cmpN n P m) s n ((z : Nat) : Int) == 0)
theorem evB_iff {n : Nat} {P : Nat → Pip} {m : Nat} {s : Nat → Int} : evB n P m s = true ↔ ∀ z, z < n → csm (cmpN n P m) s n ((z : Nat) : Int) = 0 := by
  unfold evB
  rw [List.all_eq_true]
  constructor
  · intro h k hk
    simpa using h k (List.mem_range.2 hk)
  · intro h k hk
    simpa using h k (List.mem_range.1 hk)
def fflN (n : Nat) (P : Nat → Pip) (m : Nat) (s : Nat → Int) (a : Nat) : Int := ffl P (fE n P m) (fD n P m) s n a
theorem fflN_bal {n : Nat} {N : Nat → Nod} {P : Nat → Pip} {m : Nat} (hN : netB n N m P = true) {s : Nat → Int} (he : evB n P m s = true) (y : Nat) (hy : y < n) : dv P (fflN n P m s) m ((y : Nat) : Int) = s y := by
  have h1 := (fo_net hN).ffl_dv (fo_r0 hN) (fo_r2 hN) (s := s) y n (Nat.le_refl n)
  have h2 := evB_iff.1 he y hy
  rw [if_pos hy] at h1
  unfold cmpN at h2
  rw [h2, Int.sub_zero] at h1
  exact h1
theorem fflN_uniq {n : Nat} {N : Nat → Nod} {P : Nat → Pip} {m : Nat} (hN : netB n N m P = true) {s x : Nat → Int} (he : evB n P m s = true) (hs : ∀ a, a < m → x a ≠ 0 → ∃ z : Int, 0 ≤ z ∧ z < n ∧ fE n P m z = (a : Int)) (hx : ∀ y, y < n → dv P x m ((y : Nat) : Int) = s y) : ∀ a, a < m → x a = fflN n P m s a := by
  intro a ha
  have key := (fo_net hN).zero (x := fun a => x a - fflN n P m s a) (fun b hb hne => by
    by_cases g : x b = 0
    · exact (fo_net hN).ffl_sup (s := s) n (Nat.le_refl n) (fun q => hne (by show x b - ffl _ _ _ s n b = 0; rw [g, q]; rfl))
    · exact hs b hb g) (fun z z0 z1 => by
    obtain ⟨y, rfl⟩ := Int.eq_ofNat_of_zero_le z0
    rw [dv_sub, hx y (by omega), fflN_bal hN he y (by omega)]
    omega) a ha
  have e : x a - fflN n P m s a = 0 := key
  omega
theorem fflN_off {n : Nat} {N : Nat → Nod} {P : Nat → Pip} {m : Nat} (hN : netB n N m P = true) (s : Nat → Int) {a : Nat} (ha : m ≤ a) : fflN n P m s a = 0 := by
  by_cases g : fflN n P m s a = 0
  · exact g
  · obtain ⟨z, z0, z1, e⟩ := (fo_net hN).ffl_sup (s := s) (a := a) n (Nat.le_refl n) g
    rcases (fo_net (P := P) (m := m) hN).par z z0 z1 with q | ⟨b, hb, q, _⟩ <;> omega

/-- the sum without signs -/
def sab (l : Nat → Int) : Nat → Int
  | 0 => 0
  | k + 1 => sab l k + ((l k).natAbs : Int)
theorem sab_pos (l : Nat → Int) : ∀ k, 0 ≤ sab l k
  | 0 => by show (0 : Int) ≤ 0; omega
  | k + 1 => by have := sab_pos l k; show (0 : Int) ≤ sab l k + _; omega
theorem sab_ge (l : Nat → Int) {i : Nat} : ∀ k, i < k → -(sab l k) ≤ l i ∧ l i ≤ sab l k
  | 0, h => by omega
  | k + 1, h => by
    have p := sab_pos l k
    show -(sab l k + _) ≤ l i ∧ l i ≤ sab l k + _
    by_cases e : i = k
    · subst e; omega
    · have := sab_ge l k (show i < k by omega); omega
theorem sab_upd (l : Nat → Int) (i : Nat) (y : Int) : ∀ k, sab (upd l i y) k = sab l k + (if i < k then (y.natAbs : Int) - ((l i).natAbs : Int) else 0)
  | 0 => by rw [if_neg (by omega)]; rfl
  | k + 1 => by
    show sab (upd l i y) k + _ = sab l k + _ + _
    rw [sab_upd l i y k]
    unfold upd
    by_cases e : k = i
    · subst e
      rw [if_neg (Nat.lt_irrefl k), if_pos rfl, if_pos (Nat.lt_succ_self k)]
      omega
    · rw [if_neg e]
      by_cases g : i < k
      · rw [if_pos g, if_pos (by omega)]; omega
      · rw [if_neg g, if_neg (by omega)]; omega
theorem sab_le (s : Nat → Int) : ∀ k, (∀ i, i < k → -30000 ≤ s i ∧ s i ≤ 30000) → sab s k ≤ 30000 * (k : Int)
  | 0, _ => by show (0 : Int) ≤ _; omega
  | k + 1, h => by
    have := sab_le s k (fun i hi => h i (by omega))
    have h1 := h k (by omega)
    show sab s k + _ ≤ _
    omega

/-- the flow that leaves an end -/
def sgv (q : Pip) (z y : Int) : Int := if q.f = z then y else -y
/-- flows and what is left at the nodes, when some nodes are done -/
structure St (n : Nat) (P : Nat → Pip) (m : Nat) (E : Int → Int) (s : Nat → Int) (Dn : Nat → Prop) (x l : Nat → Int) : Prop where
  bal : ∀ z, z < n → dv P x m ((z : Nat) : Int) + l z = s z
  sup : ∀ a, a < m → x a ≠ 0 → ∃ z, z < n ∧ Dn z ∧ E ((z : Nat) : Int) = ((a : Nat) : Int)
  don : ∀ z, z < n → Dn z → l z = 0
  sum : sab l n ≤ sab s n
theorem St.same {n : Nat} {P : Nat → Pip} {m : Nat} {E : Int → Int} {s x l : Nat → Int} {Dn De : Nat → Prop} (h : St n P m E s Dn x l) (e : ∀ z, Dn z ↔ De z) : St n P m E s De x l :=
  ⟨h.bal, fun a ha hx => by obtain ⟨z, z0, z1, z2⟩ := h.sup a ha hx; exact ⟨z, z0, (e z).1 z1, z2⟩, fun z hz d => h.don z hz ((e z).2 d), h.sum⟩
theorem St.start {n : Nat} {P : Nat → Pip} {m : Nat} {E : Int → Int} {s : Nat → Int} {Dn : Nat → Prop} (h : ∀ z, ¬ Dn z) : St n P m E s Dn (fun _ => 0) s :=
  ⟨fun z _ => by rw [dv_zero]; omega, fun _ _ g => absurd rfl g, fun z _ d => absurd d (h z), Int.le_refl _⟩
theorem St.bd {n : Nat} {P : Nat → Pip} {m : Nat} {E : Int → Int} {s x l : Nat → Int} {Dn : Nat → Prop} (h : St n P m E s Dn x l) (hs : ∀ i, i < n → -30000 ≤ s i ∧ s i ≤ 30000) (hn : n ≤ 24) {z : Nat} (hz : z < n) : -720000 ≤ l z ∧ l z ≤ 720000 := by
  have h1 := sab_le s n hs
  have h2 := sab_ge l n hz
  have h3 := h.sum
  omega
theorem St.step {n : Nat} {P : Nat → Pip} {m : Nat} {E D : Int → Int} {s x l : Nat → Int} {Dn : Nat → Prop} (fo : Fo n P m E D) (h : St n P m E s Dn x l) {v a u : Nat} (hv : v < n) (ha : a < m) (he : E ((v : Nat) : Int) = ((a : Nat) : Int)) (hu : othV (P a) ((v : Nat) : Int) = ((u : Nat) : Int)) (hun : u < n) (nv : ¬ Dn v) (nu : ¬ Dn u) :
    St n P m E s (fun z => Dn z ∨ z = v) (upd x a (sgv (P a) ((v : Nat) : Int) (l v))) (upd (upd l u (l u + l v)) v 0) := by
  have x0 : x a = 0 := by
    by_cases g : x a = 0
    · exact g
    · obtain ⟨z, z0, z1, z2⟩ := h.sup a ha g
      have := fo.uniq (y := ((z : Nat) : Int)) (z := ((v : Nat) : Int)) ⟨by omega, by omega⟩ ⟨by omega, by omega⟩ z2 he
      have e : z = v := by omega
      subst e
      exact absurd z1 nv
  have hend : endB (P a) ((v : Nat) : Int) = true := by
    rcases fo.par ((v : Nat) : Int) (by omega) (by omega) with e | ⟨b, hb, e, g, _⟩
    · omega
    · obtain rfl : b = a := by omega
      exact g
  obtain ⟨_, _, hft⟩ := pip_end (fo.pip a ha)
  have huv : u ≠ v := by
    intro e
    have := (oth_oth (fo.pip a ha) hend).2.2
    rw [hu, e] at this
    exact this rfl
  unfold endB at hend
  simp only [Bool.or_eq_true, beq_iff_eq] at hend
  refine ⟨fun z hz => ?_, fun b hb hx => ?_, fun z hz d => ?_, ?_⟩
  · have e : upd x a (sgv (P a) ((v : Nat) : Int) (l v)) = fun b => x b + (fun c => sgv (P a) ((v : Nat) : Int) (l v) * one1 a c) b := by
      funext b
      unfold upd one1
      by_cases g : b = a
      · subst g
        rw [if_pos rfl]
        show _ = x b + _ * (if b = b then 1 else 0)
        rw [if_pos rfl, x0]
        omega
      · rw [if_neg g]
        show _ = x b + _ * (if b = a then 1 else 0)
        rw [if_neg g]
        omega
    rw [e, dv_add, dv_mul, dv_one ha]
    have hb := h.bal z hz
    have e2 : sgv (P a) ((v : Nat) : Int) (l v) * ((if (P a).f = ((z : Nat) : Int) then 1 else 0) - (if (P a).t = ((z : Nat) : Int) then 1 else 0)) = (if z = v then l v else 0) - (if z = u then l v else 0) := by
      unfold sgv
      unfold othV at hu
      by_cases hf : (P a).f = ((v : Nat) : Int)
      · rw [if_pos hf] at hu ⊢
        rw [hu, hf]
        by_cases g : z = v
        · subst g
          rw [if_pos rfl, if_neg (by omega), if_pos rfl, if_neg (by omega)]
          omega
        · rw [if_neg (show ¬ ((v : Nat) : Int) = ((z : Nat) : Int) by omega), if_neg g]
          by_cases g2 : z = u
          · subst g2
            rw [if_pos rfl, if_pos rfl]
            omega
          · rw [if_neg (show ¬ ((u : Nat) : Int) = ((z : Nat) : Int) by omega), if_neg g2]
            omega
      · have ht : (P a).t = ((v : Nat) : Int) := hend.resolve_left hf
        rw [if_neg hf] at hu ⊢
        rw [ht, hu]
        by_cases g : z = v
        · subst g
          rw [if_pos rfl, if_neg (by omega), if_pos rfl, if_neg (by omega)]
          omega
        · rw [if_neg (show ¬ ((v : Nat) : Int) = ((z : Nat) : Int) by omega), if_neg g]
          by_cases g2 : z = u
          · subst g2
            rw [if_pos rfl, if_pos rfl]
            omega
          · rw [if_neg (show ¬ ((u : Nat) : Int) = ((z : Nat) : Int) by omega), if_neg g2]
            omega
    rw [e2]
    unfold upd
    by_cases g : z = v
    · subst g
      rw [if_pos rfl, if_neg (fun q => huv q.symm), if_pos rfl]
      omega
    · rw [if_neg g, if_neg g]
      by_cases g2 : z = u
      · subst g2
        rw [if_pos rfl, if_pos rfl]
        omega
      · rw [if_neg g2, if_neg g2]
        omega
  · by_cases g : b = a
    · subst g
      exact ⟨v, hv, .inr rfl, he⟩
    · unfold upd at hx
      rw [if_neg g] at hx
      obtain ⟨z, z0, z1, z2⟩ := h.sup b hb hx
      exact ⟨z, z0, .inl z1, z2⟩
  · unfold upd
    by_cases g : z = v
    · rw [if_pos g]
    · rw [if_neg g]
      rcases d with d | d
      · rw [if_neg (show ¬ z = u from fun q => nu (q ▸ d))]
        exact h.don z hz d
      · exact absurd d g
  · rw [sab_upd, if_pos hv, sab_upd, if_pos hun]
    have e : upd l u (l u + l v) v = l v := by unfold upd; rw [if_neg (fun q => huv q.symm)]
    rw [e]
    have := h.sum
    omega
/-- when all but the first nodes are done, the flow is the one in the forest -/
theorem St.fin {n : Nat} {N : Nat → Nod} {P : Nat → Pip} {m : Nat} {s x l : Nat → Int} {Dn : Nat → Prop} (hN : netB n N m P = true) (he : evB n P m s = true) (h : St n P m (fE n P m) s Dn x l) (hd : ∀ z, z < n → fE n P m ((z : Nat) : Int) ≠ -1 → Dn z) : ∀ a, a < m → x a = fflN n P m s a := by
  have hl : ∀ z, z < n → l z = 0 := by
    intro z hz
    by_cases e : fE n P m ((z : Nat) : Int) = -1
    · have r0 := fo_r0 hN ((z : Nat) : Int) ⟨by omega, by omega⟩ e
      have h1 : csm (cmpN n P m) (fun i => s i - dv P x m ((i : Nat) : Int)) n ((z : Nat) : Int) = csm (cmpN n P m) l n ((z : Nat) : Int) := csm_congr (fun i hi => by have := h.bal i hi; omega)
      rw [csm_sub, evB_iff.1 he z hz, csm_dv m (fun a ha => by
        obtain ⟨p1, p2, _⟩ := pip_end (net_pip hN ha)
        refine ⟨p1, p2, ?_⟩
        unfold cmpN
        rw [Int.toNat_of_nonneg p1.1, Int.toNat_of_nonneg p2.1]
        exact fo_r1 hN a ha), csm_only (r := z) n (fun i hi hr hne => by
        by_cases e2 : fE n P m ((i : Nat) : Int) = -1
        · have := fo_r0 hN ((i : Nat) : Int) ⟨by omega, by omega⟩ e2
          unfold cmpN at hr
          omega
        · exact h.don i hi (hd i hi e2)), if_pos ⟨hz, r0⟩] at h1
      omega
    · exact h.don z hz (hd z hz e)
  exact fflN_uniq hN he (fun a ha hx => by
    obtain ⟨z, z0, _, z2⟩ := h.sup a ha hx
    exact ⟨((z : Nat) : Int), by omega, by omega, z2⟩) (fun y hy => by have := h.bal y hy; have := hl y hy; omega)

/-- done: the nodes but the first one of the components of the first k nodes -/
def DnR (n : Nat) (P : Nat → Pip) (m k z : Nat) : Prop := ∃ r, r < k ∧ rts n P m r = true ∧ vhas (vis n P m ((r : Nat) : Int)) ((z : Nat) : Int) = true ∧ z ≠ r
/-- and of those visited from k the ones from place j on -/
def DnI (n : Nat) (P : Nat → Pip) (m k j z : Nat) : Prop := DnR n P m k z ∨ ∃ i v, j ≤ i ∧ 0 < i ∧ (vis n P m ((k : Nat) : Int))[i]? = some v ∧ v.nd = ((z : Nat) : Int)
theorem DnR_zero (n : Nat) (P : Nat → Pip) (m z : Nat) : ¬ DnR n P m 0 z := fun ⟨r, h, _⟩ => by omega
theorem DnR_skip {n : Nat} {P : Nat → Pip} {m k : Nat} (h : rts n P m k = false) (z : Nat) : DnR n P m k z ↔ DnR n P m (k + 1) z := by
  constructor
  · rintro ⟨r, h1, h2⟩
    exact ⟨r, by omega, h2⟩
  · rintro ⟨r, h1, h2, h3⟩
    have : r ≠ k := fun e => by rw [e, h] at h2; cases h2
    exact ⟨r, by omega, h2, h3⟩
theorem DnI_top {n : Nat} {P : Nat → Pip} {m k j : Nat} (h : (vis n P m ((k : Nat) : Int)).length ≤ j) (z : Nat) : DnR n P m k z ↔ DnI n P m k j z := by
  constructor
  · exact .inl
  · rintro (g | ⟨i, v, h1, _, h2, _⟩)
    · exact g
    · have := get_lt h2
      omega
theorem DnI_step {n : Nat} {P : Nat → Pip} {m k j V : Nat} {v : Vs} (h : (vis n P m ((k : Nat) : Int))[j]? = some v) (h0 : 0 < j) (hv : v.nd = ((V : Nat) : Int)) (z : Nat) : (DnI n P m k (j + 1) z ∨ z = V) ↔ DnI n P m k j z := by
  constructor
  · rintro ((g | ⟨i, u, h1, h2, h3, h4⟩) | rfl)
    · exact .inl g
    · exact .inr ⟨i, u, by omega, h2, h3, h4⟩
    · exact .inr ⟨j, v, Nat.le_refl _, h0, h, hv⟩
  · rintro (g | ⟨i, u, h1, h2, h3, h4⟩)
    · exact .inl (.inl g)
    · by_cases e : i = j
      · subst e
        rw [h] at h3
        injection h3 with h3
        subst h3
        exact .inr (by omega)
      · exact .inl (.inr ⟨i, u, by omega, h2, h3, h4⟩)
theorem DnI_end {n : Nat} {N : Nat → Nod} {P : Nat → Pip} {m k : Nat} (hN : netB n N m P = true) (hk : k < n) (h : rts n P m k = true) (z : Nat) : DnI n P m k 1 z ↔ DnR n P m (k + 1) z := by
  have ok := vis_ok (P := P) (m := m) (x := ((k : Nat) : Int)) hN (by omega)
  constructor
  · rintro (⟨r, h1, h2⟩ | ⟨i, v, h1, h2, h3, h4⟩)
    · exact ⟨r, by omega, h2⟩
    · refine ⟨k, by omega, h, by rw [← h4]; exact get_vhas h3, fun e => ?_⟩
      have := ok.inj h3 ok.fst (by rw [h4, e])
      omega
  · rintro ⟨r, h1, h2, h3, h4⟩
    by_cases e : r = k
    · subst e
      obtain ⟨i, v, g1, g2⟩ := vhas_get h3
      refine .inr ⟨i, v, ?_, ?_, g1, g2⟩ <;>
      · rcases Nat.eq_zero_or_pos i with rfl | q
        · rw [ok.fst] at g1
          injection g1 with g1
          subst g1
          exact absurd (show z = r by have : ((r : Nat) : Int) = ((z : Nat) : Int) := g2; omega) h4
        · exact q
    · exact .inl ⟨r, by omega, h2, h3, h4⟩
theorem DnI_not {n : Nat} {N : Nat → Nod} {P : Nat → Pip} {m k i j V : Nat} {v : Vs} (hN : netB n N m P = true) (hk : k < n) (h : rts n P m k = true) (hv : (vis n P m ((k : Nat) : Int))[i]? = some v) (hV : v.nd = ((V : Nat) : Int)) (hi : i < j) : ¬ DnI n P m k j V := by
  have ok := vis_ok (P := P) (m := m) (x := ((k : Nat) : Int)) hN (by omega)
  rintro (⟨r, h1, h2, h3, h4⟩ | ⟨i', u, h1, h2, h3, h4⟩)
  · have e1 := cmp_root hN (by omega) h2 h3
    have e2 := cmp_root hN hk h (get_vhas hv)
    rw [hV] at e2
    omega
  · have := ok.inj h3 hv (by rw [h4, hV])
    omega
theorem DnR_all {n : Nat} {N : Nat → Nod} {P : Nat → Pip} {m : Nat} (hN : netB n N m P = true) (z : Nat) (hz : z < n) (h : fE n P m ((z : Nat) : Int) ≠ -1) : DnR n P m n z := by
  obtain ⟨r, h1, h2, h3, h4⟩ := node_root (P := P) (m := m) hN (z := ((z : Nat) : Int)) ⟨by omega, by omega⟩
  refine ⟨r, h1, h2, h3, fun e => ?_⟩
  subst e
  have ok := vis_ok (P := P) (m := m) (x := ((z : Nat) : Int)) hN (by omega)
  apply h
  rw [(fE_at h4).1]
  exact ok.val (·.en) ok.fst
/-- the entry of a visited node, and where it was come from -/
theorem vis_en {n : Nat} {N : Nat → Nod} {P : Nat → Pip} {m k j : Nat} {v : Vs} (hN : netB n N m P = true) (hk : k < n) (h : rts n P m k = true) (hv : (vis n P m ((k : Nat) : Int))[j]? = some v) (h0 : 0 < j) :
    ∃ V a U i u : _, v.nd = ((V : Nat) : Int) ∧ V < n ∧ a < m ∧ v.en = ((a : Nat) : Int) ∧ fE n P m ((V : Nat) : Int) = ((a : Nat) : Int) ∧ othV (P a) ((V : Nat) : Int) = ((U : Nat) : Int) ∧ U < n ∧ i < j ∧ (vis n P m ((k : Nat) : Int))[i]? = some u ∧ u.nd = ((U : Nat) : Int) ∧ vval (·.en) (vis n P m ((k : Nat) : Int)) ((V : Nat) : Int) = ((a : Nat) : Int) := by
  have ok := vis_ok (P := P) (m := m) (x := ((k : Nat) : Int)) hN (by omega)
  obtain ⟨i, u, a, h1, h2, h3, h4, h5, h6, h7⟩ := ok.par j v h0 hv
  obtain ⟨v1, v2⟩ := ok.rng v (List.mem_of_getElem? hv)
  obtain ⟨u1, u2⟩ := ok.rng u (List.mem_of_getElem? h2)
  obtain ⟨V, hV⟩ := Int.eq_ofNat_of_zero_le v1
  obtain ⟨U, hU⟩ := Int.eq_ofNat_of_zero_le u1
  have hval := ok.val (·.en) hv
  refine ⟨V, a, U, i, u, hV, by omega, h3, h4, ?_, ?_, by omega, h1, h2, hU, ?_⟩
  · have e := cmp_root hN hk h (get_vhas hv)
    rw [hV] at e
    rw [(fE_at e).1, ← hV]
    exact hval.trans h4
  · rw [← hV, h6, (oth_oth (net_pip hN h3) h5).1, hU]
  · rw [← hV]
    exact hval.trans h4
end Go.Proofs.YtdbgcbkmcbgdiaaGreat.mem

namespace Go.Proofs.YtdbgcbkmcbgdiaaGreat.mem
open Go.RowKit
set_option linter.unusedVariables false

def brrL (x : Nat → Int) : List Value := (List.range 24).map (ia x)
def brr (x : Nat → Int) : Array Value := List.toArray (brrL x)
theorem brr_size (x : Nat → Int) : (brr x).size = 24 := by unfold brr brrL; simp
theorem brr_get (x : Nat → Int) (k : Nat) (hk : k < 24) : (brr x)[k]? = some (ia x k) := by unfold brr brrL; simp [hk]
theorem brr_eq {cur : Array Value} {x : Nat → Int} (h1 : cur.size = 24) (h2 : ∀ k, k < 24 → cur[k]? = some (ia x k)) : cur = brr x := by
  apply Array.ext_getElem?
  intro k
  by_cases h : k < 24
  · rw [h2 k h, brr_get x k h]
  · rw [Array.getElem?_eq_none (by omega), Array.getElem?_eq_none (by rw [brr_size]; omega)]
theorem brr_one (x : Nat → Int) : (brr x).all (·.oneCell') = true := by
  rw [Array.all_eq_true_iff_forall_mem]
  intro v hv
  unfold brr brrL at hv
  simp only [List.mem_toArray, List.mem_map] at hv
  obtain ⟨i, _, rfl⟩ := hv
  rfl
theorem zeros24 (k : Nat) (hk : k < 24) : (#[Value.int IntKind.i64 0, Value.int IntKind.i64 0, Value.int IntKind.i64 0, Value.int IntKind.i64 0, Value.int IntKind.i64 0, Value.int IntKind.i64 0, Value.int IntKind.i64 0, Value.int IntKind.i64 0, Value.int IntKind.i64 0, Value.int IntKind.i64 0, Value.int IntKind.i64 0, Value.int IntKind.i64 0, Value.int IntKind.i64 0, Value.int IntKind.i64 0, Value.int IntKind.i64 0, Value.int IntKind.i64 0, Value.int IntKind.i64 0, Value.int IntKind.i64 0, Value.int IntKind.i64 0, Value.int IntKind.i64 0, Value.int IntKind.i64 0, Value.int IntKind.i64 0, Value.int IntKind.i64 0, Value.int IntKind.i64 0] : Array Value)[k]? = some (ia (fun _ => 0) k) := by
  rcases (by omega : k = 0 ∨ k = 1 ∨ k = 2 ∨ k = 3 ∨ k = 4 ∨ k = 5 ∨ k = 6 ∨ k = 7 ∨ k = 8 ∨ k = 9 ∨ k = 10 ∨ k = 11 ∨ k = 12 ∨ k = 13 ∨ k = 14 ∨ k = 15 ∨ k = 16 ∨ k = 17 ∨ k = 18 ∨ k = 19 ∨ k = 20 ∨ k = 21 ∨ k = 22 ∨ k = 23) with rfl | rfl | rfl | rfl | rfl | rfl | rfl | rfl | rfl | rfl | rfl | rfl | rfl | rfl | rfl | rfl | rfl | rfl | rfl | rfl | rfl | rfl | rfl | rfl <;> rfl
/-- the whole array out of an own block -/
theorem Ob.row4 {w : World} {b : Nat} {x : Nat → Int} (h : Ob w b 24 (ia x)) : ∃ t, w.heap[b]? = some (.cells (brr x) t (0, 0)) := by
  obtain ⟨cur, t, h1, h2, h3⟩ := h.ex
  rw [brr_eq h2 h3] at h1
  exact ⟨t, h1⟩
theorem sums_info : (Tryz.prog.info? 83).map (·.size) = some 24 := by kernel_rfl
theorem Ob.new04 (w : World) (t : TypeId) : Ob (w.alloc (.cells #[Value.int IntKind.i64 0, Value.int IntKind.i64 0, Value.int IntKind.i64 0, Value.int IntKind.i64 0, Value.int IntKind.i64 0, Value.int IntKind.i64 0, Value.int IntKind.i64 0, Value.int IntKind.i64 0, Value.int IntKind.i64 0, Value.int IntKind.i64 0, Value.int IntKind.i64 0, Value.int IntKind.i64 0, Value.int IntKind.i64 0, Value.int IntKind.i64 0, Value.int IntKind.i64 0, Value.int IntKind.i64 0, Value.int IntKind.i64 0, Value.int IntKind.i64 0, Value.int IntKind.i64 0, Value.int IntKind.i64 0, Value.int IntKind.i64 0, Value.int IntKind.i64 0, Value.int IntKind.i64 0, Value.int IntKind.i64 0] t)) w.heap.size 24 (ia (fun _ => 0)) := Ob.new w _ t 24 _ rfl (fun k hk => zeros24 k hk)
theorem Ob.setI4 {w : World} {b : Nat} {x : Nat → Int} (h : Ob w b 24 (ia x)) (i : Nat) (v : Int) (hi : i < 24) : Ob (w.setCell ⟨b, i, none⟩ (.int .i64 v)) b 24 (ia (upd x i v)) := by
  refine (h.set i (.int .i64 v) hi).congr fun k _ => ?_
  unfold updV ia upd
  split <;> rfl
theorem Ob.setRow4 {w : World} {b : Nat} {d : Nat → Value} (h : Ob w b 24 d) (x : Nat → Int) : Ob (w.setRow b (brr x)) b 24 (ia x) := by
  obtain ⟨cur, t, h1, h2, h3⟩ := h.ex
  refine ⟨brr x, t, ?_, brr_size x, fun k hk => brr_get x k hk⟩
  simp [World.setRow, Array.getElem?_modify, h1]
theorem results_brr {fn : Func} {p : Tmp} {tmps : Array Value} {w : World} {b : Nat} {x : Nat → Int} (h : fn.results = #[.cell p 83]) (hp : tmps.getD p undef = .pointer (some ⟨b, 0, none⟩)) (ho : Ob w b 24 (ia x)) : (results fn tmps).run Tryz.prog w = .ok (.agg (brr x)) w := by
  obtain ⟨t, h1⟩ := ho.row4
  exact results_cell_row h tmps w b t (brr x) (0, 0) _ hp h1 Tryz.underlying83 rfl (by rw [brr_size]; exact sums_info)
theorem pad_splice4 {n : Nat} {d : Nat → Int} (hn : n ≤ 24) : (splice (brr (fun _ => 0)).toList 0 (intL n d)).toArray = brr (pad n d) := by
  have hs : (brr (fun _ => 0)).toList.length = 24 := by rw [Array.length_toList, brr_size]
  refine brr_eq ?_ fun k hk => ?_
  · rw [List.size_toArray, length_splice _ _ _ (by rw [hs, intL_len]; omega), hs]
  · rw [List.getElem?_toArray]
    unfold splice
    rw [List.take_zero, List.nil_append, Nat.zero_add]
    by_cases h : k < n
    · rw [List.getElem?_append_left (by rw [intL_len]; exact h), intL_get d h]
      unfold ia pad
      rw [if_pos h]
    · rw [List.getElem?_append_right (by rw [intL_len]; omega), intL_len, List.getElem?_drop, show n + (k - n) = k by omega, Array.getElem?_toList, brr_get _ _ hk]
      unfold ia pad
      rw [if_neg h]
set_option maxRecDepth 100000 in
set_option maxHeartbeats 4000000 in
theorem sumsOf_any (w : World) (v : Value) (n : Nat) (d : Nat → Int) (lo hi : Nat) (h : Sl w v n d lo hi) (hhi : hi ≤ w.heap.size) (hn : n ≤ 24) :
    Calls Tryz.prog 57 #[v] w fun e w' => e = .returned (.agg (brr (pad n d))) ∧ Below w.heap.size w w' := by
  have a0 := (Ob.new04 w 83).keep (Below.heap_alloc _ (.cells #[Value.int IntKind.i64 0, Value.int IntKind.i64 0, Value.int IntKind.i64 0, Value.int IntKind.i64 0, Value.int IntKind.i64 0, Value.int IntKind.i64 0, Value.int IntKind.i64 0, Value.int IntKind.i64 0, Value.int IntKind.i64 0, Value.int IntKind.i64 0, Value.int IntKind.i64 0, Value.int IntKind.i64 0, Value.int IntKind.i64 0, Value.int IntKind.i64 0, Value.int IntKind.i64 0, Value.int IntKind.i64 0, Value.int IntKind.i64 0, Value.int IntKind.i64 0, Value.int IntKind.i64 0, Value.int IntKind.i64 0, Value.int IntKind.i64 0, Value.int IntKind.i64 0, Value.int IntKind.i64 0, Value.int IntKind.i64 0] 83) _ (by rw [szal]; omega))
  have a1 := Ob.new04 (w.alloc (.cells #[Value.int IntKind.i64 0, Value.int IntKind.i64 0, Value.int IntKind.i64 0, Value.int IntKind.i64 0, Value.int IntKind.i64 0, Value.int IntKind.i64 0, Value.int IntKind.i64 0, Value.int IntKind.i64 0, Value.int IntKind.i64 0, Value.int IntKind.i64 0, Value.int IntKind.i64 0, Value.int IntKind.i64 0, Value.int IntKind.i64 0, Value.int IntKind.i64 0, Value.int IntKind.i64 0, Value.int IntKind.i64 0, Value.int IntKind.i64 0, Value.int IntKind.i64 0, Value.int IntKind.i64 0, Value.int IntKind.i64 0, Value.int IntKind.i64 0, Value.int IntKind.i64 0, Value.int IntKind.i64 0, Value.int IntKind.i64 0] 83)) 83
  simp only [World.size_alloc] at a1
  have b0 := below_new w (.cells #[Value.int IntKind.i64 0, Value.int IntKind.i64 0, Value.int IntKind.i64 0, Value.int IntKind.i64 0, Value.int IntKind.i64 0, Value.int IntKind.i64 0, Value.int IntKind.i64 0, Value.int IntKind.i64 0, Value.int IntKind.i64 0, Value.int IntKind.i64 0, Value.int IntKind.i64 0, Value.int IntKind.i64 0, Value.int IntKind.i64 0, Value.int IntKind.i64 0, Value.int IntKind.i64 0, Value.int IntKind.i64 0, Value.int IntKind.i64 0, Value.int IntKind.i64 0, Value.int IntKind.i64 0, Value.int IntKind.i64 0, Value.int IntKind.i64 0, Value.int IntKind.i64 0, Value.int IntKind.i64 0, Value.int IntKind.i64 0] 83)
  have b1 := b0.trans ((below_new _ (.cells #[Value.int IntKind.i64 0, Value.int IntKind.i64 0, Value.int IntKind.i64 0, Value.int IntKind.i64 0, Value.int IntKind.i64 0, Value.int IntKind.i64 0, Value.int IntKind.i64 0, Value.int IntKind.i64 0, Value.int IntKind.i64 0, Value.int IntKind.i64 0, Value.int IntKind.i64 0, Value.int IntKind.i64 0, Value.int IntKind.i64 0, Value.int IntKind.i64 0, Value.int IntKind.i64 0, Value.int IntKind.i64 0, Value.int IntKind.i64 0, Value.int IntKind.i64 0, Value.int IntKind.i64 0, Value.int IntKind.i64 0, Value.int IntKind.i64 0, Value.int IntKind.i64 0, Value.int IntKind.i64 0, Value.int IntKind.i64 0] 83)).mono (by rw [szal]; omega))
  have hs0 : ((w.alloc (.cells #[Value.int IntKind.i64 0, Value.int IntKind.i64 0, Value.int IntKind.i64 0, Value.int IntKind.i64 0, Value.int IntKind.i64 0, Value.int IntKind.i64 0, Value.int IntKind.i64 0, Value.int IntKind.i64 0, Value.int IntKind.i64 0, Value.int IntKind.i64 0, Value.int IntKind.i64 0, Value.int IntKind.i64 0, Value.int IntKind.i64 0, Value.int IntKind.i64 0, Value.int IntKind.i64 0, Value.int IntKind.i64 0, Value.int IntKind.i64 0, Value.int IntKind.i64 0, Value.int IntKind.i64 0, Value.int IntKind.i64 0, Value.int IntKind.i64 0, Value.int IntKind.i64 0, Value.int IntKind.i64 0, Value.int IntKind.i64 0] 83)).alloc (.cells #[Value.int IntKind.i64 0, Value.int IntKind.i64 0, Value.int IntKind.i64 0, Value.int IntKind.i64 0, Value.int IntKind.i64 0, Value.int IntKind.i64 0, Value.int IntKind.i64 0, Value.int IntKind.i64 0, Value.int IntKind.i64 0, Value.int IntKind.i64 0, Value.int IntKind.i64 0, Value.int IntKind.i64 0, Value.int IntKind.i64 0, Value.int IntKind.i64 0, Value.int IntKind.i64 0, Value.int IntKind.i64 0, Value.int IntKind.i64 0, Value.int IntKind.i64 0, Value.int IntKind.i64 0, Value.int IntKind.i64 0, Value.int IntKind.i64 0, Value.int IntKind.i64 0, Value.int IntKind.i64 0, Value.int IntKind.i64 0] 83)).heap.size = w.heap.size + 1 + 1 := by simp
  have h1 := h.below b1 hhi
  obtain ⟨p, cap, rfl, hc⟩ := h1
  have hpos : 0 < (intL n d).length → some (⟨w.heap.size + 1, 0, none⟩ : Addr) = some ⟨w.heap.size + 1, 0, none⟩ ∧ ∃ ad, p = some ad ∧ ∀ j u, (intL n d)[j]? = some u → ((w.alloc (.cells #[Value.int IntKind.i64 0, Value.int IntKind.i64 0, Value.int IntKind.i64 0, Value.int IntKind.i64 0, Value.int IntKind.i64 0, Value.int IntKind.i64 0, Value.int IntKind.i64 0, Value.int IntKind.i64 0, Value.int IntKind.i64 0, Value.int IntKind.i64 0, Value.int IntKind.i64 0, Value.int IntKind.i64 0, Value.int IntKind.i64 0, Value.int IntKind.i64 0, Value.int IntKind.i64 0, Value.int IntKind.i64 0, Value.int IntKind.i64 0, Value.int IntKind.i64 0, Value.int IntKind.i64 0, Value.int IntKind.i64 0, Value.int IntKind.i64 0, Value.int IntKind.i64 0, Value.int IntKind.i64 0, Value.int IntKind.i64 0] 83)).alloc (.cells #[Value.int IntKind.i64 0, Value.int IntKind.i64 0, Value.int IntKind.i64 0, Value.int IntKind.i64 0, Value.int IntKind.i64 0, Value.int IntKind.i64 0, Value.int IntKind.i64 0, Value.int IntKind.i64 0, Value.int IntKind.i64 0, Value.int IntKind.i64 0, Value.int IntKind.i64 0, Value.int IntKind.i64 0, Value.int IntKind.i64 0, Value.int IntKind.i64 0, Value.int IntKind.i64 0, Value.int IntKind.i64 0, Value.int IntKind.i64 0, Value.int IntKind.i64 0, Value.int IntKind.i64 0, Value.int IntKind.i64 0, Value.int IntKind.i64 0, Value.int IntKind.i64 0, Value.int IntKind.i64 0, Value.int IntKind.i64 0] 83)).cell? (ad.add j) = some u := by
    intro h0
    rw [intL_len] at h0
    refine ⟨rfl, ?_⟩
    rcases hc with e | ⟨b, o, rfl, _, _, hx⟩
    · omega
    · refine ⟨_, rfl, fun j u hu => ?_⟩
      have hj : j < n := by
        rcases Nat.lt_or_ge j n with g | g
        · exact g
        · rw [List.getElem?_eq_none (by rw [intL_len]; omega)] at hu; cases hu
      rw [intL_get d hj] at hu
      injection hu with hu
      subst hu
      have hadd : (⟨b, o, none⟩ : Addr).add j = ⟨b, o + j, none⟩ := by unfold Addr.add; split <;> simp_all
      rw [hadd]
      exact hx j hj
  have hmin : (intL n d).length = Nat.min n 24 := by rw [intL_len]; exact (Nat.min_eq_left hn).symm
  have hfit : 0 + (intL n d).length ≤ (brr (fun _ => 0)).toList.length := by rw [intL_len, Array.length_toList, brr_size]; omega
  obtain ⟨t0, g0⟩ := a0.row4
  obtain ⟨t1, g1⟩ := a1.row4
  have g1' : ((w.alloc (.cells #[Value.int IntKind.i64 0, Value.int IntKind.i64 0, Value.int IntKind.i64 0, Value.int IntKind.i64 0, Value.int IntKind.i64 0, Value.int IntKind.i64 0, Value.int IntKind.i64 0, Value.int IntKind.i64 0, Value.int IntKind.i64 0, Value.int IntKind.i64 0, Value.int IntKind.i64 0, Value.int IntKind.i64 0, Value.int IntKind.i64 0, Value.int IntKind.i64 0, Value.int IntKind.i64 0, Value.int IntKind.i64 0, Value.int IntKind.i64 0, Value.int IntKind.i64 0, Value.int IntKind.i64 0, Value.int IntKind.i64 0, Value.int IntKind.i64 0, Value.int IntKind.i64 0, Value.int IntKind.i64 0, Value.int IntKind.i64 0] 83)).alloc (.cells #[Value.int IntKind.i64 0, Value.int IntKind.i64 0, Value.int IntKind.i64 0, Value.int IntKind.i64 0, Value.int IntKind.i64 0, Value.int IntKind.i64 0, Value.int IntKind.i64 0, Value.int IntKind.i64 0, Value.int IntKind.i64 0, Value.int IntKind.i64 0, Value.int IntKind.i64 0, Value.int IntKind.i64 0, Value.int IntKind.i64 0, Value.int IntKind.i64 0, Value.int IntKind.i64 0, Value.int IntKind.i64 0, Value.int IntKind.i64 0, Value.int IntKind.i64 0, Value.int IntKind.i64 0, Value.int IntKind.i64 0, Value.int IntKind.i64 0, Value.int IntKind.i64 0, Value.int IntKind.i64 0, Value.int IntKind.i64 0] 83)).heap[w.heap.size + 1]? = some (.cells (brr (fun _ => 0)).toList.toArray t1 (0, 0)) := by rw [Array.toArray_toList]; exact g1
  have HP := Lib.hid hpos
  have H0 := Lib.hid g0
  have HA0 := Lib.hid a0
  have H1 := Lib.hid g1'
  have HM := Lib.hid hmin
  have HF := Lib.hid hfit
  have HB := Lib.hid b1
  have HPS := Lib.hid (pad_splice4 (d := d) hn)
  have HS := Lib.hid hs0
  clear hpos g0 g1 g1' hmin hfit b0 b1 a0 a1 hc h hs0
  go_enter Tryz.func57, Tryz.ntmps57
  go_wp2_with (first
    | (refine wpList_copy_splice rfl (.tmp 4) (.tmp 5) 28 28 rfl 2 Tryz.underlying28 int64_size (some ⟨w.heap.size + 1, 0, none⟩) p 24 24 n cap rfl rfl (w.heap.size + 1) 0 (brr (fun _ => 0)).toList t1 H1.out (intL n d) HM.out HP.out HF.out (intL_one n d) (w.heap.size + 1) _ (Below.refl _ _) (Nat.le_refl _) ?_; intro w4 hg4 hb4)
    | (refine wpList_load_row rfl 83 _ rfl (w.heap.size + 1) rfl t1 _ (0, 0) _ (by have := hg4.out; rw [HPS.out] at this; exact this) Tryz.underlying83 rfl (by rw [brr_size]; exact sums_info) ?_)
    | (refine wpList_store_row rfl 83 _ _ rfl w.heap.size _ rfl rfl t0 _ ((hb4.block w.heap.size (by omega)).trans H0.out) (by rw [brr_size]; exact sums_info) (by rw [brr_size, brr_size]) (brr_one _) ?_))
  have a4 := HA0.out.below hb4 (by omega)
  refine bodyPost_ret (v := .agg (brr (pad n d))) ?_ rfl ⟨rfl, (HB.out.trans (hb4.mono (by omega))).trans (((Only.refl w.heap.size w4).setRow (brr (pad n d))).below (Nat.le_refl _))⟩
  exact results_brr rfl rfl (a4.setRow4 (pad n d))
theorem eql_brr (x y : Nat → Int) (w : World) : (binOp .eql 83 (.agg (brr x)) (.agg (brr y))).run Tryz.prog w = .ok (.bool (eqL x y (List.range' 0 24 1))) w := by
  rw [run_eql_struct]
  have key : (Op.equalIn 10000 83 (.agg (brr x)) (.agg (brr y))).run Tryz.prog w = .ok (eqL x y (List.range' 0 24 1)) w := by
    rw [Op.equalIn]
    have hsz : ∀ w, (sizeOf 2).run Tryz.prog w = .ok 1 w := Tryz.sizeOf2
    simp only [Sem.run_bind, run_underlying Tryz.underlying83, Result.andThen_ok, hsz, Std.Legacy.Range.forIn_eq_forIn_range', Std.Legacy.Range.size, Nat.sub_zero, Nat.add_sub_cancel, Nat.div_one]
    have hl : ∀ i ∈ List.range' 0 24 1, i < 24 := fun i hi => by simpa using (List.mem_range'_1.1 hi).2
    generalize List.range' 0 24 1 = l at hl ⊢
    induction l with
    | nil => simp [eqL]
    | cons i l ih =>
      have hi : i < 24 := hl i (by simp)
      have px : ∀ z : Nat → Int, (part 2 (brr z) (i * 1)).run Tryz.prog w = .ok (.int .i64 (z i)) w := fun z => by
        simp [part, isAgg, run_underlying Tryz.underlying2, brr_get z i hi, ia]
      have pe : (Op.equalIn 9999 2 (.int .i64 (x i)) (.int .i64 (y i))).run Tryz.prog w = .ok (x i == y i) w := run_equalIn_int w 9998 2 .i64 .i64 _ _ Tryz.underlying2
      simp only [List.forIn_cons, Sem.run_bind, px, pe, Result.andThen_ok, eqL]
      cases hb : (x i == y i)
      · simp
      · simp only [Bool.not_true, Bool.false_eq_true, if_false, Sem.run_pure, Result.andThen_ok, Bool.true_and]
        exact ih fun j hj => hl j (by simp [hj])
  rw [key]
  rfl

theorem only_drw {g : Nat} {w w' : World} (h : Only g w w') : Only g w w'.drew := ⟨h.os, h.tape, h.output, h.size, h.block⟩
/-- what has become of the array of sums -/
def AddPost (w : World) (b : Nat) (x : Nat → Int) (i : Nat) (y : Int) (e : Ending) (w' : World) : Prop := e = .returned (.tuple #[]) ∧ Ob w' b 24 (ia (upd x i (x i + y))) ∧ Only b w w'
set_option maxHeartbeats 4000000 in
theorem add_any (w : World) (b : Nat) (x : Nat → Int) (i : Nat) (y : Int) (h : Ob w b 24 (ia x)) (hi : i < 24) (hb : -4611686018427387904 ≤ x i + y ∧ x i + y ≤ 4611686018427387904) :
    Calls Tryz.prog 107 #[.pointer (some ⟨b, 0, none⟩), .int .i64 (i : Nat), .int .i64 y] w (AddPost w b x i y) := by
  have k0 : (0 : Int) ≤ (i : Int) := Int.natCast_nonneg _
  have k1 : (i : Int) < 24 := by omega
  have y0 : w.cell? ⟨b, i, none⟩ = some (.int .i64 (x i)) := h.cell i hi
  have y2 := h.free i
  have l0 := h.lt
  have HO := Lib.hid h
  clear h
  go_enter Tryz.func107, Tryz.ntmps107
  go_wp2_with fail
  go_region
  go_wp2_with fail
  go_end0
  exact ⟨rfl, (HO.out.setI4 i (x i + y) hi).keep rfl, only_drw ((Only.refl b w).setCell i _)⟩
end Go.Proofs.YtdbgcbkmcbgdiaaGreat.mem

namespace Go.Proofs.YtdbgcbkmcbgdiaaGreat.mem
open Go.RowKit
set_option linter.unusedVariables false

theorem dv_bd2 {P : Nat → Pip} {x : Nat → Int} {z : Int} : ∀ {k : Nat}, (∀ i, i < k → -30000 ≤ x i ∧ x i ≤ 30000) → -60000 * (k : Int) ≤ dv P x k z ∧ dv P x k z ≤ 60000 * (k : Int)
  | 0, _ => by show _ ≤ (0 : Int) ∧ (0 : Int) ≤ _; omega
  | k + 1, h => by
    have ih := dv_bd2 (P := P) (x := x) (z := z) (k := k) (fun i hi => h i (by omega))
    have h1 := h k (by omega)
    unfold dv
    split <;> split <;> omega
theorem upd_two {P : Nat → Pip} {d : Nat → Int} {k f t : Nat} (hf : (P k).f = ((f : Nat) : Int)) (ht : (P k).t = ((t : Nat) : Int)) (hne : f ≠ t) (z : Nat) :
    upd (upd (fun j => dv P d k ((j : Nat) : Int)) f (dv P d k ((f : Nat) : Int) + d k)) t (upd (fun j => dv P d k ((j : Nat) : Int)) f (dv P d k ((f : Nat) : Int) + d k) t + -d k) z = dv P d (k + 1) ((z : Nat) : Int) := by
  simp only [upd]
  rw [dv, hf, ht]
  by_cases e : z = t
  · subst e
    rw [if_pos rfl, if_neg (fun q => hne q.symm), if_neg (show ¬ ((f : Nat) : Int) = ((z : Nat) : Int) by omega), if_pos rfl]
    omega
  · rw [if_neg e, if_neg (show ¬ ((t : Nat) : Int) = ((z : Nat) : Int) by omega)]
    by_cases e2 : z = f
    · subst e2
      rw [if_pos rfl, if_pos rfl]
      omega
    · rw [if_neg e2, if_neg (show ¬ ((f : Nat) : Int) = ((z : Nat) : Int) by omega)]
      omega
set_option maxRecDepth 100000 in
set_option maxHeartbeats 8000000 in
theorem balancedBy_any (w : World) (v : Value) (n : Nat) (N : Nat → Nod) (m : Nat) (P : Nat → Pip) (lo hi : Nat) (h : NetAt w v n N m P lo hi) (hhi : hi ≤ w.heap.size) (hB : netB n N m P = true) (va : Value) (d : Nat → Int) (la ha : Nat) (hv : Sl w va m d la ha) (hha : ha ≤ w.heap.size) (hf : flB d m = true) :
    Calls Tryz.prog 56 #[v, va] w fun e w' => e = .returned (.agg (brr (fun z => dv P d m ((z : Nat) : Int)))) ∧ Below w.heap.size w w' := by
  obtain ⟨p0, c0, p1, c1, rfl, hn9, hm9⟩ := h.parts
  obtain ⟨hn1, hn24, hm40⟩ := net_sz hB
  have HV := Lib.hid h
  have HPI := Lib.hid (fun a (ha : a < m) => pip_end (net_pip hB ha))
  have HFR := Lib.hid (show ∀ i, i < m → -30000 ≤ d i ∧ d i ≤ 30000 from fun i hi => flQ_iff.1 (flB_iff.1 hf i hi))
  obtain ⟨pa, ca, rfl, hva⟩ := hv
  have HVZ := Lib.hid hva
  have R0 := (Ob.new04 (w.alloc (.cells #[.slice p0 n c0, .slice p1 m c1] 27)) 83).keep (Below.heap_alloc _ (.cells #[Value.int IntKind.i64 0, Value.int IntKind.i64 0, Value.int IntKind.i64 0, Value.int IntKind.i64 0, Value.int IntKind.i64 0, Value.int IntKind.i64 0, Value.int IntKind.i64 0, Value.int IntKind.i64 0, Value.int IntKind.i64 0, Value.int IntKind.i64 0, Value.int IntKind.i64 0, Value.int IntKind.i64 0, Value.int IntKind.i64 0, Value.int IntKind.i64 0, Value.int IntKind.i64 0, Value.int IntKind.i64 0, Value.int IntKind.i64 0, Value.int IntKind.i64 0, Value.int IntKind.i64 0, Value.int IntKind.i64 0, Value.int IntKind.i64 0, Value.int IntKind.i64 0, Value.int IntKind.i64 0, Value.int IntKind.i64 0] 83) _ (by simp only [World.size_alloc]; omega))
  have S0 := Ob.new04 ((w.alloc (.cells #[.slice p0 n c0, .slice p1 m c1] 27)).alloc (.cells #[Value.int IntKind.i64 0, Value.int IntKind.i64 0, Value.int IntKind.i64 0, Value.int IntKind.i64 0, Value.int IntKind.i64 0, Value.int IntKind.i64 0, Value.int IntKind.i64 0, Value.int IntKind.i64 0, Value.int IntKind.i64 0, Value.int IntKind.i64 0, Value.int IntKind.i64 0, Value.int IntKind.i64 0, Value.int IntKind.i64 0, Value.int IntKind.i64 0, Value.int IntKind.i64 0, Value.int IntKind.i64 0, Value.int IntKind.i64 0, Value.int IntKind.i64 0, Value.int IntKind.i64 0, Value.int IntKind.i64 0, Value.int IntKind.i64 0, Value.int IntKind.i64 0, Value.int IntKind.i64 0, Value.int IntKind.i64 0] 83)) 83
  simp only [World.size_alloc] at R0 S0
  have B0 := ((below_new w (.cells #[.slice p0 n c0, .slice p1 m c1] 27)).trans ((below_new _ (.cells #[Value.int IntKind.i64 0, Value.int IntKind.i64 0, Value.int IntKind.i64 0, Value.int IntKind.i64 0, Value.int IntKind.i64 0, Value.int IntKind.i64 0, Value.int IntKind.i64 0, Value.int IntKind.i64 0, Value.int IntKind.i64 0, Value.int IntKind.i64 0, Value.int IntKind.i64 0, Value.int IntKind.i64 0, Value.int IntKind.i64 0, Value.int IntKind.i64 0, Value.int IntKind.i64 0, Value.int IntKind.i64 0, Value.int IntKind.i64 0, Value.int IntKind.i64 0, Value.int IntKind.i64 0, Value.int IntKind.i64 0, Value.int IntKind.i64 0, Value.int IntKind.i64 0, Value.int IntKind.i64 0, Value.int IntKind.i64 0] 83)).mono (by simp only [World.size_alloc]; omega))).trans ((below_new _ (.cells #[Value.int IntKind.i64 0, Value.int IntKind.i64 0, Value.int IntKind.i64 0, Value.int IntKind.i64 0, Value.int IntKind.i64 0, Value.int IntKind.i64 0, Value.int IntKind.i64 0, Value.int IntKind.i64 0, Value.int IntKind.i64 0, Value.int IntKind.i64 0, Value.int IntKind.i64 0, Value.int IntKind.i64 0, Value.int IntKind.i64 0, Value.int IntKind.i64 0, Value.int IntKind.i64 0, Value.int IntKind.i64 0, Value.int IntKind.i64 0, Value.int IntKind.i64 0, Value.int IntKind.i64 0, Value.int IntKind.i64 0, Value.int IntKind.i64 0, Value.int IntKind.i64 0, Value.int IntKind.i64 0, Value.int IntKind.i64 0] 83)).mono (by simp only [World.size_alloc]; omega))
  have e1' := (boxed w (.slice p0 n c0) (.slice p1 m c1) 27).b1
  have HR := Lib.hid R0
  have HS := Lib.hid S0
  have HBB := Lib.hid B0
  clear h hB R0 S0 B0 hva hf
  go_enter Tryz.func56, Tryz.ntmps56
  go_wp2_with fail
  generalize hW : ((w.alloc (.cells #[.slice p0 n c0, .slice p1 m c1] 27)).alloc (.cells #[Value.int IntKind.i64 0, Value.int IntKind.i64 0, Value.int IntKind.i64 0, Value.int IntKind.i64 0, Value.int IntKind.i64 0, Value.int IntKind.i64 0, Value.int IntKind.i64 0, Value.int IntKind.i64 0, Value.int IntKind.i64 0, Value.int IntKind.i64 0, Value.int IntKind.i64 0, Value.int IntKind.i64 0, Value.int IntKind.i64 0, Value.int IntKind.i64 0, Value.int IntKind.i64 0, Value.int IntKind.i64 0, Value.int IntKind.i64 0, Value.int IntKind.i64 0, Value.int IntKind.i64 0, Value.int IntKind.i64 0, Value.int IntKind.i64 0, Value.int IntKind.i64 0, Value.int IntKind.i64 0, Value.int IntKind.i64 0] 83)).alloc (.cells #[Value.int IntKind.i64 0, Value.int IntKind.i64 0, Value.int IntKind.i64 0, Value.int IntKind.i64 0, Value.int IntKind.i64 0, Value.int IntKind.i64 0, Value.int IntKind.i64 0, Value.int IntKind.i64 0, Value.int IntKind.i64 0, Value.int IntKind.i64 0, Value.int IntKind.i64 0, Value.int IntKind.i64 0, Value.int IntKind.i64 0, Value.int IntKind.i64 0, Value.int IntKind.i64 0, Value.int IntKind.i64 0, Value.int IntKind.i64 0, Value.int IntKind.i64 0, Value.int IntKind.i64 0, Value.int IntKind.i64 0, Value.int IntKind.i64 0, Value.int IntKind.i64 0, Value.int IntKind.i64 0, Value.int IntKind.i64 0] 83) = w2 at *
  clear hW e1'
  go_loopw [11] (fun iv wr => ∃ k : Nat, iv = .int .i64 k ∧ k ≤ m ∧ Ob wr (w.heap.size + 1 + 1) 24 (ia (fun z => dv P d k ((z : Nat) : Int))) ∧ Ob wr (w.heap.size + 1) 24 (ia (fun _ => 0)) ∧ Below w.heap.size w wr) (fun iv _ => m - (intOf iv).toNat)
  case atStart => exact ⟨0, rfl, Nat.zero_le _, HS.out.congr (fun k _ => rfl), HR.out, HBB.out⟩
  case round =>
    obtain ⟨k, rfl, hk, os, or, hb⟩ := hrel
    clear HS HR HBB
    have HS := Lib.hid os
    have HR := Lib.hid or
    have HBB := Lib.hid hb
    clear os or hb
    generalize hQ : Exit.then _ _ = Q
    have HQ := Lib.hid hQ
    clear hQ
    have k0 : (0 : Int) ≤ (k : Int) := Int.natCast_nonneg _
    have ls := HS.out.lt
    have lr := HR.out.lt
    by_cases hlt : k < m
    · have k1 : (k : Int) < (m : Int) := by omega
      obtain ⟨bp, op, rfl, q1, q2, r0, r1, r2, r3, r4⟩ := (HV.out.below HBB.out hhi).pipe hlt
      obtain ⟨ba, oa, rfl, g1, g2, hx⟩ : ∃ b o, pa = some ⟨b, o, none⟩ ∧ la ≤ b ∧ b < ha ∧ ∀ k, k < m → w.cell? ⟨b, o + k, none⟩ = some (.int .i64 (d k)) := by
        rcases HVZ.out with e | e
        · omega
        · exact e
      have ya : wr.cell? ⟨ba, oa + k, none⟩ = some (.int .i64 (d k)) := (HBB.out.cell (p := ⟨ba, oa + k, none⟩) (by show ba < w.heap.size; omega)).trans (hx k hlt)
      have HX := Lib.hid hx
      clear hx
      obtain ⟨hf0, ht0, hne⟩ := HPI.out k hlt
      obtain ⟨f, hf⟩ := Int.eq_ofNat_of_zero_le hf0.1
      obtain ⟨t, ht⟩ := Int.eq_ofNat_of_zero_le ht0.1
      have P5 := boxedP wr (P k) 121
      have pf0 := P5.cell 0 (by omega)
      have pt0 := P5.cell 1 (by omega)
      have b5 := below_new wr (.cells #[.int .i64 (P k).f, .int .i64 (P k).t, .int .i64 (P k).k, .int .i64 (P k).v, .int .i64 (P k).l] 121)
      have hs5 : (wr.alloc (.cells #[.int .i64 (P k).f, .int .i64 (P k).t, .int .i64 (P k).k, .int .i64 (P k).v, .int .i64 (P k).l] 121)).heap.size = wr.heap.size + 1 := by simp
      have hd := HFR.out k hlt
      have HU := Lib.hid (fun z => upd_two (P := P) (d := d) (k := k) hf ht (by omega) z)
      have hfn : f < n := by omega
      have htn : t < n := by omega
      have hftN : f ≠ t := by omega
      have hb1 := dv_bd2 (P := P) (x := d) (z := ((f : Nat) : Int)) (k := k) (fun i hi => HFR.out i (by omega))
      have hb2 := dv_bd2 (P := P) (x := d) (z := ((t : Nat) : Int)) (k := k) (fun i hi => HFR.out i (by omega))
      have a1 : -4611686018427387904 ≤ dv P d k ((f : Nat) : Int) + d k ∧ dv P d k ((f : Nat) : Int) + d k ≤ 4611686018427387904 := by omega
      have a2 : -4611686018427387904 ≤ upd (fun j => dv P d k ((j : Nat) : Int)) f (dv P d k ((f : Nat) : Int) + d k) t + -d k ∧ upd (fun j => dv P d k ((j : Nat) : Int)) f (dv P d k ((f : Nat) : Int) + d k) t + -d k ≤ 4611686018427387904 := by
        simp only [upd]
        rw [if_neg (fun e => hftN e.symm)]
        omega
      have H1 := Lib.hid a1
      have H2 := Lib.hid a2
      have HP5 := Lib.hid P5
      have HB5 := Lib.hid (HBB.out.trans (b5.mono HBB.out.size))
      have HS5 := Lib.hid (HS.out.below b5 ls)
      have HR5 := Lib.hid (HR.out.below b5 lr)
      have HF := Lib.hid hf
      have HT := Lib.hid ht
      have ya5 := (b5.cell (p := ⟨ba, oa + k, none⟩) (by show ba < wr.heap.size; omega)).trans ya
      have pf5 : (wr.alloc (.cells #[.int .i64 (P k).f, .int .i64 (P k).t, .int .i64 (P k).k, .int .i64 (P k).v, .int .i64 (P k).l] 121)).cell? ⟨wr.heap.size, 0, none⟩ = some (.int .i64 (f : Nat)) := pf0.trans (by rw [← HF.out]; rfl)
      have pt5 : (wr.alloc (.cells #[.int .i64 (P k).f, .int .i64 (P k).t, .int .i64 (P k).k, .int .i64 (P k).v, .int .i64 (P k).l] 121)).cell? ⟨wr.heap.size, 1, none⟩ = some (.int .i64 (t : Nat)) := pt0.trans (by rw [← HT.out]; rfl)
      have HYA := Lib.hid ya5
      have HPF := Lib.hid pf5
      have HPT := Lib.hid pt5
      clear hb1 hb2 hd a1 a2 P5 pf0 pt0 b5 hf ht hf0 ht0 ya5 pf5 pt5
      go_wp2_with fail
      obtain ⟨w5, hw5⟩ : ∃ w5, wr.alloc (.cells #[.int .i64 (P k).f, .int .i64 (P k).t, .int .i64 (P k).k, .int .i64 (P k).v, .int .i64 (P k).l] 121) = w5 := ⟨_, rfl⟩
      rw [hw5] at hs5 HP5 HB5 HS5 HR5 HYA HPF HPT ⊢
      clear hw5 r0 r1 r2 r3 r4 ya
      have ya := HYA.out
      have yf := HPF.out
      go_still_tail 6, (by kernel_rfl)
      change wpList _ _ _ _ _ w5.drew
      go_wp2_with fail
      refine (add_any w5.drew (w.heap.size + 1 + 1) _ f (d k) (HS5.out.keep rfl) (by omega) H1.out).mono ?_
      rintro e w6 ⟨rfl, o6, u6⟩
      clear ya yf
      have ya : w6.cell? ⟨ba, oa + k, none⟩ = some (.int .i64 (d k)) := (u6.cell (a := ⟨ba, oa + k, none⟩) (by show ba ≠ _; omega)).trans HYA.out
      have yt : w6.cell? ⟨wr.heap.size, 1, none⟩ = some (.int .i64 (t : Nat)) := (u6.cell (a := ⟨wr.heap.size, 1, none⟩) (by show wr.heap.size ≠ _; omega)).trans HPT.out
      have HS6 := Lib.hid o6
      have HR6 := Lib.hid ((HR5.out.keep (w' := w5.drew) rfl).only u6 (by omega))
      have HB6 := Lib.hid ((below_drw HB5.out).trans (u6.below (B := w.heap.size) (by omega)))
      have hd := HFR.out k hlt
      clear o6 u6 HS5 HR5 HB5
      go_wp2_with fail
      go_still_tail 7, (by kernel_rfl)
      change wpList _ _ _ _ _ w6.drew
      go_wp2_with fail
      refine (add_any w6.drew (w.heap.size + 1 + 1) _ t (-d k) (HS6.out.keep rfl) (by omega) H2.out).mono ?_
      rintro e w7 ⟨rfl, o7, u7⟩
      have HS7 := Lib.hid o7
      have HR7 := Lib.hid ((HR6.out.keep (w' := w6.drew) rfl).only u7 (by omega))
      have HB7 := Lib.hid ((below_drw HB6.out).trans (u7.below (B := w.heap.size) (by omega)))
      clear o7 u7 ya yt
      go_wp2_with fail
      rw [← HQ.out]
      refine ⟨⟨_, _, _, _, _, _, _, _, _, _, _, _, _, _, _, _, _, _, _, _, _, _, _, ?rel, rfl⟩, ?measure⟩
      case rel => exact ⟨k + 1, by go_num, hlt, HS7.out.congr (fun z _ => by unfold ia; rw [HU.out z]), HR7.out, HB7.out⟩
      case measure => simp [intOf]; omega
    · have hkn : m = k := by omega
      have hr : Ob wr (w.heap.size + 1 + 1) 24 (ia (fun z => dv P d m ((z : Nat) : Int))) := by rw [hkn]; exact HS.out
      have k1 : ¬ ((k : Int) < (m : Int)) := by omega
      obtain ⟨t5, g5⟩ := hr.row4
      obtain ⟨t4, g4⟩ := HR.out.row4
      have o2 := (Only.refl (w.heap.size + 1) wr).setRow (brr (fun z => dv P d m ((z : Nat) : Int)))
      have r2 := HR.out.setRow4 (fun z => dv P d m ((z : Nat) : Int))
      have hbb := HBB.out.trans (o2.below (B := w.heap.size) (by omega))
      clear hkn
      go_wp2_with fail
      rw [← HQ.out]
      go_wp2_with (first | refine wpList_load_row rfl 83 _ rfl (w.heap.size + 1 + 1) rfl t5 _ (0, 0) _ g5 Tryz.underlying83 rfl (by rw [brr_size]; exact sums_info) ?_ | refine wpList_store_row rfl 83 _ _ rfl (w.heap.size + 1) _ rfl rfl t4 _ g4 (by rw [brr_size]; exact sums_info) (by rw [brr_size, brr_size]) (brr_one _) ?_)
      exact bodyPost_ret (results_brr rfl rfl r2) rfl ⟨rfl, hbb⟩

/-- the code of a network and supplies -/
noncomputable def svC (n : Nat) (N : Nat → Nod) (m : Nat) (P : Nat → Pip) (K : Nat) (d : Nat → Int) : Int := if netB n N m P = true then (if K = n ∧ flB d K = true then 0 else 3) else 1
theorem svC_ok {n : Nat} {N : Nat → Nod} {m : Nat} {P : Nat → Pip} {K : Nat} {d : Nat → Int} (h : svC n N m P K d = 0) : netB n N m P = true ∧ K = n ∧ flB d K = true := by
  unfold svC at h
  split at h
  · next hB =>
    split at h
    · next hk => exact ⟨hB, hk⟩
    · omega
  · omega
set_option maxHeartbeats 4000000 in
theorem checkSupplies_any (w : World) (v : Value) (n : Nat) (N : Nat → Nod) (m : Nat) (P : Nat → Pip) (lo hi : Nat) (h : NetAt w v n N m P lo hi) (hhi : hi ≤ w.heap.size) (hN : ∀ i, i < n → (N i).s.size ≤ 9223372036854775807) (va : Value) (K : Nat) (d : Nat → Int) (la ha : Nat) (hv : Sl w va K d la ha) (hha : ha ≤ w.heap.size) (hK : K ≤ 9223372036854775807) :
    Calls Tryz.prog 55 #[v, va] w fun e w' => e = .returned (.int .i64 (svC n N m P K d)) ∧ Below w.heap.size w w' := by
  obtain ⟨p0, c0, p1, c1, rfl, hn9, hm9⟩ := h.parts
  have HV := Lib.hid h
  have HN := Lib.hid hN
  have A0 := boxed w (.slice p0 n c0) (.slice p1 m c1) 27
  have B0 := below_new w (.cells #[.slice p0 n c0, .slice p1 m c1] 27)
  have hs0 : (w.alloc (.cells #[.slice p0 n c0, .slice p1 m c1] 27)).heap.size = w.heap.size + 1 := by simp
  clear h hN
  go_enter Tryz.func55, Tryz.ntmps55
  have e0' := A0.b0
  have e1' := A0.b1
  go_wp2_with fail
  refine (isNetwork_any _ _ n N m P lo hi (HV.out.below B0 hhi) (by omega) HN.out).mono ?_
  rintro e w1 ⟨rfl, b1⟩
  have A1 := A0.below b1 (by omega)
  have B1 := B0.trans (b1.mono (by omega))
  have hs1 := b1.size
  have e1 := A1.b0
  clear A0 B0 b1 e0' e1'
  cases hB : netB n N m P
  · have H2 := Lib.hid (show svC n N m P K d = 1 by unfold svC; rw [hB]; rfl)
    clear hB
    go_wp2_with fail
    go_ret
    exact ⟨ret_i H2.out.symm, B1⟩
  · have H1 := Lib.hid (hv.below B1 hha)
    have hsh : ∃ p cap, va = .slice p K cap := by
      obtain ⟨p, cap, e, _⟩ := hv.ex
      exact ⟨p, cap, e⟩
    clear hv
    obtain ⟨pa, ca, rfl⟩ := hsh
    by_cases hKm : K = n
    · have hb1 : ((K : Int) != (n : Int)) = false := by simp [hKm]
      cases hf : flB d K
      · have H2 := Lib.hid (show svC n N m P K d = 3 by unfold svC; rw [hB, hf]; simp)
        clear hB hKm
        go_wp2_with (go_at_call 72; refine (areSupplies_any _ _ K d _ _ H1.out hK).mono ?_; rintro e w' ⟨rfl, rfl⟩; rw [hf])
        go_ret
        exact ⟨ret_i H2.out.symm, B1⟩
      · have H2 := Lib.hid (show svC n N m P K d = 0 by unfold svC; rw [hB, hf, hKm]; simp)
        clear hB hKm
        go_wp2_with (go_at_call 72; refine (areSupplies_any _ _ K d _ _ H1.out hK).mono ?_; rintro e w' ⟨rfl, rfl⟩; rw [hf])
        go_ret
        exact ⟨ret_i H2.out.symm, B1⟩
    · have hb1 : ((K : Int) != (n : Int)) = true := by simp; omega
      have H2 := Lib.hid (show svC n N m P K d = 3 by unfold svC; rw [hB, if_pos rfl, if_neg (fun g => hKm g.1)])
      clear hB
      go_wp2_with fail
      go_ret
      exact ⟨ret_i H2.out.symm, B1⟩
end Go.Proofs.YtdbgcbkmcbgdiaaGreat.mem

namespace Go.Proofs.YtdbgcbkmcbgdiaaGreat.mem
open Go.RowKit
set_option linter.unusedVariables false

theorem dv_off {n : Nat} {N : Nat → Nod} {m : Nat} {P : Nat → Pip} (hB : netB n N m P = true) (d : Nat → Int) {z : Nat} (hz : n ≤ z) : ∀ k, k ≤ m → dv P d k ((z : Nat) : Int) = 0
  | 0, _ => rfl
  | k + 1, hk => by
    obtain ⟨h1, h2, _⟩ := pip_end (net_pip hB (show k < m by omega))
    unfold dv
    rw [dv_off hB d hz k (by omega), if_neg (by omega), if_neg (by omega)]
    rfl
/-- does a flow list balance these supplies? -/
noncomputable def ibB (n : Nat) (N : Nat → Nod) (m : Nat) (P : Nat → Pip) (K : Nat) (d : Nat → Int) (L : Nat) (s : Nat → Int) : Bool := decide (flC n N m P K d = 0) && (decide (svC n N m P L s = 0) && (List.range n).all (fun z => dv P d m ((z : Nat) : Int) == s z))
theorem eqL_bal {n : Nat} {N : Nat → Nod} {m : Nat} {P : Nat → Pip} (hB : netB n N m P = true) (d s : Nat → Int) : eqL (fun z => dv P d m ((z : Nat) : Int)) (pad n s) (List.range' 0 24 1) = (List.range n).all (fun z => dv P d m ((z : Nat) : Int) == s z) := by
  have hn24 := (net_sz hB).2.1
  rw [Bool.eq_iff_iff, eqL_iff, List.all_eq_true]
  constructor
  · intro h z hz
    have hz := List.mem_range.1 hz
    have := h z (by simp; omega)
    unfold pad at this
    rw [if_pos hz] at this
    simpa using this
  · intro h z _
    unfold pad
    by_cases g : z < n
    · rw [if_pos g]
      simpa using h z (List.mem_range.2 g)
    · rw [if_neg g]
      exact dv_off hB d (by omega) m (Nat.le_refl m)
set_option maxRecDepth 100000 in
set_option maxHeartbeats 8000000 in
theorem isBalancedI_any (w : World) (v : Value) (n : Nat) (N : Nat → Nod) (m : Nat) (P : Nat → Pip) (lo hi : Nat) (h : NetAt w v n N m P lo hi) (hhi : hi ≤ w.heap.size) (hN : ∀ i, i < n → (N i).s.size ≤ 9223372036854775807) (va : Value) (K : Nat) (d : Nat → Int) (la ha : Nat) (hv : Sl w va K d la ha) (hha : ha ≤ w.heap.size) (hK9 : K ≤ 9223372036854775807) (vb : Value) (L : Nat) (s : Nat → Int) (lb hb : Nat) (hu : Sl w vb L s lb hb) (hhb : hb ≤ w.heap.size) (hL9 : L ≤ 9223372036854775807) :
    Calls Tryz.prog 14 #[v, va, vb] w fun e w' => e = .returned (.bool (ibB n N m P K d L s)) ∧ Below w.heap.size w w' := by
  obtain ⟨p0, c0, p1, c1, rfl, hn9, hm9⟩ := h.parts
  have HV := Lib.hid h
  have HN := Lib.hid hN
  obtain ⟨pa, ca, rfl⟩ := hv.sh
  have A0 := (boxed w (.slice p0 n c0) (.slice p1 m c1) 27).keep (Below.heap_alloc _ (.cells #[.slice pa K ca] 28) _ (by rw [szal]; omega))
  have B0 := (below_new w (.cells #[.slice p0 n c0, .slice p1 m c1] 27)).trans ((below_new _ (.cells #[.slice pa K ca] 28)).mono (by rw [szal]; omega))
  have hs0 : ((w.alloc (.cells #[.slice p0 n c0, .slice p1 m c1] 27)).alloc (.cells #[.slice pa K ca] 28)).heap.size = w.heap.size + 1 + 1 := by simp
  have y0' := cell_newV (w.alloc (.cells #[.slice p0 n c0, .slice p1 m c1] 27)) (.slice pa K ca) 28
  simp only [szal] at y0'
  clear h hN
  go_enter Tryz.func14, Tryz.ntmps14
  have e0' := A0.b0
  have e1' := A0.b1
  go_wp2_with fail
  refine (checkFlows_any _ _ n N m P lo hi (HV.out.below B0 hhi) (by omega) HN.out _ _ y0' (by omega) K d la ha (hv.below B0 hha) (by omega) hK9).mono ?_
  rintro e w1 ⟨rfl, b1⟩
  have A1 := A0.below b1 (by omega)
  have B1 := B0.trans (b1.mono (by omega))
  have hs1 := b1.size
  have e0 := A1.b0
  have e1 := A1.b1
  have e2 : w.heap.size < w1.heap.size := by omega
  clear A0 B0 b1 e0' e1' y0'
  obtain ⟨pb, cb, rfl⟩ := hu.sh
  by_cases hc : flC n N m P K d = 0
  · obtain ⟨hB, rfl, hf⟩ := flC_ok hc
    obtain ⟨hn1, hn24, hm40⟩ := net_sz hB
    have HB := Lib.hid hB
    have HF := Lib.hid hf
    have H1 := Lib.hid (hv.below B1 hha)
    have H2 := Lib.hid (hu.below B1 hhb)
    have HI := Lib.hid (show ibB n N K P K d L s = (decide (svC n N K P L s = 0) && (List.range n).all (fun z => dv P d K ((z : Nat) : Int) == s z)) by unfold ibB; rw [hc]; rfl)
    rw [hc]
    clear hc hB hf hv hu
    go_wp2_with fail
    refine (checkSupplies_any w1 _ n N K P lo hi (HV.out.below B1 hhi) (by omega) HN.out _ L s lb hb H2.out (by omega) hL9).mono ?_
    rintro e w2 ⟨rfl, b2⟩
    have A2 := A1.below b2 e2
    have B2 := B1.trans (b2.mono (by omega))
    have hs2 := b2.size
    have H1' := Lib.hid (H1.out.below b2 (by omega))
    have H2' := Lib.hid (H2.out.below b2 (by omega))
    have f0 := A2.b0
    have f1 := A2.b1
    clear e0 e1 A1 b2 H1 H2
    by_cases hsc : svC n N K P L s = 0
    · obtain ⟨_, rfl, _⟩ := svC_ok hsc
      have H4 := Lib.hid (show ibB L N K P K d L s = (List.range L).all (fun z => dv P d K ((z : Nat) : Int) == s z) by rw [HI.out, hsc]; rfl)
      have heq := eql_brr (fun z => dv P d K ((z : Nat) : Int)) (pad L s)
      rw [eqL_bal HB.out d s] at heq
      rw [hsc]
      clear hsc
      generalize (List.range L).all (fun z => dv P d K ((z : Nat) : Int) == s z) = bb at *
      go_wp2_with fail
      refine (balancedBy_any w2 _ L N K P lo hi (HV.out.below B2 hhi) (by omega) HB.out _ d la ha H1'.out (by omega) HF.out).mono ?_
      rintro e w3 ⟨rfl, b3⟩
      have B3 := B2.trans (b3.mono (by omega))
      have hs3 := b3.size
      have H2'' := Lib.hid (H2'.out.below b3 (by omega))
      clear b3 f0 f1
      go_wp2_with fail
      refine (sumsOf_any w3 _ L s lb hb H2''.out (by omega) hn24).mono ?_
      rintro e w4 ⟨rfl, b4⟩
      have B4 := B3.trans (b4.mono (by omega))
      clear b4
      go_wp2_with fail
      go_ret
      exact ⟨ret_b H4.out.symm, B4⟩
    · have hb1 : (svC n N K P L s != 0) = true := by simpa using hsc
      have H4 := Lib.hid (show ibB n N K P K d L s = false by rw [HI.out, decide_eq_false hsc]; rfl)
      clear hsc
      go_wp2_with fail
      go_ret
      exact ⟨ret_b H4.out.symm, B2⟩
  · have hb1 : (flC n N m P K d != 0) = true := by simpa using hc
    have H4 := Lib.hid (show ibB n N m P K d L s = false by unfold ibB; rw [decide_eq_false hc]; rfl)
    clear hc
    go_wp2_with fail
    go_ret
    exact ⟨ret_b H4.out.symm, B1⟩

theorem brr_zero : (brr (fun _ => 0)) = #[Value.int IntKind.i64 0, Value.int IntKind.i64 0, Value.int IntKind.i64 0, Value.int IntKind.i64 0, Value.int IntKind.i64 0, Value.int IntKind.i64 0, Value.int IntKind.i64 0, Value.int IntKind.i64 0, Value.int IntKind.i64 0, Value.int IntKind.i64 0, Value.int IntKind.i64 0, Value.int IntKind.i64 0, Value.int IntKind.i64 0, Value.int IntKind.i64 0, Value.int IntKind.i64 0, Value.int IntKind.i64 0, Value.int IntKind.i64 0, Value.int IntKind.i64 0, Value.int IntKind.i64 0, Value.int IntKind.i64 0, Value.int IntKind.i64 0, Value.int IntKind.i64 0, Value.int IntKind.i64 0, Value.int IntKind.i64 0] := (brr_eq (by rfl) (fun k hk => zeros24 k hk)).symm
theorem csm_bd {R s : Nat → Int} {z : Int} : ∀ {k : Nat}, (∀ i, i < k → -30000 ≤ s i ∧ s i ≤ 30000) → -30000 * (k : Int) ≤ csm R s k z ∧ csm R s k z ≤ 30000 * (k : Int)
  | 0, _ => by show _ ≤ (0 : Int) ∧ (0 : Int) ≤ _; omega
  | k + 1, h => by
    have ih := csm_bd (R := R) (s := s) (z := z) (k := k) (fun i hi => h i (by omega))
    have h1 := h k (by omega)
    unfold csm
    split <;> omega
theorem cmp_nat {n : Nat} {N : Nat → Nod} {m : Nat} {P : Nat → Pip} (hB : netB n N m P = true) {k : Nat} (hk : k < n) : ∃ r : Nat, r < n ∧ cmp n P m n ((k : Nat) : Int) = ((r : Nat) : Int) := by
  obtain ⟨r, h1, _, _, h4⟩ := node_root (P := P) (m := m) hB (z := ((k : Nat) : Int)) ⟨by omega, by omega⟩
  exact ⟨r, h1, h4⟩
theorem csm_off {n : Nat} {N : Nat → Nod} {m : Nat} {P : Nat → Pip} (hB : netB n N m P = true) (s : Nat → Int) {z : Nat} (hz : n ≤ z) : ∀ k, k ≤ n → csm (cmpN n P m) s k ((z : Nat) : Int) = 0
  | 0, _ => rfl
  | k + 1, hk => by
    obtain ⟨r, h1, h2⟩ := cmp_nat (P := P) (m := m) hB (k := k) (by omega)
    unfold csm
    rw [csm_off hB s hz k (by omega)]
    unfold cmpN
    rw [h2, if_neg (by omega)]
    rfl
theorem eqL_even {n : Nat} {N : Nat → Nod} {m : Nat} {P : Nat → Pip} (hB : netB n N m P = true) (s : Nat → Int) : eqL (fun z => csm (cmpN n P m) s n ((z : Nat) : Int)) (fun _ => 0) (List.range' 0 24 1) = evB n P m s := by
  have hn24 := (net_sz hB).2.1
  rw [Bool.eq_iff_iff, eqL_iff, evB_iff]
  constructor
  · intro h z hz
    exact h z (by simp; omega)
  · intro h z _
    by_cases g : z < n
    · exact h z g
    · exact csm_off hB s (by omega) n (Nat.le_refl n)
set_option maxRecDepth 100000 in
set_option maxHeartbeats 8000000 in
theorem areEven_any (w : World) (v : Value) (n : Nat) (N : Nat → Nod) (m : Nat) (P : Nat → Pip) (lo hi : Nat) (h : NetAt w v n N m P lo hi) (hhi : hi ≤ w.heap.size) (hB : netB n N m P = true) (va : Value) (s : Nat → Int) (la ha : Nat) (hv : Sl w va n s la ha) (hha : ha ≤ w.heap.size) (hf : flB s n = true) :
    Calls Tryz.prog 142 #[v, va] w fun e w' => e = .returned (.bool (evB n P m s)) ∧ Below w.heap.size w w' := by
  obtain ⟨p0, c0, p1, c1, rfl, hn9, hm9⟩ := h.parts
  obtain ⟨hn1, hn24, hm40⟩ := net_sz hB
  have HV := Lib.hid h
  have HB := Lib.hid hB
  have HFR := Lib.hid (show ∀ i, i < n → -30000 ≤ s i ∧ s i ≤ 30000 from fun i hi => flQ_iff.1 (flB_iff.1 hf i hi))
  obtain ⟨pa, ca, rfl, hva⟩ := hv
  have HVZ := Lib.hid hva
  have S0 := Ob.new04 (w.alloc (.cells #[.slice p0 n c0, .slice p1 m c1] 27)) 83
  simp only [World.size_alloc] at S0
  have B0 := (below_new w (.cells #[.slice p0 n c0, .slice p1 m c1] 27)).trans ((below_new _ (.cells #[Value.int IntKind.i64 0, Value.int IntKind.i64 0, Value.int IntKind.i64 0, Value.int IntKind.i64 0, Value.int IntKind.i64 0, Value.int IntKind.i64 0, Value.int IntKind.i64 0, Value.int IntKind.i64 0, Value.int IntKind.i64 0, Value.int IntKind.i64 0, Value.int IntKind.i64 0, Value.int IntKind.i64 0, Value.int IntKind.i64 0, Value.int IntKind.i64 0, Value.int IntKind.i64 0, Value.int IntKind.i64 0, Value.int IntKind.i64 0, Value.int IntKind.i64 0, Value.int IntKind.i64 0, Value.int IntKind.i64 0, Value.int IntKind.i64 0, Value.int IntKind.i64 0, Value.int IntKind.i64 0, Value.int IntKind.i64 0] 83)).mono (by simp only [World.size_alloc]; omega))
  have e0' := (boxed w (.slice p0 n c0) (.slice p1 m c1) 27).b0
  have e1' := (boxed w (.slice p0 n c0) (.slice p1 m c1) 27).b1
  have HS := Lib.hid S0
  have HBB := Lib.hid B0
  have heq := eql_brr (fun z => csm (cmpN n P m) s n ((z : Nat) : Int)) (fun _ => 0)
  rw [eqL_even hB s, brr_zero] at heq
  have HEQ := Lib.hid heq
  have hs0 : ((w.alloc (.cells #[.slice p0 n c0, .slice p1 m c1] 27)).alloc (.cells #[Value.int IntKind.i64 0, Value.int IntKind.i64 0, Value.int IntKind.i64 0, Value.int IntKind.i64 0, Value.int IntKind.i64 0, Value.int IntKind.i64 0, Value.int IntKind.i64 0, Value.int IntKind.i64 0, Value.int IntKind.i64 0, Value.int IntKind.i64 0, Value.int IntKind.i64 0, Value.int IntKind.i64 0, Value.int IntKind.i64 0, Value.int IntKind.i64 0, Value.int IntKind.i64 0, Value.int IntKind.i64 0, Value.int IntKind.i64 0, Value.int IntKind.i64 0, Value.int IntKind.i64 0, Value.int IntKind.i64 0, Value.int IntKind.i64 0, Value.int IntKind.i64 0, Value.int IntKind.i64 0, Value.int IntKind.i64 0] 83)).heap.size = w.heap.size + 1 + 1 := by simp
  clear h hB S0 B0 hva hf heq
  go_enter Tryz.func142, Tryz.ntmps142
  go_wp2_with fail
  generalize hW : (w.alloc (.cells #[.slice p0 n c0, .slice p1 m c1] 27)).alloc (.cells #[Value.int IntKind.i64 0, Value.int IntKind.i64 0, Value.int IntKind.i64 0, Value.int IntKind.i64 0, Value.int IntKind.i64 0, Value.int IntKind.i64 0, Value.int IntKind.i64 0, Value.int IntKind.i64 0, Value.int IntKind.i64 0, Value.int IntKind.i64 0, Value.int IntKind.i64 0, Value.int IntKind.i64 0, Value.int IntKind.i64 0, Value.int IntKind.i64 0, Value.int IntKind.i64 0, Value.int IntKind.i64 0, Value.int IntKind.i64 0, Value.int IntKind.i64 0, Value.int IntKind.i64 0, Value.int IntKind.i64 0, Value.int IntKind.i64 0, Value.int IntKind.i64 0, Value.int IntKind.i64 0, Value.int IntKind.i64 0] 83) = w2 at *
  clear hW e0' e1'
  refine (components_any w2 _ n N m P lo hi (HV.out.below HBB.out hhi) (by omega) HB.out).mono ?_
  rintro e w3 ⟨gc, rfl, hgc, oc, b3⟩
  have HC3 := Lib.hid oc
  have HS3 := Lib.hid (HS.out.below b3 (by omega))
  have HB3 := Lib.hid (HBB.out.trans (b3.mono (by omega)))
  have hgs : w.heap.size + 1 < gc := by omega
  clear oc b3 HS HBB hgc hs0
  go_wp2_with fail
  go_loopw [11] (fun iv wr => ∃ k : Nat, iv = .int .i64 k ∧ k ≤ n ∧ Ob wr (w.heap.size + 1) 24 (ia (fun z => csm (cmpN n P m) s k ((z : Nat) : Int))) ∧ Ob wr gc n (tabC (cmp n P m n)) ∧ Below w.heap.size w wr) (fun iv _ => n - (intOf iv).toNat)
  case atStart => exact ⟨0, rfl, Nat.zero_le _, HS3.out.congr (fun k _ => rfl), HC3.out, HB3.out⟩
  case round =>
    obtain ⟨k, rfl, hk, os, oc, hb⟩ := hrel
    clear HS3 HC3 HB3
    have HS := Lib.hid os
    have HC := Lib.hid oc
    have HBB := Lib.hid hb
    clear os oc hb
    generalize hQ : Exit.then _ _ = Q
    have HQ := Lib.hid hQ
    clear hQ
    have k0 : (0 : Int) ≤ (k : Int) := Int.natCast_nonneg _
    have ls := HS.out.lt
    by_cases hlt : k < n
    · have k1 : (k : Int) < (n : Int) := by omega
      obtain ⟨r, hr, hcr⟩ := cmp_nat (P := P) (m := m) HB.out hlt
      have yc : wr.cell? ⟨gc, k, none⟩ = some (.int .i64 (r : Nat)) := by rw [← hcr]; exact HC.out.cell k hlt
      obtain ⟨ba, oa, rfl, g1, g2, hx⟩ : ∃ b o, pa = some ⟨b, o, none⟩ ∧ la ≤ b ∧ b < ha ∧ ∀ k, k < n → w.cell? ⟨b, o + k, none⟩ = some (.int .i64 (s k)) := by
        rcases HVZ.out with e | e
        · omega
        · exact e
      have ya : wr.cell? ⟨ba, oa + k, none⟩ = some (.int .i64 (s k)) := (HBB.out.cell (p := ⟨ba, oa + k, none⟩) (by show ba < w.heap.size; omega)).trans (hx k hlt)
      have HX := Lib.hid hx
      clear hx
      have hb1 := csm_bd (R := cmpN n P m) (s := s) (z := ((r : Nat) : Int)) (k := k) (fun i hi => HFR.out i (by omega))
      have hd := HFR.out k hlt
      have H1 := Lib.hid (show -4611686018427387904 ≤ csm (cmpN n P m) s k ((r : Nat) : Int) + s k ∧ csm (cmpN n P m) s k ((r : Nat) : Int) + s k ≤ 4611686018427387904 by omega)
      have HU := Lib.hid (show ∀ z : Nat, upd (fun z => csm (cmpN n P m) s k ((z : Nat) : Int)) r (csm (cmpN n P m) s k ((r : Nat) : Int) + s k) z = csm (cmpN n P m) s (k + 1) ((z : Nat) : Int) from fun z => by
        unfold upd
        rw [csm]
        unfold cmpN
        rw [hcr]
        by_cases e : z = r
        · subst e; rw [if_pos rfl, if_pos rfl]
        · rw [if_neg e, if_neg (show ¬ ((r : Nat) : Int) = ((z : Nat) : Int) by omega), Int.add_zero])
      clear hb1 hd hcr
      go_wp2_with fail
      refine (add_any wr (w.heap.size + 1) _ r (s k) HS.out (by omega) H1.out).mono ?_
      rintro e w5 ⟨rfl, o5, u5⟩
      have HS5 := Lib.hid o5
      have HC5 := Lib.hid (HC.out.only u5 (by omega))
      have HB5 := Lib.hid (HBB.out.trans (u5.below (B := w.heap.size) (by omega)))
      clear o5 u5 ya yc HS HC HBB
      go_wp2_with fail
      rw [← HQ.out]
      refine ⟨⟨_, _, _, _, _, _, _, _, _, _, _, _, _, _, ?rel, rfl⟩, ?measure⟩
      case rel => exact ⟨k + 1, by go_num, hlt, HS5.out.congr (fun z _ => by unfold ia; rw [HU.out z]), HC5.out, HB5.out⟩
      case measure => simp [intOf]; omega
    · have hkn : n = k := by omega
      have hr : Ob wr (w.heap.size + 1) 24 (ia (fun z => csm (cmpN n P m) s n ((z : Nat) : Int))) := by
        have := HS.out
        rwa [← hkn] at this
      have k1 : ¬ ((k : Int) < (n : Int)) := by omega
      obtain ⟨t5, g5⟩ := hr.row4
      have heq := HEQ.out
      clear hkn
      go_wp2_with fail
      rw [← HQ.out]
      go_wp2_with (refine wpList_load_row rfl 83 _ rfl (w.heap.size + 1) rfl t5 _ (0, 0) _ g5 Tryz.underlying83 rfl (by rw [brr_size]; exact sums_info) ?_)
      go_ret
      exact ⟨rfl, HBB.out⟩

end Go.Proofs.YtdbgcbkmcbgdiaaGreat.mem

namespace Go.Proofs.YtdbgcbkmcbgdiaaGreat.mem
open Go.RowKit
set_option linter.unusedVariables false

theorem below_dN {B : Nat} {w w' : World} (h : Below B w w') (n : Nat) : Below B w (w'.drewN n) := ⟨h.os, h.tape, h.output, h.size, h.block⟩
/-- the sum of what is positive -/
def thr (s : Nat → Int) : Nat → Int
  | 0 => 0
  | k + 1 => thr s k + max (s k) 0
theorem absN_any (x : Int) (w : World) (h1 : -9223372036854775807 ≤ x) (h2 : x ≤ 9223372036854775807) : Calls Tryz.prog 155 #[.int .i64 x] w fun e w' => e = .returned (.int .i64 (x.natAbs : Int)) ∧ w = w' := by
  by_cases h : x < 0
  all_goals
    go_enter Tryz.func155, Tryz.ntmps155
    go_wp2
    go_ret
    exact ⟨ret_i2 (by omega), rfl⟩
end Go.Proofs.YtdbgcbkmcbgdiaaGreat.mem

namespace Go.Proofs.YtdbgcbkmcbgdiaaGreat.mem
open Go.RowKit
set_option linter.unusedVariables false

set_option maxRecDepth 100000 in
set_option maxHeartbeats 8000000 in
theorem forestFlows_any (w : World) (v va : Value) (n : Nat) (N : Nat → Nod) (m : Nat) (P : Nat → Pip) (lo hi : Nat) (h : NetAt w v n N m P lo hi) (hhi : hi ≤ w.heap.size) (hB : netB n N m P = true) (s : Nat → Int) (la ha : Nat) (hv : Sl w va n s la ha) (hha : ha ≤ w.heap.size)
    (hr : ∀ j, j < n → -30000 ≤ s j ∧ s j ≤ 30000) :
    Calls Tryz.prog 143 #[v, va] w fun e w' => e = .returned (.agg (arr (fflN n P m s))) ∧ Below w.heap.size w w' := by
  obtain ⟨p0, c0, p1, c1, rfl, hn9, hm9⟩ := h.parts
  obtain ⟨hn1, hn24, hm40⟩ := net_sz hB
  have HV := Lib.hid h
  have HB := Lib.hid hB
  have HBD := Lib.hid (fun a k (hk : k ≤ n) => (fo_net (P := P) (m := m) hB).ffl_bd (s := s) a k hk (fun i hi => hr i (by omega)))
  have HRG := Lib.hid hr
  have HCY := Lib.hid (fun k (hk : k < n) a => (fo_net (P := P) (m := m) hB).asc_rng (z := ((k : Nat) : Int)) ⟨by omega, by omega⟩ a)
  have A0 := ((boxed w (.slice p0 n c0) (.slice p1 m c1) 27).keep (Below.heap_alloc _ (.cells #[Value.int IntKind.i64 0, Value.int IntKind.i64 0, Value.int IntKind.i64 0, Value.int IntKind.i64 0, Value.int IntKind.i64 0, Value.int IntKind.i64 0, Value.int IntKind.i64 0, Value.int IntKind.i64 0, Value.int IntKind.i64 0, Value.int IntKind.i64 0, Value.int IntKind.i64 0, Value.int IntKind.i64 0, Value.int IntKind.i64 0, Value.int IntKind.i64 0, Value.int IntKind.i64 0, Value.int IntKind.i64 0, Value.int IntKind.i64 0, Value.int IntKind.i64 0, Value.int IntKind.i64 0, Value.int IntKind.i64 0, Value.int IntKind.i64 0, Value.int IntKind.i64 0, Value.int IntKind.i64 0, Value.int IntKind.i64 0, Value.int IntKind.i64 0, Value.int IntKind.i64 0, Value.int IntKind.i64 0, Value.int IntKind.i64 0, Value.int IntKind.i64 0, Value.int IntKind.i64 0, Value.int IntKind.i64 0, Value.int IntKind.i64 0, Value.int IntKind.i64 0, Value.int IntKind.i64 0, Value.int IntKind.i64 0, Value.int IntKind.i64 0, Value.int IntKind.i64 0, Value.int IntKind.i64 0, Value.int IntKind.i64 0, Value.int IntKind.i64 0] 111) _ (by simp only [World.size_alloc]; omega))).keep (Below.heap_alloc _ (.cells #[Value.int IntKind.i64 0, Value.int IntKind.i64 0, Value.int IntKind.i64 0, Value.int IntKind.i64 0, Value.int IntKind.i64 0, Value.int IntKind.i64 0, Value.int IntKind.i64 0, Value.int IntKind.i64 0, Value.int IntKind.i64 0, Value.int IntKind.i64 0, Value.int IntKind.i64 0, Value.int IntKind.i64 0, Value.int IntKind.i64 0, Value.int IntKind.i64 0, Value.int IntKind.i64 0, Value.int IntKind.i64 0, Value.int IntKind.i64 0, Value.int IntKind.i64 0, Value.int IntKind.i64 0, Value.int IntKind.i64 0, Value.int IntKind.i64 0, Value.int IntKind.i64 0, Value.int IntKind.i64 0, Value.int IntKind.i64 0, Value.int IntKind.i64 0, Value.int IntKind.i64 0, Value.int IntKind.i64 0, Value.int IntKind.i64 0, Value.int IntKind.i64 0, Value.int IntKind.i64 0, Value.int IntKind.i64 0, Value.int IntKind.i64 0, Value.int IntKind.i64 0, Value.int IntKind.i64 0, Value.int IntKind.i64 0, Value.int IntKind.i64 0, Value.int IntKind.i64 0, Value.int IntKind.i64 0, Value.int IntKind.i64 0, Value.int IntKind.i64 0] 111) _ (by simp only [World.size_alloc]; omega))
  have R0 := (Ob.new0 (w.alloc (.cells #[.slice p0 n c0, .slice p1 m c1] 27)) 111).keep (Below.heap_alloc _ (.cells #[Value.int IntKind.i64 0, Value.int IntKind.i64 0, Value.int IntKind.i64 0, Value.int IntKind.i64 0, Value.int IntKind.i64 0, Value.int IntKind.i64 0, Value.int IntKind.i64 0, Value.int IntKind.i64 0, Value.int IntKind.i64 0, Value.int IntKind.i64 0, Value.int IntKind.i64 0, Value.int IntKind.i64 0, Value.int IntKind.i64 0, Value.int IntKind.i64 0, Value.int IntKind.i64 0, Value.int IntKind.i64 0, Value.int IntKind.i64 0, Value.int IntKind.i64 0, Value.int IntKind.i64 0, Value.int IntKind.i64 0, Value.int IntKind.i64 0, Value.int IntKind.i64 0, Value.int IntKind.i64 0, Value.int IntKind.i64 0, Value.int IntKind.i64 0, Value.int IntKind.i64 0, Value.int IntKind.i64 0, Value.int IntKind.i64 0, Value.int IntKind.i64 0, Value.int IntKind.i64 0, Value.int IntKind.i64 0, Value.int IntKind.i64 0, Value.int IntKind.i64 0, Value.int IntKind.i64 0, Value.int IntKind.i64 0, Value.int IntKind.i64 0, Value.int IntKind.i64 0, Value.int IntKind.i64 0, Value.int IntKind.i64 0, Value.int IntKind.i64 0] 111) _ (by simp only [World.size_alloc]; omega))
  have R1 := Ob.new0 ((w.alloc (.cells #[.slice p0 n c0, .slice p1 m c1] 27)).alloc (.cells #[Value.int IntKind.i64 0, Value.int IntKind.i64 0, Value.int IntKind.i64 0, Value.int IntKind.i64 0, Value.int IntKind.i64 0, Value.int IntKind.i64 0, Value.int IntKind.i64 0, Value.int IntKind.i64 0, Value.int IntKind.i64 0, Value.int IntKind.i64 0, Value.int IntKind.i64 0, Value.int IntKind.i64 0, Value.int IntKind.i64 0, Value.int IntKind.i64 0, Value.int IntKind.i64 0, Value.int IntKind.i64 0, Value.int IntKind.i64 0, Value.int IntKind.i64 0, Value.int IntKind.i64 0, Value.int IntKind.i64 0, Value.int IntKind.i64 0, Value.int IntKind.i64 0, Value.int IntKind.i64 0, Value.int IntKind.i64 0, Value.int IntKind.i64 0, Value.int IntKind.i64 0, Value.int IntKind.i64 0, Value.int IntKind.i64 0, Value.int IntKind.i64 0, Value.int IntKind.i64 0, Value.int IntKind.i64 0, Value.int IntKind.i64 0, Value.int IntKind.i64 0, Value.int IntKind.i64 0, Value.int IntKind.i64 0, Value.int IntKind.i64 0, Value.int IntKind.i64 0, Value.int IntKind.i64 0, Value.int IntKind.i64 0, Value.int IntKind.i64 0] 111)) 111
  simp only [World.size_alloc] at R0 R1
  have B0 := ((below_new w (.cells #[.slice p0 n c0, .slice p1 m c1] 27)).trans ((below_new _ (.cells #[Value.int IntKind.i64 0, Value.int IntKind.i64 0, Value.int IntKind.i64 0, Value.int IntKind.i64 0, Value.int IntKind.i64 0, Value.int IntKind.i64 0, Value.int IntKind.i64 0, Value.int IntKind.i64 0, Value.int IntKind.i64 0, Value.int IntKind.i64 0, Value.int IntKind.i64 0, Value.int IntKind.i64 0, Value.int IntKind.i64 0, Value.int IntKind.i64 0, Value.int IntKind.i64 0, Value.int IntKind.i64 0, Value.int IntKind.i64 0, Value.int IntKind.i64 0, Value.int IntKind.i64 0, Value.int IntKind.i64 0, Value.int IntKind.i64 0, Value.int IntKind.i64 0, Value.int IntKind.i64 0, Value.int IntKind.i64 0, Value.int IntKind.i64 0, Value.int IntKind.i64 0, Value.int IntKind.i64 0, Value.int IntKind.i64 0, Value.int IntKind.i64 0, Value.int IntKind.i64 0, Value.int IntKind.i64 0, Value.int IntKind.i64 0, Value.int IntKind.i64 0, Value.int IntKind.i64 0, Value.int IntKind.i64 0, Value.int IntKind.i64 0, Value.int IntKind.i64 0, Value.int IntKind.i64 0, Value.int IntKind.i64 0, Value.int IntKind.i64 0] 111)).mono (by simp only [World.size_alloc]; omega))).trans ((below_new _ (.cells #[Value.int IntKind.i64 0, Value.int IntKind.i64 0, Value.int IntKind.i64 0, Value.int IntKind.i64 0, Value.int IntKind.i64 0, Value.int IntKind.i64 0, Value.int IntKind.i64 0, Value.int IntKind.i64 0, Value.int IntKind.i64 0, Value.int IntKind.i64 0, Value.int IntKind.i64 0, Value.int IntKind.i64 0, Value.int IntKind.i64 0, Value.int IntKind.i64 0, Value.int IntKind.i64 0, Value.int IntKind.i64 0, Value.int IntKind.i64 0, Value.int IntKind.i64 0, Value.int IntKind.i64 0, Value.int IntKind.i64 0, Value.int IntKind.i64 0, Value.int IntKind.i64 0, Value.int IntKind.i64 0, Value.int IntKind.i64 0, Value.int IntKind.i64 0, Value.int IntKind.i64 0, Value.int IntKind.i64 0, Value.int IntKind.i64 0, Value.int IntKind.i64 0, Value.int IntKind.i64 0, Value.int IntKind.i64 0, Value.int IntKind.i64 0, Value.int IntKind.i64 0, Value.int IntKind.i64 0, Value.int IntKind.i64 0, Value.int IntKind.i64 0, Value.int IntKind.i64 0, Value.int IntKind.i64 0, Value.int IntKind.i64 0, Value.int IntKind.i64 0] 111)).mono (by simp only [World.size_alloc]; omega))
  have e0 := A0.b0
  have e1 := A0.b1
  have hs0 : (((w.alloc (.cells #[.slice p0 n c0, .slice p1 m c1] 27)).alloc (.cells #[Value.int IntKind.i64 0, Value.int IntKind.i64 0, Value.int IntKind.i64 0, Value.int IntKind.i64 0, Value.int IntKind.i64 0, Value.int IntKind.i64 0, Value.int IntKind.i64 0, Value.int IntKind.i64 0, Value.int IntKind.i64 0, Value.int IntKind.i64 0, Value.int IntKind.i64 0, Value.int IntKind.i64 0, Value.int IntKind.i64 0, Value.int IntKind.i64 0, Value.int IntKind.i64 0, Value.int IntKind.i64 0, Value.int IntKind.i64 0, Value.int IntKind.i64 0, Value.int IntKind.i64 0, Value.int IntKind.i64 0, Value.int IntKind.i64 0, Value.int IntKind.i64 0, Value.int IntKind.i64 0, Value.int IntKind.i64 0, Value.int IntKind.i64 0, Value.int IntKind.i64 0, Value.int IntKind.i64 0, Value.int IntKind.i64 0, Value.int IntKind.i64 0, Value.int IntKind.i64 0, Value.int IntKind.i64 0, Value.int IntKind.i64 0, Value.int IntKind.i64 0, Value.int IntKind.i64 0, Value.int IntKind.i64 0, Value.int IntKind.i64 0, Value.int IntKind.i64 0, Value.int IntKind.i64 0, Value.int IntKind.i64 0, Value.int IntKind.i64 0] 111)).alloc (.cells #[Value.int IntKind.i64 0, Value.int IntKind.i64 0, Value.int IntKind.i64 0, Value.int IntKind.i64 0, Value.int IntKind.i64 0, Value.int IntKind.i64 0, Value.int IntKind.i64 0, Value.int IntKind.i64 0, Value.int IntKind.i64 0, Value.int IntKind.i64 0, Value.int IntKind.i64 0, Value.int IntKind.i64 0, Value.int IntKind.i64 0, Value.int IntKind.i64 0, Value.int IntKind.i64 0, Value.int IntKind.i64 0, Value.int IntKind.i64 0, Value.int IntKind.i64 0, Value.int IntKind.i64 0, Value.int IntKind.i64 0, Value.int IntKind.i64 0, Value.int IntKind.i64 0, Value.int IntKind.i64 0, Value.int IntKind.i64 0, Value.int IntKind.i64 0, Value.int IntKind.i64 0, Value.int IntKind.i64 0, Value.int IntKind.i64 0, Value.int IntKind.i64 0, Value.int IntKind.i64 0, Value.int IntKind.i64 0, Value.int IntKind.i64 0, Value.int IntKind.i64 0, Value.int IntKind.i64 0, Value.int IntKind.i64 0, Value.int IntKind.i64 0, Value.int IntKind.i64 0, Value.int IntKind.i64 0, Value.int IntKind.i64 0, Value.int IntKind.i64 0] 111)).heap.size = w.heap.size + 1 + 1 + 1 := by simp
  have HA := Lib.hid A0
  have HR0 := Lib.hid R0
  have HR1 := Lib.hid R1
  have HBB := Lib.hid B0
  clear h hB A0 R0 R1 B0 hr
  obtain ⟨pa, ca, rfl, hva⟩ := hv
  go_enter Tryz.func143, Tryz.ntmps143
  go_wp2_with fail
  obtain ⟨w1, hw1⟩ : ∃ w1, ((w.alloc (.cells #[.slice p0 n c0, .slice p1 m c1] 27)).alloc (.cells #[Value.int IntKind.i64 0, Value.int IntKind.i64 0, Value.int IntKind.i64 0, Value.int IntKind.i64 0, Value.int IntKind.i64 0, Value.int IntKind.i64 0, Value.int IntKind.i64 0, Value.int IntKind.i64 0, Value.int IntKind.i64 0, Value.int IntKind.i64 0, Value.int IntKind.i64 0, Value.int IntKind.i64 0, Value.int IntKind.i64 0, Value.int IntKind.i64 0, Value.int IntKind.i64 0, Value.int IntKind.i64 0, Value.int IntKind.i64 0, Value.int IntKind.i64 0, Value.int IntKind.i64 0, Value.int IntKind.i64 0, Value.int IntKind.i64 0, Value.int IntKind.i64 0, Value.int IntKind.i64 0, Value.int IntKind.i64 0, Value.int IntKind.i64 0, Value.int IntKind.i64 0, Value.int IntKind.i64 0, Value.int IntKind.i64 0, Value.int IntKind.i64 0, Value.int IntKind.i64 0, Value.int IntKind.i64 0, Value.int IntKind.i64 0, Value.int IntKind.i64 0, Value.int IntKind.i64 0, Value.int IntKind.i64 0, Value.int IntKind.i64 0, Value.int IntKind.i64 0, Value.int IntKind.i64 0, Value.int IntKind.i64 0, Value.int IntKind.i64 0] 111)).alloc (.cells #[Value.int IntKind.i64 0, Value.int IntKind.i64 0, Value.int IntKind.i64 0, Value.int IntKind.i64 0, Value.int IntKind.i64 0, Value.int IntKind.i64 0, Value.int IntKind.i64 0, Value.int IntKind.i64 0, Value.int IntKind.i64 0, Value.int IntKind.i64 0, Value.int IntKind.i64 0, Value.int IntKind.i64 0, Value.int IntKind.i64 0, Value.int IntKind.i64 0, Value.int IntKind.i64 0, Value.int IntKind.i64 0, Value.int IntKind.i64 0, Value.int IntKind.i64 0, Value.int IntKind.i64 0, Value.int IntKind.i64 0, Value.int IntKind.i64 0, Value.int IntKind.i64 0, Value.int IntKind.i64 0, Value.int IntKind.i64 0, Value.int IntKind.i64 0, Value.int IntKind.i64 0, Value.int IntKind.i64 0, Value.int IntKind.i64 0, Value.int IntKind.i64 0, Value.int IntKind.i64 0, Value.int IntKind.i64 0, Value.int IntKind.i64 0, Value.int IntKind.i64 0, Value.int IntKind.i64 0, Value.int IntKind.i64 0, Value.int IntKind.i64 0, Value.int IntKind.i64 0, Value.int IntKind.i64 0, Value.int IntKind.i64 0, Value.int IntKind.i64 0] 111) = w1 := ⟨_, rfl⟩
  rw [hw1] at hs0 HA HR0 HR1 HBB e0 e1 ⊢
  clear hw1 e0 e1 hs0
  go_loopw [10] (fun iv wr => ∃ k : Nat, iv = .int .i64 k ∧ k ≤ n ∧ Ob wr (w.heap.size + 1 + 1) 40 (ia (ffl P (fE n P m) (fD n P m) s k)) ∧ Ob wr w.heap.size 2 (bx (.slice p0 n c0) (.slice p1 m c1)) ∧ Ob wr (w.heap.size + 1) 40 (ia (fun _ => 0)) ∧ Below w.heap.size w wr) (fun iv _ => n - (intOf iv).toNat)
  case atStart => exact ⟨0, rfl, Nat.zero_le _, HR1.out, HA.out, HR0.out, HBB.out⟩
  case round =>
    obtain ⟨k, rfl, hk, o5, oa, o4, hb⟩ := hrel
    clear HA HR0 HR1 HBB
    have H5 := Lib.hid o5
    have HA := Lib.hid oa
    have H4 := Lib.hid o4
    have HBB := Lib.hid hb
    clear o5 oa o4 hb
    generalize hQ : Exit.then _ _ = Q
    have HQ := Lib.hid hQ
    clear hQ
    have k0 : (0 : Int) ≤ (k : Int) := Int.natCast_nonneg _
    have l5 := H5.out.lt
    have l4 := H4.out.lt
    have la' := HA.out.lt
    have hsz := HBB.out.size
    by_cases hlt : k < n
    · have k1 : (k : Int) < (n : Int) := by omega
      obtain ⟨ba, oa, rfl, g1, g2, hx⟩ : ∃ b o, pa = some ⟨b, o, none⟩ ∧ la ≤ b ∧ b < ha ∧ ∀ k, k < n → w.cell? ⟨b, o + k, none⟩ = some (.int .i64 (s k)) := by
        rcases hva with e | e
        · omega
        · exact e
      clear hva
      have y0 : wr.cell? ⟨ba, oa + k, none⟩ = some (.int .i64 (s k)) := (HBB.out.cell (p := ⟨ba, oa + k, none⟩) (by show ba < w.heap.size; omega)).trans (hx k hlt)
      have HX := Lib.hid hx
      clear hx
      go_wp2_with fail
      have f0 : wr.cell? ⟨w.heap.size, 0, none⟩ = some (.slice p0 n c0) := HA.out.b0
      have f1 : wr.cell? ⟨w.heap.size, 1, none⟩ = some (.slice p1 m c1) := HA.out.b1
      clear y0
      obtain ⟨Lx, hLx, eLx⟩ : ∃ L : List Value, arr (ffl P (fE n P m) (fD n P m) s k) = List.toArray L ∧ L = arrL (ffl P (fE n P m) (fD n P m) s k) := ⟨_, rfl, rfl⟩
      have nLx : Lx.length = 40 := by rw [eLx, arr_len]
      have g5 : wr.rangeAt (w.heap.size + 1 + 1) 0 Lx := by rw [eLx]; exact H5.out.range
      obtain ⟨Lz, hLz, eLz⟩ : ∃ L : List Value, arr (fun a => ffl P (fE n P m) (fD n P m) s k a + asc P (fE n P m) (fD n P m) ((k : Nat) : Int) a * s k) = List.toArray L ∧ L = arrL (fun a => ffl P (fE n P m) (fD n P m) s k a + asc P (fE n P m) (fD n P m) ((k : Nat) : Int) a * s k) := ⟨_, rfl, rfl⟩
      have nLz : Lz.length = 40 := by rw [eLz, arr_len]
      have oLz : ∀ v ∈ Lz, v.oneCell' = true := by rw [eLz]; exact arr_oneL _
      have HLx := Lib.hid hLx
      have HLz := Lib.hid hLz
      have HEz := Lib.hid eLz
      clear hLx eLx hLz eLz
      have FI := flow_info
      have UI := Tryz.underlying111
      have HPB := Lib.hid (show ∀ a, a < 40 → (-4611686018427387904 ≤ ffl P (fE n P m) (fD n P m) s k a + asc P (fE n P m) (fD n P m) ((k : Nat) : Int) a * s k ∧ ffl P (fE n P m) (fD n P m) s k a + asc P (fE n P m) (fD n P m) ((k : Nat) : Int) a * s k ≤ 4611686018427387904) ∧ (-4611686018427387904 ≤ asc P (fE n P m) (fD n P m) ((k : Nat) : Int) a * s k ∧ asc P (fE n P m) (fD n P m) ((k : Nat) : Int) a * s k ≤ 4611686018427387904) from fun a _ => by
        have h1 := HBD.out a k (by omega)
        have h2 := mul1 (HRG.out k hlt) (HCY.out _ hlt a)
        omega)
      refine wp_region_noPanic ?_
      refine wp_region_held_drew (S := fun w' : World => w'.cell? ⟨w.heap.size, 0, none⟩ = some (.slice p0 n c0) ∧ w'.cell? ⟨w.heap.size, 1, none⟩ = some (.slice p1 m c1)) (by kernel_rfl) ⟨f0, f1⟩ (fun s0 => ?_)
      refine wpAnyH_take (i := 1) (v := .agg #[.slice p0 n c0, .slice p1 m c1]) rfl (by kernel_rfl) (by kernel_rfl) (by kernel_rfl) (fun _ _ _ h => h) (Or.inl ⟨by rfl, (by intro w hSw; (try dsimp only at hSw); go_simp)⟩) s0 ?_
      try simp only [Act.put]
      refine wpAnyH_take (i := 2) (v := .int .i64 (k : Nat)) rfl (by kernel_rfl) (by kernel_rfl) (by kernel_rfl) (fun _ _ _ h => h) (Or.inl ⟨by rfl, (by intro w hSw; (try dsimp only at hSw); go_simp)⟩) s0 ?_
      try simp only [Act.put, List.setIfInBounds_toArray]
      refine wpAnyH_take (i := 4) (v := .int .i64 (s k)) rfl (by kernel_rfl) (by kernel_rfl) (by kernel_rfl) (fun _ _ _ h => h) (Or.inl ⟨by rfl, (by intro w hSw; (try dsimp only at hSw); go_simp)⟩) s0 ?_
      try simp only [Act.put]
      refine wpAnyH_ready (rs := [0, 3]) (by kernel_rfl) (by simp) (AllReadyH.cons rfl (fun K hK => ?_) (AllReadyH.cons rfl (fun K hK => ?_) AllReadyH.nil))
      · skip
        rw [if_pos (by rfl)]
        refine wp_load_mid _ _ rfl _ _ rfl Lx _ (range_block g5 rfl) UI rfl (by rw [nLx]; exact FI) ?_
        refine hK.out _ _ ⟨f0, f1⟩ (fun s9 => ?_)
        clear hK K s9
        try simp only [Act.put]
        refine wpAnyH_ready (rs := [3]) (by kernel_rfl) (by simp) (AllReadyH.cons rfl (fun K hK => ?_) AllReadyH.nil)
        go_simp
        refine (ascentFrom_any _ _ n N m P lo hi (HV.out.below HBB.out hhi).drew (show hi ≤ wr.heap.size by omega) HB.out ((k : Nat) : Int) ⟨by omega, by omega⟩).mono ?_
        rintro e wX ⟨rfl, hbX⟩
        have hbX' := below_dr0 hbX
        have SX : wX.cell? ⟨w.heap.size, 0, none⟩ = some (.slice p0 n c0) ∧ wX.cell? ⟨w.heap.size, 1, none⟩ = some (.slice p1 m c1) := ⟨(hbX'.cell (p := ⟨w.heap.size, 0, none⟩) la').trans f0, (hbX'.cell (p := ⟨w.heap.size, 1, none⟩) la').trans f1⟩
        have zX := hbX'.size
        refine hK.out _ _ SX (fun s9 => ?_)
        clear hK K s9
        try simp only [Act.put, List.setIfInBounds_toArray]
        refine wpAnyH_ready (rs := [5]) (by kernel_rfl) (by simp) (AllReadyH.cons rfl (fun K hK => ?_) AllReadyH.nil)
        go_simp
        rw [← HLx.out]
        refine (plus_any _ _ _ _ (fun a ha => (HPB.out a ha).1) (fun a ha => (HPB.out a ha).2)).mono ?_
        rintro e wY ⟨rfl, hbY⟩
        rw [HLz.out]
        have SY : wY.cell? ⟨w.heap.size, 0, none⟩ = some (.slice p0 n c0) ∧ wY.cell? ⟨w.heap.size, 1, none⟩ = some (.slice p1 m c1) := ⟨(hbY.cell (p := ⟨w.heap.size, 0, none⟩) (by show w.heap.size < _; omega)).trans SX.1, (hbY.cell (p := ⟨w.heap.size, 1, none⟩) (by show w.heap.size < _; omega)).trans SX.2⟩
        have zY := hbY.size
        refine hK.out _ _ SY (fun s9 => ?_)
        clear hK K s9
        try simp only [Act.put, List.set_cons_succ]
        refine wpAnyH_ready (rs := [6]) (by kernel_rfl) (by simp) (AllReadyH.cons rfl (fun K hK => ?_) AllReadyH.nil)
        have o4' := (H5.out.below hbX' l5).below hbY (by omega)
        have o5 := o4'.setArr (fun a => ffl P (fE n P m) (fD n P m) s k a + asc P (fE n P m) (fD n P m) ((k : Nat) : Int) a * s k)
        rw [← HEz.out] at o5
        have oy := (Only.refl (w.heap.size + 1 + 1) wY).setCs Lz 0
        rw [if_pos (by rfl)]
        refine wp_store_mid _ _ _ rfl _ _ (List.toArray Lz) rfl rfl (by show wY.there (w.heap.size + 1 + 1) 0 Lz.length; rw [nLz]; exact o4'.there) (by show _ = some Lz.length; rw [nLz]; exact FI) (all_oneCell_toArray oLz) ?_
        simp only [Act.put, List.setIfInBounds_toArray]
        refine hK.out _ _ ⟨(oy.cell (a := ⟨w.heap.size, 0, none⟩) (by show w.heap.size ≠ _; omega)).trans SY.1, (oy.cell (a := ⟨w.heap.size, 1, none⟩) (by show w.heap.size ≠ _; omega)).trans SY.2⟩ (fun s9 => ?_)
        refine wpAnyH_done (by kernel_rfl) ?_ _
        refine NoPanic.normal ?_
        have hbb := (hbX'.mono (show w.heap.size ≤ wr.heap.size by omega)).trans ((hbY.mono (show w.heap.size ≤ wX.heap.size by omega)).trans (oy.below (show w.heap.size ≤ w.heap.size + 1 + 1 by omega)))
        have ra := ((HA.out.below hbX' la').below hbY (by omega)).only oy (by omega)
        have r4 := ((H4.out.below hbX' l4).below hbY (by omega)).only oy (by omega)
        clear SX SY
        go_wp2_with fail
        rw [← HQ.out]
        refine ⟨⟨_, _, _, _, _, _, _, _, _, _, _, _, _, _, ?rel, rfl⟩, ?measure⟩
        case rel => exact ⟨k + 1, by go_num, hlt, o5.congr (fun a _ => by unfold ia; rw [ffl]), ra, r4, HBB.out.trans hbb⟩
        case measure => simp [intOf]; omega
      · skip
        go_simp
        refine (ascentFrom_any _ _ n N m P lo hi (HV.out.below HBB.out hhi).drew (show hi ≤ wr.heap.size by omega) HB.out ((k : Nat) : Int) ⟨by omega, by omega⟩).mono ?_
        rintro e wX ⟨rfl, hbX⟩
        have hbX' := below_dr0 hbX
        have SX : wX.cell? ⟨w.heap.size, 0, none⟩ = some (.slice p0 n c0) ∧ wX.cell? ⟨w.heap.size, 1, none⟩ = some (.slice p1 m c1) := ⟨(hbX'.cell (p := ⟨w.heap.size, 0, none⟩) la').trans f0, (hbX'.cell (p := ⟨w.heap.size, 1, none⟩) la').trans f1⟩
        have zX := hbX'.size
        refine hK.out _ _ SX (fun s9 => ?_)
        clear hK K s9
        try simp only [Act.put, List.setIfInBounds_toArray, List.set_cons_succ]
        refine wpAnyH_ready (rs := [0]) (by kernel_rfl) (by simp) (AllReadyH.cons rfl (fun K hK => ?_) AllReadyH.nil)
        rw [if_pos (by rfl)]
        refine wp_load_mid _ _ rfl _ _ rfl Lx _ (range_block g5 (hbX'.block _ l5)) UI rfl (by rw [nLx]; exact FI) ?_
        refine hK.out _ _ SX (fun s9 => ?_)
        clear hK K s9
        try simp only [Act.put, List.setIfInBounds_toArray]
        refine wpAnyH_ready (rs := [5]) (by kernel_rfl) (by simp) (AllReadyH.cons rfl (fun K hK => ?_) AllReadyH.nil)
        go_simp
        rw [← HLx.out]
        refine (plus_any _ _ _ _ (fun a ha => (HPB.out a ha).1) (fun a ha => (HPB.out a ha).2)).mono ?_
        rintro e wY ⟨rfl, hbY⟩
        rw [HLz.out]
        have SY : wY.cell? ⟨w.heap.size, 0, none⟩ = some (.slice p0 n c0) ∧ wY.cell? ⟨w.heap.size, 1, none⟩ = some (.slice p1 m c1) := ⟨(hbY.cell (p := ⟨w.heap.size, 0, none⟩) (by show w.heap.size < _; omega)).trans SX.1, (hbY.cell (p := ⟨w.heap.size, 1, none⟩) (by show w.heap.size < _; omega)).trans SX.2⟩
        have zY := hbY.size
        refine hK.out _ _ SY (fun s9 => ?_)
        clear hK K s9
        try simp only [Act.put, List.setIfInBounds_toArray, List.set_cons_succ]
        refine wpAnyH_ready (rs := [6]) (by kernel_rfl) (by simp) (AllReadyH.cons rfl (fun K hK => ?_) AllReadyH.nil)
        have o4' := (H5.out.below hbX' l5).below hbY (by omega)
        have o5 := o4'.setArr (fun a => ffl P (fE n P m) (fD n P m) s k a + asc P (fE n P m) (fD n P m) ((k : Nat) : Int) a * s k)
        rw [← HEz.out] at o5
        have oy := (Only.refl (w.heap.size + 1 + 1) wY).setCs Lz 0
        rw [if_pos (by rfl)]
        refine wp_store_mid _ _ _ rfl _ _ (List.toArray Lz) rfl rfl (by show wY.there (w.heap.size + 1 + 1) 0 Lz.length; rw [nLz]; exact o4'.there) (by show _ = some Lz.length; rw [nLz]; exact FI) (all_oneCell_toArray oLz) ?_
        simp only [Act.put, List.setIfInBounds_toArray]
        refine hK.out _ _ ⟨(oy.cell (a := ⟨w.heap.size, 0, none⟩) (by show w.heap.size ≠ _; omega)).trans SY.1, (oy.cell (a := ⟨w.heap.size, 1, none⟩) (by show w.heap.size ≠ _; omega)).trans SY.2⟩ (fun s9 => ?_)
        refine wpAnyH_done (by kernel_rfl) ?_ _
        refine NoPanic.normal ?_
        have hbb := (hbX'.mono (show w.heap.size ≤ wr.heap.size by omega)).trans ((hbY.mono (show w.heap.size ≤ wX.heap.size by omega)).trans (oy.below (show w.heap.size ≤ w.heap.size + 1 + 1 by omega)))
        have ra := ((HA.out.below hbX' la').below hbY (by omega)).only oy (by omega)
        have r4 := ((H4.out.below hbX' l4).below hbY (by omega)).only oy (by omega)
        clear SX SY
        go_wp2_with fail
        rw [← HQ.out]
        refine ⟨⟨_, _, _, _, _, _, _, _, _, _, _, _, _, _, ?rel, rfl⟩, ?measure⟩
        case rel => exact ⟨k + 1, by go_num, hlt, o5.congr (fun a _ => by unfold ia; rw [ffl]), ra, r4, HBB.out.trans hbb⟩
        case measure => simp [intOf]; omega
    · have hkn : n = k := by omega
      have hr : Ob wr (w.heap.size + 1 + 1) 40 (ia (fflN n P m s)) := by
        have := H5.out
        rw [← hkn] at this
        exact this
      have k1 : ¬ ((k : Int) < (n : Int)) := by omega
      obtain ⟨t5, g5⟩ := hr.row
      obtain ⟨t4, g4⟩ := H4.out.row
      have o2 := (Only.refl (w.heap.size + 1) wr).setRow (arr (fflN n P m s))
      have r2 := H4.out.setRow (fflN n P m s)
      have hbb := HBB.out.trans (o2.below (B := w.heap.size) (by omega))
      clear hkn
      go_wp2_with fail
      rw [← HQ.out]
      go_wp2_with (first | refine wpList_load_row rfl 111 _ rfl (w.heap.size + 1 + 1) rfl t5 _ (0, 0) _ g5 Tryz.underlying111 rfl (by rw [arr_size]; exact flow_info) ?_ | refine wpList_store_row rfl 111 _ _ rfl (w.heap.size + 1) _ rfl rfl t4 _ g4 (by rw [arr_size]; exact flow_info) (by rw [arr_size, arr_size]) (arr_one _) ?_)
      exact bodyPost_ret (results_arr rfl rfl r2) rfl ⟨rfl, hbb⟩

noncomputable def ffC (n : Nat) (N : Nat → Nod) (m : Nat) (P : Nat → Pip) (K : Nat) (d : Nat → Int) : Int :=
  if svC n N m P K d = 0 then (if evB n P m d = true then (if flB (fflN n P m d) m = true then 0 else 2) else 5) else svC n N m P K d
noncomputable def ffN (n : Nat) (N : Nat → Nod) (m : Nat) (P : Nat → Pip) (K : Nat) (d : Nat → Int) : Nat := if ffC n N m P K d = 0 then m else 0
set_option maxRecDepth 100000 in
set_option maxHeartbeats 8000000 in
theorem forestFlowsI_any (w : World) (v : Value) (n : Nat) (N : Nat → Nod) (m : Nat) (P : Nat → Pip) (lo hi : Nat) (h : NetAt w v n N m P lo hi) (hhi : hi ≤ w.heap.size) (hN : ∀ i, i < n → (N i).s.size ≤ 9223372036854775807) (va : Value) (K : Nat) (d : Nat → Int) (la ha : Nat) (hv : Sl w va K d la ha) (hha : ha ≤ w.heap.size) (hK9 : K ≤ 9223372036854775807) :
    Calls Tryz.prog 89 #[v, va] w (LIPost w (ffN n N m P K d) (fflN n P m d) (ffC n N m P K d)) := by
  obtain ⟨p0, c0, p1, c1, rfl, hn9, hm9⟩ := h.parts
  have HV := Lib.hid h
  have HN := Lib.hid hN
  obtain ⟨pa, ca, rfl⟩ := hv.sh
  have A0 := boxed w (.slice p0 n c0) (.slice p1 m c1) 27
  have B0 := below_new w (.cells #[.slice p0 n c0, .slice p1 m c1] 27)
  have hs0 : (w.alloc (.cells #[.slice p0 n c0, .slice p1 m c1] 27)).heap.size = w.heap.size + 1 := by simp
  clear h hN
  go_enter Tryz.func89, Tryz.ntmps89
  have e0' := A0.b0
  have e1' := A0.b1
  go_wp2_with fail
  refine (checkSupplies_any _ _ n N m P lo hi (HV.out.below B0 hhi) (by omega) HN.out _ K d la ha (hv.below B0 hha) (by omega) hK9).mono ?_
  rintro e w1 ⟨rfl, b1⟩
  have A1 := A0.below b1 (by omega)
  have B1 := B0.trans (b1.mono (by omega))
  have hs1 := b1.size
  have e0 := A1.b0
  have e1 := A1.b1
  have e2 : w.heap.size < w1.heap.size := by omega
  clear A0 B0 b1 e0' e1'
  by_cases hc : svC n N m P K d = 0
  · obtain ⟨hB, rfl, hf⟩ := svC_ok hc
    obtain ⟨hn1, hn24, hm40⟩ := net_sz hB
    have HB := Lib.hid hB
    have HF := Lib.hid hf
    have H1 := Lib.hid (hv.below B1 hha)
    have HRG := Lib.hid (show ∀ j, j < K → -30000 ≤ d j ∧ d j ≤ 30000 from fun j hj => flQ_iff.1 (flB_iff.1 hf j hj))
    have HZ := Lib.hid (show flB (fflN K P m d) 40 = flB (fflN K P m d) m from flB_ext hm40 (fun k hk => fflN_off hB d hk))
    have HFC := Lib.hid (show ffC K N m P K d = if evB K P m d = true then (if flB (fflN K P m d) m = true then 0 else 2) else 5 by unfold ffC; rw [if_pos hc])
    rw [hc]
    clear hc hB hf hv
    go_wp2_with fail
    refine (areEven_any w1 _ K N m P lo hi (HV.out.below B1 hhi) (by omega) HB.out _ d la ha H1.out (by omega) HF.out).mono ?_
    rintro e w2 ⟨rfl, b2⟩
    have A2 := A1.below b2 e2
    have B2 := B1.trans (b2.mono (by omega))
    have hs2 := b2.size
    have H2 := Lib.hid (H1.out.below b2 (by omega))
    have f0 := A2.b0
    have f1 := A2.b1
    clear e0 e1 A1 b2 H1
    cases hev : evB K P m d
    · have H4 := Lib.hid (show ffC K N m P K d = 5 by rw [HFC.out, hev]; rfl)
      have H3 := Lib.hid (show ffN K N m P K d = 0 by unfold ffN; rw [H4.out]; rfl)
      clear hev
      go_wp2_with fail
      go_ret2
      exact li_err H3.out H4.out.symm rfl B2
    · have HFD := Lib.hid (show ffC K N m P K d = if flB (fflN K P m d) m = true then 0 else 2 by rw [HFC.out, hev]; rfl)
      clear hev
      have lw : w.heap.size < w2.heap.size := by omega
      go_wp2_with fail
      go_region_held3 (fun w' : World => w'.cell? ⟨w.heap.size, 0, none⟩ = some (.slice p0 K c0) ∧ w'.cell? ⟨w.heap.size, 1, none⟩ = some (.slice p1 m c1))
        (first | exact ⟨f0, f1⟩ | exact SA | exact SB)
        (first
          | (go_at_call 143; refine (forestFlows_any _ _ _ K N m P lo hi (HV.out.below B2 hhi).drew (show hi ≤ w2.heap.size by omega) HB.out d la ha (sl_dr H2.out) (show ha ≤ w2.heap.size by omega) HRG.out).mono ?_; rintro e wA ⟨rfl, hbA⟩; have hbA' := below_dr0 hbA; have SA : wA.cell? ⟨w.heap.size, 0, none⟩ = some (.slice p0 K c0) ∧ wA.cell? ⟨w.heap.size, 1, none⟩ = some (.slice p1 m c1) := ⟨(hbA'.cell (p := ⟨w.heap.size, 0, none⟩) lw).trans f0, (hbA'.cell (p := ⟨w.heap.size, 1, none⟩) lw).trans f1⟩; have zA := hbA'.size)
          | (go_at_call 90; refine (flowListOf_any _ p0 p1 K m c0 c1 _ hm40).mono ?_; rintro e wB ⟨hbB, hcase⟩; obtain ⟨v2, cd, rfl, hout⟩ := flo_out hcase; have SB : wB.cell? ⟨w.heap.size, 0, none⟩ = some (.slice p0 K c0) ∧ wB.cell? ⟨w.heap.size, 1, none⟩ = some (.slice p1 m c1) := ⟨(hbB.cell (p := ⟨w.heap.size, 0, none⟩) (by show w.heap.size < _; omega)).trans SA.1, (hbB.cell (p := ⟨w.heap.size, 1, none⟩) (by show w.heap.size < _; omega)).trans SA.2⟩))
      go_wp2_with fail
      go_ret2
      have BF := (B2.trans (hbA'.mono (by omega))).trans (hbB.mono (by omega))
      rcases hout.out with ⟨hz, rfl, g, ho, hg⟩ | ⟨hz, rfl, rfl⟩
      · rw [HZ.out] at hz
        have H4 := Lib.hid (show ffC K N m P K d = 0 by rw [HFD.out, hz]; rfl)
        exact li_ok (show m = _ by unfold ffN; rw [H4.out]; rfl) (by rw [H4.out]; rfl) ho (by omega) BF
      · rw [HZ.out] at hz
        have H4 := Lib.hid (show ffC K N m P K d = 2 by rw [HFD.out, hz]; rfl)
        exact li_err (show _ = 0 by unfold ffN; rw [H4.out]; rfl) H4.out.symm rfl BF
  · have hb1 : (svC n N m P K d != 0) = true := by simpa using hc
    have H4 := Lib.hid (show ffC n N m P K d = svC n N m P K d by unfold ffC; rw [if_neg hc])
    have H3 := Lib.hid (show ffN n N m P K d = 0 by unfold ffN; rw [H4.out, if_neg hc])
    clear hc
    go_wp2_with fail
    go_ret2
    exact li_err H3.out H4.out.symm rfl B1
end Go.Proofs.YtdbgcbkmcbgdiaaGreat.mem

namespace Go.Proofs.YtdbgcbkmcbgdiaaGreat.mem
open Go.RowKit
set_option linter.unusedVariables false

end Go.Proofs.YtdbgcbkmcbgdiaaGreat.mem

namespace Go.Proofs.YtdbgcbkmcbgdiaaGreat.mem
open Go.RowKit
set_option linter.unusedVariables false

/-- the drop of a pipe -/
def drp (q : Pip) (x : Int) : Int := q.k * (x * (x.natAbs : Int))
theorem sq_bnd {x c : Int} (h0 : -c ≤ x) (h1 : x ≤ c) : -(c * c) ≤ x * (x.natAbs : Int) ∧ x * (x.natAbs : Int) ≤ c * c := by
  have hc : 0 ≤ c := by omega
  have h2 : (x.natAbs : Int) ≤ c := by omega
  have h3 : (0 : Int) ≤ (x.natAbs : Int) := Int.natCast_nonneg _
  have h4 : (x.natAbs : Int) * (x.natAbs : Int) ≤ c * c := Int.mul_le_mul h2 h2 h3 hc
  have h5 : 0 ≤ c * c := Int.mul_nonneg hc hc
  have h6 : 0 ≤ (x.natAbs : Int) * (x.natAbs : Int) := Int.mul_nonneg h3 h3
  rcases Int.le_total 0 x with h | h
  · have e : (x.natAbs : Int) = x := by omega
    rw [e] at h4 h6 ⊢
    omega
  · have e : x * (x.natAbs : Int) = -((x.natAbs : Int) * (x.natAbs : Int)) := by
      rw [← Int.neg_mul]
      congr 1
      omega
    rw [e]
    omega
theorem drp_bnd {n : Int} {q : Pip} {x : Int} (hq : pipB n q = true) (h0 : -30000 ≤ x) (h1 : x ≤ 30000) : -900000000000 ≤ drp q x ∧ drp q x ≤ 900000000000 := by
  have hk : 1 ≤ q.k ∧ q.k ≤ 1000 := by
    unfold pipB at hq
    simp only [Bool.and_eq_true, inR_iff] at hq
    omega
  obtain ⟨s0, s1⟩ := sq_bnd h0 h1
  have e : (30000 : Int) * 30000 = 900000000 := by decide
  rw [e] at s0 s1
  unfold drp
  have a1 := Int.mul_le_mul_of_nonneg_left s1 (show 0 ≤ q.k by omega)
  have a2 := Int.mul_le_mul_of_nonneg_left s0 (show 0 ≤ q.k by omega)
  omega
theorem drp_eq (q : Pip) (x : Int) : q.k * x * (x.natAbs : Int) = drp q x := Int.mul_assoc _ _ _
def potF (P : Nat → Pip) (E : Int → Int) (dr : Nat → Int) : Nat → Int → Int
  | 0, _ => 0
  | f + 1, z => if E z = -1 then 0 else sgn (P (E z).toNat) z * dr (E z).toNat + potF P E dr f (othV (P (E z).toNat) z)
/-- by how much a node's level is greater than that of the first one above it -/
def pot (P : Nat → Pip) (E D : Int → Int) (dr : Nat → Int) (z : Int) : Int := potF P E dr (D z).toNat z
theorem Fo.pot_top {n : Nat} {P : Nat → Pip} {m : Nat} {E D : Int → Int} (h : Fo n P m E D) {dr : Nat → Int} {z : Int} (e : E z = -1) : pot P E D dr z = 0 := by
  unfold pot
  cases (D z).toNat with
  | zero => rfl
  | succ k => unfold potF; rw [if_pos e]
theorem Fo.pot_up {n : Nat} {P : Nat → Pip} {m : Nat} {E D : Int → Int} (h : Fo n P m E D) {dr : Nat → Int} {z : Int} (hz : 0 ≤ z ∧ z < n) {c : Nat} (hc : c < m) (e : E z = (c : Int)) : pot P E D dr z = sgn (P c) z * dr c + pot P E D dr (othV (P c) z) := by
  rcases h.par z hz.1 hz.2 with e3 | ⟨d, hd, e3, _, dz⟩
  · omega
  obtain rfl : d = c := by omega
  have ho := h.oth hd z
  have hb := h.bnd _ ho.1 ho.2
  unfold pot
  rw [show (D z).toNat = (D (othV (P d) z)).toNat + 1 by omega]
  rw [potF, if_neg (by omega), e, Int.toNat_natCast]
theorem Fo.pot_edge {n : Nat} {P : Nat → Pip} {m : Nat} {E D : Int → Int} (h : Fo n P m E D) {dr : Nat → Int} {a : Nat} (ha : a < m) (hf : ∃ z : Int, 0 ≤ z ∧ z < n ∧ E z = (a : Int)) : pot P E D dr (P a).f = dr a + pot P E D dr (P a).t := by
  obtain ⟨z, z0, z1, e⟩ := hf
  have hp := h.pot_up (dr := dr) ⟨z0, z1⟩ ha e
  rcases h.par z z0 z1 with e3 | ⟨b, hb, e3, bz, _⟩
  · omega
  obtain rfl : b = a := by omega
  unfold endB at bz
  simp only [Bool.or_eq_true, beq_iff_eq] at bz
  unfold sgn othV at hp
  by_cases e1 : (P b).f = z
  · rw [if_pos e1, if_pos e1, Int.one_mul] at hp
    rw [e1]
    exact hp
  · have e2 : (P b).t = z := by rcases bz with e4 | e4; exact absurd e4 e1; exact e4
    rw [if_neg e1, if_neg e1] at hp
    rw [e2]
    omega
/-- along a pipe of the forest, from either end -/
theorem Fo.pot_step {n : Nat} {P : Nat → Pip} {m : Nat} {E D : Int → Int} (h : Fo n P m E D) {dr : Nat → Int} {a : Nat} (ha : a < m) (hf : ∃ z : Int, 0 ≤ z ∧ z < n ∧ E z = (a : Int)) {z : Int} (hz : endB (P a) z = true) : pot P E D dr (othV (P a) z) = pot P E D dr z - sgn (P a) z * dr a := by
  have he := h.pot_edge (dr := dr) ha hf
  unfold endB at hz
  simp only [Bool.or_eq_true, beq_iff_eq] at hz
  unfold othV sgn
  by_cases e1 : (P a).f = z
  · rw [if_pos e1, if_pos e1]
    rw [e1] at he
    omega
  · have e2 : (P a).t = z := by rcases hz with e4 | e4; exact absurd e4 e1; exact e4
    rw [if_neg e1, if_neg e1]
    rw [e2] at he
    omega
theorem Fo.pot_bnd {n : Nat} {P : Nat → Pip} {m : Nat} {E D : Int → Int} (h : Fo n P m E D) {dr : Nat → Int} {B : Int} (hB0 : 0 ≤ B) (hB : ∀ a, a < m → -B ≤ dr a ∧ dr a ≤ B) {z : Int} (hz : 0 ≤ z ∧ z < n) : -(n * B) ≤ pot P E D dr z ∧ pot P E D dr z ≤ n * B := by
  have key := h.ind (Q := fun z => 0 ≤ z ∧ z < n → -(D z * B) ≤ pot P E D dr z ∧ pot P E D dr z ≤ D z * B) (fun z hz e _ => by
    rw [h.pot_top e]
    have := Int.mul_nonneg (h.bnd z hz.1 hz.2).1 hB0
    omega) (fun z hz c hc e b d ih _ => by
    have h1 := ih (h.oth hc z)
    rw [h.pot_up hz hc e, d, Int.add_mul, Int.one_mul]
    have h2 := hB c hc
    rcases sgn_rng (P c) z with e1 | e1 <;> rw [e1] <;> omega) z hz hz
  have hb := h.bnd z hz.1 hz.2
  have := Int.mul_le_mul_of_nonneg_right hb.2 hB0
  omega

/-- how far a search that goes along the forest without turning back can still go -/
def Fu (n : Nat) (E D : Int → Int) (z en : Int) (k : Nat) : Prop := (E z = en ∧ (n : Int) - D z < k) ∨ ((n : Int) + D z + 1 < k)
theorem Fo.fu_start {n : Nat} {P : Nat → Pip} {m : Nat} {E D : Int → Int} (h : Fo n P m E D) {z : Int} (hz : 0 ≤ z ∧ z < n) : Fu n E D z (-1) (2 * n + 2) := by
  have := h.bnd z hz.1 hz.2
  exact .inr (by omega)
theorem Fo.fu_zero {n : Nat} {P : Nat → Pip} {m : Nat} {E D : Int → Int} (h : Fo n P m E D) {z en : Int} (hz : 0 ≤ z ∧ z < n) : ¬ Fu n E D z en 0 := by
  have := h.bnd z hz.1 hz.2
  rintro (⟨_, h1⟩ | h1) <;> omega
theorem Fo.fu_step {n : Nat} {P : Nat → Pip} {m : Nat} {E D : Int → Int} (h : Fo n P m E D) {z en : Int} {k a : Nat} (hz : 0 ≤ z ∧ z < n) (ha : a < m) (hf : ∃ z : Int, 0 ≤ z ∧ z < n ∧ E z = (a : Int)) (he : endB (P a) z = true) (hne : (a : Int) ≠ en) (hk : Fu n E D z en (k + 1)) : Fu n E D (othV (P a) z) a k := by
  obtain ⟨y, y0, y1, ey⟩ := hf
  have hb := h.bnd z hz.1 hz.2
  rcases h.par y y0 y1 with e3 | ⟨b, hb', e3, by1, dy⟩
  · omega
  obtain rfl : b = a := by omega
  rcases end_two (h.pip b hb') he by1 with e4 | e4
  · subst e4
    rcases hk with ⟨e5, _⟩ | h5
    · omega
    · exact .inr (by omega)
  · have h5 := (oth_oth (h.pip b hb') he).1
    rw [← e4] at h5 ⊢
    rw [h5] at dy
    refine .inl ⟨ey, ?_⟩
    rcases hk with ⟨_, h6⟩ | h6 <;> omega

/-- levels only turn into those that are meant -/
def Grow (lv : Int → Int) (d d' : Nat → Int) : Prop := ∀ j : Nat, d' j = d j ∨ d' j = lv j
theorem Grow.refl (lv : Int → Int) (d : Nat → Int) : Grow lv d d := fun _ => .inl rfl
theorem Grow.trans {lv : Int → Int} {d d' d'' : Nat → Int} (h : Grow lv d d') (g : Grow lv d' d'') : Grow lv d d'' := fun j => by
  rcases g j with e | e
  · rw [e]; exact h j
  · exact .inr e
theorem Grow.upd {lv : Int → Int} (d : Nat → Int) (a : Nat) : Grow lv d (upd d a (lv a)) := fun j => by
  unfold mem.upd
  by_cases e : j = a
  · subst e; rw [if_pos rfl]; exact .inr rfl
  · rw [if_neg e]; exact .inl rfl
/-- what a search from a node has reached: the pipes S are the forest's, T those at the node that have been gone along -/
structure Dfs (n : Nat) (P : Nat → Pip) (S : Nat → Prop) (lv : Int → Int) (node : Int) (T : Nat → Prop) (d : Nat → Int) (V : Int → Prop) : Prop where
  own : V node
  lev : ∀ z, V z → 0 ≤ z ∧ z < n ∧ d z.toNat = lv z
  oth : ∀ z, V z → z ≠ node → ∀ a, S a → endB (P a) z = true → V (othV (P a) z)
  nod : ∀ a, T a → endB (P a) node = true → V (othV (P a) node)
theorem Dfs.start {n : Nat} {P : Nat → Pip} {S : Nat → Prop} {lv : Int → Int} {a : Nat} {T : Nat → Prop} (ha : a < n) (d : Nat → Int) (hT : ∀ b, ¬ T b) : Dfs n P S lv (a : Nat) T (upd d a (lv a)) (fun z => z = (a : Nat)) where
  own := rfl
  lev := fun z hz => by
    subst hz
    refine ⟨Int.natCast_nonneg _, by omega, ?_⟩
    rw [Int.toNat_natCast]
    unfold mem.upd
    rw [if_pos rfl]
  oth := fun z hz hne => absurd hz hne
  nod := fun b hb => absurd hb (hT b)
theorem Dfs.skip {n : Nat} {P : Nat → Pip} {S T T' : Nat → Prop} {lv : Int → Int} {node : Int} {d : Nat → Int} {V : Int → Prop} (h : Dfs n P S lv node T d V) (hT : ∀ b, T' b → endB (P b) node = true → T b) : Dfs n P S lv node T' d V :=
  ⟨h.own, h.lev, h.oth, fun a ha he => h.nod a (hT a ha he) he⟩
theorem Dfs.step {n : Nat} {P : Nat → Pip} {S T T' : Nat → Prop} {lv : Int → Int} {node : Int} {d d' : Nat → Int} {V V' : Int → Prop} {a : Nat} (h : Dfs n P S lv node T d V) (hg : Grow lv d d') (hp : pipB n (P a) = true) (he : endB (P a) node = true)
    (h' : Dfs n P S lv (othV (P a) node) (fun b => S b ∧ (b : Int) ≠ (a : Int)) d' V') (hT : ∀ b, T' b → T b ∨ b = a) : Dfs n P S lv node T' d' (fun z => V z ∨ V' z) where
  own := .inl h.own
  lev := fun z hz => by
    rcases hz with hz | hz
    · obtain ⟨h0, h1, h2⟩ := h.lev z hz
      refine ⟨h0, h1, ?_⟩
      rcases hg z.toNat with e | e
      · rw [e, h2]
      · rw [e, Int.toNat_of_nonneg h0]
    · exact h'.lev z hz
  oth := fun z hz hne b hb hbe => by
    rcases hz with hz | hz
    · exact .inl (h.oth z hz hne b hb hbe)
    · by_cases e : z = othV (P a) node
      · subst e
        by_cases e2 : b = a
        · subst e2
          rw [(oth_oth hp he).1]
          exact .inl h.own
        · exact .inr (h'.nod b ⟨hb, fun e3 => e2 (by omega)⟩ hbe)
      · exact .inr (h'.oth z hz e b hb hbe)
  nod := fun b hb hbe => by
    rcases hT b hb with h1 | h1
    · exact .inl (h.nod b h1 hbe)
    · subst h1
      exact .inr h'.own
/-- a set that is closed under the forest's pipes holds all nodes of a connected network -/
theorem Fo.all {n : Nat} {P : Nat → Pip} {m : Nat} {E D R : Int → Int} (h : Fo n P m E D) (r0 : ∀ z : Int, 0 ≤ z ∧ z < n → E z = -1 → R z = z) (r1 : ∀ z : Int, 0 ≤ z ∧ z < n → ∀ c : Nat, c < m → E z = (c : Int) → R (othV (P c) z) = R z)
    (one : ∀ y z : Int, 0 ≤ y ∧ y < n → 0 ≤ z ∧ z < n → R y = R z) {V : Int → Prop} {x : Int} (hx : 0 ≤ x ∧ x < n) (hV : V x) (cl : ∀ z, V z → ∀ a : Nat, a < m → (∃ y : Int, 0 ≤ y ∧ y < n ∧ E y = (a : Int)) → endB (P a) z = true → V (othV (P a) z)) : ∀ z : Int, 0 ≤ z ∧ z < n → V z := by
  have up := h.ind (Q := fun z => 0 ≤ z ∧ z < n → V z → V (R z)) (fun z hz e _ hv => by rw [r0 z hz e]; exact hv) (fun z hz c hc e b d ih _ hv => by
    have h1 := ih (h.oth hc z) (cl z hv c hc ⟨z, hz.1, hz.2, e⟩ b)
    rwa [r1 z hz c hc e] at h1)
  have down := h.ind (Q := fun z => 0 ≤ z ∧ z < n → V (R z) → V z) (fun z hz e _ hv => by rwa [r0 z hz e] at hv) (fun z hz c hc e b d ih _ hv => by
    have h1 := ih (h.oth hc z) (by rw [r1 z hz c hc e]; exact hv)
    have h2 := oth_oth (h.pip c hc) b
    have h3 := cl _ h1 c hc ⟨z, hz.1, hz.2, e⟩ h2.2.1
    rwa [h2.1] at h3)
  intro z hz
  refine down z hz hz ?_
  rw [one z x hz hx]
  exact up x hx hx hV
/-- a connected network: all nodes have one first node -/
theorem cmp_one {n : Nat} {N : Nat → Nod} {P : Nat → Pip} {m : Nat} (hN : netB n N m P = true) (h1 : cnt n P m = 1) : ∀ y z : Int, 0 ≤ y ∧ y < n → 0 ≤ z ∧ z < n → cmp n P m n y = cmp n P m n z := by
  intro y z hy hz
  obtain ⟨r, hr, hroot, _, e1⟩ := node_root (P := P) (m := m) hN hy
  obtain ⟨s, hs, hsroot, _, e2⟩ := node_root (P := P) (m := m) hN hz
  rw [e1, e2]
  unfold cnt at h1
  obtain ⟨q, hq⟩ := List.length_eq_one_iff.1 h1
  have a1 := fl_mem hr hroot
  have a2 := fl_mem hs hsroot
  rw [hq] at a1 a2
  simp only [List.mem_singleton] at a1 a2
  rw [a1, a2]
/-- in a connected network every search visits all nodes -/
theorem vis_all {n : Nat} {N : Nat → Nod} {P : Nat → Pip} {m : Nat} (hN : netB n N m P = true) (h1 : cnt n P m = 1) {x y : Int} (hx : 0 ≤ x ∧ x < n) (hy : 0 ≤ y ∧ y < n) : vhas (vis n P m x) y = true := by
  obtain ⟨r, hr, hroot, vx, e1⟩ := node_root (P := P) (m := m) hN hx
  obtain ⟨s, hs, hsroot, vy, e2⟩ := node_root (P := P) (m := m) hN hy
  have e := cmp_one hN h1 x y hx hy
  obtain rfl : s = r := by omega
  obtain ⟨X, rfl⟩ := Int.eq_ofNat_of_zero_le hx.1
  obtain ⟨Y, rfl⟩ := Int.eq_ofNat_of_zero_le hy.1
  have hxr := vis_sym hN hr (by omega) vx
  have hyr := vis_sym hN hr (by omega) vy
  obtain ⟨i, v, hv, hvn⟩ := vhas_get hyr
  exact vis_meet (x := ((X : Nat) : Int)) (y := ((Y : Nat) : Int)) hN (by omega) (by omega) i v hv (by rw [hvn]; exact hxr)
theorem cnt_forest {n : Nat} {N : Nat → Nod} {P : Nat → Pip} {m : Nat} (hN : netB n N m P = true) : cnt n (frP n P m) (forest n P m).length = cnt n P m := by
  unfold cnt
  congr 2
  funext i
  unfold rts
  rw [cmp_forest hN n (Nat.le_refl _)]

/-- the forest levels -/
def lvl (n : Nat) (P : Nat → Pip) (m : Nat) (x : Nat → Int) (root level : Int) (z : Int) : Int :=
  level + (pot P (fE n P m) (fD n P m) (fun a => drp (P a) (x a)) z - pot P (fE n P m) (fD n P m) (fun a => drp (P a) (x a)) root)
theorem lvl_root (n : Nat) (P : Nat → Pip) (m : Nat) (x : Nat → Int) (root level : Int) : lvl n P m x root level root = level := by unfold lvl; omega
theorem lvl_step {n : Nat} {N : Nat → Nod} {P : Nat → Pip} {m : Nat} (hN : netB n N m P = true) {x : Nat → Int} {root level : Int} {a : Nat} (ha : a < m) (hf : inF n P m (fl (rts n P m) n) a = true) {z : Int} (hz : endB (P a) z = true) : lvl n P m x root level (othV (P a) z) = lvl n P m x root level z - sgn (P a) z * drp (P a) (x a) := by
  have h1 := (fo_net (P := P) (m := m) hN).pot_step (dr := fun a => drp (P a) (x a)) ha ((inF_fE hN a).1 hf) hz
  unfold lvl
  rw [h1]
  omega
theorem lvl_bnd {n : Nat} {N : Nat → Nod} {P : Nat → Pip} {m : Nat} (hN : netB n N m P = true) (h24 : n ≤ 24) {x : Nat → Int} (hx : ∀ a, a < m → -30000 ≤ x a ∧ x a ≤ 30000) {root level : Int} (hr : 0 ≤ root ∧ root < n) {z : Int} (hz : 0 ≤ z ∧ z < n) : level - 50000000000000 ≤ lvl n P m x root level z ∧ lvl n P m x root level z ≤ level + 50000000000000 := by
  have h1 := fun y hy => (fo_net (P := P) (m := m) hN).pot_bnd (dr := fun a => drp (P a) (x a)) (B := 900000000000) (z := y) (by omega) (fun a ha => drp_bnd (net_pip hN ha) (hx a ha).1 (hx a ha).2) hy
  have h2 := h1 z hz
  have h3 := h1 root hr
  unfold lvl
  omega
theorem pip_k {n : Int} {q : Pip} (h : pipB n q = true) : 1 ≤ q.k ∧ q.k ≤ 1000 := by
  unfold pipB at h
  simp only [Bool.and_eq_true, inR_iff] at h
  omega
theorem below_drN1 {B : Nat} {w w' : World} (h : Below B w w') (n : Nat) : Below B w (w'.drewN n) := ⟨h.os, h.tape, h.output, h.size, h.block⟩
end Go.Proofs.YtdbgcbkmcbgdiaaGreat.mem

namespace Go.Proofs.YtdbgcbkmcbgdiaaGreat.mem
open Go.RowKit
set_option linter.unusedVariables false

set_option maxRecDepth 100000 in
set_option maxHeartbeats 4000000 in
theorem dropFor_any (q : Pip) (x : Int) (w : World) (n : Int) (hq : pipB n q = true) (h0 : -30000 ≤ x) (h1 : x ≤ 30000) : Calls Tryz.prog 115 #[.agg #[.int .i64 q.f, .int .i64 q.t, .int .i64 q.k, .int .i64 q.v, .int .i64 q.l], .int .i64 x] w fun e w' => e = .returned (.int .i64 (drp q x)) ∧ Below w.heap.size w w' := by
  have hd := drp_bnd hq h0 h1
  have hk := pip_k hq
  have a1 := Int.mul_le_mul_of_nonneg_left h1 (show 0 ≤ q.k by omega)
  have a2 := Int.mul_le_mul_of_nonneg_left h0 (show 0 ≤ q.k by omega)
  have W1 : IntKind.i64.wrap (q.k * x) = q.k * x := IntWalk.i64_in _ (by omega)
  have W2 : IntKind.i64.wrap (q.k * x * (x.natAbs : Int)) = drp q x := by rw [drp_eq]; exact IntWalk.i64_in _ (by omega)
  clear a1 a2 hd hk hq
  go_enter Tryz.func115, Tryz.ntmps115
  go_wp2_with fail
  go_quiet ((go_at_call 155; exact Calls.quiet_of_same ((absN_any _ _ (by omega) (by omega)).mono fun e w' h => ⟨h.1, h.2.symm⟩)))
  go_wp2_with fail
  go_ret
  exact ⟨rfl, below_drN1 (below_new _ _) _⟩

theorem Own.put2 {w : World} {v : Value} {n g : Nat} {d : Nat → Int} (h : Own w v n d g) (i : Nat) (x : Int) (hi : i < n) : Own (w.setCell ⟨g, i, none⟩ (.int .i64 x)) v n (upd d i x) g := by
  obtain ⟨cap, cur, h0, h1, h2, h3, h4, h5⟩ := h.ex
  refine ⟨cap, cur.setIfInBounds i (.int .i64 x), h0, ?_, h2, h3, by simpa using h4, fun k hk => ?_⟩
  · simp [World.setCell, Array.getElem?_modify, h1]
  · unfold upd
    by_cases e : k = i
    · subst e
      rw [if_pos rfl]
      simp [h4, show k < cap by omega]
    · rw [if_neg e, Array.getElem?_setIfInBounds, if_neg (by omega)]
      exact h5 k hk
theorem Own.fre2 {w : World} {v : Value} {n g : Nat} {d : Nat → Int} (h : Own w v n d g) (i : Nat) : w.frozen? ⟨g, i, none⟩ = false := by
  obtain ⟨cap, cur, h0, h1, _⟩ := h.ex
  simp [World.frozen?, h1]
theorem Own.made2 (w : World) (n : Nat) (hn : n ≤ 1000000) : Own (w.alloc (.cells (zeros n) 2)) (.slice (some ⟨w.heap.size, 0, none⟩) n n) n (fun _ => 0) w.heap.size :=
  ⟨n, zeros n, rfl, heap_alloc_new w _, Nat.le_refl _, by unfold maxLen; omega, by unfold zeros; simp [madeCells], fun k hk => zeros_get n k hk⟩
/-- what the closure that fills the levels reads -/
structure FE (n m L : Nat) (N : Nat → Nod) (P : Nat → Pip) (F : Nat → Int) (x : Nat → Int) (p0 : Option Addr) (c0 : Nat) (p1 : Option Addr) (c1 lo hi la ha g bl bf bn bfi bfl gf cf : Nat) (va : Value) (w : World) : Prop where
  net : NetAt w (.agg #[.slice p0 n c0, .slice p1 m c1]) n N m P lo hi
  sl : Sl w va m x la ha
  fo : Own w (.slice (some ⟨gf, 0, none⟩) L cf) L F gf
  ol : Ob w bl 1 (fun _ => .slice (some ⟨g, 0, none⟩) n n)
  of : Ob w bf 1 (fun _ => .slice (some ⟨gf, 0, none⟩) L cf)
  on : Ob w bn 2 (bx (.slice p0 n c0) (.slice p1 m c1))
  oi : Ob w bfi 1 (fun _ => .func (.func 111) #[] #[.pointer (some ⟨bl, 0, none⟩), .pointer (some ⟨bf, 0, none⟩), .pointer (some ⟨bn, 0, none⟩), .pointer (some ⟨bfi, 0, none⟩), .pointer (some ⟨bfl, 0, none⟩)])
  ow : Ob w bfl 1 (fun _ => va)
  h1 : hi ≤ g
  h2 : ha ≤ g
  n1 : bl ≠ g
  n2 : bf ≠ g
  n3 : bn ≠ g
  n4 : bfi ≠ g
  n5 : bfl ≠ g
  n6 : gf ≠ g
  hg : g < w.heap.size
theorem FE.upd {n m L : Nat} {N : Nat → Nod} {P : Nat → Pip} {F : Nat → Int} {x : Nat → Int} {p0 : Option Addr} {c0 : Nat} {p1 : Option Addr} {c1 lo hi la ha g bl bf bn bfi bfl gf cf : Nat} {va : Value} {w w' : World}
    (h : FE n m L N P F x p0 c0 p1 c1 lo hi la ha g bl bf bn bfi bfl gf cf va w) (u : Upd (fun b => b = g) w w') : FE n m L N P F x p0 c0 p1 c1 lo hi la ha g bl bf bn bfi bfl gf cf va w' := by
  have hb : Below g w w' := u.below (Nat.le_of_lt h.hg) (fun k _ hk => by omega)
  exact ⟨h.net.below hb h.h1, h.sl.below hb h.h2, h.fo.keep (u.block _ h.fo.lt h.n6), h.ol.keep (u.block _ h.ol.lt h.n1), h.of.keep (u.block _ h.of.lt h.n2), h.on.keep (u.block _ h.on.lt h.n3), h.oi.keep (u.block _ h.oi.lt h.n4), h.ow.keep (u.block _ h.ow.lt h.n5), h.h1, h.h2, h.n1, h.n2, h.n3, h.n4, h.n5, h.n6, Nat.lt_of_lt_of_le h.hg u.size⟩
/-- the forest's pipes -/
def inFo (n : Nat) (P : Nat → Pip) (m a : Nat) : Prop := a < m ∧ inF n P m (fl (rts n P m) n) a = true
set_option maxRecDepth 100000 in
set_option maxHeartbeats 8000000 in
theorem fill_any {n m : Nat} {N : Nat → Nod} {P : Nat → Pip} (hB : netB n N m P = true) {x : Nat → Int} (hx : ∀ a, a < m → -30000 ≤ x a ∧ x a ≤ 30000) {lv : Int → Int} (hlv : ∀ z : Int, 0 ≤ z ∧ z < n → -1100000000000000000 ≤ lv z ∧ lv z ≤ 1100000000000000000)
    (hst : ∀ a, a < m → inF n P m (fl (rts n P m) n) a = true → ∀ z : Int, endB (P a) z = true → lv (othV (P a) z) = lv z - sgn (P a) z * drp (P a) (x a))
    {p0 : Option Addr} {c0 : Nat} {p1 : Option Addr} {c1 lo hi la ha g bl bf bn bfi bfl gf cf : Nat} {va : Value} :
    ∀ (k : Nat) (w : World) (Z : Nat) (en : Int) (d : Nat → Int), Z < n → Fu n (fE n P m) (fD n P m) (Z : Int) en k → FE n m (forest n P m).length N P (lD (forest n P m)) x p0 c0 p1 c1 lo hi la ha g bl bf bn bfi bfl gf cf va w → Own w (.slice (some ⟨g, 0, none⟩) n n) n d g →
      Calls Tryz.prog 111 #[.int .i64 (Z : Nat), .int .i64 en, .int .i64 (lv (Z : Nat)), .pointer (some ⟨bl, 0, none⟩), .pointer (some ⟨bf, 0, none⟩), .pointer (some ⟨bn, 0, none⟩), .pointer (some ⟨bfi, 0, none⟩), .pointer (some ⟨bfl, 0, none⟩)] w fun e w' =>
        e = .returned (.tuple #[]) ∧ ∃ d', Own w' (.slice (some ⟨g, 0, none⟩) n n) n d' g ∧ Grow lv d d' ∧ (∃ V, Dfs n P (inFo n P m) lv (Z : Nat) (fun a => inFo n P m a ∧ (a : Int) ≠ en) d' V) ∧ Upd (fun b => b = g) w w' := by
  obtain ⟨hn1, hn24, hm40⟩ := net_sz hB
  have hfm := forest_le n P m
  have HFO := Lib.hid (fo_net (P := P) (m := m) hB)
  have HB := Lib.hid hB
  have HX := Lib.hid hx
  have HLV := Lib.hid hlv
  have HST := Lib.hid hst
  clear hB hx hlv hst
  intro k
  induction k with
  | zero =>
    intro w Z en d hZ hfu
    exact absurd hfu (HFO.out.fu_zero ⟨Int.natCast_nonneg _, by omega⟩)
  | succ k ih =>
    intro w Z en d hZ hfu hfe ho
    have HIH := Lib.hid ih
    have HFU := Lib.hid hfu
    clear ih hfu
    obtain ⟨pa, ca, hva⟩ := hfe.sl.sh
    subst hva
    have z0 : (0 : Int) ≤ (Z : Int) := Int.natCast_nonneg _
    have z1 : (Z : Int) < (n : Int) := by omega
    have y0 : w.cell? ⟨bl, 0, none⟩ = some (.slice (some ⟨g, 0, none⟩) n n) := hfe.ol.cell 0 (by omega)
    have y1 : w.cell? ⟨g, Z, none⟩ = some (.int .i64 (d Z)) := ho.row.cell Z hZ
    have y2 := ho.fre2 Z
    have o1 := (Only.refl g w).setCell Z (.int .i64 (lv (Z : Nat)))
    have O1 := ho.put2 Z (lv (Z : Nat)) hZ
    have U1 : Upd (fun b => b = g) w (w.setCell ⟨g, Z, none⟩ (.int .i64 (lv (Z : Nat)))) := Upd.of_only o1
    have E1 := hfe.upd U1
    have y3 : (w.setCell ⟨g, Z, none⟩ (.int .i64 (lv (Z : Nat)))).cell? ⟨bf, 0, none⟩ = some (.slice (some ⟨gf, 0, none⟩) (forest n P m).length cf) := E1.of.cell 0 (by omega)
    have HO := Lib.hid O1
    have HE := Lib.hid E1
    have HF0 := Lib.hid hfe
    have HF0 := Lib.hid hfe
    have HF0 := Lib.hid hfe
    have HU := Lib.hid U1
    clear hfe ho o1 O1 U1 E1
    go_enter Tryz.func111, Tryz.ntmps111
    go_wp2_with fail
    obtain ⟨w1, hw1⟩ : ∃ w1, w.setCell ⟨g, Z, none⟩ (.int .i64 (lv (Z : Nat))) = w1 := ⟨_, rfl⟩
    rw [hw1] at HO HE HU ⊢
    clear hw1 y0 y1 y2 y3
    go_loopw [20] (fun iv wr => ∃ (q : Nat) (d' : Nat → Int), iv = .int .i64 q ∧ q ≤ (forest n P m).length ∧ Own wr (.slice (some ⟨g, 0, none⟩) n n) n d' g ∧ Grow lv d d' ∧ (∃ V, Dfs n P (inFo n P m) lv (Z : Nat) (fun a => (a : Int) ≠ en ∧ ∃ j, j < q ∧ lD (forest n P m) j = ((a : Nat) : Int)) d' V) ∧ Upd (fun b => b = g) w wr) (fun iv _ => (forest n P m).length - (intOf iv).toNat)
    case atStart => exact ⟨0, upd d Z (lv (Z : Nat)), rfl, Nat.zero_le _, HO.out, Grow.upd d Z, ⟨_, Dfs.start hZ d (fun b h => by obtain ⟨_, j, hj, _⟩ := h; omega)⟩, HU.out⟩
    case round =>
      obtain ⟨q, d', rfl, hq, ho, hgr, ⟨V, hD⟩, hu⟩ := hrel
      clear HO HE HU
      have E := HF0.out.upd hu
      have HGR := Lib.hid hgr
      have HD := Lib.hid hD
      have HU := Lib.hid hu
      have HO := Lib.hid ho
      have HE := Lib.hid E
      have lg := ho.lt
      clear hgr hD hu ho
      have q0 : (0 : Int) ≤ (q : Int) := Int.natCast_nonneg _
      generalize hQ : Exit.then _ _ = Q
      have HQ := Lib.hid hQ
      clear hQ
      by_cases hlt : q < (forest n P m).length
      · have q1 : (q : Int) < ((forest n P m).length : Int) := by omega
        obtain ⟨a, ham, hin, hla, _, hFa⟩ := forest_at hlt
        have yf : wr.cell? ⟨gf, q, none⟩ = some (.int .i64 (a : Int)) := by
          have h1 := E.fo.row.cell q hlt
          rwa [hla] at h1
        have yn : wr.cell? ⟨bn, 1, none⟩ = some (.slice p1 m c1) := E.on.b1
        obtain ⟨bp, op, rfl, q2, q3, r0, r1, r2, r3, r4⟩ := E.net.pipe ham
        have a0 : (0 : Int) ≤ (a : Int) := Int.natCast_nonneg _
        have a1 : (a : Int) < (m : Int) := by omega
        have HIN := Lib.hid hin
        have HLA := Lib.hid hla
        have HP5 := Lib.hid (boxedP wr (P a) 121)
        have b5 := Lib.hid (below_new wr (.cells #[.int .i64 (P a).f, .int .i64 (P a).t, .int .i64 (P a).k, .int .i64 (P a).v, .int .i64 (P a).l] 121))
        have hs5 : (wr.alloc (.cells #[.int .i64 (P a).f, .int .i64 (P a).t, .int .i64 (P a).k, .int .i64 (P a).v, .int .i64 (P a).l] 121)).heap.size = wr.heap.size + 1 := by simp
        clear hin hla hFa E
        by_cases hen : (a : Int) = en
        · have hb1 : ((a : Int) != en) = false := by simp [hen]
          have HEN := Lib.hid hen
          clear hen
          go_wp2_with fail
          rw [← HQ.out]
          refine ⟨⟨_, _, _, _, _, _, _, _, _, _, _, _, _, _, _, _, _, _, _, _, _, _, _, _, _, _, _, _, _, _, _, _, _, _, _, _, _, _, ?rel, rfl⟩, ?measure⟩
          case rel =>
            refine ⟨q + 1, d', by go_num, hlt, HO.out.keep (b5.out.block g lg), HGR.out, ⟨V, HD.out.skip (fun b hb _ => ⟨hb.1, ?_⟩)⟩, HU.out.trans (Upd.of_below b5.out)⟩
            obtain ⟨hne, j, hj, hj2⟩ := hb
            refine ⟨j, ?_, hj2⟩
            rcases Nat.lt_or_ge j q with h | h
            · exact h
            · exfalso
              obtain rfl : j = q := by omega
              rw [HLA.out] at hj2
              exact hne (by rw [← hj2]; exact HEN.out)
          case measure => simp [intOf]; omega
        · have hb1 : ((a : Int) != en) = true := by simp [hen]
          have HEN := Lib.hid hen
          clear hen
          cases hp : endB (P a) (Z : Int)
          · have HPE := Lib.hid hp
            clear hp
            go_wp2_with fail
            refine (endsAt_any (P a) (Z : Int) _).mono ?_
            rintro e w6 ⟨rfl, b6⟩
            have HB6 := Lib.hid (b5.out.trans (b6.mono (by omega)))
            rw [HPE.out]
            clear b6 r0 r1 r2 r3 r4 hs5
            go_wp2_with fail
            rw [← HQ.out]
            refine ⟨⟨_, _, _, _, _, _, _, _, _, _, _, _, _, _, _, _, _, _, _, _, _, _, _, _, _, _, _, _, _, _, _, _, _, _, _, _, _, _, ?rel, rfl⟩, ?measure⟩
            case rel =>
              refine ⟨q + 1, d', by go_num, hlt, HO.out.keep (HB6.out.block g lg), HGR.out, ⟨V, HD.out.skip (fun b hb hbe => ⟨hb.1, ?_⟩)⟩, HU.out.trans (Upd.of_below HB6.out)⟩
              obtain ⟨hne, j, hj, hj2⟩ := hb
              refine ⟨j, ?_, hj2⟩
              rcases Nat.lt_or_ge j q with h | h
              · exact h
              · exfalso
                obtain rfl : j = q := by omega
                rw [HLA.out] at hj2
                obtain rfl : a = b := by omega
                rw [HPE.out] at hbe
                cases hbe
            case measure => simp [intOf]; omega
          · have HPE := Lib.hid hp
            obtain ⟨hpb0, hpb1⟩ := HFO.out.oth ham (Z : Int)
            obtain ⟨U, hU⟩ := Int.eq_ofNat_of_zero_le hpb0
            have hUn : U < n := by omega
            obtain ⟨x0, x1⟩ := HX.out a ham
            obtain ⟨dd0, dd1⟩ := drp_bnd (net_pip HB.out ham) x0 x1
            have hst := HST.out a ham HIN.out (Z : Int) hp
            obtain ⟨lz0, lz1⟩ := HLV.out (Z : Int) ⟨z0, z1⟩
            obtain ⟨lu0, lu1⟩ := HLV.out (U : Int) ⟨Int.natCast_nonneg _, by omega⟩
            have hsg := sgn_rng (P a) (Z : Int)
            rw [hU] at hst
            have hsd : -900000000000 ≤ sgn (P a) (Z : Int) * drp (P a) (x a) ∧ sgn (P a) (Z : Int) * drp (P a) (x a) ≤ 900000000000 := by rcases hsg with e | e <;> rw [e] <;> omega
            have W1 := Lib.hid (show IntKind.i64.wrap (lv (Z : Nat) - IntKind.i64.wrap (sgn (P a) (Z : Int) * drp (P a) (x a))) = lv (U : Nat) by
              rw [IntWalk.i64_in (sgn (P a) (Z : Int) * drp (P a) (x a)) (by omega), IntWalk.i64_in _ (by omega), hst])
            have HOU := Lib.hid hU
            have HNF := Lib.hid (HFO.out.fu_step ⟨z0, z1⟩ ham ((inF_fE HB.out a).1 HIN.out) hp HEN.out HFU.out)
            rw [hU] at HNF
            clear hp hst hsd hsg dd0 dd1 lz0 lz1 lu0 lu1 hpb0 hpb1 hU
            go_wp2_with fail
            refine (endsAt_any (P a) (Z : Int) _).mono ?_
            rintro e w6 ⟨rfl, b6⟩
            have HB6 := Lib.hid (b5.out.trans (b6.mono (by omega)))
            rw [HPE.out]
            have hs6 := b6.size
            have P6 := HP5.out.below b6 (by omega)
            have E6 := HE.out.upd (Upd.of_below HB6.out)
            have O6 := HO.out.keep (HB6.out.block g lg)
            have lg6 := O6.lt
            have lp6 := P6.lt
            have hpg : wr.heap.size ≠ g := by omega
            clear b6 r0 r1 r2 r3 r4 yn yf
            obtain ⟨p', c', ee, hxx⟩ := E6.sl.ex
            injection ee with ee1 _ ee3
            subst ee1 ee3
            obtain ⟨ba, oa, rfl, g1, g2, hxx⟩ : ∃ b o, pa = some ⟨b, o, none⟩ ∧ la ≤ b ∧ b < ha ∧ ∀ k, k < m → w6.cell? ⟨b, o + k, none⟩ = some (.int .i64 (x k)) := by
              rcases hxx with e | e
              · omega
              · exact e
            have yx := hxx a ham
            have hbg : ba ≠ g := by have := E6.h2; omega
            have c0 := P6.cell 0 (by omega)
            have c1' := P6.cell 1 (by omega)
            have c2 := P6.cell 2 (by omega)
            have c3 := P6.cell 3 (by omega)
            have c4 := P6.cell 4 (by omega)
            have yi : w6.cell? ⟨bfi, 0, none⟩ = _ := E6.oi.cell 0 (by omega)
            have yw : w6.cell? ⟨bfl, 0, none⟩ = _ := E6.ow.cell 0 (by omega)
            have n4 := E6.n4
            have n5 := E6.n5
            have i4 := E6.oi.lt
            have i5 := E6.ow.lt
            have i6 : ba < w6.heap.size := by have := E6.h2; omega
            have HK : ∀ X : World, Upd (fun b => b = g) w6 X → X.cell? ⟨bfi, 0, none⟩ = some (.func (.func 111) #[] #[.pointer (some ⟨bl, 0, none⟩), .pointer (some ⟨bf, 0, none⟩), .pointer (some ⟨bn, 0, none⟩), .pointer (some ⟨bfi, 0, none⟩), .pointer (some ⟨bfl, 0, none⟩)]) ∧ X.cell? ⟨bfl, 0, none⟩ = some (.slice (some ⟨ba, oa, none⟩) m ca) ∧ X.cell? ⟨wr.heap.size, 0, none⟩ = some (.int .i64 (P a).f) ∧ X.cell? ⟨wr.heap.size, 1, none⟩ = some (.int .i64 (P a).t) ∧ X.cell? ⟨wr.heap.size, 2, none⟩ = some (.int .i64 (P a).k) ∧ X.cell? ⟨wr.heap.size, 3, none⟩ = some (.int .i64 (P a).v) ∧ X.cell? ⟨wr.heap.size, 4, none⟩ = some (.int .i64 (P a).l) ∧ X.cell? ⟨ba, oa + a, none⟩ = some (.int .i64 (x a)) := fun X h =>
              ⟨(World.cell?_of_block (h.block bfi i4 n4)).trans yi, (World.cell?_of_block (h.block bfl i5 n5)).trans yw, (World.cell?_of_block (h.block _ lp6 hpg)).trans c0, (World.cell?_of_block (h.block _ lp6 hpg)).trans c1', (World.cell?_of_block (h.block _ lp6 hpg)).trans c2, (World.cell?_of_block (h.block _ lp6 hpg)).trans c3, (World.cell?_of_block (h.block _ lp6 hpg)).trans c4, (World.cell?_of_block (h.block ba i6 hbg)).trans yx⟩
            have K0 : Below w6.heap.size w6 w6.drew := ⟨rfl, rfl, rfl, Nat.le_refl _, fun _ _ => rfl⟩
            have HE6 := Lib.hid E6
            have HO6 := Lib.hid O6
            clear hxx E6 O6 P6
            go_wp2_with fail
            go_region_held3 (fun w' : World => w'.cell? ⟨bfi, 0, none⟩ = some (.func (.func 111) #[] #[.pointer (some ⟨bl, 0, none⟩), .pointer (some ⟨bf, 0, none⟩), .pointer (some ⟨bn, 0, none⟩), .pointer (some ⟨bfi, 0, none⟩), .pointer (some ⟨bfl, 0, none⟩)]) ∧ w'.cell? ⟨bfl, 0, none⟩ = some (.slice (some ⟨ba, oa, none⟩) m ca) ∧ w'.cell? ⟨wr.heap.size, 0, none⟩ = some (.int .i64 (P a).f) ∧ w'.cell? ⟨wr.heap.size, 1, none⟩ = some (.int .i64 (P a).t) ∧ w'.cell? ⟨wr.heap.size, 2, none⟩ = some (.int .i64 (P a).k) ∧ w'.cell? ⟨wr.heap.size, 3, none⟩ = some (.int .i64 (P a).v) ∧ w'.cell? ⟨wr.heap.size, 4, none⟩ = some (.int .i64 (P a).l) ∧ w'.cell? ⟨ba, oa + a, none⟩ = some (.int .i64 (x a)))
              (first | exact HK _ UZ | exact HK _ (Upd.of_below (by assumption : Below w6.heap.size w6 _)))
              (first
                | (go_at_call 113; refine (otherEnd_any (P a) (Z : Int) _).mono ?_; rintro e wA ⟨rfl, hbA⟩; rw [HOU.out]; have SA : Below w6.heap.size w6 wA := Below.trans (by assumption : Below w6.heap.size w6 _) (hbA.mono (Below.size (by assumption : Below w6.heap.size w6 _))); clear hbA)
                | (go_at_call 114; refine (signFrom_any (P a) (Z : Int) _).mono ?_; rintro e wB ⟨rfl, hbB⟩; have SB : Below w6.heap.size w6 wB := Below.trans (by assumption : Below w6.heap.size w6 _) (hbB.mono (Below.size (by assumption : Below w6.heap.size w6 _))); clear hbB)
                | (go_at_call 115; refine (dropFor_any (P a) (x a) _ n (net_pip HB.out ham) x0 x1).mono ?_; rintro e wC ⟨rfl, hbC⟩; have SC : Below w6.heap.size w6 wC := Below.trans (by assumption : Below w6.heap.size w6 _) (hbC.mono (Below.size (by assumption : Below w6.heap.size w6 _))); clear hbC)
                | (go_at_call 111; rw [W1.out]; refine (HIH.out _ U (a : Int) d' hUn HNF.out (HE6.out.upd (Upd.of_below (by assumption : Below w6.heap.size w6 _))) (HO6.out.keep (Below.block (by assumption : Below w6.heap.size w6 _) g lg6))).mono ?_; rintro e wz ⟨rfl, d2, o2, gr2, ⟨V2, D2⟩, u2⟩; have UZ : Upd (fun b => b = g) w6 wz := (Upd.of_below (by assumption : Below w6.heap.size w6 _)).trans u2; clear u2))
            all_goals
              have HO7 := Lib.hid o2
              have HG7 := Lib.hid gr2
              have HD7 := Lib.hid D2
              have HU7 := Lib.hid (HU.out.trans ((Upd.of_below HB6.out).trans UZ))
              clear UZ o2 gr2 D2 HK yi yw c0 c1' c2 c3 c4 yx
              go_wp2_with fail
              rw [← HQ.out]
              refine ⟨⟨_, _, _, _, _, _, _, _, _, _, _, _, _, _, _, _, _, _, _, _, _, _, _, _, _, _, _, _, _, _, _, _, _, _, _, _, _, _, ?rel, rfl⟩, ?measure⟩
              case rel =>
                rw [← HOU.out] at HD7
                refine ⟨q + 1, d2, by go_num, hlt, HO7.out, HGR.out.trans HG7.out, ⟨_, HD.out.step HG7.out (net_pip HB.out ham) HPE.out HD7.out (fun b hb => ?_)⟩, HU7.out⟩
                obtain ⟨hne, j, hj, hj2⟩ := hb
                rcases Nat.lt_or_ge j q with h | h
                · exact .inl ⟨hne, j, h, hj2⟩
                · right
                  obtain rfl : j = q := by omega
                  rw [HLA.out] at hj2
                  omega
              case measure => simp [intOf]; omega
      · have hqn : (forest n P m).length = q := by omega
        have q1 : ¬ ((q : Int) < ((forest n P m).length : Int)) := by omega
        have HQN := Lib.hid hqn
        clear hqn
        go_wp2_with fail
        rw [← HQ.out]
        go_wp2_with fail
        go_end0
        refine ⟨rfl, d', HO.out, HGR.out, ⟨V, HD.out.skip (fun b hb _ => ⟨hb.2, ?_⟩)⟩, HU.out⟩
        have h1 := forest_idx hb.1.1 hb.1.2
        exact ⟨_, by rw [← HQN.out]; exact h1.1, h1.2⟩
end Go.Proofs.YtdbgcbkmcbgdiaaGreat.mem

namespace Go.Proofs.YtdbgcbkmcbgdiaaGreat.mem
open Go.RowKit
set_option linter.unusedVariables false

/-- may this be a root's level? -/
def rlB (x : Int) : Bool := inR x (-500000000000000000) 500000000000000000
theorem conB_one {n : Nat} {N : Nat → Nod} {m : Nat} {P : Nat → Pip} (h : conB n N m P = true) : netB n N m P = true ∧ cnt n P m = 1 := by
  unfold conB at h
  simp only [Bool.and_eq_true, decide_eq_true_eq] at h
  exact h
end Go.Proofs.YtdbgcbkmcbgdiaaGreat.mem

namespace Go.Proofs.YtdbgcbkmcbgdiaaGreat.mem
open Go.RowKit
set_option linter.unusedVariables false

set_option maxRecDepth 100000 in
set_option maxHeartbeats 8000000 in
theorem forestLevels_any (w : World) (v : Value) (n : Nat) (N : Nat → Nod) (m : Nat) (P : Nat → Pip) (lo hi : Nat) (h : NetAt w v n N m P lo hi) (hhi : hi ≤ w.heap.size) (hB : netB n N m P = true) (hone : cnt n P m = 1) (va : Value) (x : Nat → Int) (la ha : Nat) (hv : Sl w va m x la ha) (hha : ha ≤ w.heap.size) (hx : ∀ a, a < m → -30000 ≤ x a ∧ x a ≤ 30000) (X0 : Nat) (hX : X0 < n) (level : Int) (hl0 : -1000000000000000000 ≤ level) (hl1 : level ≤ 1000000000000000000) :
    Calls Tryz.prog 62 #[v, va, .int .i64 (X0 : Nat), .int .i64 level] w fun e w' => ∃ g, e = .returned (.slice (some ⟨g, 0, none⟩) n n) ∧ Own w' (.slice (some ⟨g, 0, none⟩) n n) n (fun j => lvl n P m x (X0 : Nat) level (j : Nat)) g ∧ w.heap.size ≤ g ∧ Below w.heap.size w w' := by
  obtain ⟨p0, c0, p1, c1, rfl, hn9, hm9⟩ := h.parts
  obtain ⟨hn1, hn24, hm40⟩ := net_sz hB
  obtain ⟨pa, ca, rfl⟩ := hv.sh
  have m1 := fun W => make_int64 W n (by omega)
  have zs : (zeros n).size = n := by unfold zeros; simp [madeCells]
  have m0 : (0 : Int) ≤ (n : Int) := Int.natCast_nonneg _
  have b1 := below_new w (.cells #[.slice p0 n c0, .slice p1 m c1] 27)
  have A1 := boxed w (.slice p0 n c0) (.slice p1 m c1) 27
  have HV := Lib.hid h
  have HB := Lib.hid hB
  have HS := Lib.hid hv
  have HX := Lib.hid hx
  have HONE := Lib.hid hone
  have e0 := A1.b0
  clear h hB hv hx hone
  go_enter Tryz.func62, Tryz.ntmps62
  go_wp2_with fail
  have F2 := Ob.one (w.alloc (.cells #[.slice p0 n c0, .slice p1 m c1] 27)) (.slice pa m ca) 28
  have b2 := below_new (w.alloc (.cells #[.slice p0 n c0, .slice p1 m c1] 27)) (.cells #[.slice pa m ca] 28)
  simp only [World.size_alloc] at F2
  generalize hw2 : (w.alloc (.cells #[.slice p0 n c0, .slice p1 m c1] 27)).alloc (.cells #[.slice pa m ca] 28) = w2 at *
  have hs2 : w2.heap.size = w.heap.size + 1 + 1 := by rw [← hw2]; simp
  have A2 := A1.below b2 (by simp)
  have B2 := b1.trans (b2.mono (by simp))
  clear b2
  have G3 := Own.made2 w2 n (by omega)
  have b3 := below_new w2 (.cells (zeros n) 2)
  rw [hs2] at G3
  generalize hw3 : w2.alloc (.cells (zeros n) 2) = w3 at *
  have hs3 : w3.heap.size = w.heap.size + 1 + 1 + 1 := by rw [← hw3]; simp [hs2]
  have A3 := A2.below b3 (by omega)
  have F3 := F2.below b3 (by omega)
  have B3 := B2.trans (b3.mono (by omega))
  clear b3 A2 F2 B2
  have L4 := Ob.one w3 (.slice (some ⟨w.heap.size + 1 + 1, 0, none⟩) n n) 28
  have b4 := below_new w3 (.cells #[.slice (some ⟨w.heap.size + 1 + 1, 0, none⟩) n n] 28)
  rw [hs3] at L4
  generalize hw4 : w3.alloc (.cells #[.slice (some ⟨w.heap.size + 1 + 1, 0, none⟩) n n] 28) = w4 at *
  have hs4 : w4.heap.size = w.heap.size + 1 + 1 + 1 + 1 := by rw [← hw4]; simp [hs3]
  have A4 := A3.below b4 (by omega)
  have F4 := F3.below b4 (by omega)
  have G4 := G3.below b4 (Nat.le_refl _)
  have B4 := B3.trans (b4.mono (by omega))
  clear b4 A3 F3 G3 B3 hw2 hw3 hw4 b1 A1 e0 hs2 hs3
  refine (forest_any w4 _ n N m P lo hi (HV.out.below B4 hhi) (by omega) HB.out).mono ?_
  rintro e w5 ⟨vf, gf, rfl, of, hgf, b5⟩
  obtain ⟨cf, rfl⟩ := of.shape
  have hs5 := b5.size
  have lf := of.lt
  have A5 := A4.below b5 (by omega)
  have F5 := F4.below b5 (by omega)
  have G5 := G4.below b5 (Nat.le_refl _)
  have L5 := L4.below b5 (by omega)
  have B5 := B4.trans (b5.mono (by omega))
  clear b5 A4 F4 G4 L4 B4
  have mf : ∀ (fn : Fn) (first cap : Array Value) (w : World), (Instr.makeFunc fn first cap).run Tryz.prog w = .ok (.func fn first cap) w := fun _ _ _ _ => rfl
  have HA := Lib.hid A5
  have HF := Lib.hid F5
  have HG := Lib.hid G5
  have HL := Lib.hid L5
  have HO := Lib.hid of
  have HBB := Lib.hid B5
  clear A5 F5 G5 L5 of B5
  go_wp2_with fail
  have F6 := Ob.one w5 (.slice (some ⟨gf, 0, none⟩) (forest n P m).length cf) 28
  have b6 := below_new w5 (.cells #[.slice (some ⟨gf, 0, none⟩) (forest n P m).length cf] 28)
  generalize hw6 : w5.alloc (.cells #[.slice (some ⟨gf, 0, none⟩) (forest n P m).length cf] 28) = w6 at *
  have hs6 : w6.heap.size = w5.heap.size + 1 := by rw [← hw6]; simp
  have I7 := Ob.one w6 (.func (.func 111) #[] #[.pointer (some ⟨w.heap.size + 1 + 1 + 1, 0, none⟩), .pointer (some ⟨w5.heap.size, 0, none⟩), .pointer (some ⟨w.heap.size, 0, none⟩), .pointer (some ⟨w5.heap.size + 1, 0, none⟩), .pointer (some ⟨w.heap.size + 1, 0, none⟩)]) 133
  have b7 := below_new w6 (.cells #[.func (.func 111) #[] #[.pointer (some ⟨w.heap.size + 1 + 1 + 1, 0, none⟩), .pointer (some ⟨w5.heap.size, 0, none⟩), .pointer (some ⟨w.heap.size, 0, none⟩), .pointer (some ⟨w5.heap.size + 1, 0, none⟩), .pointer (some ⟨w.heap.size + 1, 0, none⟩)]] 133)
  rw [hs6] at I7
  generalize hw7 : w6.alloc (.cells #[.func (.func 111) #[] #[.pointer (some ⟨w.heap.size + 1 + 1 + 1, 0, none⟩), .pointer (some ⟨w5.heap.size, 0, none⟩), .pointer (some ⟨w.heap.size, 0, none⟩), .pointer (some ⟨w5.heap.size + 1, 0, none⟩), .pointer (some ⟨w.heap.size + 1, 0, none⟩)]] 133) = w7 at *
  have hs7 : w7.heap.size = w5.heap.size + 1 + 1 := by rw [← hw7]; simp [hs6]
  have b57 := b6.trans (b7.mono (by omega))
  have lga := HG.out.lt
  have E7 : FE n m (forest n P m).length N P (lD (forest n P m)) x p0 c0 p1 c1 lo hi la ha (w.heap.size + 1 + 1) (w.heap.size + 1 + 1 + 1) w5.heap.size w.heap.size (w5.heap.size + 1) (w.heap.size + 1) gf cf (.slice pa m ca) w7 :=
    ⟨HV.out.below (HBB.out.trans (b57.mono (by omega))) hhi, HS.out.below (HBB.out.trans (b57.mono (by omega))) hha, HO.out.keep (b57.block _ lf), HL.out.below b57 (by omega), F6.below b7 (by omega), HA.out.below b57 (by omega), I7, HF.out.below b57 (by omega), by omega, by omega, by omega, by omega, by omega, by omega, by omega, by omega, by omega⟩
  have G7 := HG.out.keep (b57.block _ lga)
  have HB7 := Lib.hid (HBB.out.trans (b57.mono (by omega)))
  have HBD := Lib.hid (fun (z : Int) (hz : 0 ≤ z ∧ z < n) => lvl_bnd (x := x) (root := ((X0 : Nat) : Int)) (level := level) (z := z) HB.out hn24 HX.out ⟨Int.natCast_nonneg _, by omega⟩ hz)
  have hfill := fill_any HB.out HX.out (lv := lvl n P m x (X0 : Nat) level) (fun z hz => by have := HBD.out z hz; omega) (fun a ha hf z hz => lvl_step HB.out ha hf hz) (2 * n + 2) w7 X0 (-1) _ hX ((fo_net HB.out).fu_start ⟨Int.natCast_nonneg _, by omega⟩) E7 G7
  rw [lvl_root] at hfill
  have HE7 := Lib.hid E7
  clear E7 G7 b57 b6 b7 I7 F6 hw6 hw7 HBD
  refine hfill.mono ?_
  clear hfill
  rintro e w8 ⟨rfl, d', o8, hgr, ⟨V, hD⟩, u8⟩
  have E8 := HE7.out.upd u8
  have y8 : w8.cell? ⟨w.heap.size + 1 + 1 + 1, 0, none⟩ = some (.slice (some ⟨w.heap.size + 1 + 1, 0, none⟩) n n) := E8.ol.cell 0 (by omega)
  have hfin : ∀ j : Nat, j < n → d' j = lvl n P m x (X0 : Nat) level (j : Nat) := fun j hj => by
    have hall := (fo_net (P := P) (m := m) HB.out).all (fo_r0 HB.out) (fo_r2 HB.out) (cmp_one HB.out HONE.out) (V := V) (x := ((X0 : Nat) : Int)) ⟨Int.natCast_nonneg _, by omega⟩ hD.own (fun z hz a ha hf he => by
      have hin := (inF_fE HB.out a).2 hf
      by_cases e : z = ((X0 : Nat) : Int)
      · subst e
        exact hD.nod a ⟨⟨ha, hin⟩, by omega⟩ he
      · exact hD.oth z hz e a ⟨ha, hin⟩ he) ((j : Nat) : Int) ⟨Int.natCast_nonneg _, by omega⟩
    have := (hD.lev _ hall).2.2
    rwa [Int.toNat_natCast] at this
  have HO8 := Lib.hid (o8.congr hfin)
  have HB8 := Lib.hid (HB7.out.trans (u8.below (by omega) (fun k _ hk => by omega)))
  clear o8 hgr hD u8 E8 hfin
  go_wp2_with fail
  go_ret
  exact ⟨_, rfl, HO8.out, by omega, HB8.out⟩
end Go.Proofs.YtdbgcbkmcbgdiaaGreat.mem

namespace Go.Proofs.YtdbgcbkmcbgdiaaGreat.mem
open Go.RowKit
set_option linter.unusedVariables false

end Go.Proofs.YtdbgcbkmcbgdiaaGreat.mem

namespace Go.Proofs.YtdbgcbkmcbgdiaaGreat.mem
open Go.RowKit
set_option linter.unusedVariables false

theorem isRootLevel_any (x : Int) (w : World) : Calls Tryz.prog 60 #[.int .i64 x] w fun e w' => e = .returned (.bool (rlB x)) ∧ w = w' := by
  unfold rlB
  go_enter Tryz.func60, Tryz.ntmps60
  go_wp2_with (go_at_call 109; refine (inRange_any _ _ _ _).mono ?_; rintro e w' ⟨rfl, rfl⟩)
  go_ret
  exact ⟨rfl, rfl⟩
end Go.Proofs.YtdbgcbkmcbgdiaaGreat.mem

namespace Go.Proofs.YtdbgcbkmcbgdiaaGreat.mem
open Go.RowKit
set_option linter.unusedVariables false

end Go.Proofs.YtdbgcbkmcbgdiaaGreat.mem

namespace Go.Proofs.YtdbgcbkmcbgdiaaGreat.mem
open Go.RowKit
set_option linter.unusedVariables false

/-- a pipe's part of the energy -/
def egT (P : Nat → Pip) (x : Nat → Int) (k : Nat) : Int := (P k).k * ((x k).natAbs : Int) * ((x k).natAbs : Int) * ((x k).natAbs : Int)
/-- the energy of the first pipes -/
def egS (P : Nat → Pip) (x : Nat → Int) : Nat → Int
  | 0 => 0
  | k + 1 => egS P x k + egT P x k
/-- the residual over the first pipes -/
def rsS (P : Nat → Pip) (x y : Nat → Int) : Nat → Int
  | 0 => 0
  | k + 1 => rsS P x y k + drp (P k) (x k) * y k
/-- a pipe's part of the bound -/
def bdT (P : Nat → Pip) (x : Nat → Int) (k : Nat) : Int := (P k).k * (3 * ((x k).natAbs : Int) + 1)
/-- the bound over the first pipes -/
def bdS (P : Nat → Pip) (x y : Nat → Int) : Nat → Int
  | 0 => 0
  | k + 1 => bdS P x y k + (if y k = 0 then 0 else bdT P x k)

theorem egS_congr {P : Nat → Pip} {x y : Nat → Int} : ∀ {n : Nat}, (∀ k, k < n → x k = y k) → egS P x n = egS P y n
  | 0, _ => rfl
  | n + 1, h => by
    unfold egS egT
    rw [egS_congr (fun k hk => h k (by omega)), h n (by omega)]
theorem rsS_congr {P : Nat → Pip} {x y u v : Nat → Int} : ∀ {n : Nat}, (∀ k, k < n → x k = u k) → (∀ k, k < n → y k = v k) → rsS P x y n = rsS P u v n
  | 0, _, _ => rfl
  | n + 1, h, g => by
    unfold rsS
    rw [rsS_congr (fun k hk => h k (by omega)) (fun k hk => g k (by omega)), h n (by omega), g n (by omega)]
theorem bdS_congr {P : Nat → Pip} {x y u v : Nat → Int} : ∀ {n : Nat}, (∀ k, k < n → x k = u k) → (∀ k, k < n → y k = v k) → bdS P x y n = bdS P u v n
  | 0, _, _ => rfl
  | n + 1, h, g => by
    unfold bdS bdT
    rw [bdS_congr (fun k hk => h k (by omega)) (fun k hk => g k (by omega)), h n (by omega), g n (by omega)]

theorem mulc {x b c : Int} (hx : -b ≤ x ∧ x ≤ b) (hc : -1 ≤ c ∧ c ≤ 1) : -b ≤ x * c ∧ x * c ≤ b := by
  rcases (by omega : c = -1 ∨ c = 0 ∨ c = 1) with rfl | rfl | rfl <;> omega
/-- what the pieces of a cube keep within -/
structure EgB (k a : Int) : Prop where
  k0 : 0 ≤ k
  k1 : k ≤ 1000
  a0 : 0 ≤ a
  a1 : a ≤ 30000
theorem EgB.one {k a : Int} (h : EgB k a) : 0 ≤ k * a ∧ k * a ≤ 30000000 := by
  have h1 := Int.mul_le_mul h.k1 h.a1 h.a0 (by omega : (0 : Int) ≤ 1000)
  exact ⟨Int.mul_nonneg h.k0 h.a0, by omega⟩
theorem EgB.two {k a : Int} (h : EgB k a) : 0 ≤ k * a * a ∧ k * a * a ≤ 900000000000 := by
  have h1 := Int.mul_le_mul h.one.2 h.a1 h.a0 (by omega : (0 : Int) ≤ 30000000)
  exact ⟨Int.mul_nonneg h.one.1 h.a0, by omega⟩
theorem EgB.thr {k a : Int} (h : EgB k a) : 0 ≤ k * a * a * a ∧ k * a * a * a ≤ 27000000000000000 := by
  have h1 := Int.mul_le_mul h.two.2 h.a1 h.a0 (by omega : (0 : Int) ≤ 900000000000)
  exact ⟨Int.mul_nonneg h.two.1 h.a0, by omega⟩
theorem egB_of {n : Int} {q : Pip} {x : Int} (hq : pipB n q = true) (h0 : -30000 ≤ x) (h1 : x ≤ 30000) : EgB q.k (x.natAbs : Int) := by
  have hk := pip_k hq
  exact ⟨by omega, by omega, Int.natCast_nonneg _, by omega⟩
theorem egS_bnd {P : Nat → Pip} {x : Nat → Int} : ∀ {k : Nat}, (∀ j, j < k → EgB (P j).k ((x j).natAbs : Int)) → 0 ≤ egS P x k ∧ egS P x k ≤ (k : Int) * 27000000000000000
  | 0, _ => by simp [egS]
  | k + 1, h => by
    have h1 := egS_bnd (k := k) (fun j hj => h j (by omega : j < k + 1))
    have h2 := (h k (by omega)).thr
    unfold egS egT
    omega
theorem rsS_bnd {P : Nat → Pip} {x y : Nat → Int} : ∀ {k : Nat}, (∀ j, j < k → -900000000000 ≤ drp (P j) (x j) ∧ drp (P j) (x j) ≤ 900000000000) → (∀ j, j < k → -1 ≤ y j ∧ y j ≤ 1) → -((k : Int) * 900000000000) ≤ rsS P x y k ∧ rsS P x y k ≤ (k : Int) * 900000000000
  | 0, _, _ => by simp [rsS]
  | k + 1, h, g => by
    have h1 := rsS_bnd (k := k) (fun j hj => h j (by omega : j < k + 1)) (fun j hj => g j (by omega : j < k + 1))
    have h2 := mulc (h k (by omega)) (g k (by omega))
    unfold rsS
    omega
theorem bdT_bnd {P : Nat → Pip} {x : Nat → Int} {k : Nat} (h : EgB (P k).k ((x k).natAbs : Int)) : 0 ≤ bdT P x k ∧ bdT P x k ≤ 90001000 := by
  have h1 := h.one
  have h2 := h.k0
  have h3 := h.k1
  have e : bdT P x k = 3 * ((P k).k * ((x k).natAbs : Int)) + (P k).k := by unfold bdT; grind
  rw [e]
  omega
theorem bdS_bnd {P : Nat → Pip} {x y : Nat → Int} : ∀ {k : Nat}, (∀ j, j < k → EgB (P j).k ((x j).natAbs : Int)) → 0 ≤ bdS P x y k ∧ bdS P x y k ≤ (k : Int) * 90001000
  | 0, _ => by simp [bdS]
  | k + 1, h => by
    have h1 := bdS_bnd (k := k) (y := y) (fun j hj => h j (by omega : j < k + 1))
    have h2 := bdT_bnd (P := P) (x := x) (h k (by omega))
    unfold bdS
    split <;> omega

theorem bdS_abs {P : Nat → Pip} {x y : Nat → Int} {k : Nat} (hy : -1 ≤ y k ∧ y k ≤ 1) : bdS P x y (k + 1) = bdS P x y k + ((y k).natAbs : Int) * (P k).k * (3 * ((x k).natAbs : Int) + 1) := by
  rw [show bdS P x y (k + 1) = bdS P x y k + (if y k = 0 then 0 else bdT P x k) from rfl]
  by_cases h : y k = 0
  · rw [if_pos h, h]
    simp
  · rw [if_neg h, show ((y k).natAbs : Int) = 1 by omega, Int.one_mul]
    rfl
/-! The elements of a chord's cycle are -1, 0 and 1 -/
theorem Fo.asc_sgn {n : Nat} {P : Nat → Pip} {m : Nat} {E D : Int → Int} (h : Fo n P m E D) {y : Int} (hy : 0 ≤ y ∧ y < n) {a : Nat} (ha : a < m) (ey : E y = (a : Int)) {z : Int} (hz : 0 ≤ z ∧ z < n) : asc P E D z a = 0 ∨ asc P E D z a = sgn (P a) y := by
  refine h.ind (Q := fun z => asc P E D z a = 0 ∨ asc P E D z a = sgn (P a) y) (fun z hz e => .inl (h.asc_top e a)) (fun z hz c hc e _ _ ih => ?_) z hz
  rw [h.asc_up hz hc e a]
  by_cases g : a = c
  · subst g
    right
    rw [if_pos rfl, h.asc_own hz hc e, h.uniq hy hz ey e]
    omega
  · rw [if_neg g, Int.zero_add]
    exact ih
theorem Fo.cyc_one {n : Nat} {P : Nat → Pip} {m : Nat} {E D : Int → Int} (h : Fo n P m E D) {c : Nat} (hc : c < m) (hP : pipB n (P c) = true) (hch : ∀ z : Int, 0 ≤ z → z < n → E z ≠ (c : Int)) (a : Nat) : -1 ≤ cyc P E D c a ∧ cyc P E D c a ≤ 1 := by
  obtain ⟨hf, ht, _⟩ := pip_end hP
  by_cases hy : ∃ y : Int, 0 ≤ y ∧ y < n ∧ E y = (a : Int)
  · obtain ⟨y, y0, y1, ey⟩ := hy
    have hne : a ≠ c := fun e => hch y y0 y1 (by rw [ey, e])
    have ham : a < m := by
      rcases h.par y y0 y1 with g | ⟨b, hb, g, _⟩ <;> omega
    have h1 := h.asc_sgn ⟨y0, y1⟩ ham ey ht
    have h2 := h.asc_sgn ⟨y0, y1⟩ ham ey hf
    have h3 := sgn_rng (P a) y
    unfold cyc one1
    rw [if_neg hne]
    omega
  · rw [h.cyc_chord hc (fun z z0 z1 e => hy ⟨z, z0, z1, e⟩)]
    unfold one1
    split <;> omega
theorem cyc_one {n : Nat} {N : Nat → Nod} {P : Nat → Pip} {m : Nat} (hN : netB n N m P = true) {c : Nat} (hc : c < m) (hch : chP n P m c = true) (a : Nat) : -1 ≤ cyc P (fE n P m) (fD n P m) c a ∧ cyc P (fE n P m) (fD n P m) c a ≤ 1 :=
  (fo_net hN).cyc_one hc (net_pip hN hc) (chP_no hN hch) a

/-! What a cycle's adding does to the energy -/
theorem cube_step {a x s : Int} (hs : s = 1 ∨ s = -1) (ha : a = (x.natAbs : Int)) : ((x + s).natAbs : Int) * ((x + s).natAbs : Int) * ((x + s).natAbs : Int) ≤ a * a * a + 3 * (s * (x * a)) + 3 * a + 1 := by
  rcases (by omega : (a = x ∧ ((x + s).natAbs : Int) = a + s) ∨ (a = -x ∧ ((x + s).natAbs : Int) = a - s) ∨ (x = 0 ∧ a = 0 ∧ ((x + s).natAbs : Int) = 1)) with ⟨h1, h2⟩ | ⟨h1, h2⟩ | ⟨h1, h2, h3⟩
  · rw [h2, ← h1]
    rcases hs with rfl | rfl
    · have e : (a + 1) * (a + 1) * (a + 1) = a * a * a + 3 * (1 * (a * a)) + 3 * a + 1 := by grind
      omega
    · have e : (a + -1) * (a + -1) * (a + -1) = a * a * a + 3 * (-1 * (a * a)) + 3 * a - 1 := by grind
      omega
  · have hx : x = -a := by omega
    rw [h2, hx]
    rcases hs with rfl | rfl
    · have e : (a - 1) * (a - 1) * (a - 1) = a * a * a + 3 * (1 * (-a * a)) + 3 * a - 1 := by grind
      omega
    · have e : (a - -1) * (a - -1) * (a - -1) = a * a * a + 3 * (-1 * (-a * a)) + 3 * a + 1 := by grind
      omega
  · rw [h3, h2, h1]
    simp
theorem egT_step {P : Nat → Pip} {x y : Nat → Int} {t : Int} {k : Nat} (hk : 0 ≤ (P k).k) (ht : t = 1 ∨ t = -1) (hy : -1 ≤ y k ∧ y k ≤ 1) :
    egT P (fun j => x j + t * y j) k ≤ egT P x k + 3 * (t * (drp (P k) (x k) * y k)) + (if y k = 0 then 0 else bdT P x k) := by
  unfold egT bdT drp
  dsimp only
  by_cases h0 : y k = 0
  · rw [if_pos h0, h0]
    simp
  · rw [if_neg h0]
    have hs : t * y k = 1 ∨ t * y k = -1 := by
      rcases ht with rfl | rfl <;> omega
    have h1 := cube_step (x := x k) hs rfl
    generalize ((x k + t * y k).natAbs : Int) = b at h1 ⊢
    generalize ((x k).natAbs : Int) = a at h1 ⊢
    have h2 := Int.mul_le_mul_of_nonneg_left h1 hk
    have e1 : (P k).k * b * b * b = (P k).k * (b * b * b) := by grind
    have e2 : (P k).k * a * a * a + 3 * (t * ((P k).k * (x k * a) * y k)) + (P k).k * (3 * a + 1) = (P k).k * (a * a * a + 3 * (t * y k * (x k * a)) + 3 * a + 1) := by grind
    rw [e1, e2]
    exact h2
theorem egS_step {P : Nat → Pip} {x y : Nat → Int} {t : Int} (ht : t = 1 ∨ t = -1) : ∀ {k : Nat}, (∀ j, j < k → 0 ≤ (P j).k) → (∀ j, j < k → -1 ≤ y j ∧ y j ≤ 1) →
    egS P (fun j => x j + t * y j) k ≤ egS P x k + 3 * (t * rsS P x y k) + bdS P x y k
  | 0, _, _ => by simp [egS, rsS, bdS]
  | k + 1, h, g => by
    have h1 := egS_step (k := k) (x := x) ht (fun j hj => h j (by omega : j < k + 1)) (fun j hj => g j (by omega : j < k + 1))
    have h2 := egT_step (x := x) (h k (by omega)) ht (g k (by omega))
    unfold egS rsS bdS
    rw [Int.mul_add]
    omega
/-- where neither adding nor subtracting a cycle lowers the energy, three times its residual is at most its bound -/
theorem res_bound {P : Nat → Pip} {x y : Nat → Int} {k : Nat} (h : ∀ j, j < k → 0 ≤ (P j).k) (g : ∀ j, j < k → -1 ≤ y j ∧ y j ≤ 1)
    (hp : egS P x k ≤ egS P (fun j => x j + 1 * y j) k) (hm : egS P x k ≤ egS P (fun j => x j + -1 * y j) k) : 3 * ((rsS P x y k).natAbs : Int) ≤ bdS P x y k := by
  have h1 := egS_step (x := x) (.inl rfl) h g
  have h2 := egS_step (x := x) (.inr rfl) h g
  omega
/-- does a multiple of a cycle lower the energy, as arrays? -/
def loA (m : Nat) (P : Nat → Pip) (x y : Nat → Int) (t : Int) : Bool := flB (fun k => x k + y k * t) 40 && decide (egS P (fun k => x k + y k * t) m < egS P x m)
/-- does a multiple of a cycle lower the energy? -/
def loB (m : Nat) (P : Nat → Pip) (x y : Nat → Int) (t : Int) : Bool := flB (fun k => x k + t * y k) m && decide (egS P (fun k => x k + t * y k) m < egS P x m)
theorem ownS_shE {w : World} {v : Value} {n z b : Nat} {c : Nat → Nat → Value} (h : OwnS w v n z c b) : ∃ p cap, v = .slice p n cap := by
  obtain ⟨p, cap, h1, _⟩ := h.ex
  exact ⟨p, cap, h1⟩
/-! What the exported functions answer -/
theorem pad_at {m : Nat} {d : Nat → Int} {k : Nat} (h : k < m) : pad m d k = d k := by unfold pad; rw [if_pos h]
theorem pad_rng {m : Nat} {d : Nat → Int} (h : ∀ k, k < m → -30000 ≤ d k ∧ d k ≤ 30000) (k : Nat) : -30000 ≤ pad m d k ∧ pad m d k ≤ 30000 := by
  unfold pad
  split
  · next g => exact h k g
  · omega
theorem ad_pad {n : Nat} {P : Nat → Pip} {m : Nat} {d : Nat → Int} {c : Nat} {y : Int} {k : Nat} (hk : k < m) : pad m d k + cyc P (fE n P m) (fD n P m) c k * y = adD n P m d (c : Int) y k := by
  unfold adD cyD
  rw [pad_at hk, Int.toNat_natCast, Int.mul_comm]
theorem ad_flB {n : Nat} {N : Nat → Nod} {P : Nat → Pip} {m : Nat} (hN : netB n N m P = true) {d : Nat → Int} {c : Nat} {y : Int} (hc : c < m) : flB (fun k => pad m d k + cyc P (fE n P m) (fD n P m) c k * y) 40 = flB (adD n P m d (c : Int) y) m := by
  have hm40 := (net_sz hN).2.2
  rw [flB_ext hm40 (fun k hk => by rw [cyc_off hN hc hk, Int.zero_mul]; unfold pad; rw [if_neg (by omega)]; rfl)]
  exact flB_congr fun k hk => ad_pad hk
theorem loA_pad {n : Nat} {N : Nat → Nod} {P : Nat → Pip} {m : Nat} (hN : netB n N m P = true) {d : Nat → Int} {c : Nat} {t : Int} (hc : c < m) : loA m P (pad m d) (cyc P (fE n P m) (fD n P m) c) t = loB m P d (cyc P (fE n P m) (fD n P m) c) t := by
  unfold loA loB
  rw [ad_flB hN hc, egS_congr (x := fun k => pad m d k + cyc P (fE n P m) (fD n P m) c k * t) (y := adD n P m d (c : Int) t) (fun k hk => ad_pad hk), egS_congr (x := pad m d) (y := d) (fun k hk => pad_at hk)]
  have e : adD n P m d (c : Int) t = fun k => d k + t * cyc P (fE n P m) (fD n P m) c k := by
    funext k
    unfold adD cyD
    rw [Int.toNat_natCast]
  rw [e]
end Go.Proofs.YtdbgcbkmcbgdiaaGreat.mem
