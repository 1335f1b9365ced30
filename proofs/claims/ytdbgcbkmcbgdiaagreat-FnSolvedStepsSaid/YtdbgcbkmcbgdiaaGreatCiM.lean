/-
  Several texts in one: Cyo, Cir, Cix, Ciy, Ciz, Cja.
-/
import Derived.Test.YtdbgcbkmcbgdiaaGreatRows
import Derived.Test.YtdbgcbkmcbgdiaaGreatArM
import Derived.Great.BuildSlice
import Derived.Test.YtdbgcbkmcbgdiaaGreatRowE
import Derived.Deep.RegionHeld3
import Derived.Deep.MidRow
import Derived.Deep.CutRange
import Derived.Deep.RegionWith
import Derived.Laws.StructEq
namespace Go.Proofs.YtdbgcbkmcbgdiaaGreat.mem
open Go.RowKit
set_option linter.unusedVariables false

theorem arr_len (x : Nat → Int) : (arrL x).length = 40 := by unfold arrL; simp
theorem arrL_get (x : Nat → Int) (k : Nat) (hk : k < 40) : (arrL x)[k]? = some (ia x k) := by unfold arrL; simp [hk]
theorem arr_oneL (x : Nat → Int) : ∀ v ∈ arrL x, v.oneCell' = true := fun v hv => by
  obtain ⟨k, _, rfl⟩ := List.mem_map.1 hv
  rfl
theorem Ob.range {w : World} {b : Nat} {x : Nat → Int} (h : Ob w b 40 (ia x)) : w.rangeAt b 0 (arrL x) := by
  intro j v hv
  have hj : j < 40 := by have := get_lt hv; rw [arr_len] at this; exact this
  rw [arrL_get x j hj] at hv
  injection hv with hv
  rw [Nat.zero_add, h.cell j hj, hv]
theorem Ob.there {w : World} {b N : Nat} {d : Nat → Value} (h : Ob w b N d) : w.there b 0 N := fun j hj => by
  rw [Nat.zero_add]
  exact ⟨by rw [h.cell j hj]; rfl, h.free j⟩
theorem there_lt {w : World} {b : Nat} (h : w.there b 0 40) : b < w.heap.size := by
  have := (h 0 (by omega)).1
  simp only [World.cell?] at this
  rcases Nat.lt_or_ge b w.heap.size with g | g
  · exact g
  · rw [Array.getElem?_eq_none g] at this
    cases this
theorem there_block {w w' : World} {b : Nat} (h : w.there b 0 40) (e : w'.heap[b]? = w.heap[b]?) : w'.there b 0 40 := fun j hj => by
  have := h j hj
  rw [World.cell?_of_block (a := ⟨b, 0 + j, none⟩) e, World.frozen?_of_block (a := ⟨b, 0 + j, none⟩) e]
  exact this
theorem range_block {w w' : World} {b : Nat} {cs : List Value} (h : w.rangeAt b 0 cs) (e : w'.heap[b]? = w.heap[b]?) : w'.rangeAt b 0 cs := fun j v hv => by
  rw [World.cell?_of_block (a := ⟨b, 0 + j, none⟩) e]
  exact h j v hv
theorem Only.setCs {g : Nat} {w : World} : ∀ (cs : List Value) (o : Nat) {w' : World}, Only g w w' → Only g w (w'.setCells g o cs)
  | [], _, _, h => h
  | v :: r, o, _, h => Only.setCs r (o + 1) (h.setCell o v)
theorem Ob.setCs {b N : Nat} : ∀ (cs : List Value) (o : Nat) {w : World} {d : Nat → Value}, Ob w b N d → o + cs.length ≤ N → Ob (w.setCells b o cs) b N (fun k => (if o ≤ k then cs[k - o]? else none).getD (d k))
  | [], o, w, d, h, _ => h.congr fun k _ => by simp
  | v :: r, o, w, d, h, hl => by
    simp only [List.length_cons] at hl
    have h1 := Ob.setCs r (o + 1) (h.set o v (by omega)) (by omega)
    refine h1.congr fun k hk => ?_
    unfold updV
    by_cases e : k = o
    · subst e
      rw [if_neg (show ¬ k + 1 ≤ k by omega), if_pos rfl, if_pos (Nat.le_refl k)]
      simp
    · rw [if_neg e]
      by_cases g : o + 1 ≤ k
      · rw [if_pos g, if_pos (show o ≤ k by omega), show k - o = (k - (o + 1)) + 1 by omega, List.getElem?_cons_succ]
      · rw [if_neg g, if_neg (show ¬ o ≤ k by omega)]
theorem Ob.setArr {w : World} {b : Nat} {d : Nat → Value} (h : Ob w b 40 d) (x : Nat → Int) : Ob (w.setCells b 0 (arrL x)) b 40 (ia x) := by
  refine (h.setCs (arrL x) 0 (by rw [arr_len]; omega)).congr fun k hk => ?_
  rw [if_pos (Nat.zero_le k), Nat.sub_zero, arrL_get x k hk]
  rfl

theorem below_sc {B b o : Nat} {w w' : World} {cs : List Value} (h : Below B w w') (hb : B ≤ b) : Below B w (w'.setCells b o cs) := h.trans (((Only.refl b w').setCs cs o).below hb)
theorem drew_size (w : World) : w.drew.heap.size = w.heap.size := rfl
theorem rangeAt_lt {w : World} {b : Nat} {cs : List Value} (h : w.rangeAt b 0 cs) (hc : 0 < cs.length) : b < w.heap.size := by
  have := h 0 cs[0] (List.getElem?_eq_getElem hc)
  simp only [World.cell?] at this
  rcases Nat.lt_or_ge b w.heap.size with g | g
  · exact g
  · rw [Array.getElem?_eq_none g] at this
    cases this
theorem zset (c : Nat) (hc : c < 40) (v : Int) : ([Value.int IntKind.i64 0, Value.int IntKind.i64 0, Value.int IntKind.i64 0, Value.int IntKind.i64 0, Value.int IntKind.i64 0, Value.int IntKind.i64 0, Value.int IntKind.i64 0, Value.int IntKind.i64 0, Value.int IntKind.i64 0, Value.int IntKind.i64 0, Value.int IntKind.i64 0, Value.int IntKind.i64 0, Value.int IntKind.i64 0, Value.int IntKind.i64 0, Value.int IntKind.i64 0, Value.int IntKind.i64 0, Value.int IntKind.i64 0, Value.int IntKind.i64 0, Value.int IntKind.i64 0, Value.int IntKind.i64 0, Value.int IntKind.i64 0, Value.int IntKind.i64 0, Value.int IntKind.i64 0, Value.int IntKind.i64 0, Value.int IntKind.i64 0, Value.int IntKind.i64 0, Value.int IntKind.i64 0, Value.int IntKind.i64 0, Value.int IntKind.i64 0, Value.int IntKind.i64 0, Value.int IntKind.i64 0, Value.int IntKind.i64 0, Value.int IntKind.i64 0, Value.int IntKind.i64 0, Value.int IntKind.i64 0, Value.int IntKind.i64 0, Value.int IntKind.i64 0, Value.int IntKind.i64 0, Value.int IntKind.i64 0, Value.int IntKind.i64 0].set c (.int .i64 v)).toArray = arr (upd (fun _ => 0) c v) := by
  refine arr_eq (by simp) fun k hk => ?_
  rw [List.getElem?_toArray, List.getElem?_set]
  unfold ia upd
  by_cases e : c = k
  · subst e
    rw [if_pos rfl, if_pos rfl]
    simp [hc]
  · rw [if_neg e, if_neg (fun g => e g.symm)]
    have h := zeros40 k hk
    rw [List.getElem?_toArray] at h
    exact h
set_option maxRecDepth 100000 in
set_option maxHeartbeats 8000000 in
theorem cycleOf_any (w : World) (v : Value) (n : Nat) (N : Nat → Nod) (m : Nat) (P : Nat → Pip) (lo hi : Nat) (h : NetAt w v n N m P lo hi) (hhi : hi ≤ w.heap.size) (hB : netB n N m P = true) (c : Nat) (hc : c < m) :
    Calls Tryz.prog 167 #[v, .int .i64 (c : Nat)] w fun e w' => e = .returned (.agg (arr (cyc P (fE n P m) (fD n P m) c))) ∧ Below w.heap.size w w' := by
  obtain ⟨p0, c0, p1, c1, rfl, hn9, hm9⟩ := h.parts
  obtain ⟨hn1, hn24, hm40⟩ := net_sz hB
  have HV := Lib.hid h
  have HB := Lib.hid hB
  have HFO := Lib.hid (fo_net (P := P) (m := m) hB)
  obtain ⟨hpf, hpt, _⟩ := pip_end (net_pip hB hc)
  have B1 := (below_new w (.cells #[.slice p0 n c0, .slice p1 m c1] 27)).trans ((below_new _ (.cells #[Value.int IntKind.i64 0, Value.int IntKind.i64 0, Value.int IntKind.i64 0, Value.int IntKind.i64 0, Value.int IntKind.i64 0, Value.int IntKind.i64 0, Value.int IntKind.i64 0, Value.int IntKind.i64 0, Value.int IntKind.i64 0, Value.int IntKind.i64 0, Value.int IntKind.i64 0, Value.int IntKind.i64 0, Value.int IntKind.i64 0, Value.int IntKind.i64 0, Value.int IntKind.i64 0, Value.int IntKind.i64 0, Value.int IntKind.i64 0, Value.int IntKind.i64 0, Value.int IntKind.i64 0, Value.int IntKind.i64 0, Value.int IntKind.i64 0, Value.int IntKind.i64 0, Value.int IntKind.i64 0, Value.int IntKind.i64 0, Value.int IntKind.i64 0, Value.int IntKind.i64 0, Value.int IntKind.i64 0, Value.int IntKind.i64 0, Value.int IntKind.i64 0, Value.int IntKind.i64 0, Value.int IntKind.i64 0, Value.int IntKind.i64 0, Value.int IntKind.i64 0, Value.int IntKind.i64 0, Value.int IntKind.i64 0, Value.int IntKind.i64 0, Value.int IntKind.i64 0, Value.int IntKind.i64 0, Value.int IntKind.i64 0, Value.int IntKind.i64 0] 111)).mono (by simp only [World.size_alloc]; omega))
  have A1 := (boxed w (.slice p0 n c0) (.slice p1 m c1) 27).keep (Below.heap_alloc _ (.cells #[Value.int IntKind.i64 0, Value.int IntKind.i64 0, Value.int IntKind.i64 0, Value.int IntKind.i64 0, Value.int IntKind.i64 0, Value.int IntKind.i64 0, Value.int IntKind.i64 0, Value.int IntKind.i64 0, Value.int IntKind.i64 0, Value.int IntKind.i64 0, Value.int IntKind.i64 0, Value.int IntKind.i64 0, Value.int IntKind.i64 0, Value.int IntKind.i64 0, Value.int IntKind.i64 0, Value.int IntKind.i64 0, Value.int IntKind.i64 0, Value.int IntKind.i64 0, Value.int IntKind.i64 0, Value.int IntKind.i64 0, Value.int IntKind.i64 0, Value.int IntKind.i64 0, Value.int IntKind.i64 0, Value.int IntKind.i64 0, Value.int IntKind.i64 0, Value.int IntKind.i64 0, Value.int IntKind.i64 0, Value.int IntKind.i64 0, Value.int IntKind.i64 0, Value.int IntKind.i64 0, Value.int IntKind.i64 0, Value.int IntKind.i64 0, Value.int IntKind.i64 0, Value.int IntKind.i64 0, Value.int IntKind.i64 0, Value.int IntKind.i64 0, Value.int IntKind.i64 0, Value.int IntKind.i64 0, Value.int IntKind.i64 0, Value.int IntKind.i64 0] 111) _ (by simp only [World.size_alloc]; omega))
  have R1 := Ob.new0 (w.alloc (.cells #[.slice p0 n c0, .slice p1 m c1] 27)) 111
  simp only [World.size_alloc] at R1
  obtain ⟨bp, op, rfl, q1, q2, r0, r1, r2, r3, r4⟩ := (h.below B1 hhi).pipe hc
  have e0 := A1.b0
  have e1 := A1.b1
  have k0 : (0 : Int) ≤ (c : Int) := Int.natCast_nonneg _
  have k1 : (c : Int) < (m : Int) := by omega
  have k2 : (c : Int) < 40 := by omega
  have hc40 : c < 40 := by omega
  have A4 := (A1.keep (Below.heap_alloc ((w.alloc (.cells #[.slice p0 n c0, .slice (some ⟨bp, op, none⟩) m c1] 27)).alloc (.cells #[Value.int IntKind.i64 0, Value.int IntKind.i64 0, Value.int IntKind.i64 0, Value.int IntKind.i64 0, Value.int IntKind.i64 0, Value.int IntKind.i64 0, Value.int IntKind.i64 0, Value.int IntKind.i64 0, Value.int IntKind.i64 0, Value.int IntKind.i64 0, Value.int IntKind.i64 0, Value.int IntKind.i64 0, Value.int IntKind.i64 0, Value.int IntKind.i64 0, Value.int IntKind.i64 0, Value.int IntKind.i64 0, Value.int IntKind.i64 0, Value.int IntKind.i64 0, Value.int IntKind.i64 0, Value.int IntKind.i64 0, Value.int IntKind.i64 0, Value.int IntKind.i64 0, Value.int IntKind.i64 0, Value.int IntKind.i64 0, Value.int IntKind.i64 0, Value.int IntKind.i64 0, Value.int IntKind.i64 0, Value.int IntKind.i64 0, Value.int IntKind.i64 0, Value.int IntKind.i64 0, Value.int IntKind.i64 0, Value.int IntKind.i64 0, Value.int IntKind.i64 0, Value.int IntKind.i64 0, Value.int IntKind.i64 0, Value.int IntKind.i64 0, Value.int IntKind.i64 0, Value.int IntKind.i64 0, Value.int IntKind.i64 0, Value.int IntKind.i64 0] 111)) (.cells #[.int .i64 (P c).f, .int .i64 (P c).t, .int .i64 (P c).k, .int .i64 (P c).v, .int .i64 (P c).l] 121) _ (by simp only [World.size_alloc]; omega))).keep (Below.heap_alloc (((w.alloc (.cells #[.slice p0 n c0, .slice (some ⟨bp, op, none⟩) m c1] 27)).alloc (.cells #[Value.int IntKind.i64 0, Value.int IntKind.i64 0, Value.int IntKind.i64 0, Value.int IntKind.i64 0, Value.int IntKind.i64 0, Value.int IntKind.i64 0, Value.int IntKind.i64 0, Value.int IntKind.i64 0, Value.int IntKind.i64 0, Value.int IntKind.i64 0, Value.int IntKind.i64 0, Value.int IntKind.i64 0, Value.int IntKind.i64 0, Value.int IntKind.i64 0, Value.int IntKind.i64 0, Value.int IntKind.i64 0, Value.int IntKind.i64 0, Value.int IntKind.i64 0, Value.int IntKind.i64 0, Value.int IntKind.i64 0, Value.int IntKind.i64 0, Value.int IntKind.i64 0, Value.int IntKind.i64 0, Value.int IntKind.i64 0, Value.int IntKind.i64 0, Value.int IntKind.i64 0, Value.int IntKind.i64 0, Value.int IntKind.i64 0, Value.int IntKind.i64 0, Value.int IntKind.i64 0, Value.int IntKind.i64 0, Value.int IntKind.i64 0, Value.int IntKind.i64 0, Value.int IntKind.i64 0, Value.int IntKind.i64 0, Value.int IntKind.i64 0, Value.int IntKind.i64 0, Value.int IntKind.i64 0, Value.int IntKind.i64 0, Value.int IntKind.i64 0] 111)).alloc (.cells #[.int .i64 (P c).f, .int .i64 (P c).t, .int .i64 (P c).k, .int .i64 (P c).v, .int .i64 (P c).l] 121)) (.cells ([Value.int IntKind.i64 0, Value.int IntKind.i64 0, Value.int IntKind.i64 0, Value.int IntKind.i64 0, Value.int IntKind.i64 0, Value.int IntKind.i64 0, Value.int IntKind.i64 0, Value.int IntKind.i64 0, Value.int IntKind.i64 0, Value.int IntKind.i64 0, Value.int IntKind.i64 0, Value.int IntKind.i64 0, Value.int IntKind.i64 0, Value.int IntKind.i64 0, Value.int IntKind.i64 0, Value.int IntKind.i64 0, Value.int IntKind.i64 0, Value.int IntKind.i64 0, Value.int IntKind.i64 0, Value.int IntKind.i64 0, Value.int IntKind.i64 0, Value.int IntKind.i64 0, Value.int IntKind.i64 0, Value.int IntKind.i64 0, Value.int IntKind.i64 0, Value.int IntKind.i64 0, Value.int IntKind.i64 0, Value.int IntKind.i64 0, Value.int IntKind.i64 0, Value.int IntKind.i64 0, Value.int IntKind.i64 0, Value.int IntKind.i64 0, Value.int IntKind.i64 0, Value.int IntKind.i64 0, Value.int IntKind.i64 0, Value.int IntKind.i64 0, Value.int IntKind.i64 0, Value.int IntKind.i64 0, Value.int IntKind.i64 0, Value.int IntKind.i64 0].set c (.int .i64 1)).toArray 111) _ (by simp only [World.size_alloc]; omega))
  have R4 := (R1.keep (Below.heap_alloc ((w.alloc (.cells #[.slice p0 n c0, .slice (some ⟨bp, op, none⟩) m c1] 27)).alloc (.cells #[Value.int IntKind.i64 0, Value.int IntKind.i64 0, Value.int IntKind.i64 0, Value.int IntKind.i64 0, Value.int IntKind.i64 0, Value.int IntKind.i64 0, Value.int IntKind.i64 0, Value.int IntKind.i64 0, Value.int IntKind.i64 0, Value.int IntKind.i64 0, Value.int IntKind.i64 0, Value.int IntKind.i64 0, Value.int IntKind.i64 0, Value.int IntKind.i64 0, Value.int IntKind.i64 0, Value.int IntKind.i64 0, Value.int IntKind.i64 0, Value.int IntKind.i64 0, Value.int IntKind.i64 0, Value.int IntKind.i64 0, Value.int IntKind.i64 0, Value.int IntKind.i64 0, Value.int IntKind.i64 0, Value.int IntKind.i64 0, Value.int IntKind.i64 0, Value.int IntKind.i64 0, Value.int IntKind.i64 0, Value.int IntKind.i64 0, Value.int IntKind.i64 0, Value.int IntKind.i64 0, Value.int IntKind.i64 0, Value.int IntKind.i64 0, Value.int IntKind.i64 0, Value.int IntKind.i64 0, Value.int IntKind.i64 0, Value.int IntKind.i64 0, Value.int IntKind.i64 0, Value.int IntKind.i64 0, Value.int IntKind.i64 0, Value.int IntKind.i64 0] 111)) (.cells #[.int .i64 (P c).f, .int .i64 (P c).t, .int .i64 (P c).k, .int .i64 (P c).v, .int .i64 (P c).l] 121) _ (by simp only [World.size_alloc]; omega))).keep (Below.heap_alloc (((w.alloc (.cells #[.slice p0 n c0, .slice (some ⟨bp, op, none⟩) m c1] 27)).alloc (.cells #[Value.int IntKind.i64 0, Value.int IntKind.i64 0, Value.int IntKind.i64 0, Value.int IntKind.i64 0, Value.int IntKind.i64 0, Value.int IntKind.i64 0, Value.int IntKind.i64 0, Value.int IntKind.i64 0, Value.int IntKind.i64 0, Value.int IntKind.i64 0, Value.int IntKind.i64 0, Value.int IntKind.i64 0, Value.int IntKind.i64 0, Value.int IntKind.i64 0, Value.int IntKind.i64 0, Value.int IntKind.i64 0, Value.int IntKind.i64 0, Value.int IntKind.i64 0, Value.int IntKind.i64 0, Value.int IntKind.i64 0, Value.int IntKind.i64 0, Value.int IntKind.i64 0, Value.int IntKind.i64 0, Value.int IntKind.i64 0, Value.int IntKind.i64 0, Value.int IntKind.i64 0, Value.int IntKind.i64 0, Value.int IntKind.i64 0, Value.int IntKind.i64 0, Value.int IntKind.i64 0, Value.int IntKind.i64 0, Value.int IntKind.i64 0, Value.int IntKind.i64 0, Value.int IntKind.i64 0, Value.int IntKind.i64 0, Value.int IntKind.i64 0, Value.int IntKind.i64 0, Value.int IntKind.i64 0, Value.int IntKind.i64 0, Value.int IntKind.i64 0] 111)).alloc (.cells #[.int .i64 (P c).f, .int .i64 (P c).t, .int .i64 (P c).k, .int .i64 (P c).v, .int .i64 (P c).l] 121)) (.cells ([Value.int IntKind.i64 0, Value.int IntKind.i64 0, Value.int IntKind.i64 0, Value.int IntKind.i64 0, Value.int IntKind.i64 0, Value.int IntKind.i64 0, Value.int IntKind.i64 0, Value.int IntKind.i64 0, Value.int IntKind.i64 0, Value.int IntKind.i64 0, Value.int IntKind.i64 0, Value.int IntKind.i64 0, Value.int IntKind.i64 0, Value.int IntKind.i64 0, Value.int IntKind.i64 0, Value.int IntKind.i64 0, Value.int IntKind.i64 0, Value.int IntKind.i64 0, Value.int IntKind.i64 0, Value.int IntKind.i64 0, Value.int IntKind.i64 0, Value.int IntKind.i64 0, Value.int IntKind.i64 0, Value.int IntKind.i64 0, Value.int IntKind.i64 0, Value.int IntKind.i64 0, Value.int IntKind.i64 0, Value.int IntKind.i64 0, Value.int IntKind.i64 0, Value.int IntKind.i64 0, Value.int IntKind.i64 0, Value.int IntKind.i64 0, Value.int IntKind.i64 0, Value.int IntKind.i64 0, Value.int IntKind.i64 0, Value.int IntKind.i64 0, Value.int IntKind.i64 0, Value.int IntKind.i64 0, Value.int IntKind.i64 0, Value.int IntKind.i64 0].set c (.int .i64 1)).toArray 111) _ (by simp only [World.size_alloc]; omega))
  have P4 := (Ob.new ((w.alloc (.cells #[.slice p0 n c0, .slice (some ⟨bp, op, none⟩) m c1] 27)).alloc (.cells #[Value.int IntKind.i64 0, Value.int IntKind.i64 0, Value.int IntKind.i64 0, Value.int IntKind.i64 0, Value.int IntKind.i64 0, Value.int IntKind.i64 0, Value.int IntKind.i64 0, Value.int IntKind.i64 0, Value.int IntKind.i64 0, Value.int IntKind.i64 0, Value.int IntKind.i64 0, Value.int IntKind.i64 0, Value.int IntKind.i64 0, Value.int IntKind.i64 0, Value.int IntKind.i64 0, Value.int IntKind.i64 0, Value.int IntKind.i64 0, Value.int IntKind.i64 0, Value.int IntKind.i64 0, Value.int IntKind.i64 0, Value.int IntKind.i64 0, Value.int IntKind.i64 0, Value.int IntKind.i64 0, Value.int IntKind.i64 0, Value.int IntKind.i64 0, Value.int IntKind.i64 0, Value.int IntKind.i64 0, Value.int IntKind.i64 0, Value.int IntKind.i64 0, Value.int IntKind.i64 0, Value.int IntKind.i64 0, Value.int IntKind.i64 0, Value.int IntKind.i64 0, Value.int IntKind.i64 0, Value.int IntKind.i64 0, Value.int IntKind.i64 0, Value.int IntKind.i64 0, Value.int IntKind.i64 0, Value.int IntKind.i64 0, Value.int IntKind.i64 0] 111)) #[.int .i64 (P c).f, .int .i64 (P c).t, .int .i64 (P c).k, .int .i64 (P c).v, .int .i64 (P c).l] 121 5 (fun j => (#[.int .i64 (P c).f, .int .i64 (P c).t, .int .i64 (P c).k, .int .i64 (P c).v, .int .i64 (P c).l] : Array Value)[j]!) rfl (fun k hk => by rcases (by omega : k = 0 ∨ k = 1 ∨ k = 2 ∨ k = 3 ∨ k = 4) with rfl | rfl | rfl | rfl | rfl <;> rfl)).keep (Below.heap_alloc (((w.alloc (.cells #[.slice p0 n c0, .slice (some ⟨bp, op, none⟩) m c1] 27)).alloc (.cells #[Value.int IntKind.i64 0, Value.int IntKind.i64 0, Value.int IntKind.i64 0, Value.int IntKind.i64 0, Value.int IntKind.i64 0, Value.int IntKind.i64 0, Value.int IntKind.i64 0, Value.int IntKind.i64 0, Value.int IntKind.i64 0, Value.int IntKind.i64 0, Value.int IntKind.i64 0, Value.int IntKind.i64 0, Value.int IntKind.i64 0, Value.int IntKind.i64 0, Value.int IntKind.i64 0, Value.int IntKind.i64 0, Value.int IntKind.i64 0, Value.int IntKind.i64 0, Value.int IntKind.i64 0, Value.int IntKind.i64 0, Value.int IntKind.i64 0, Value.int IntKind.i64 0, Value.int IntKind.i64 0, Value.int IntKind.i64 0, Value.int IntKind.i64 0, Value.int IntKind.i64 0, Value.int IntKind.i64 0, Value.int IntKind.i64 0, Value.int IntKind.i64 0, Value.int IntKind.i64 0, Value.int IntKind.i64 0, Value.int IntKind.i64 0, Value.int IntKind.i64 0, Value.int IntKind.i64 0, Value.int IntKind.i64 0, Value.int IntKind.i64 0, Value.int IntKind.i64 0, Value.int IntKind.i64 0, Value.int IntKind.i64 0, Value.int IntKind.i64 0] 111)).alloc (.cells #[.int .i64 (P c).f, .int .i64 (P c).t, .int .i64 (P c).k, .int .i64 (P c).v, .int .i64 (P c).l] 121)) (.cells ([Value.int IntKind.i64 0, Value.int IntKind.i64 0, Value.int IntKind.i64 0, Value.int IntKind.i64 0, Value.int IntKind.i64 0, Value.int IntKind.i64 0, Value.int IntKind.i64 0, Value.int IntKind.i64 0, Value.int IntKind.i64 0, Value.int IntKind.i64 0, Value.int IntKind.i64 0, Value.int IntKind.i64 0, Value.int IntKind.i64 0, Value.int IntKind.i64 0, Value.int IntKind.i64 0, Value.int IntKind.i64 0, Value.int IntKind.i64 0, Value.int IntKind.i64 0, Value.int IntKind.i64 0, Value.int IntKind.i64 0, Value.int IntKind.i64 0, Value.int IntKind.i64 0, Value.int IntKind.i64 0, Value.int IntKind.i64 0, Value.int IntKind.i64 0, Value.int IntKind.i64 0, Value.int IntKind.i64 0, Value.int IntKind.i64 0, Value.int IntKind.i64 0, Value.int IntKind.i64 0, Value.int IntKind.i64 0, Value.int IntKind.i64 0, Value.int IntKind.i64 0, Value.int IntKind.i64 0, Value.int IntKind.i64 0, Value.int IntKind.i64 0, Value.int IntKind.i64 0, Value.int IntKind.i64 0, Value.int IntKind.i64 0, Value.int IntKind.i64 0].set c (.int .i64 1)).toArray 111) _ (by simp only [World.size_alloc]; omega))
  have C4' := Ob.new (((w.alloc (.cells #[.slice p0 n c0, .slice (some ⟨bp, op, none⟩) m c1] 27)).alloc (.cells #[Value.int IntKind.i64 0, Value.int IntKind.i64 0, Value.int IntKind.i64 0, Value.int IntKind.i64 0, Value.int IntKind.i64 0, Value.int IntKind.i64 0, Value.int IntKind.i64 0, Value.int IntKind.i64 0, Value.int IntKind.i64 0, Value.int IntKind.i64 0, Value.int IntKind.i64 0, Value.int IntKind.i64 0, Value.int IntKind.i64 0, Value.int IntKind.i64 0, Value.int IntKind.i64 0, Value.int IntKind.i64 0, Value.int IntKind.i64 0, Value.int IntKind.i64 0, Value.int IntKind.i64 0, Value.int IntKind.i64 0, Value.int IntKind.i64 0, Value.int IntKind.i64 0, Value.int IntKind.i64 0, Value.int IntKind.i64 0, Value.int IntKind.i64 0, Value.int IntKind.i64 0, Value.int IntKind.i64 0, Value.int IntKind.i64 0, Value.int IntKind.i64 0, Value.int IntKind.i64 0, Value.int IntKind.i64 0, Value.int IntKind.i64 0, Value.int IntKind.i64 0, Value.int IntKind.i64 0, Value.int IntKind.i64 0, Value.int IntKind.i64 0, Value.int IntKind.i64 0, Value.int IntKind.i64 0, Value.int IntKind.i64 0, Value.int IntKind.i64 0] 111)).alloc (.cells #[.int .i64 (P c).f, .int .i64 (P c).t, .int .i64 (P c).k, .int .i64 (P c).v, .int .i64 (P c).l] 121)) ([Value.int IntKind.i64 0, Value.int IntKind.i64 0, Value.int IntKind.i64 0, Value.int IntKind.i64 0, Value.int IntKind.i64 0, Value.int IntKind.i64 0, Value.int IntKind.i64 0, Value.int IntKind.i64 0, Value.int IntKind.i64 0, Value.int IntKind.i64 0, Value.int IntKind.i64 0, Value.int IntKind.i64 0, Value.int IntKind.i64 0, Value.int IntKind.i64 0, Value.int IntKind.i64 0, Value.int IntKind.i64 0, Value.int IntKind.i64 0, Value.int IntKind.i64 0, Value.int IntKind.i64 0, Value.int IntKind.i64 0, Value.int IntKind.i64 0, Value.int IntKind.i64 0, Value.int IntKind.i64 0, Value.int IntKind.i64 0, Value.int IntKind.i64 0, Value.int IntKind.i64 0, Value.int IntKind.i64 0, Value.int IntKind.i64 0, Value.int IntKind.i64 0, Value.int IntKind.i64 0, Value.int IntKind.i64 0, Value.int IntKind.i64 0, Value.int IntKind.i64 0, Value.int IntKind.i64 0, Value.int IntKind.i64 0, Value.int IntKind.i64 0, Value.int IntKind.i64 0, Value.int IntKind.i64 0, Value.int IntKind.i64 0, Value.int IntKind.i64 0].set c (.int .i64 1)).toArray 111 40 (ia (one1 c)) (by simp) (fun k hk => by
    rw [zset c hc40 1, arr_get _ k hk]
    rfl)
  simp only [World.size_alloc] at P4 C4'
  have B4 := (B1.trans ((below_new ((w.alloc (.cells #[.slice p0 n c0, .slice (some ⟨bp, op, none⟩) m c1] 27)).alloc (.cells #[Value.int IntKind.i64 0, Value.int IntKind.i64 0, Value.int IntKind.i64 0, Value.int IntKind.i64 0, Value.int IntKind.i64 0, Value.int IntKind.i64 0, Value.int IntKind.i64 0, Value.int IntKind.i64 0, Value.int IntKind.i64 0, Value.int IntKind.i64 0, Value.int IntKind.i64 0, Value.int IntKind.i64 0, Value.int IntKind.i64 0, Value.int IntKind.i64 0, Value.int IntKind.i64 0, Value.int IntKind.i64 0, Value.int IntKind.i64 0, Value.int IntKind.i64 0, Value.int IntKind.i64 0, Value.int IntKind.i64 0, Value.int IntKind.i64 0, Value.int IntKind.i64 0, Value.int IntKind.i64 0, Value.int IntKind.i64 0, Value.int IntKind.i64 0, Value.int IntKind.i64 0, Value.int IntKind.i64 0, Value.int IntKind.i64 0, Value.int IntKind.i64 0, Value.int IntKind.i64 0, Value.int IntKind.i64 0, Value.int IntKind.i64 0, Value.int IntKind.i64 0, Value.int IntKind.i64 0, Value.int IntKind.i64 0, Value.int IntKind.i64 0, Value.int IntKind.i64 0, Value.int IntKind.i64 0, Value.int IntKind.i64 0, Value.int IntKind.i64 0] 111)) (.cells #[.int .i64 (P c).f, .int .i64 (P c).t, .int .i64 (P c).k, .int .i64 (P c).v, .int .i64 (P c).l] 121)).mono (by simp only [World.size_alloc]; omega))).trans ((below_new (((w.alloc (.cells #[.slice p0 n c0, .slice (some ⟨bp, op, none⟩) m c1] 27)).alloc (.cells #[Value.int IntKind.i64 0, Value.int IntKind.i64 0, Value.int IntKind.i64 0, Value.int IntKind.i64 0, Value.int IntKind.i64 0, Value.int IntKind.i64 0, Value.int IntKind.i64 0, Value.int IntKind.i64 0, Value.int IntKind.i64 0, Value.int IntKind.i64 0, Value.int IntKind.i64 0, Value.int IntKind.i64 0, Value.int IntKind.i64 0, Value.int IntKind.i64 0, Value.int IntKind.i64 0, Value.int IntKind.i64 0, Value.int IntKind.i64 0, Value.int IntKind.i64 0, Value.int IntKind.i64 0, Value.int IntKind.i64 0, Value.int IntKind.i64 0, Value.int IntKind.i64 0, Value.int IntKind.i64 0, Value.int IntKind.i64 0, Value.int IntKind.i64 0, Value.int IntKind.i64 0, Value.int IntKind.i64 0, Value.int IntKind.i64 0, Value.int IntKind.i64 0, Value.int IntKind.i64 0, Value.int IntKind.i64 0, Value.int IntKind.i64 0, Value.int IntKind.i64 0, Value.int IntKind.i64 0, Value.int IntKind.i64 0, Value.int IntKind.i64 0, Value.int IntKind.i64 0, Value.int IntKind.i64 0, Value.int IntKind.i64 0, Value.int IntKind.i64 0] 111)).alloc (.cells #[.int .i64 (P c).f, .int .i64 (P c).t, .int .i64 (P c).k, .int .i64 (P c).v, .int .i64 (P c).l] 121)) (.cells ([Value.int IntKind.i64 0, Value.int IntKind.i64 0, Value.int IntKind.i64 0, Value.int IntKind.i64 0, Value.int IntKind.i64 0, Value.int IntKind.i64 0, Value.int IntKind.i64 0, Value.int IntKind.i64 0, Value.int IntKind.i64 0, Value.int IntKind.i64 0, Value.int IntKind.i64 0, Value.int IntKind.i64 0, Value.int IntKind.i64 0, Value.int IntKind.i64 0, Value.int IntKind.i64 0, Value.int IntKind.i64 0, Value.int IntKind.i64 0, Value.int IntKind.i64 0, Value.int IntKind.i64 0, Value.int IntKind.i64 0, Value.int IntKind.i64 0, Value.int IntKind.i64 0, Value.int IntKind.i64 0, Value.int IntKind.i64 0, Value.int IntKind.i64 0, Value.int IntKind.i64 0, Value.int IntKind.i64 0, Value.int IntKind.i64 0, Value.int IntKind.i64 0, Value.int IntKind.i64 0, Value.int IntKind.i64 0, Value.int IntKind.i64 0, Value.int IntKind.i64 0, Value.int IntKind.i64 0, Value.int IntKind.i64 0, Value.int IntKind.i64 0, Value.int IntKind.i64 0, Value.int IntKind.i64 0, Value.int IntKind.i64 0, Value.int IntKind.i64 0].set c (.int .i64 1)).toArray 111)).mono (by simp only [World.size_alloc]; omega))
  have hs4 : ((((w.alloc (.cells #[.slice p0 n c0, .slice (some ⟨bp, op, none⟩) m c1] 27)).alloc (.cells #[Value.int IntKind.i64 0, Value.int IntKind.i64 0, Value.int IntKind.i64 0, Value.int IntKind.i64 0, Value.int IntKind.i64 0, Value.int IntKind.i64 0, Value.int IntKind.i64 0, Value.int IntKind.i64 0, Value.int IntKind.i64 0, Value.int IntKind.i64 0, Value.int IntKind.i64 0, Value.int IntKind.i64 0, Value.int IntKind.i64 0, Value.int IntKind.i64 0, Value.int IntKind.i64 0, Value.int IntKind.i64 0, Value.int IntKind.i64 0, Value.int IntKind.i64 0, Value.int IntKind.i64 0, Value.int IntKind.i64 0, Value.int IntKind.i64 0, Value.int IntKind.i64 0, Value.int IntKind.i64 0, Value.int IntKind.i64 0, Value.int IntKind.i64 0, Value.int IntKind.i64 0, Value.int IntKind.i64 0, Value.int IntKind.i64 0, Value.int IntKind.i64 0, Value.int IntKind.i64 0, Value.int IntKind.i64 0, Value.int IntKind.i64 0, Value.int IntKind.i64 0, Value.int IntKind.i64 0, Value.int IntKind.i64 0, Value.int IntKind.i64 0, Value.int IntKind.i64 0, Value.int IntKind.i64 0, Value.int IntKind.i64 0, Value.int IntKind.i64 0] 111)).alloc (.cells #[.int .i64 (P c).f, .int .i64 (P c).t, .int .i64 (P c).k, .int .i64 (P c).v, .int .i64 (P c).l] 121)).alloc (.cells ([Value.int IntKind.i64 0, Value.int IntKind.i64 0, Value.int IntKind.i64 0, Value.int IntKind.i64 0, Value.int IntKind.i64 0, Value.int IntKind.i64 0, Value.int IntKind.i64 0, Value.int IntKind.i64 0, Value.int IntKind.i64 0, Value.int IntKind.i64 0, Value.int IntKind.i64 0, Value.int IntKind.i64 0, Value.int IntKind.i64 0, Value.int IntKind.i64 0, Value.int IntKind.i64 0, Value.int IntKind.i64 0, Value.int IntKind.i64 0, Value.int IntKind.i64 0, Value.int IntKind.i64 0, Value.int IntKind.i64 0, Value.int IntKind.i64 0, Value.int IntKind.i64 0, Value.int IntKind.i64 0, Value.int IntKind.i64 0, Value.int IntKind.i64 0, Value.int IntKind.i64 0, Value.int IntKind.i64 0, Value.int IntKind.i64 0, Value.int IntKind.i64 0, Value.int IntKind.i64 0, Value.int IntKind.i64 0, Value.int IntKind.i64 0, Value.int IntKind.i64 0, Value.int IntKind.i64 0, Value.int IntKind.i64 0, Value.int IntKind.i64 0, Value.int IntKind.i64 0, Value.int IntKind.i64 0, Value.int IntKind.i64 0, Value.int IntKind.i64 0].set c (.int .i64 1)).toArray 111)).heap.size = w.heap.size + 1 + 1 + 1 + 1 := by simp only [World.size_alloc]
  clear h hB
  go_enter Tryz.func167, Tryz.ntmps167
  go_wp2_with fail
  obtain ⟨w4, hw4⟩ : ∃ w4, ((((w.alloc (.cells #[.slice p0 n c0, .slice (some ⟨bp, op, none⟩) m c1] 27)).alloc (.cells #[Value.int IntKind.i64 0, Value.int IntKind.i64 0, Value.int IntKind.i64 0, Value.int IntKind.i64 0, Value.int IntKind.i64 0, Value.int IntKind.i64 0, Value.int IntKind.i64 0, Value.int IntKind.i64 0, Value.int IntKind.i64 0, Value.int IntKind.i64 0, Value.int IntKind.i64 0, Value.int IntKind.i64 0, Value.int IntKind.i64 0, Value.int IntKind.i64 0, Value.int IntKind.i64 0, Value.int IntKind.i64 0, Value.int IntKind.i64 0, Value.int IntKind.i64 0, Value.int IntKind.i64 0, Value.int IntKind.i64 0, Value.int IntKind.i64 0, Value.int IntKind.i64 0, Value.int IntKind.i64 0, Value.int IntKind.i64 0, Value.int IntKind.i64 0, Value.int IntKind.i64 0, Value.int IntKind.i64 0, Value.int IntKind.i64 0, Value.int IntKind.i64 0, Value.int IntKind.i64 0, Value.int IntKind.i64 0, Value.int IntKind.i64 0, Value.int IntKind.i64 0, Value.int IntKind.i64 0, Value.int IntKind.i64 0, Value.int IntKind.i64 0, Value.int IntKind.i64 0, Value.int IntKind.i64 0, Value.int IntKind.i64 0, Value.int IntKind.i64 0] 111)).alloc (.cells #[.int .i64 (P c).f, .int .i64 (P c).t, .int .i64 (P c).k, .int .i64 (P c).v, .int .i64 (P c).l] 121)).alloc (.cells ([Value.int IntKind.i64 0, Value.int IntKind.i64 0, Value.int IntKind.i64 0, Value.int IntKind.i64 0, Value.int IntKind.i64 0, Value.int IntKind.i64 0, Value.int IntKind.i64 0, Value.int IntKind.i64 0, Value.int IntKind.i64 0, Value.int IntKind.i64 0, Value.int IntKind.i64 0, Value.int IntKind.i64 0, Value.int IntKind.i64 0, Value.int IntKind.i64 0, Value.int IntKind.i64 0, Value.int IntKind.i64 0, Value.int IntKind.i64 0, Value.int IntKind.i64 0, Value.int IntKind.i64 0, Value.int IntKind.i64 0, Value.int IntKind.i64 0, Value.int IntKind.i64 0, Value.int IntKind.i64 0, Value.int IntKind.i64 0, Value.int IntKind.i64 0, Value.int IntKind.i64 0, Value.int IntKind.i64 0, Value.int IntKind.i64 0, Value.int IntKind.i64 0, Value.int IntKind.i64 0, Value.int IntKind.i64 0, Value.int IntKind.i64 0, Value.int IntKind.i64 0, Value.int IntKind.i64 0, Value.int IntKind.i64 0, Value.int IntKind.i64 0, Value.int IntKind.i64 0, Value.int IntKind.i64 0, Value.int IntKind.i64 0, Value.int IntKind.i64 0].set c (.int .i64 1)).toArray 111)) = w4 := ⟨_, rfl⟩
  rw [hw4] at A4 R4 P4 C4' B4 hs4 ⊢
  clear hw4 e0 e1 r0 r1 r2 r3 r4 B1 A1 R1
  have f0 := A4.b0
  have f1 := A4.b1
  have f2 : w4.cell? ⟨w.heap.size + 1 + 1, 0, none⟩ = some (.int .i64 (P c).f) := P4.cell 0 (by omega)
  have f3 : w4.cell? ⟨w.heap.size + 1 + 1, 1, none⟩ = some (.int .i64 (P c).t) := P4.cell 1 (by omega)
  have KS : ∀ W', Below w4.heap.size w4 W' → (Below w4.heap.size w4 W' ∧ W'.cell? ⟨w.heap.size, 0, none⟩ = some (.slice p0 n c0) ∧ W'.cell? ⟨w.heap.size, 1, none⟩ = some (.slice (some ⟨bp, op, none⟩) m c1) ∧ W'.cell? ⟨w.heap.size + 1 + 1, 0, none⟩ = some (.int .i64 (P c).f) ∧ W'.cell? ⟨w.heap.size + 1 + 1, 1, none⟩ = some (.int .i64 (P c).t)) := fun W' h => ⟨h, (h.cell (p := ⟨w.heap.size, 0, none⟩) (by show w.heap.size < _; omega)).trans f0, (h.cell (p := ⟨w.heap.size, 1, none⟩) (by show w.heap.size < _; omega)).trans f1, (h.cell (p := ⟨w.heap.size + 1 + 1, 0, none⟩) (by show w.heap.size + 1 + 1 < _; omega)).trans f2, (h.cell (p := ⟨w.heap.size + 1 + 1, 1, none⟩) (by show w.heap.size + 1 + 1 < _; omega)).trans f3⟩
  have HA := Lib.hid A4
  have HR := Lib.hid R4
  have HC := Lib.hid C4'
  have HBB := Lib.hid B4
  clear A4 R4 P4 C4' B4
  obtain ⟨Lt, hLt, eLt⟩ : ∃ L : List Value, arr (asc P (fE n P m) (fD n P m) (P c).t) = List.toArray L ∧ L = arrL (asc P (fE n P m) (fD n P m) (P c).t) := ⟨_, rfl, rfl⟩
  obtain ⟨Lf, hLf, eLf⟩ : ∃ L : List Value, arr (asc P (fE n P m) (fD n P m) (P c).f) = List.toArray L ∧ L = arrL (asc P (fE n P m) (fD n P m) (P c).f) := ⟨_, rfl, rfl⟩
  have nLt : Lt.length = 40 := by rw [eLt, arr_len]
  have nLf : Lf.length = 40 := by rw [eLf, arr_len]
  have oLt : ∀ v ∈ Lt, v.oneCell' = true := by rw [eLt]; exact arr_oneL _
  have oLf : ∀ v ∈ Lf, v.oneCell' = true := by rw [eLf]; exact arr_oneL _
  have HLt := Lib.hid (And.intro hLt eLt)
  have HLf := Lib.hid (And.intro hLf eLf)
  clear hLt eLt hLf eLf
  go_cut [7, 8] from 16 to 23 (fun s7 s8 wx => ∃ b7 b8 : Nat, s7 = .pointer (some ⟨b7, 0, none⟩) ∧ s8 = .pointer (some ⟨b8, 0, none⟩) ∧ wx.rangeAt b7 0 Lt ∧ wx.rangeAt b8 0 Lf ∧ w4.heap.size ≤ b7 ∧ w4.heap.size ≤ b8 ∧ Below w4.heap.size w4 wx)
  case first =>
    have T1 : ∀ W : World, (W.alloc (.cells #[Value.int IntKind.i64 0, Value.int IntKind.i64 0, Value.int IntKind.i64 0, Value.int IntKind.i64 0, Value.int IntKind.i64 0, Value.int IntKind.i64 0, Value.int IntKind.i64 0, Value.int IntKind.i64 0, Value.int IntKind.i64 0, Value.int IntKind.i64 0, Value.int IntKind.i64 0, Value.int IntKind.i64 0, Value.int IntKind.i64 0, Value.int IntKind.i64 0, Value.int IntKind.i64 0, Value.int IntKind.i64 0, Value.int IntKind.i64 0, Value.int IntKind.i64 0, Value.int IntKind.i64 0, Value.int IntKind.i64 0, Value.int IntKind.i64 0, Value.int IntKind.i64 0, Value.int IntKind.i64 0, Value.int IntKind.i64 0, Value.int IntKind.i64 0, Value.int IntKind.i64 0, Value.int IntKind.i64 0, Value.int IntKind.i64 0, Value.int IntKind.i64 0, Value.int IntKind.i64 0, Value.int IntKind.i64 0, Value.int IntKind.i64 0, Value.int IntKind.i64 0, Value.int IntKind.i64 0, Value.int IntKind.i64 0, Value.int IntKind.i64 0, Value.int IntKind.i64 0, Value.int IntKind.i64 0, Value.int IntKind.i64 0, Value.int IntKind.i64 0] 111)).there W.heap.size 0 40 := fun W => (Ob.new0 W _).there
    have T2 : ∀ (W : World) (o : Obj), ((W.alloc o).alloc (.cells #[Value.int IntKind.i64 0, Value.int IntKind.i64 0, Value.int IntKind.i64 0, Value.int IntKind.i64 0, Value.int IntKind.i64 0, Value.int IntKind.i64 0, Value.int IntKind.i64 0, Value.int IntKind.i64 0, Value.int IntKind.i64 0, Value.int IntKind.i64 0, Value.int IntKind.i64 0, Value.int IntKind.i64 0, Value.int IntKind.i64 0, Value.int IntKind.i64 0, Value.int IntKind.i64 0, Value.int IntKind.i64 0, Value.int IntKind.i64 0, Value.int IntKind.i64 0, Value.int IntKind.i64 0, Value.int IntKind.i64 0, Value.int IntKind.i64 0, Value.int IntKind.i64 0, Value.int IntKind.i64 0, Value.int IntKind.i64 0, Value.int IntKind.i64 0, Value.int IntKind.i64 0, Value.int IntKind.i64 0, Value.int IntKind.i64 0, Value.int IntKind.i64 0, Value.int IntKind.i64 0, Value.int IntKind.i64 0, Value.int IntKind.i64 0, Value.int IntKind.i64 0, Value.int IntKind.i64 0, Value.int IntKind.i64 0, Value.int IntKind.i64 0, Value.int IntKind.i64 0, Value.int IntKind.i64 0, Value.int IntKind.i64 0, Value.int IntKind.i64 0] 111)).there (W.heap.size + 1) 0 40 := fun W o => by have := T1 (W.alloc o); rwa [World.size_alloc] at this
    have T3 : ∀ (W : World) (o : Obj) (b : Nat), W.there b 0 40 → (W.alloc o).there b 0 40 := fun W o b h => there_block h (Below.heap_alloc _ _ _ (there_lt h))
    have T4 : ∀ (W : World) (b b' : Nat) (cs : List Value), W.there b 0 40 → (W.setCells b' 0 cs).there b 0 40 := fun W b b' cs h => World.there_setCells h _ _ _
    have FI := flow_info
    have hs5 : w.heap.size + 4 ≤ w4.heap.size := by omega
    have hs6 : w4.heap.size ≤ w.heap.size + 4 := by omega
    clear hs4
    have hle4 : w.heap.size ≤ w4.heap.size := by omega
    have hhi4 : hi ≤ w4.heap.size := by omega
    go_region_held3 (fun w' : World => Below w4.heap.size w4 w' ∧ w'.cell? ⟨w.heap.size, 0, none⟩ = some (.slice p0 n c0) ∧ w'.cell? ⟨w.heap.size, 1, none⟩ = some (.slice (some ⟨bp, op, none⟩) m c1) ∧ w'.cell? ⟨w.heap.size + 1 + 1, 0, none⟩ = some (.int .i64 (P c).f) ∧ w'.cell? ⟨w.heap.size + 1 + 1, 1, none⟩ = some (.int .i64 (P c).t))
      (first | with_reducible exact KS _ (below_sc (by assumption : Below w4.heap.size w4 _ ∧ _).1 (by omega)) | with_reducible exact KS _ (below_alloc (by assumption : Below w4.heap.size w4 _ ∧ _).1 (by assumption : Below w4.heap.size w4 _ ∧ _).1.size _) | with_reducible exact KS _ SB | with_reducible exact KS _ SA | with_reducible exact KS _ (below_drw (Below.refl _ _)) | with_reducible exact KS _ (Below.refl _ _) | with_reducible exact KS _ (below_drw (below_alloc (Below.refl _ _) (Nat.le_refl _) _)) | with_reducible exact KS _ (below_drw (below_alloc (below_alloc (Below.refl _ _) (Nat.le_refl _) _) (by simp only [World.size_alloc]; omega) _)))
      (first
        | (go_at_call_of 166 (Value.int IntKind.i64 (P c).t); refine (ascentFrom_any _ _ n N m P lo hi (HV.out.below (HBB.out.trans ((by assumption : Below w4.heap.size w4 _ ∧ _).1.mono hle4)) hhi) (Nat.le_trans hhi4 (by assumption : Below w4.heap.size w4 _ ∧ _).1.size) HB.out (P c).t hpt).mono ?_; rintro e wA ⟨rfl, hbA⟩; rw [HLt.out.1]; have SA : Below w4.heap.size w4 wA := Below.trans (by assumption : Below w4.heap.size w4 _ ∧ _).1 (hbA.mono (by assumption : Below w4.heap.size w4 _ ∧ _).1.size); have TA := fun b (h : World.there _ b 0 40) => there_block h (hbA.block b (there_lt h)); have zA := SA.size; have yA := hbA.size; (try simp only [drew_size, World.size_alloc] at yA); (try have tA1 := TA _ (T1 w4)); (try have tA1 := TA _ (T3 _ (.cells #[Value.int IntKind.i64 0, Value.int IntKind.i64 0, Value.int IntKind.i64 0, Value.int IntKind.i64 0, Value.int IntKind.i64 0, Value.int IntKind.i64 0, Value.int IntKind.i64 0, Value.int IntKind.i64 0, Value.int IntKind.i64 0, Value.int IntKind.i64 0, Value.int IntKind.i64 0, Value.int IntKind.i64 0, Value.int IntKind.i64 0, Value.int IntKind.i64 0, Value.int IntKind.i64 0, Value.int IntKind.i64 0, Value.int IntKind.i64 0, Value.int IntKind.i64 0, Value.int IntKind.i64 0, Value.int IntKind.i64 0, Value.int IntKind.i64 0, Value.int IntKind.i64 0, Value.int IntKind.i64 0, Value.int IntKind.i64 0, Value.int IntKind.i64 0, Value.int IntKind.i64 0, Value.int IntKind.i64 0, Value.int IntKind.i64 0, Value.int IntKind.i64 0, Value.int IntKind.i64 0, Value.int IntKind.i64 0, Value.int IntKind.i64 0, Value.int IntKind.i64 0, Value.int IntKind.i64 0, Value.int IntKind.i64 0, Value.int IntKind.i64 0, Value.int IntKind.i64 0, Value.int IntKind.i64 0, Value.int IntKind.i64 0, Value.int IntKind.i64 0] 111) _ (T1 w4))); (try have tA2 := TA _ (T2 w4 (.cells #[Value.int IntKind.i64 0, Value.int IntKind.i64 0, Value.int IntKind.i64 0, Value.int IntKind.i64 0, Value.int IntKind.i64 0, Value.int IntKind.i64 0, Value.int IntKind.i64 0, Value.int IntKind.i64 0, Value.int IntKind.i64 0, Value.int IntKind.i64 0, Value.int IntKind.i64 0, Value.int IntKind.i64 0, Value.int IntKind.i64 0, Value.int IntKind.i64 0, Value.int IntKind.i64 0, Value.int IntKind.i64 0, Value.int IntKind.i64 0, Value.int IntKind.i64 0, Value.int IntKind.i64 0, Value.int IntKind.i64 0, Value.int IntKind.i64 0, Value.int IntKind.i64 0, Value.int IntKind.i64 0, Value.int IntKind.i64 0, Value.int IntKind.i64 0, Value.int IntKind.i64 0, Value.int IntKind.i64 0, Value.int IntKind.i64 0, Value.int IntKind.i64 0, Value.int IntKind.i64 0, Value.int IntKind.i64 0, Value.int IntKind.i64 0, Value.int IntKind.i64 0, Value.int IntKind.i64 0, Value.int IntKind.i64 0, Value.int IntKind.i64 0, Value.int IntKind.i64 0, Value.int IntKind.i64 0, Value.int IntKind.i64 0, Value.int IntKind.i64 0] 111))))
        | (go_at_call_of 166 (Value.int IntKind.i64 (P c).f); refine (ascentFrom_any _ _ n N m P lo hi (HV.out.below (HBB.out.trans ((by assumption : Below w4.heap.size w4 _ ∧ _).1.mono hle4)) hhi) (Nat.le_trans hhi4 (by assumption : Below w4.heap.size w4 _ ∧ _).1.size) HB.out (P c).f hpf).mono ?_; rintro e wB ⟨rfl, hbB⟩; rw [HLf.out.1]; have SB : Below w4.heap.size w4 wB := Below.trans (by assumption : Below w4.heap.size w4 _ ∧ _).1 (hbB.mono (by assumption : Below w4.heap.size w4 _ ∧ _).1.size); have TB := fun b (h : World.there _ b 0 40) => there_block h (hbB.block b (there_lt h)); have zB := SB.size; have yB := hbB.size; (try simp only [World.size_alloc] at yB); (try have tB1 := TB _ (T1 wA)); (try have tB1 := TB _ (T3 _ (.cells #[Value.int IntKind.i64 0, Value.int IntKind.i64 0, Value.int IntKind.i64 0, Value.int IntKind.i64 0, Value.int IntKind.i64 0, Value.int IntKind.i64 0, Value.int IntKind.i64 0, Value.int IntKind.i64 0, Value.int IntKind.i64 0, Value.int IntKind.i64 0, Value.int IntKind.i64 0, Value.int IntKind.i64 0, Value.int IntKind.i64 0, Value.int IntKind.i64 0, Value.int IntKind.i64 0, Value.int IntKind.i64 0, Value.int IntKind.i64 0, Value.int IntKind.i64 0, Value.int IntKind.i64 0, Value.int IntKind.i64 0, Value.int IntKind.i64 0, Value.int IntKind.i64 0, Value.int IntKind.i64 0, Value.int IntKind.i64 0, Value.int IntKind.i64 0, Value.int IntKind.i64 0, Value.int IntKind.i64 0, Value.int IntKind.i64 0, Value.int IntKind.i64 0, Value.int IntKind.i64 0, Value.int IntKind.i64 0, Value.int IntKind.i64 0, Value.int IntKind.i64 0, Value.int IntKind.i64 0, Value.int IntKind.i64 0, Value.int IntKind.i64 0, Value.int IntKind.i64 0, Value.int IntKind.i64 0, Value.int IntKind.i64 0, Value.int IntKind.i64 0] 111) _ (T1 wA))); (try have tB2 := TB _ (T2 wA (.cells #[Value.int IntKind.i64 0, Value.int IntKind.i64 0, Value.int IntKind.i64 0, Value.int IntKind.i64 0, Value.int IntKind.i64 0, Value.int IntKind.i64 0, Value.int IntKind.i64 0, Value.int IntKind.i64 0, Value.int IntKind.i64 0, Value.int IntKind.i64 0, Value.int IntKind.i64 0, Value.int IntKind.i64 0, Value.int IntKind.i64 0, Value.int IntKind.i64 0, Value.int IntKind.i64 0, Value.int IntKind.i64 0, Value.int IntKind.i64 0, Value.int IntKind.i64 0, Value.int IntKind.i64 0, Value.int IntKind.i64 0, Value.int IntKind.i64 0, Value.int IntKind.i64 0, Value.int IntKind.i64 0, Value.int IntKind.i64 0, Value.int IntKind.i64 0, Value.int IntKind.i64 0, Value.int IntKind.i64 0, Value.int IntKind.i64 0, Value.int IntKind.i64 0, Value.int IntKind.i64 0, Value.int IntKind.i64 0, Value.int IntKind.i64 0, Value.int IntKind.i64 0, Value.int IntKind.i64 0, Value.int IntKind.i64 0, Value.int IntKind.i64 0, Value.int IntKind.i64 0, Value.int IntKind.i64 0, Value.int IntKind.i64 0, Value.int IntKind.i64 0] 111))); (try have tC1 := TB _ tA1); (try have tC1 := TB _ (T3 _ (.cells #[Value.int IntKind.i64 0, Value.int IntKind.i64 0, Value.int IntKind.i64 0, Value.int IntKind.i64 0, Value.int IntKind.i64 0, Value.int IntKind.i64 0, Value.int IntKind.i64 0, Value.int IntKind.i64 0, Value.int IntKind.i64 0, Value.int IntKind.i64 0, Value.int IntKind.i64 0, Value.int IntKind.i64 0, Value.int IntKind.i64 0, Value.int IntKind.i64 0, Value.int IntKind.i64 0, Value.int IntKind.i64 0, Value.int IntKind.i64 0, Value.int IntKind.i64 0, Value.int IntKind.i64 0, Value.int IntKind.i64 0, Value.int IntKind.i64 0, Value.int IntKind.i64 0, Value.int IntKind.i64 0, Value.int IntKind.i64 0, Value.int IntKind.i64 0, Value.int IntKind.i64 0, Value.int IntKind.i64 0, Value.int IntKind.i64 0, Value.int IntKind.i64 0, Value.int IntKind.i64 0, Value.int IntKind.i64 0, Value.int IntKind.i64 0, Value.int IntKind.i64 0, Value.int IntKind.i64 0, Value.int IntKind.i64 0, Value.int IntKind.i64 0, Value.int IntKind.i64 0, Value.int IntKind.i64 0, Value.int IntKind.i64 0, Value.int IntKind.i64 0] 111) _ tA1)); (try have tC2 := TB _ tA2)))
    all_goals
      go_wp2_with fail
      go_meet
      refine ⟨_, _, rfl, rfl, World.rangeAt_setCells_apart (World.rangeAt_setCells_same _ _ _ _ ?_) _ _ _ (.inl (by omega)), World.rangeAt_setCells_same _ _ _ _ ?_, by omega, by omega, (by assumption : Below w4.heap.size w4 _ ∧ _).1⟩
      · rw [nLt]; (repeat first | exact T1 _ | exact T2 _ _ | assumption | with_reducible apply T3 | with_reducible apply T4)
      · rw [nLf]; (repeat first | exact T1 _ | exact T2 _ _ | assumption | with_reducible apply T3 | with_reducible apply T4)
  case rest =>
    obtain ⟨b7, b8, rfl, rfl, g7, g8, l7, l8, hb⟩ := hcut
    have zc := hb.size
    have HR5 := HR.out.below hb (by omega)
    have HC5 := HC.out.below hb (by omega)
    have HB5 := Lib.hid (HBB.out.trans (hb.mono (by omega)))
    obtain ⟨Lc, hLc, eLc⟩ : ∃ L : List Value, arr (one1 c) = List.toArray L ∧ L = arrL (one1 c) := ⟨_, rfl, rfl⟩
    have nLc : Lc.length = 40 := by rw [eLc, arr_len]
    have g6 : wc.rangeAt (w.heap.size + 1 + 1 + 1) 0 Lc := by rw [eLc]; exact HC5.range
    have g4 := HR5.there
    have HR4 := Lib.hid HR5
    obtain ⟨Lz, hLz, eLz⟩ : ∃ L : List Value, arr (fun k => (one1 c k + asc P (fE n P m) (fD n P m) (P c).t k) + asc P (fE n P m) (fD n P m) (P c).f k * (-1)) = List.toArray L ∧ L = arrL (fun k => (one1 c k + asc P (fE n P m) (fD n P m) (P c).t k) + asc P (fE n P m) (fD n P m) (P c).f k * (-1)) := ⟨_, rfl, rfl⟩
    have nLz : Lz.length = 40 := by rw [eLz, arr_len]
    have oLz : ∀ v ∈ Lz, v.oneCell' = true := by rw [eLz]; exact arr_oneL _
    have HLc := Lib.hid hLc
    have HLz := Lib.hid hLz
    have HEz := Lib.hid eLz
    clear hLc eLc hLz eLz HR5 HC5 KS f0 f1 f2 f3 hb
    have l6 : w.heap.size + 1 + 1 + 1 < wc.heap.size := by omega
    have l4 : w.heap.size + 1 < wc.heap.size := by omega
    have n6 : w.heap.size + 1 + 1 + 1 ≠ w.heap.size + 1 := by omega
    have n7 : b7 ≠ w.heap.size + 1 := by omega
    have n8 : b8 ≠ w.heap.size + 1 := by omega
    have i7 : b7 < wc.heap.size := rangeAt_lt g7 (by omega)
    have i8 : b8 < wc.heap.size := rangeAt_lt g8 (by omega)
    clear hs4
    have FI := flow_info
    have UI := Tryz.underlying111
    have H1 := Lib.hid (show ∀ k, k < 40 → (-1 ≤ one1 c k ∧ one1 c k ≤ 1) ∧ (-1 ≤ asc P (fE n P m) (fD n P m) (P c).t k ∧ asc P (fE n P m) (fD n P m) (P c).t k ≤ 1) ∧ (-1 ≤ asc P (fE n P m) (fD n P m) (P c).f k ∧ asc P (fE n P m) (fD n P m) (P c).f k ≤ 1) from fun k _ => ⟨by unfold one1; split <;> omega, HFO.out.asc_rng hpt k, HFO.out.asc_rng hpf k⟩)
    go_wp2_with fail
    refine wp_region_noPanic ?_
    refine wp_region_held_drew (S := fun w' : World => w'.rangeAt (w.heap.size + 1 + 1 + 1) 0 Lc ∧ w'.rangeAt b7 0 Lt ∧ w'.rangeAt b8 0 Lf ∧ w'.there (w.heap.size + 1) 0 40) (by kernel_rfl) ⟨range_block g6 rfl, range_block g7 rfl, range_block g8 rfl, there_block g4 rfl⟩ (fun s0 => ?_)
    refine wpAnyH_take (i := 0) (v := .agg (List.toArray Lc)) rfl (by kernel_rfl) (by kernel_rfl) (by kernel_rfl) (fun _ _ _ h => h) (yieldsIf_load_mid (by rfl) _ _ rfl _ _ rfl _ _ (fun _ h => h.1) UI rfl (by rw [nLc]; exact FI)) s0 ?_
    try simp only [Act.put, List.setIfInBounds_toArray]
    refine wpAnyH_take (i := 1) (v := .agg (List.toArray Lt)) rfl (by kernel_rfl) (by kernel_rfl) (by kernel_rfl) (fun _ _ _ h => h) (yieldsIf_load_mid (by rfl) _ _ rfl _ _ rfl _ _ (fun _ h => h.2.1) UI rfl (by rw [nLt]; exact FI)) s0 ?_
    try simp only [Act.put]
    refine wpAnyH_take (i := 3) (v := .agg (List.toArray Lf)) rfl (by kernel_rfl) (by kernel_rfl) (by kernel_rfl) (fun _ _ _ h => h) (yieldsIf_load_mid (by rfl) _ _ rfl _ _ rfl _ _ (fun _ h => h.2.2.1) UI rfl (by rw [nLf]; exact FI)) s0 ?_
    try simp only [Act.put]
    refine wpAnyH_ready (rs := [2]) (by kernel_rfl) (by simp) (AllReadyH.cons rfl (fun K hK => ?_) AllReadyH.nil)
    clear s0
    go_simp
    rw [← HLc.out, ← HLt.out.1]
    refine (plus_any _ _ _ _ (fun k hk => by have := H1.out k hk; omega) (fun k hk => by have := H1.out k hk; omega)).mono ?_
    rintro e wX ⟨rfl, hbX⟩
    have hbX' := below_dr0 hbX
    have SX : wX.rangeAt (w.heap.size + 1 + 1 + 1) 0 Lc ∧ wX.rangeAt b7 0 Lt ∧ wX.rangeAt b8 0 Lf ∧ wX.there (w.heap.size + 1) 0 40 := ⟨range_block g6 (hbX'.block _ l6), range_block g7 (hbX'.block _ i7), range_block g8 (hbX'.block _ i8), there_block g4 (hbX'.block _ l4)⟩
    have zX := hbX'.size
    refine hK.out _ _ SX (fun s2 => ?_)
    clear hK K s2
    try simp only [Act.put, List.setIfInBounds_toArray]
    refine wpAnyH_ready (rs := [4]) (by kernel_rfl) (by simp) (AllReadyH.cons rfl (fun K hK => ?_) AllReadyH.nil)
    go_simp
    rw [← HLf.out.1]
    refine (plus_any _ _ _ _ (fun k hk => by have := H1.out k hk; omega) (fun k hk => by have := H1.out k hk; omega)).mono ?_
    rintro e wY ⟨rfl, hbY⟩
    rw [HLz.out]
    have SY : wY.rangeAt (w.heap.size + 1 + 1 + 1) 0 Lc ∧ wY.rangeAt b7 0 Lt ∧ wY.rangeAt b8 0 Lf ∧ wY.there (w.heap.size + 1) 0 40 := ⟨range_block SX.1 (hbY.block _ (by omega)), range_block SX.2.1 (hbY.block _ (by omega)), range_block SX.2.2.1 (hbY.block _ (by omega)), there_block SX.2.2.2 (hbY.block _ (by omega))⟩
    refine hK.out _ _ SY (fun s4 => ?_)
    clear hK K s4
    try simp only [Act.put, List.setIfInBounds_toArray]
    refine wpAnyH_ready (rs := [5]) (by kernel_rfl) (by simp) (AllReadyH.cons rfl (fun K hK => ?_) AllReadyH.nil)
    rw [if_pos (by rfl)]
    refine wp_store_mid _ _ _ rfl _ _ (List.toArray Lz) rfl rfl (by show wY.there (w.heap.size + 1) 0 Lz.length; rw [nLz]; exact SY.2.2.2) (by show _ = some Lz.length; rw [nLz]; exact FI) (all_oneCell_toArray oLz) ?_
    simp only [Act.put, List.setIfInBounds_toArray]
    refine hK.out _ _ ⟨World.rangeAt_setCells_apart SY.1 _ _ _ (.inl n6), World.rangeAt_setCells_apart SY.2.1 _ _ _ (.inl n7), World.rangeAt_setCells_apart SY.2.2.1 _ _ _ (.inl n8), World.there_setCells SY.2.2.2 _ _ _⟩ (fun s5 => ?_)
    refine wpAnyH_done (by kernel_rfl) ?_ _
    refine NoPanic.normal ?_
    have o4 := (HR4.out.below hbX' l4).below hbY (by omega)
    have o5 := o4.setArr (fun k => (one1 c k + asc P (fE n P m) (fD n P m) (P c).t k) + asc P (fE n P m) (fD n P m) (P c).f k * (-1))
    rw [← HEz.out] at o5
    have hb6 := (hbX'.mono (show w.heap.size ≤ wc.heap.size by omega)).trans (hbY.mono (by omega))
    go_wp2_with fail
    refine bodyPost_ret (results_arr rfl rfl o5) rfl ⟨?_, (HB5.out.trans hb6).trans (((Only.refl (w.heap.size + 1) wY).setCs Lz 0).below (by omega))⟩
    rw [arr_congr (y := cyc P (fE n P m) (fD n P m) c) (fun k _ => by unfold cyc; omega)]
end Go.Proofs.YtdbgcbkmcbgdiaaGreat.mem

namespace Go.Proofs.YtdbgcbkmcbgdiaaGreat.mem
open Go.RowKit
set_option linter.unusedVariables false

theorem info_flow : (Tryz.prog.info? 111).map (fun i => (i.zero, i.size, i.bytes)) = some (some (.agg (arr fun _ => 0)), 40, 320) := by kernel_rfl
/-- a slice literal of one array -/
theorem wpList_bsF {ops : Array Oper} {rest : List Oper} {o : Oper} {a : Act} {w : World} {Q : Exit → Act → World → Prop} (hg : o.guard = none) (x : Operand) (ho : o.op = .buildSlice 153 1 #[(0, x)]) (L : List Value) (hx : a.eval x = .agg L.toArray) (hL : L.length = 40)
    (h : wpList Tryz.prog ops Q rest (a.put o.dst (.slice (some ⟨w.heap.size, 0, none⟩) 1 1)) (w.alloc (.cells L.toArray 111))) : wpList Tryz.prog ops Q (o :: rest) a w := by
  obtain ⟨i0, hi0, hz0, hz1, hz2⟩ := info_parts info_flow
  refine wpList_buildSlice hg 153 111 1 _ ho L.toArray i0 _ Tryz.underlying153 hi0 hz0 (by rw [hz1]; decide) (by rw [hz1]; decide) ?_ h
  rw [hz1]
  have e := Great.fill_whole (s := 40) (by omega) [Value.agg L.toArray] ((Array.range (1 * 40)).map ((Value.agg (arr fun _ => 0)).cells[· % (Value.agg (arr fun _ => 0)).cells.size]!)) (fun v hv => by
    obtain rfl := List.mem_singleton.1 hv
    show L.toArray.size = 40
    rw [List.size_toArray, hL]) (by simp)
  have e2 : ((#[(0, x)] : Array (Nat × Operand)).map fun (i, x) => (i, a.eval x)).toList = ([Value.agg L.toArray].zipIdx 0).map fun x => (x.2, x.1) := by
    simp [hx]
  rw [e2, e]
  have e3 : ([Value.agg L.toArray].flatMap fun v => v.cells.toList) = L := by
    show L.toArray.toList ++ [] = L
    simp
  rw [e3]
theorem ownS_shC {w : World} {v : Value} {n z b : Nat} {c : Nat → Nat → Value} (h : OwnS w v n z c b) : ∃ p cap, v = .slice p n cap := by
  obtain ⟨p, cap, h1, _⟩ := h.ex
  exact ⟨p, cap, h1⟩
theorem wpList_ldF {ops : Array Oper} {rest : List Oper} {o : Oper} {a : Act} {w : World} {Q : Exit → Act → World → Prop} (hg : o.guard = none) (x : Operand) (ho : o.op = .load 111 x) (b off : Nat) (L : List Value) (hx : a.eval x = .pointer (some ⟨b, off, none⟩)) (hL : L.length = 40) (hc : w.rangeAt b off L)
    (h : wpList Tryz.prog ops Q rest (a.put o.dst (.agg L.toArray)) w) : wpList Tryz.prog ops Q (o :: rest) a w :=
  wpList_load_mid hg 111 x ho b off hx L _ hc Tryz.underlying111 rfl (by rw [hL]; exact flow_info) h
theorem wpList_stF {ops : Array Oper} {rest : List Oper} {o : Oper} {a : Act} {w : World} {Q : Exit → Act → World → Prop} (hg : o.guard = none) (x y : Operand) (ho : o.op = .store 111 x y) (b : Nat) (L : List Value) (hx : a.eval x = .pointer (some ⟨b, 0, none⟩)) (hy : a.eval y = .agg L.toArray) (hL : L.length = 40) (h1 : ∀ v ∈ L, v.oneCell' = true) (ht : w.there b 0 40)
    (h : wpList Tryz.prog ops Q rest (a.put o.dst undef) (w.setCells b 0 L)) : wpList Tryz.prog ops Q (o :: rest) a w :=
  wpList_store_mid hg 111 x y ho b 0 L.toArray hx hy (by rw [List.size_toArray, hL]; exact ht) (by rw [List.size_toArray, hL]; exact flow_info) (all_oneCell_toArray h1) h
theorem run_ixF (w : World) (g n c i : Nat) (hi : i < n) : (Instr.indexAt 153 (.slice (some ⟨g, 0, none⟩) n c) (.int .i64 (i : Nat))).run Tryz.prog w = .ok (.pointer (some ⟨g, i * 40, none⟩)) w := by
  obtain ⟨i0, hi0, hz0, hz1, hz2⟩ := info_parts info_flow
  have h0 : (0 : Int) ≤ (i : Int) := Int.natCast_nonneg _
  have h1 : (i : Int) < (n : Int) := by omega
  simp [Instr.indexAt, run_underlying Tryz.underlying153, asIntOf, sizeOf, typeInfo, hi0, hz1, Addr.add]
  rw [if_pos hi]
  by_cases e : i * 40 = 0
  · rw [if_pos e, e]
  · rw [if_neg e]
/-- the address of an element of a slice of arrays -/
theorem wpList_ixF {ops : Array Oper} {rest : List Oper} {o : Oper} {a : Act} {w : World} {Q : Exit → Act → World → Prop} (hg : o.guard = none) (x y : Operand) (ho : o.op = .indexAddr 153 x y) (g n c i : Nat) (hx : a.eval x = .slice (some ⟨g, 0, none⟩) n c) (hy : a.eval y = .int .i64 (i : Nat)) (hi : i < n)
    (h : wpList Tryz.prog ops Q rest (a.put o.dst (.pointer (some ⟨g, i * 40, none⟩))) w) : wpList Tryz.prog ops Q (o :: rest) a w := by
  refine wpList_plain hg fun K hK => ?_
  unfold Oper.wp execOp
  simp only [ho, Sem.run_bind, hx, hy, run_ixF w g n c i hi, Result.andThen_ok]
  exact hK _ _ h
theorem run_allocF (w : World) : (Instr.alloc 111 true (.tuple #[])).run Tryz.prog w = .ok (.pointer (some ⟨w.heap.size, 0, none⟩)) (w.alloc (.cells (arr fun _ => 0) 111)) := by
  obtain ⟨i0, hi0, hz0, hz1, hz2⟩ := info_parts info_flow
  simp [Instr.alloc, zeroValue, typeInfo, hi0, hz0, newVar, newRow, Value.cells]
/-- an array of zeros -/
theorem wpList_allocF {ops : Array Oper} {rest : List Oper} {o : Oper} {a : Act} {w : World} {Q : Exit → Act → World → Prop} (hg : o.guard = none) (ho : o.op = .alloc 111)
    (h : wpList Tryz.prog ops Q rest (a.put o.dst (.pointer (some ⟨w.heap.size, 0, none⟩))) (w.alloc (.cells (arr fun _ => 0) 111))) : wpList Tryz.prog ops Q (o :: rest) a w := by
  refine wpList_plain hg fun K hK => ?_
  unfold Oper.wp execOp
  simp only [ho, Sem.run_bind, run_allocF, Result.andThen_ok]
  exact hK _ _ h
theorem row_ownF {B z : Nat} {w : World} {v u : Value} {K n g : Nat} {c : Nat → Nat → Value} {d : Nat → Int} (h : RowE B 111 z w v K c) (o : Own w u n d g) : v.ownBlock ≠ some g := by
  intro hk
  rcases h.own.2 with ⟨rfl, _⟩ | ⟨q, cap, cur, rfl, _, h3, _⟩
  · simp [Value.ownBlock] at hk
  obtain ⟨cap', cur', _, h1, _⟩ := o.ex
  simp [Value.ownBlock] at hk
  subst hk
  rw [h3] at h1
  injection h1 with h1
  injection h1 with _ h1
  exact absurd h1 (by decide)
/-- an element of such a slice -/
theorem own_rng {w : World} {p : Option Addr} {K c g : Nat} {Y : Nat → Nat → Int} (h : OwnS w (.slice p K c) K 40 (fun j => ia (Y j)) g) {k : Nat} (hk : k < K) : p = some ⟨g, 0, none⟩ ∧ g < w.heap.size ∧ K ≤ c ∧ w.rangeAt g (k * 40) (arrL (Y k)) := by
  obtain ⟨p', cap, hv, h1, h2, h3⟩ := h.ex
  injection hv with e1 _ e3
  subst e1
  rcases h3 with h3 | ⟨h3, h4⟩
  · omega
  · refine ⟨h3, h4.lt, by omega, fun j v hj => ?_⟩
    have hl : j < 40 := by have := get_lt hj; rw [arr_len] at this; exact this
    rw [arrL_get _ j hl] at hj
    injection hj with hj
    rw [h4.cell k j hk hl, ← hj]
set_option maxRecDepth 100000 in
set_option maxHeartbeats 8000000 in
theorem cyclesR_any (w : World) (v : Value) (n : Nat) (N : Nat → Nod) (m : Nat) (P : Nat → Pip) (lo hi : Nat) (h : NetAt w v n N m P lo hi) (hhi : hi ≤ w.heap.size) (hB : netB n N m P = true) :
    Calls Tryz.prog 144 #[v] w fun e w' => ∃ v2, e = .returned v2 ∧ RowE (w.heap.size + 1) 111 40 w' v2 (chN n P m) (fun j => ia (cyc P (fE n P m) (fD n P m) (chS n P m j))) ∧ Below w.heap.size w w' := by
  obtain ⟨p0, c0, p1, c1, rfl, hn9, hm9⟩ := h.parts
  obtain ⟨hn1, hn24, hm40⟩ := net_sz hB
  have hcn := chN_le n P m
  have HV := Lib.hid h
  have HB := Lib.hid hB
  have A0 := boxed w (.slice p0 n c0) (.slice p1 m c1) 27
  have B0 := below_new w (.cells #[.slice p0 n c0, .slice p1 m c1] 27)
  have hs0 : (w.alloc (.cells #[.slice p0 n c0, .slice p1 m c1] 27)).heap.size = w.heap.size + 1 := by simp
  obtain ⟨w1, hw1⟩ : ∃ w1, w.alloc (.cells #[.slice p0 n c0, .slice p1 m c1] 27) = w1 := ⟨_, rfl⟩
  rw [hw1] at A0 B0 hs0
  have F0 := rowE_nil (B := w.heap.size + 1) (e := 111) (z := 40) w1 (fun j => ia (cyc P (fE n P m) (fD n P m) (chS n P m j))) (by omega)
  have b2 := below_new w1 (.cells #[] 111)
  have A2 := A0.below b2 (by omega)
  have B2 := B0.trans (b2.mono (by omega))
  have hs2 : (w1.alloc (.cells #[] 111)).heap.size = w.heap.size + 2 := by simp [hs0]
  have e0 := A2.b0
  have e1 := A2.b1
  have HF := Lib.hid F0
  have HBB := Lib.hid B2
  have HA := Lib.hid A2
  clear h hB A0 B0 F0 b2 A2 B2
  subst hw1
  go_enter Tryz.func144, Tryz.ntmps144
  go_wp2_with fail
  generalize hW : (w.alloc (.cells #[.slice p0 n c0, .slice p1 m c1] 27)).alloc (.cells #[] 111) = w2 at *
  clear hW e0 e1
  refine (chords_any w2 _ n N m P lo hi (HV.out.below HBB.out hhi) (by omega) HB.out).mono ?_
  rintro e w3 ⟨vc, gc, rfl, oc, hgc, b3⟩
  obtain ⟨cc, rfl⟩ := oc.shape
  have HC := Lib.hid oc
  have HF3 := Lib.hid (HF.out.next b3)
  have HB3 := Lib.hid (HBB.out.trans (b3.mono (by omega)))
  have HA3 := Lib.hid (HA.out.below b3 (by omega))
  have hs3 := b3.size
  clear oc b3 HF HBB HA
  go_wp2_with fail
  go_loopw [3, 10] (fun ov iv wr => ∃ (k : Nat) (ov' : Value), ov' = ov ∧ iv = .int .i64 k ∧ k ≤ chN n P m ∧ RowE (w.heap.size + 1) 111 40 wr ov' k (fun j => ia (cyc P (fE n P m) (fD n P m) (chS n P m j))) ∧ Own wr (.slice (some ⟨gc, 0, none⟩) (chN n P m) cc) (chN n P m) (fd (chP n P m) m) gc ∧ w3.heap.size ≤ wr.heap.size ∧ Below (w.heap.size + 1) w3 wr) (fun _ iv _ => chN n P m - (intOf iv).toNat)
  case atStart => exact ⟨0, _, rfl, rfl, Nat.zero_le _, by have := HF3.out; simp only [World.size_alloc] at this; exact this, HC.out, Nat.le_refl _, Below.refl _ _⟩
  case round =>
    obtain ⟨k, ov, rfl, rfl, hk, ho, oc, hsz, hb⟩ := hrel
    obtain ⟨po, co, rfl⟩ := ho.shape
    clear HF3 HC
    have HO := Lib.hid ho
    have HC := Lib.hid oc
    have HL := Lib.hid hb
    have lc := oc.lt
    have HAP := Lib.hid (row_ownF ho oc)
    clear ho oc hb
    have k0 : (0 : Int) ≤ (k : Int) := Int.natCast_nonneg _
    have BW := Lib.hid (HB3.out.trans (HL.out.mono (by omega)))
    by_cases hlt : k < chN n P m
    · have k1 : (k : Int) < (chN n P m : Int) := by omega
      obtain ⟨hcm, hcp⟩ := chS_at (n := n) (P := P) (m := m) hlt
      have y0 : wr.cell? ⟨gc, k, none⟩ = some (.int .i64 (chS n P m k : Nat)) := HC.out.row.cell k hlt
      have f0 := (HA3.out.below HL.out (by omega)).b0
      have f1 := (HA3.out.below HL.out (by omega)).b1
      have hir : hi ≤ wr.heap.size := by omega
      have hwr : w.heap.size + 1 ≤ wr.heap.size := by omega
      obtain ⟨y, hy⟩ : ∃ y, cyc P (fE n P m) (fD n P m) (chS n P m k) = y := ⟨_, rfl⟩
      have HY := Lib.hid hy
      obtain ⟨Ly, hLy, eLy⟩ : ∃ L : List Value, arr y = List.toArray L ∧ L = arrL y := ⟨_, rfl, rfl⟩
      have nLy : Ly.length = 40 := by rw [eLy, arr_len]
      have oLy : ∀ v ∈ Ly, v.oneCell' = true := by rw [eLy]; exact arr_oneL _
      have HLy := Lib.hid hLy
      have HEy := Lib.hid eLy
      clear hLy eLy hy
      go_wp2_with (first
        | (go_at_call 167; refine (cycleOf_any wr _ n N m P lo hi (HV.out.below BW.out hhi) hir HB.out (chS n P m k) hcm).mono ?_; rintro e wX ⟨rfl, hbX⟩; rw [HY.out, HLy.out]; obtain ⟨v7, wz, hr7, hrow7, u7⟩ := appOne (c' := fun j => ia (cyc P (fE n P m) (fD n P m) (chS n P m j))) Tryz.underlying153 info_flow (by omega) (arr_size _) (by omega) (w.heap.size + 1) wX _ k _ (HO.out.next hbX) (Nat.le_trans hwr hbX.size) Ly nLy oLy (fun i j _ _ => rfl) (fun j hj => by rw [HEy.out, ← HY.out]; exact arrL_get _ j hj) (by omega))
        | (refine wpList_bsF rfl _ rfl Ly rfl nLy ?_)
        | (at_builtin; refine wpList_appT hr7 rfl _ _ rfl rfl rfl rfl ?_))
      have zX := hbX.size
      have zz := u7.size
      have HO7 := Lib.hid hrow7
      have HL7 := Lib.hid (HL.out.trans ((hbX.mono hwr).trans (u7.below (Nat.le_trans hwr zX) (fun q _ hq => ((HO.out.next hbX).own.lt q hq.symm).1))))
      have HC7 := Lib.hid ((HC.out.below hbX (Nat.le_refl _)).keep (u7.block gc (by omega) (fun e => HAP.out e.symm)))
      clear hr7 hrow7 u7 hbX f0 f1 y0
      go_roundw
      case rel => exact ⟨k + 1, v7, rfl, by go_num, hlt, HO7.out, HC7.out, by omega, HL7.out⟩
      case measure => simp [intOf]; omega
    · have hkn : chN n P m = k := by omega
      have HOF := Lib.hid (show RowE (w.heap.size + 1) 111 40 wr (.slice po k co) (chN n P m) (fun j => ia (cyc P (fE n P m) (fD n P m) (chS n P m j))) by rw [hkn]; exact HO.out)
      have k1 : ¬ ((k : Int) < (chN n P m : Int)) := by omega
      clear hkn
      go_wp2_with fail
      go_ret
      exact ⟨_, rfl, HOF.out, BW.out⟩
theorem cycles_any (w : World) (v : Value) (n : Nat) (N : Nat → Nod) (m : Nat) (P : Nat → Pip) (lo hi : Nat) (h : NetAt w v n N m P lo hi) (hhi : hi ≤ w.heap.size) (hB : netB n N m P = true) :
    Calls Tryz.prog 144 #[v] w fun e w' => ∃ v2 g, e = .returned v2 ∧ OwnS w' v2 (chN n P m) 40 (fun j => ia (cyc P (fE n P m) (fD n P m) (chS n P m j))) g ∧ (w.heap.size < g ∨ chN n P m = 0) ∧ Below w.heap.size w w' := by
  refine (cyclesR_any w v n N m P lo hi h hhi hB).mono ?_
  rintro e w' ⟨v2, rfl, hr, hb⟩
  obtain ⟨g, hg, hg2⟩ := hr.ownS
  exact ⟨v2, g, rfl, hg, by omega, hb⟩
theorem mul3 {x c : Int} (hx : -30000 ≤ x ∧ x ≤ 30000) (hc : -3 ≤ c ∧ c ≤ 3) : -90000 ≤ x * c ∧ x * c ≤ 90000 := by
  rcases (by omega : c = -3 ∨ c = -2 ∨ c = -1 ∨ c = 0 ∨ c = 1 ∨ c = 2 ∨ c = 3) with rfl | rfl | rfl | rfl | rfl | rfl | rfl <;> omega
theorem flo_bd {n : Nat} {N : Nat → Nod} {P : Nat → Pip} {m : Nat} (hN : netB n N m P = true) {am : Nat → Int} (ha : ∀ j, j < chN n P m → -30000 ≤ am j ∧ am j ≤ 30000) (a : Nat) : ∀ k, k ≤ chN n P m → -90000 * (k : Int) ≤ flo n P m am k a ∧ flo n P m am k a ≤ 90000 * (k : Int)
  | 0, _ => by unfold flo tot; omega
  | k + 1, hk => by
    have ih := flo_bd hN ha a k (by omega)
    have h1 := mul3 (ha k (by omega)) ((fo_net hN).cyc_rng (chS_at (n := n) (P := P) (m := m) (j := k) (by omega)).1 a)
    unfold flo at ih ⊢
    rw [tot]
    omega
theorem Fo.tot_off {n : Nat} {P : Nat → Pip} {m : Nat} {E D : Int → Int} (h : Fo n P m E D) {cs : Nat → Nat} {am : Nat → Int} {a : Nat} (ha : ∀ z : Int, 0 ≤ z → z < n → E z ≠ ((a : Nat) : Int)) :
    ∀ k, (∀ i, i < k → cs i < m) → (∀ j, j < k → cs j ≠ a) → tot P E D cs am k a = 0
  | 0, _, _ => rfl
  | k + 1, hc, h2 => by
    have ih := h.tot_off (cs := cs) (am := am) ha k (fun i hi => hc i (by omega)) (fun j hj => h2 j (by omega))
    unfold tot
    rw [ih, h.cyc_chord (hc k (by omega)) ha]
    unfold one1
    rw [if_neg (fun g => h2 k (by omega) g.symm), Int.mul_zero]
    rfl
theorem flo_off {n : Nat} {N : Nat → Nod} {P : Nat → Pip} {m : Nat} (hN : netB n N m P = true) (am : Nat → Int) {a : Nat} (ha : m ≤ a) : flo n P m am (chN n P m) a = 0 := by
  refine (fo_net hN).tot_off (fun z z0 z1 e => ?_) _ (fun i hi => (chS_at hi).1) (fun j hj => ?_)
  · rcases (fo_net (P := P) (m := m) hN).par z z0 z1 with g | ⟨c, hc, g, _⟩ <;> omega
  · have := (chS_at hj).1
    omega

end Go.Proofs.YtdbgcbkmcbgdiaaGreat.mem

namespace Go.Proofs.YtdbgcbkmcbgdiaaGreat.mem
open Go.RowKit
set_option linter.unusedVariables false

/-- is a number a pipe outside of the forest? -/
def chB (n : Nat) (P : Nat → Pip) (m : Nat) (x : Int) : Bool := hasB (chN n P m) (fd (chP n P m) m) x
theorem chB_yes {n : Nat} {P : Nat → Pip} {m : Nat} {x : Int} (h : chB n P m x = true) : ∃ c : Nat, x = (c : Int) ∧ c < m ∧ chP n P m c = true := by
  unfold chB hasB at h
  obtain ⟨j, hj, e⟩ := List.any_eq_true.1 h
  have h1 := chS_at (n := n) (P := P) (m := m) (List.mem_range.1 hj)
  refine ⟨chS n P m j, ?_, h1⟩
  rw [beq_iff_eq] at e
  exact e.symm
/-- the code of a network and a list of flows -/
noncomputable def flC (n : Nat) (N : Nat → Nod) (m : Nat) (P : Nat → Pip) (K : Nat) (d : Nat → Int) : Int := if netB n N m P = true then (if K = m ∧ flB d K = true then 0 else 3) else 1
/-- are all these lists flow lists? -/
def flsB (m : Nat) (K : Nat → Nat) (d : Nat → Nat → Int) : Nat → Bool
  | 0 => true
  | k + 1 => flsB m K d k && (decide (K k = m) && flB (d k) (K k))
theorem flsB_no {m : Nat} {K : Nat → Nat} {d : Nat → Nat → Int} {k : Nat} (h : (decide (K k = m) && flB (d k) (K k)) = false) : ∀ {n : Nat}, k < n → flsB m K d n = false
  | 0, hk => by omega
  | n + 1, hk => by
    unfold flsB
    by_cases e : k = n
    · subst e; rw [h, Bool.and_false]
    · rw [flsB_no h (by omega : k < n), Bool.false_and]
noncomputable def flCL (n : Nat) (N : Nat → Nod) (m : Nat) (P : Nat → Pip) (K : Nat → Nat) (d : Nat → Nat → Int) (L : Nat) : Int := if netB n N m P = true then (if flsB m K d L = true then 0 else 3) else 1
set_option maxHeartbeats 4000000 in
theorem checkFlowsL_any (w : World) (v : Value) (n : Nat) (N : Nat → Nod) (m : Nat) (P : Nat → Pip) (lo hi : Nat) (h : NetAt w v n N m P lo hi) (hhi : hi ≤ w.heap.size) (hN : ∀ i, i < n → (N i).s.size ≤ 9223372036854775807) (b : Nat) (vl : Nat → Value) (L cap : Nat) (K : Nat → Nat) (d : Nat → Nat → Int) (la ha : Nat) (hvl : ∀ j, j < L → w.cell? ⟨b, j, none⟩ = some (vl j)) (hb : b < w.heap.size) (hv : ∀ j, j < L → Sl w (vl j) (K j) (d j) la ha) (hha : ha ≤ w.heap.size) (hK : ∀ j, j < L → K j ≤ 9223372036854775807) (hL : L ≤ 40) :
    Calls Tryz.prog 54 #[v, .slice (some ⟨b, 0, none⟩) L cap] w fun e w' => e = .returned (.int .i64 (flCL n N m P K d L)) ∧ Below w.heap.size w w' := by
  obtain ⟨p0, c0, p1, c1, rfl, hn9, hm9⟩ := h.parts
  have HV := Lib.hid h
  have HN := Lib.hid hN
  have HVL := Lib.hid hvl
  have HVS := Lib.hid hv
  have HK := Lib.hid hK
  have A0 := boxed w (.slice p0 n c0) (.slice p1 m c1) 27
  have B0 := below_new w (.cells #[.slice p0 n c0, .slice p1 m c1] 27)
  have hs0 : (w.alloc (.cells #[.slice p0 n c0, .slice p1 m c1] 27)).heap.size = w.heap.size + 1 := by simp
  clear h hN hvl hv hK
  go_enter Tryz.func54, Tryz.ntmps54
  have e0' := A0.b0
  have e1' := A0.b1
  go_wp2_with fail
  refine (isNetwork_any _ _ n N m P lo hi (HV.out.below B0 hhi) (by omega) HN.out).mono ?_
  rintro e w1 ⟨rfl, b1⟩
  have A1 := A0.below b1 (by omega)
  have B1 := B0.trans (b1.mono (by omega))
  have hs1 := b1.size
  have e1 := A1.b1
  clear A0 B0 b1 e0' e1'
  cases hB : netB n N m P
  · have H2 := Lib.hid (show flCL n N m P K d L = 1 by unfold flCL; rw [hB]; rfl)
    clear hB
    go_wp2_with fail
    go_ret
    exact ⟨ret_i H2.out.symm, B1⟩
  · have H3 := Lib.hid (show ∀ j, j < L → (decide (K j = m) && flB (d j) (K j)) = false → flCL n N m P K d L = 3 from fun j hj g => by unfold flCL; rw [hB, flsB_no g hj]; rfl)
    have H0 := Lib.hid (show flsB m K d L = true → flCL n N m P K d L = 0 from fun g => by unfold flCL; rw [hB, g]; rfl)
    have HB1 := Lib.hid B1
    clear hB B1 A1
    go_wp2_with fail
    go_loopw [12] (fun iv wr => ∃ k : Nat, iv = .int .i64 k ∧ k ≤ L ∧ flsB m K d k = true ∧ w1 = wr) (fun iv _ => L - (intOf iv).toNat)
    case atStart => exact ⟨0, rfl, Nat.zero_le _, rfl, rfl⟩
    case round =>
      obtain ⟨k, rfl, hk, hb', rfl⟩ := hrel
      generalize hQ : Exit.then _ _ = Q
      have HQ := Lib.hid hQ
      clear hQ
      have HF := Lib.hid hb'
      clear hb'
      have k0 : (0 : Int) ≤ (k : Int) := Int.natCast_nonneg _
      by_cases hlt : k < L
      · have k1 : (k : Int) < (L : Int) := by omega
        have S := (HVS.out k hlt).below HB1.out hha
        have HS := Lib.hid S
        have hKk := HK.out k hlt
        obtain ⟨pa, ca, ea, _⟩ := S.ex
        have y0 : w1.cell? ⟨b, k, none⟩ = some (.slice pa (K k) ca) := by
          rw [← ea]
          exact (HB1.out.cell (p := ⟨b, k, none⟩) hb).trans (HVL.out k hlt)
        have HS' := Lib.hid (ea ▸ HS.out)
        clear S HS ea
        generalize hKK : K k = KK at *
        generalize hdd : d k = dd at *
        have HKK := Lib.hid hKK
        have HDD := Lib.hid hdd
        clear hKK hdd
        by_cases hKm : KK = m
        · have hb1 : ((KK : Int) != (m : Int)) = false := by simp [hKm]
          cases hf : flB dd KK
          · have H2 := Lib.hid (H3.out k hlt (by rw [HKK.out, HDD.out, hf, Bool.and_false]))
            clear hKm
            go_wp2_with (go_at_call 106; refine (areFlows_any _ _ KK dd _ _ HS'.out hKk).mono ?_; rintro e w' ⟨rfl, rfl⟩; rw [hf])
            rw [← HQ.out]
            go_wp2_with fail
            go_ret
            exact ⟨ret_i H2.out.symm, HB1.out⟩
          · have HR := Lib.hid (show flsB m K d (k + 1) = true by unfold flsB; rw [HF.out, HKK.out, HDD.out, hf, hKm]; simp)
            clear hKm
            go_wp2_with (go_at_call 106; refine (areFlows_any _ _ KK dd _ _ HS'.out hKk).mono ?_; rintro e w' ⟨rfl, rfl⟩; rw [hf])
            rw [← HQ.out]
            refine ⟨⟨_, _, _, _, _, _, _, _, _, _, _, _, _, _, _, _, _, _, ?rel, rfl⟩, ?measure⟩
            case rel => exact ⟨k + 1, by go_num, hlt, HR.out, rfl⟩
            case measure => simp [intOf]; omega
        · have hb1 : ((KK : Int) != (m : Int)) = true := by simp; omega
          have H2 := Lib.hid (H3.out k hlt (by rw [HKK.out, decide_eq_false hKm, Bool.false_and]))
          clear hKm
          go_wp2_with fail
          rw [← HQ.out]
          go_wp2_with fail
          go_ret
          exact ⟨ret_i H2.out.symm, HB1.out⟩
      · have hkn : L = k := by omega
        have H2 := Lib.hid (H0.out (by rw [hkn]; exact HF.out))
        have k1 : ¬ ((k : Int) < (L : Int)) := by omega
        clear hkn
        go_wp2_with fail
        rw [← HQ.out]
        go_wp2_with fail
        go_ret
        exact ⟨ret_i H2.out.symm, HB1.out⟩
theorem flC_one (n : Nat) (N : Nat → Nod) (m : Nat) (P : Nat → Pip) (K : Nat) (d : Nat → Int) : flCL n N m P (fun _ => K) (fun _ => d) 1 = flC n N m P K d := by
  unfold flCL flC
  simp [flsB]
theorem checkFlows_any (w : World) (v : Value) (n : Nat) (N : Nat → Nod) (m : Nat) (P : Nat → Pip) (lo hi : Nat) (h : NetAt w v n N m P lo hi) (hhi : hi ≤ w.heap.size) (hN : ∀ i, i < n → (N i).s.size ≤ 9223372036854775807) (va : Value) (b : Nat) (hb : w.cell? ⟨b, 0, none⟩ = some va) (hbl : b < w.heap.size) (K : Nat) (d : Nat → Int) (la ha : Nat) (hv : Sl w va K d la ha) (hha : ha ≤ w.heap.size) (hK : K ≤ 9223372036854775807) :
    Calls Tryz.prog 54 #[v, .slice (some ⟨b, 0, none⟩) 1 1] w fun e w' => e = .returned (.int .i64 (flC n N m P K d)) ∧ Below w.heap.size w w' := by
  rw [← flC_one]
  exact checkFlowsL_any w v n N m P lo hi h hhi hN b (fun _ => va) 1 1 (fun _ => K) (fun _ => d) la ha (fun j hj => by rw [show j = 0 by omega]; exact hb) hbl (fun _ _ => hv) hha (fun _ _ => hK) (by omega)

set_option maxRecDepth 100000 in
set_option maxHeartbeats 4000000 in
theorem flowListOf_any (w : World) (p0 p1 : Option Addr) (n m c0 c1 : Nat) (x : Nat → Int) (hm : m ≤ 40) :
    Calls Tryz.prog 90 #[.agg #[.slice p0 n c0, .slice p1 m c1], .agg (arr x)] w fun e w' => Below w.heap.size w w' ∧ ((flB x 40 = true ∧ ∃ v2 g, e = .returned (.tuple #[v2, .int .i64 0]) ∧ Own w' v2 m x g ∧ w.heap.size ≤ g) ∨ (flB x 40 = false ∧ e = .returned (.tuple #[.slice none 0 0, .int .i64 2]))) := by
  have a0 := (boxed w (.slice p0 n c0) (.slice p1 m c1) 27).keep (Below.heap_alloc _ (.cells (arr x) 111) _ (by simp only [World.size_alloc]; omega))
  have a1 := Ob.newA (w.alloc (.cells #[.slice p0 n c0, .slice p1 m c1] 27)) x 111
  simp only [World.size_alloc] at a1
  have b0 := below_new w (.cells #[.slice p0 n c0, .slice p1 m c1] 27)
  have b1 := b0.trans ((below_new _ (.cells (arr x) 111)).mono (by simp only [World.size_alloc]; omega))
  have hs0 : ((w.alloc (.cells #[.slice p0 n c0, .slice p1 m c1] 27)).alloc (.cells (arr x) 111)).heap.size = w.heap.size + 1 + 1 := by simp
  obtain ⟨t1, g1⟩ := a1.row
  have HA := Lib.hid a1
  have HB := Lib.hid b1
  have HS := Lib.hid hs0
  have y0 := a0.b0
  have y1 := a0.b1
  clear a0 a1 b0 b1 hs0
  cases hf : flB x 40
  · go_enter Tryz.func90, Tryz.ntmps90
    go_wp2_with (go_at_call 106; refine (areFlows_any _ _ 40 x _ _ (HA.out.sl 40 40 (Nat.le_refl _)) (by omega)).mono ?_; rintro e w' ⟨rfl, rfl⟩; rw [hf])
    go_ret2
    exact ⟨HB.out, .inr ⟨by first | exact hf | trivial, rfl⟩⟩
  · go_enter Tryz.func90, Tryz.ntmps90
    go_wp2_with (first
      | (go_at_call 106; refine (areFlows_any _ _ 40 x _ _ (HA.out.sl 40 40 (Nat.le_refl _)) (by omega)).mono ?_; rintro e w' ⟨rfl, rfl⟩; rw [hf])
      | (refine wpList_load_row rfl 111 _ rfl (w.heap.size + 1) rfl t1 _ (0, 0) _ g1 Tryz.underlying111 rfl (by rw [arr_size]; exact flow_info) ?_)
      | (go_at_call 96; refine (listOf_any _ p0 p1 n m c0 c1 x hm).mono ?_; rintro e w5 ⟨v2, g, rfl, ho, hg, hb⟩))
    go_ret2
    exact ⟨HB.out.trans (hb.mono (by have := HS.out; omega)), .inl ⟨by first | exact hf | trivial, v2, g, rfl, ho, by have := HS.out; omega⟩⟩
end Go.Proofs.YtdbgcbkmcbgdiaaGreat.mem

namespace Go.Proofs.YtdbgcbkmcbgdiaaGreat.mem
open Go.RowKit
set_option linter.unusedVariables false

theorem Sl.sh {w : World} {v : Value} {n : Nat} {d : Nat → Int} {lo hi : Nat} (h : Sl w v n d lo hi) : ∃ p cap, v = .slice p n cap := by
  obtain ⟨p, cap, e, _⟩ := h.ex
  exact ⟨p, cap, e⟩
theorem cell_newV (w : World) (x : Value) (t : TypeId) : (w.alloc (.cells #[x] t)).cell? ⟨w.heap.size, 0, none⟩ = some x := by
  have := heap_alloc_new w (Obj.cells #[x] t)
  simp only [World.cell?, this]
  simp
noncomputable def coN (n : Nat) (N : Nat → Nod) (m : Nat) (P : Nat → Pip) : Nat := if cmC (netB n N m P) = 0 then chN n P m else 0
/-- what flowListOf answers, as a list and a code -/
def FloOut (m : Nat) (x : Nat → Int) (b : Nat) (w' : World) (v2 : Value) (cd : Int) : Prop := (flB x 40 = true ∧ cd = 0 ∧ ∃ g, Own w' v2 m x g ∧ b ≤ g) ∨ (flB x 40 = false ∧ cd = 2 ∧ v2 = .slice none 0 0)
theorem flo_out {m : Nat} {x : Nat → Int} {b : Nat} {w' : World} {e : Ending} (h : (flB x 40 = true ∧ ∃ v2 g, e = .returned (.tuple #[v2, .int .i64 0]) ∧ Own w' v2 m x g ∧ b ≤ g) ∨ (flB x 40 = false ∧ e = .returned (.tuple #[.slice none 0 0, .int .i64 2]))) :
    ∃ v2 cd, e = .returned (.tuple #[v2, .int .i64 cd]) ∧ Shut (FloOut m x b w' v2 cd) := by
  rcases h with ⟨h1, v2, g, rfl, ho, hg⟩ | ⟨h1, rfl⟩
  · exact ⟨v2, 0, rfl, show FloOut m x b w' v2 0 from .inl ⟨h1, rfl, g, ho, hg⟩⟩
  · exact ⟨_, 2, rfl, show FloOut m x b w' (.slice none 0 0) 2 from .inr ⟨h1, rfl, rfl⟩⟩
noncomputable def cyC (n : Nat) (N : Nat → Nod) (m : Nat) (P : Nat → Pip) (x : Int) : Int := if netB n N m P = true then (if chB n P m x = true then 0 else 4) else 1
noncomputable def cyN (n : Nat) (N : Nat → Nod) (m : Nat) (P : Nat → Pip) (x : Int) : Nat := if cyC n N m P x = 0 then m else 0
def cyD (n : Nat) (P : Nat → Pip) (m : Nat) (x : Int) : Nat → Int := cyc P (fE n P m) (fD n P m) x.toNat
noncomputable def cfN (n : Nat) (N : Nat → Nod) (m : Nat) (P : Nat → Pip) (K : Nat) (d : Nat → Int) : Nat := if flC n N m P K d = 0 then chN n P m else 0
theorem flC_ok {n : Nat} {N : Nat → Nod} {m : Nat} {P : Nat → Pip} {K : Nat} {d : Nat → Int} (h : flC n N m P K d = 0) : netB n N m P = true ∧ K = m ∧ flB d K = true := by
  unfold flC at h
  split at h
  · next hB =>
    split at h
    · next hk => exact ⟨hB, hk⟩
    · omega
  · omega
end Go.Proofs.YtdbgcbkmcbgdiaaGreat.mem

namespace Go.Proofs.YtdbgcbkmcbgdiaaGreat.mem
open Go.RowKit
set_option linter.unusedVariables false

noncomputable def frC (n : Nat) (N : Nat → Nod) (m : Nat) (P : Nat → Pip) (K : Nat) (d : Nat → Int) : Int :=
  if netB n N m P = true then (if K = chN n P m then (if flB d K = true then (if flB (flo n P m d (chN n P m)) m = true then 0 else 2) else 2) else 5) else 1
noncomputable def frN (n : Nat) (N : Nat → Nod) (m : Nat) (P : Nat → Pip) (K : Nat) (d : Nat → Int) : Nat := if frC n N m P K d = 0 then m else 0
def frD (n : Nat) (P : Nat → Pip) (m : Nat) (d : Nat → Int) : Nat → Int := flo n P m d (chN n P m)
theorem sl_dr {w : World} {v : Value} {n : Nat} {d : Nat → Int} {lo hi : Nat} (h : Sl w v n d lo hi) : Sl w.drew v n d lo hi := h.drewN 1
theorem flB_mono {d : Nat → Int} {m : Nat} (h : ∀ k, m ≤ k → d k = 0) : ∀ j, flB d (m + j) = flB d m
  | 0 => rfl
  | j + 1 => by
    show (flB d (m + j) && flQ (d (m + j))) = _
    rw [flB_mono h j, h (m + j) (by omega)]
    simp [flQ, inR]
theorem flB_ext {d : Nat → Int} {m K : Nat} (hm : m ≤ K) (h : ∀ k, m ≤ k → d k = 0) : flB d K = flB d m := by
  have := flB_mono h (K - m)
  rwa [show m + (K - m) = K by omega] at this
theorem flQ_iff {x : Int} : flQ x = true ↔ -30000 ≤ x ∧ x ≤ 30000 := by
  unfold flQ
  rw [inR_iff]
end Go.Proofs.YtdbgcbkmcbgdiaaGreat.mem

namespace Go.Proofs.YtdbgcbkmcbgdiaaGreat.mem
open Go.RowKit
set_option linter.unusedVariables false

theorem cyc_off {n : Nat} {N : Nat → Nod} {P : Nat → Pip} {m : Nat} (hN : netB n N m P = true) {c a : Nat} (hc : c < m) (ha : m ≤ a) : cyc P (fE n P m) (fD n P m) c a = 0 := by
  rw [(fo_net hN).cyc_chord hc (fun z z0 z1 e => by
    rcases (fo_net (P := P) (m := m) hN).par z z0 z1 with g | ⟨b, hb, g, _⟩ <;> omega)]
  unfold one1
  rw [if_neg (by omega)]
noncomputable def adC (n : Nat) (N : Nat → Nod) (m : Nat) (P : Nat → Pip) (K : Nat) (d : Nat → Int) (x y : Int) : Int :=
  if flC n N m P K d = 0 then (if chB n P m x = true then (if flQ y = true then (if flB (fun k => d k + y * cyD n P m x k) m = true then 0 else 2) else 2) else 4) else flC n N m P K d
noncomputable def adN (n : Nat) (N : Nat → Nod) (m : Nat) (P : Nat → Pip) (K : Nat) (d : Nat → Int) (x y : Int) : Nat := if adC n N m P K d x y = 0 then m else 0
def adD (n : Nat) (P : Nat → Pip) (m : Nat) (d : Nat → Int) (x y : Int) (k : Nat) : Int := d k + y * cyD n P m x k
/-- the code of a network, a list of flows and a chord -/
noncomputable def ckC (n : Nat) (N : Nat → Nod) (m : Nat) (P : Nat → Pip) (K : Nat) (d : Nat → Int) (x : Int) : Int := if flC n N m P K d = 0 then (if chB n P m x = true then 0 else 4) else flC n N m P K d
theorem ckC_ok {n : Nat} {N : Nat → Nod} {m : Nat} {P : Nat → Pip} {K : Nat} {d : Nat → Int} {x : Int} (h : ckC n N m P K d x = 0) : flC n N m P K d = 0 ∧ chB n P m x = true := by
  unfold ckC at h
  split at h
  · next hc =>
    split at h
    · next hb => exact ⟨hc, hb⟩
    · omega
  · next hc => exact absurd h hc
theorem adC_no {n : Nat} {N : Nat → Nod} {m : Nat} {P : Nat → Pip} {K : Nat} {d : Nat → Int} {x y : Int} (h : ckC n N m P K d x ≠ 0) : adC n N m P K d x y = ckC n N m P K d x := by
  unfold ckC at h
  unfold adC ckC
  by_cases g : flC n N m P K d = 0
  · rw [if_pos g] at h
    rw [if_pos g, if_pos g]
    by_cases g2 : chB n P m x = true
    · rw [if_pos g2] at h
      exact absurd rfl h
    · rw [if_neg g2, if_neg g2]
  · rw [if_neg g, if_neg g]
/-- are two arrays equal? -/
def eqL (x y : Nat → Int) : List Nat → Bool
  | [] => true
  | i :: l => x i == y i && eqL x y l
theorem eqL_iff {x y : Nat → Int} : ∀ {l : List Nat}, eqL x y l = true ↔ ∀ i ∈ l, x i = y i
  | [] => by simp [eqL]
  | i :: l => by
    unfold eqL
    rw [Bool.and_eq_true, eqL_iff, beq_iff_eq]
    simp
theorem eql_arr (x y : Nat → Int) (w : World) : (binOp .eql 111 (.agg (arr x)) (.agg (arr y))).run Tryz.prog w = .ok (.bool (eqL x y (List.range' 0 40 1))) w := by
  rw [run_eql_struct]
  have key : (Op.equalIn 10000 111 (.agg (arr x)) (.agg (arr y))).run Tryz.prog w = .ok (eqL x y (List.range' 0 40 1)) w := by
    rw [Op.equalIn]
    have hsz : ∀ w, (sizeOf 2).run Tryz.prog w = .ok 1 w := Tryz.sizeOf2
    simp only [Sem.run_bind, run_underlying Tryz.underlying111, Result.andThen_ok, hsz, Std.Legacy.Range.forIn_eq_forIn_range', Std.Legacy.Range.size, Nat.sub_zero, Nat.add_sub_cancel, Nat.div_one]
    have hl : ∀ i ∈ List.range' 0 40 1, i < 40 := fun i hi => by simpa using (List.mem_range'_1.1 hi).2
    generalize List.range' 0 40 1 = l at hl ⊢
    induction l with
    | nil => simp [eqL]
    | cons i l ih =>
      have hi : i < 40 := hl i (by simp)
      have px : ∀ z : Nat → Int, (part 2 (arr z) (i * 1)).run Tryz.prog w = .ok (.int .i64 (z i)) w := fun z => by
        simp [part, isAgg, run_underlying Tryz.underlying2, arr_get z i hi, ia]
      have pe : (Op.equalIn 9999 2 (.int .i64 (x i)) (.int .i64 (y i))).run Tryz.prog w = .ok (x i == y i) w := run_equalIn_int w 9998 2 .i64 .i64 _ _ Tryz.underlying2
      simp only [List.forIn_cons, Sem.run_bind, px, pe, Result.andThen_ok, eqL]
      cases hb : (x i == y i)
      · simp
      · simp only [Bool.not_true, Bool.false_eq_true, if_false, Sem.run_pure, Result.andThen_ok, Bool.true_and]
        exact ih fun j hj => hl j (by simp [hj])
  rw [key]
  rfl
/-- is it a circulation? -/
noncomputable def ciB (n : Nat) (N : Nat → Nod) (m : Nat) (P : Nat → Pip) (K : Nat) (d : Nat → Int) : Bool := decide (flC n N m P K d = 0) && (List.range n).all (fun z => dv P d m ((z : Nat) : Int) == 0)
theorem dv_all {n : Nat} {P : Nat → Pip} {m : Nat} {d : Nat → Int} : (List.range n).all (fun z => dv P d m ((z : Nat) : Int) == 0) = true ↔ ∀ z : Int, 0 ≤ z → z < n → dv P d m z = 0 := by
  rw [List.all_eq_true]
  constructor
  · intro h z z0 z1
    obtain ⟨k, rfl⟩ := Int.eq_ofNat_of_zero_le z0
    simpa using h k (List.mem_range.2 (by omega))
  · intro h k hk
    have := List.mem_range.1 hk
    simpa using h (k : Nat) (by omega) (by omega)
theorem eqL_circ {n : Nat} {N : Nat → Nod} {P : Nat → Pip} {m : Nat} (hN : netB n N m P = true) (d : Nat → Int) : eqL (flo n P m (fun j => d (chS n P m j)) (chN n P m)) (pad m d) (List.range' 0 40 1) = (List.range n).all (fun z => dv P d m ((z : Nat) : Int) == 0) := by
  have hm40 := (net_sz hN).2.2
  rw [Bool.eq_iff_iff, eqL_iff, dv_all, ← circ_iff hN]
  constructor
  · intro h a ha
    have := h a (by simp; omega)
    unfold pad at this
    rwa [if_pos ha] at this
  · intro h a _
    unfold pad
    by_cases g : a < m
    · rw [if_pos g]; exact h a g
    · rw [if_neg g, flo_off hN _ (by omega)]
end Go.Proofs.YtdbgcbkmcbgdiaaGreat.mem
