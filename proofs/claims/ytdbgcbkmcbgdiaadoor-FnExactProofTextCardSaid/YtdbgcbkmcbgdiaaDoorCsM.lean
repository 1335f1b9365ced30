/-
  Several texts in one: Csp, Csq, Csr, Css, Cst, Csu, Csv.
-/
import Derived.Test.YtdbgcbkmcbgdiaaDoorRows
import Derived.Test.YtdbgcbkmcbgdiaaDoorCiM
import Derived.StillTailTactics
import Derived.Test.YtdbgcbkmcbgdiaaDoorRowE
import Derived.Laws.ResultCell
import Derived.Deep.RegionHeld3
namespace Go.Proofs.YtdbgcbkmcbgdiaaDoor.mem
open Go.RowKit
set_option linter.unusedVariables false

theorem inF_has {n : Nat} {P : Nat → Pip} {m a : Nat} (ha : a < m) : hasB (forest n P m).length (lD (forest n P m)) ((a : Nat) : Int) = inF n P m (fl (rts n P m) n) a := by
  cases hp : inF n P m (fl (rts n P m) n) a
  · refine hasB_no fun k hk e => ?_
    obtain ⟨b, hb, hb2, hb3, _⟩ := forest_at hk
    obtain rfl : b = a := by omega
    rw [hp] at hb2
    cases hb2
  · obtain ⟨h1, h2⟩ := forest_idx ha hp
    exact hasB_yes h1 h2
theorem coN_le (n : Nat) (N : Nat → Nod) (m : Nat) (P : Nat → Pip) (hm : m ≤ 2000000) : coN n N m P ≤ 2000000 := by
  have := chN_le n P m
  unfold coN
  split <;> omega
theorem l05Flow_any (w : World) (x : Int) : Calls Tryd.prog 49 #[.int .i64 x] w fun e w' => e = .returned (.bool (flQ x)) ∧ w = w' := by
  unfold flQ
  go_enter Tryd.func49, Tryd.ntmps49
  go_wp2_with (go_at_call 50; refine (l01In_any _ _ _ _).mono ?_; rintro e w' ⟨rfl, rfl⟩)
  go_ret
  exact ⟨rfl, rfl⟩
/-- is a list one of flows of a network with m pipes? -/
def liB (m K : Nat) (d : Nat → Int) : Bool := flB d K && decide (K = m)
set_option maxRecDepth 100000 in
set_option maxHeartbeats 8000000 in
theorem l05List_any (w : World) (p0 p1 : Option Addr) (n m c0 c1 : Nat) (va : Value) (K : Nat) (d : Nat → Int) (la ha : Nat) (hv : Sl w va K d la ha) (hha : ha ≤ w.heap.size) (hK9 : K ≤ 9223372036854775807) (hm9 : m ≤ 9223372036854775807) :
    Calls Tryd.prog 40 #[.agg #[.slice p0 n c0, .slice p1 m c1], va] w fun e w' => e = .returned (.bool (liB m K d)) ∧ Below w.heap.size w w' := by
  have A0 := boxed w (.slice p0 n c0) (.slice p1 m c1) 35
  have B0 := Lib.hid (below_new w (.cells #[.slice p0 n c0, .slice p1 m c1] 35))
  have H1 := Lib.hid (hv.below B0.out hha)
  obtain ⟨p, cap, rfl, hc⟩ := hv.below B0.out hha
  have HC := Lib.hid hc
  have e1 := A0.b1
  clear hc A0 hv
  go_enter Tryd.func40, Tryd.ntmps40
  go_wp2_with fail
  obtain ⟨w1, hw1⟩ : ∃ w1, w.alloc (.cells #[.slice p0 n c0, .slice p1 m c1] 35) = w1 := ⟨_, rfl⟩
  rw [hw1] at B0 HC e1 ⊢
  clear hw1 H1
  go_loopw [5] (fun iv wr => ∃ k : Nat, iv = .int .i64 k ∧ k ≤ K ∧ flB d k = true ∧ wr = w1) (fun iv _ => K - (intOf iv).toNat)
  case atStart => exact ⟨0, rfl, Nat.zero_le _, rfl, rfl⟩
  case round =>
    obtain ⟨k, rfl, hk, hb, rfl⟩ := hrel
    generalize hQ : Exit.then _ _ = Q
    have HQ := Lib.hid hQ
    clear hQ
    have HF := Lib.hid hb
    clear hb
    have k0 : (0 : Int) ≤ (k : Int) := Int.natCast_nonneg _
    by_cases hlt : k < K
    · have k1 : (k : Int) < (K : Int) := by omega
      obtain ⟨b, o, rfl, _, _, hx⟩ : ∃ b o, p = some ⟨b, o, none⟩ ∧ la ≤ b ∧ b < ha ∧ ∀ k, k < K → wr.cell? ⟨b, o + k, none⟩ = some (.int .i64 (d k)) := by
        rcases HC.out with e | e
        · omega
        · exact e
      have y0 := hx k hlt
      have HX := Lib.hid hx
      clear hx
      cases hq : flQ (d k)
      · have HR := Lib.hid (show liB m K d = false by unfold liB; rw [flB_no hlt hq]; rfl)
        go_wp2_with (go_at_call 49; refine (l05Flow_any _ _).mono ?_; rintro e w' ⟨rfl, rfl⟩; rw [hq])
        rw [← HQ.out]
        go_wp2_with fail
        go_ret
        exact ⟨ret_b HR.out.symm, B0.out⟩
      · have HR := Lib.hid (show flB d (k + 1) = true by unfold flB; rw [HF.out, hq]; rfl)
        go_wp2_with (go_at_call 49; refine (l05Flow_any _ _).mono ?_; rintro e w' ⟨rfl, rfl⟩; rw [hq])
        rw [← HQ.out]
        refine ⟨⟨_, _, _, _, _, _, _, _, _, _, _, _, _, _, ?rel, rfl⟩, ?measure⟩
        case rel => exact ⟨k + 1, by go_num, hlt, HR.out, rfl⟩
        case measure => simp [intOf]; omega
    · have hkn : K = k := by omega
      have HR := Lib.hid (show liB m K d = decide (K = m) by unfold liB; rw [hkn, HF.out]; rfl)
      have hb2 : ((K : Int) == (m : Int)) = decide (K = m) := by
        by_cases e : K = m
        · simp [e]
        · rw [decide_eq_false e]; simp; omega
      subst hkn
      have k1 : ¬ ((K : Int) < (K : Int)) := by omega
      go_wp2_with fail
      rw [← HQ.out]
      go_wp2_with fail
      go_ret
      refine ⟨ret_b ?_, B0.out⟩
      first | exact HR.out.symm | (rw [HR.out, ← hb2])
theorem liB_iff {m K : Nat} {d : Nat → Int} : liB m K d = true ↔ K = m ∧ flB d K = true := by
  unfold liB
  rw [Bool.and_eq_true, decide_eq_true_eq]
  exact And.comm
theorem l05Code_any (w : World) (v : Value) (n : Nat) (N : Nat → Nod) (m : Nat) (P : Nat → Pip) (lo hi : Nat) (h : NetAt w v n N m P lo hi) (hhi : hi ≤ w.heap.size) (hN : ∀ i, i < n → (N i).s.size ≤ 9223372036854775807) (va : Value) (K : Nat) (d : Nat → Int) (la ha : Nat) (hv : Sl w va K d la ha) (hha : ha ≤ w.heap.size) (hK9 : K ≤ 9223372036854775807) :
    Calls Tryd.prog 28 #[v, va] w fun e w' => e = .returned (.int .i64 (flC n N m P K d)) ∧ Below w.heap.size w w' := by
  obtain ⟨p0, c0, p1, c1, rfl, hn9, hm9⟩ := h.parts
  have HV := Lib.hid h
  have HN := Lib.hid hN
  have A0 := boxed w (.slice p0 n c0) (.slice p1 m c1) 35
  have B0 := below_new w (.cells #[.slice p0 n c0, .slice p1 m c1] 35)
  have hs0 : (w.alloc (.cells #[.slice p0 n c0, .slice p1 m c1] 35)).heap.size = w.heap.size + 1 := by simp
  clear h hN
  go_enter Tryd.func28, Tryd.ntmps28
  have e0' := A0.b0
  have e1' := A0.b1
  go_wp2_with fail
  refine (sIsNetwork_any _ _ n N m P lo hi (HV.out.below B0 hhi) (by omega) HN.out).mono ?_
  rintro e w1 ⟨rfl, b1⟩
  have A1 := A0.below b1 (by omega)
  have B1 := B0.trans (b1.mono (by omega))
  have hs1 := b1.size
  have e0 := A1.b0
  have e1 := A1.b1
  have e2 : w.heap.size < w1.heap.size := by omega
  clear A0 B0 b1 e0' e1'
  cases hB : netB n N m P
  · have H2 := Lib.hid (show flC n N m P K d = 1 by unfold flC; rw [hB]; rfl)
    clear hB
    go_wp2_with fail
    go_ret
    exact ⟨ret_i H2.out.symm, B1⟩
  · have H1 := Lib.hid (hv.below B1 hha)
    cases hl : liB m K d
    · have H2 := Lib.hid (show flC n N m P K d = 3 by
        unfold flC
        rw [hB, if_pos rfl, if_neg (fun g => by rw [liB_iff.2 g] at hl; cases hl)])
      clear hB
      go_wp2_with (go_at_call 40; refine (l05List_any _ p0 p1 n m c0 c1 _ K d _ _ H1.out (by omega) hK9 hm9).mono ?_; rintro e w4 ⟨rfl, hb4⟩; rw [hl])
      go_ret
      exact ⟨ret_i H2.out.symm, B1.trans (hb4.mono (by omega))⟩
    · have H2 := Lib.hid (show flC n N m P K d = 0 by
        unfold flC
        rw [hB, if_pos rfl, if_pos (liB_iff.1 hl)])
      clear hB
      go_wp2_with (go_at_call 40; refine (l05List_any _ p0 p1 n m c0 c1 _ K d _ _ H1.out (by omega) hK9 hm9).mono ?_; rintro e w4 ⟨rfl, hb4⟩; rw [hl])
      go_ret
      exact ⟨ret_i H2.out.symm, B1.trans (hb4.mono (by omega))⟩
end Go.Proofs.YtdbgcbkmcbgdiaaDoor.mem

namespace Go.Proofs.YtdbgcbkmcbgdiaaDoor.mem
open Go.RowKit
set_option linter.unusedVariables false

theorem Ob.zeros (w : World) (n : Nat) : Ob (w.alloc (.cells (zeros n) 2)) w.heap.size n (ia (fun _ => 0)) := Ob.new w _ _ n _ (by unfold mem.zeros; simp [madeCells]) (fun k hk => zeros_get n k hk)
theorem Ob.setIn {w : World} {b n : Nat} {x : Nat → Int} (h : Ob w b n (ia x)) (i : Nat) (v : Int) (hi : i < n) : Ob (w.setCell ⟨b, i, none⟩ (.int .i64 v)) b n (ia (upd x i v)) := by
  refine (h.set i (.int .i64 v) hi).congr fun k _ => ?_
  unfold updV ia upd
  split <;> rfl
theorem dv_bd {P : Nat → Pip} {x : Nat → Int} {z : Int} : ∀ {k : Nat}, (∀ i, i < k → -30000 ≤ x i ∧ x i ≤ 30000) → -60000 * (k : Int) ≤ dv P x k z ∧ dv P x k z ≤ 60000 * (k : Int)
  | 0, _ => by unfold dv; omega
  | k + 1, h => by
    have ih := dv_bd (P := P) (x := x) (z := z) (k := k) (fun i hi => h i (by omega))
    have h1 := h k (by omega)
    unfold dv
    split <;> split <;> omega

end Go.Proofs.YtdbgcbkmcbgdiaaDoor.mem

namespace Go.Proofs.YtdbgcbkmcbgdiaaDoor.mem
open Go.RowKit
set_option linter.unusedVariables false

theorem cfN_le (n : Nat) (N : Nat → Nod) (m : Nat) (P : Nat → Pip) (K : Nat) (d : Nat → Int) (hm : m ≤ 2000000) : cfN n N m P K d ≤ 2000000 := by
  have := chN_le n P m
  unfold cfN
  split <;> omega
end Go.Proofs.YtdbgcbkmcbgdiaaDoor.mem

namespace Go.Proofs.YtdbgcbkmcbgdiaaDoor.mem
open Go.RowKit
set_option linter.unusedVariables false

/-- a pipe is appended to a row that holds the pipes of another list so far -/
theorem appFr (B : Nat) (W : World) (v : Value) (n : Nat) (F : Nat → Pip) (q : Pip) (hq : F n = q) (h : RowE B 50 5 W v n (pipC F)) (hB : B ≤ W.heap.size) (hn : n ≤ 1000000) :
    ∃ v' w', Sem.run Tryd.prog (Builtin.append_ #[33, 33] 33 #[v, .slice (some ⟨W.heap.size, 0, none⟩) 1 1]) (W.alloc (.cells #[.int .i64 q.f, .int .i64 q.t, .int .i64 q.k, .int .i64 q.v, .int .i64 q.l] 50)) = .ok v' w' ∧ RowE B 50 5 w' v' (n + 1) (pipC F) ∧ Upd (fun x => some x = v.ownBlock) W w' := by
  subst hq
  exact appOne Tryd.underlying33 info_make_pipe (by omega) rfl (by omega) B W v n _ _ h hB [.int .i64 (F n).f, .int .i64 (F n).t, .int .i64 (F n).k, .int .i64 (F n).v, .int .i64 (F n).l] rfl (by intro u hu; simp at hu; rcases hu with rfl | rfl | rfl | rfl | rfl <;> rfl)
    (fun i j hi hj => rfl) (fun j hj => by rcases (by omega : j = 0 ∨ j = 1 ∨ j = 2 ∨ j = 3 ∨ j = 4) with rfl | rfl | rfl | rfl | rfl <;> rfl) hn
theorem row_below {B : Nat} {e : TypeId} {z : Nat} {w w' : World} {v : Value} {n : Nat} {c : Nat → Nat → Value} (h : RowE B e z w v n c) (u : Upd (fun x => some x = v.ownBlock) w w') (hB : B ≤ w.heap.size) : Below B w w' :=
  u.below hB (fun k _ hk => (h.own.lt k hk.symm).1)
end Go.Proofs.YtdbgcbkmcbgdiaaDoor.mem

namespace Go.Proofs.YtdbgcbkmcbgdiaaDoor.mem
open Go.RowKit
set_option linter.unusedVariables false

theorem Own.made (w : World) (n : Nat) (hn : n ≤ 1000000) : Own (w.alloc (.cells (zeros n) 2)) (.slice (some ⟨w.heap.size, 0, none⟩) n n) n (fun _ => 0) w.heap.size :=
  ⟨n, zeros n, rfl, heap_alloc_new w _, Nat.le_refl _, by unfold maxLen; omega, by unfold zeros; simp [madeCells], fun k hk => zeros_get n k hk⟩
theorem Own.put1 {w : World} {v : Value} {n g : Nat} {d : Nat → Int} (h : Own w v n d g) (i : Nat) (x : Int) (hi : i < n) : Own (w.setCell ⟨g, i, none⟩ (.int .i64 x)) v n (upd d i x) g := by
  obtain ⟨cap, cur, h0, h1, h2, h3, h4, h5⟩ := h.ex
  refine ⟨cap, cur.setIfInBounds i (.int .i64 x), h0, ?_, h2, h3, by simpa using h4, fun k hk => ?_⟩
  · simp [World.setCell, Array.getElem?_modify, h1]
  · unfold upd
    by_cases e : k = i
    · subst e
      rw [if_pos rfl]
      simp [h4, show k < cap by omega]
    · rw [if_neg e, Array.getElem?_setIfInBounds, if_neg (by omega)]
      exact h5 k hk
theorem Own.free {w : World} {v : Value} {n g : Nat} {d : Nat → Int} (h : Own w v n d g) (i : Nat) : w.frozen? ⟨g, i, none⟩ = false := by
  obtain ⟨cap, cur, h0, h1, _⟩ := h.ex
  simp [World.frozen?, h1]
theorem Own.made1 (w : World) (n c : Nat) (x : Int) (hn : n ≤ 1000000) (hc : c < n) : Own (w.alloc (.cells ((zeros n).setIfInBounds c (.int .i64 x)) 2)) (.slice (some ⟨w.heap.size, 0, none⟩) n n) n (upd (fun _ => 0) c x) w.heap.size := by
  refine ⟨n, _, rfl, heap_alloc_new w _, Nat.le_refl _, by unfold maxLen; omega, by unfold zeros; simp [madeCells], fun k hk => ?_⟩
  unfold upd
  have hz : (zeros n).size = n := by unfold zeros; simp [madeCells]
  by_cases e : k = c
  · subst e
    rw [if_pos rfl]
    simp [hz, hk]
  · rw [if_neg e, Array.getElem?_setIfInBounds, if_neg (by omega)]
    exact zeros_get n k hk
theorem upd_dwX {X : Nat → Prop} {w w' : World} (h : Upd X w w') : Upd X w w'.drew := ⟨h.os, h.tape, h.output, h.size, h.block⟩
theorem treeAt {w : World} {u1 u3 : Option Addr} {n L u2 u4 lo hi gR : Nat} {N : Nat → Nod} {F : Nat → Pip} (h1 : Cs w (.slice u1 n u2) n 3 (nodC N) lo hi) (h2 : OwnS w (.slice u3 L u4) L 5 (pipC F) gR) (hh : hi ≤ w.heap.size) : NetAt w (.agg #[.slice u1 n u2, .slice u3 L u4]) n N L F 0 w.heap.size :=
  ⟨_, _, rfl, h1.mono (Nat.zero_le _) hh, h2.cs (.inr rfl) (Nat.le_refl _)⟩
end Go.Proofs.YtdbgcbkmcbgdiaaDoor.mem

namespace Go.Proofs.YtdbgcbkmcbgdiaaDoor.mem
open Go.RowKit
set_option linter.unusedVariables false

theorem cyN_le (n : Nat) (N : Nat → Nod) (m : Nat) (P : Nat → Pip) (x : Int) (hm : m ≤ 2000000) : cyN n N m P x ≤ 2000000 := by
  unfold cyN
  split <;> omega
end Go.Proofs.YtdbgcbkmcbgdiaaDoor.mem

namespace Go.Proofs.YtdbgcbkmcbgdiaaDoor.mem
open Go.RowKit
set_option linter.unusedVariables false

theorem adN_le (n : Nat) (N : Nat → Nod) (m : Nat) (P : Nat → Pip) (K : Nat) (d : Nat → Int) (x y : Int) (hm : m ≤ 2000000) : adN n N m P K d x y ≤ 2000000 := by
  unfold adN
  split <;> omega
end Go.Proofs.YtdbgcbkmcbgdiaaDoor.mem
