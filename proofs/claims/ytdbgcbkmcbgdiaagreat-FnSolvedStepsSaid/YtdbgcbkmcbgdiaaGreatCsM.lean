/-
  Several texts in one: Csp, Csq, Csr, Css, Cst, Csu, Csv.
-/
import Derived.Test.YtdbgcbkmcbgdiaaGreatRows
import Derived.Test.YtdbgcbkmcbgdiaaGreatCiM
import Derived.StillTailTactics
import Derived.Test.YtdbgcbkmcbgdiaaGreatRowE
import Derived.Laws.ResultCell
import Derived.Deep.RegionHeld3
namespace Go.Proofs.YtdbgcbkmcbgdiaaGreat.mem
open Go.RowKit
set_option linter.unusedVariables false

theorem inF_has {n : Nat} {P : Nat → Pip} {m a : Nat} (ha : a < m) : hasB (forest n P m).length (lD (forest n P m)) ((a : Nat) : Int) = inF n P m (fl (rts n P m) n) a := by
  cases hp : inF n P m (fl (rts n P m) n) a
  · refine hasB_no fun k hk e => ?_
    obtain ⟨b, hb, hb2, hb3, _⟩ := forest_at hk
    obtain rfl : b = a := by omega
    rw [hp] at hb2
    cases hb2
  · obtain ⟨h1, h2⟩ := forest_idx ha hp
    exact hasB_yes h1 h2
set_option maxRecDepth 100000 in
set_option maxHeartbeats 8000000 in
theorem l05Chords_any (w : World) (v : Value) (n : Nat) (N : Nat → Nod) (m : Nat) (P : Nat → Pip) (lo hi : Nat) (h : NetAt w v n N m P lo hi) (hhi : hi ≤ w.heap.size) (hN : ∀ i, i < n → (N i).s.size ≤ 9223372036854775807) (hB : netB n N m P = true) :
    Calls Tryz.prog 129 #[v] w fun e w' => ∃ v2 g, e = .returned v2 ∧ Own w' v2 (chN n P m) (fd (chP n P m) m) g ∧ w.heap.size ≤ g ∧ Below w.heap.size w w' := by
  have hm40 := (net_sz hB).2.2
  have HB := Lib.hid hB
  clear hB
  obtain ⟨p0, c0, p1, c1, rfl, hn9, hm9⟩ := h.parts
  have HV := Lib.hid h
  have HN := Lib.hid hN
  have A0 := boxed w (.slice p0 n c0) (.slice p1 m c1) 27
  have B0 := below_new w (.cells #[.slice p0 n c0, .slice p1 m c1] 27)
  have hs0 : (w.alloc (.cells #[.slice p0 n c0, .slice p1 m c1] 27)).heap.size = w.heap.size + 1 := by simp
  clear h hN
  go_enter Tryz.func129, Tryz.ntmps129
  have e0' := A0.b0
  have e1' := A0.b1
  go_wp2_with fail
  refine (l04Forest_any _ _ n N m P lo hi (HV.out.below B0 hhi) (by omega) HN.out HB.out).mono ?_
  rintro e w1 ⟨vf, gf, rfl, hgf, of, b1⟩
  obtain ⟨cf, rfl⟩ := of.shape
  have A1 := A0.below b1 (by omega)
  have B1 := B0.trans (b1.mono (by omega))
  have hs1 := b1.size
  have b2 := below_new w1 (.cells #[] 2)
  have HA := Lib.hid (A1.below b2 (by omega))
  have HBB := Lib.hid (B1.trans (b2.mono (by omega)))
  have HF := Lib.hid (of.below b2 (Nat.le_refl _))
  have HO := Lib.hid (Own.nilled w1 (fd (chP n P m) 0))
  have hgl := of.lt
  have hs2 : (w1.alloc (.cells #[] 2)).heap.size = w1.heap.size + 1 := by simp
  clear A0 B0 A1 B1 b1 b2 of e0' e1'
  go_wp2_with fail
  generalize hW : w1.alloc (.cells #[] 2) = w2 at *
  clear hW
  have hfm := forest_le n P m
  go_loopw [4, 5] (fun ov iv wr => ∃ (k g : Nat) (ov' : Value), ov' = ov ∧ iv = .int .i64 k ∧ k ≤ m ∧ Own wr ov' (fl (chP n P m) k).length (fd (chP n P m) k) g ∧ w.heap.size < g ∧ g ≠ gf ∧ Own wr (.slice (some ⟨gf, 0, none⟩) (forest n P m).length cf) (forest n P m).length (lD (forest n P m)) gf ∧ Ob wr w.heap.size 2 (bx (.slice p0 n c0) (.slice p1 m c1)) ∧ Below w.heap.size w wr) (fun _ iv _ => m - (intOf iv).toNat)
  case atStart => exact ⟨0, w1.heap.size, _, rfl, rfl, Nat.zero_le _, HO.out, by omega, by omega, HF.out, HA.out, HBB.out⟩
  case round =>
    obtain ⟨k, g, ov, rfl, rfl, hk, ho, hg, hne, of, oa, hb⟩ := hrel
    obtain ⟨co, rfl⟩ := ho.shape
    clear HF HO HA HBB
    have HO := Lib.hid ho
    have HF := Lib.hid of
    have HA := Lib.hid oa
    have HBB := Lib.hid hb
    have lg := ho.lt
    have lf := of.lt
    have la := oa.lt
    have e1 : wr.cell? ⟨w.heap.size, 1, none⟩ = some (.slice p1 m c1) := oa.b1
    clear ho of oa hb
    have k0 : (0 : Int) ≤ (k : Int) := Int.natCast_nonneg _
    generalize hQ : Exit.then _ _ = Q
    have HQ := Lib.hid hQ
    clear hQ
    by_cases hlt : k < m
    · have k1 : (k : Int) < (m : Int) := by omega
      have hih := inF_has (n := n) (P := P) hlt
      cases hp : inF n P m (fl (rts n P m) n) k
      · have hpc : chP n P m k = true := by unfold chP; rw [hp]; rfl
        rw [hp] at hih
        obtain ⟨v7, w7, g7, hr, ap⟩ := coll_run wr _ (chP n P m) k g HO.out (by omega)
        have Y := coll_below ap (B := w.heap.size + 1) (by omega) lg
        have O7 := Lib.hid (fl_app hpc ap)
        have hoth := ap.other (c := gf) (fun e => hne e.symm) (by rw [szal]; omega)
        have hotA := ap.other (c := w.heap.size) (by omega) (by rw [szal]; omega)
        have HF7 := Lib.hid ((HF.out.alloc _).keep hoth.1)
        have HA7 := Lib.hid ((HA.out.keep (Below.heap_alloc _ (.cells #[.int .i64 (k : Nat)] 2) _ la)).keep hotA.1)
        have HB7 := Lib.hid (HBB.out.trans (Y.1.mono (by omega)))
        have hg7 := Y.2
        have hne7 := hoth.2
        clear ap hoth hotA Y hp hpc
        go_wp2_with (first | (go_at_call 161; refine (l02Has_any _ _ _ (lD (forest n P m)) 0 _ (HF.out.ownS.cs (.inr rfl) (Nat.le_refl _)) _).mono ?_; rintro e w' ⟨rfl, rfl⟩; rw [hih]) | (at_builtin; refine wpList_app hr rfl _ _ rfl rfl rfl rfl ?_))
        rw [← HQ.out]
        refine ⟨⟨_, _, _, _, _, _, _, _, _, _, _, _, _, _, _, _, _, ?rel, rfl⟩, ?measure⟩
        case rel => exact ⟨k + 1, g7, _, rfl, by go_num, hlt, O7.out, by omega, fun e => hne7 e.symm, HF7.out, HA7.out, HB7.out⟩
        case measure => simp [intOf]; omega
      · have HPC := Lib.hid (show chP n P m k = false by unfold chP; rw [hp]; rfl)
        rw [hp] at hih
        clear hp
        go_wp2_with (go_at_call 161; refine (l02Has_any _ _ _ (lD (forest n P m)) 0 _ (HF.out.ownS.cs (.inr rfl) (Nat.le_refl _)) _).mono ?_; rintro e w' ⟨rfl, rfl⟩; rw [hih])
        rw [← HQ.out]
        refine ⟨⟨_, _, _, _, _, _, _, _, _, _, _, _, _, _, _, _, _, ?rel, rfl⟩, ?measure⟩
        case rel => exact ⟨k + 1, g, _, rfl, by go_num, hlt, fl_keep HPC.out HO.out, hg, hne, HF.out, HA.out, HBB.out⟩
        case measure => simp [intOf]; omega
    · have hkn : m = k := by omega
      subst hkn
      have k1 : ¬ ((m : Int) < (m : Int)) := by omega
      go_wp2_with fail
      rw [← HQ.out]
      go_wp2_with fail
      go_ret
      exact ⟨_, g, rfl, HO.out, by omega, HBB.out⟩
theorem coN_le (n : Nat) (N : Nat → Nod) (m : Nat) (P : Nat → Pip) (hm : m ≤ 2000000) : coN n N m P ≤ 2000000 := by
  have := chN_le n P m
  unfold coN
  split <;> omega
theorem l05Flow_any (w : World) (x : Int) : Calls Tryz.prog 102 #[.int .i64 x] w fun e w' => e = .returned (.bool (flQ x)) ∧ w = w' := by
  unfold flQ
  go_enter Tryz.func102, Tryz.ntmps102
  go_wp2_with (go_at_call 117; refine (l01In_any _ _ _ _).mono ?_; rintro e w' ⟨rfl, rfl⟩)
  go_ret
  exact ⟨rfl, rfl⟩
/-- is a list one of flows of a network with m pipes? -/
def liB (m K : Nat) (d : Nat → Int) : Bool := flB d K && decide (K = m)
set_option maxRecDepth 100000 in
set_option maxHeartbeats 8000000 in
theorem l05List_any (w : World) (p0 p1 : Option Addr) (n m c0 c1 : Nat) (va : Value) (K : Nat) (d : Nat → Int) (la ha : Nat) (hv : Sl w va K d la ha) (hha : ha ≤ w.heap.size) (hK9 : K ≤ 9223372036854775807) (hm9 : m ≤ 9223372036854775807) :
    Calls Tryz.prog 52 #[.agg #[.slice p0 n c0, .slice p1 m c1], va] w fun e w' => e = .returned (.bool (liB m K d)) ∧ Below w.heap.size w w' := by
  have A0 := boxed w (.slice p0 n c0) (.slice p1 m c1) 27
  have B0 := Lib.hid (below_new w (.cells #[.slice p0 n c0, .slice p1 m c1] 27))
  have H1 := Lib.hid (hv.below B0.out hha)
  obtain ⟨p, cap, rfl, hc⟩ := hv.below B0.out hha
  have HC := Lib.hid hc
  have e1 := A0.b1
  clear hc A0 hv
  go_enter Tryz.func52, Tryz.ntmps52
  go_wp2_with fail
  obtain ⟨w1, hw1⟩ : ∃ w1, w.alloc (.cells #[.slice p0 n c0, .slice p1 m c1] 27) = w1 := ⟨_, rfl⟩
  rw [hw1] at B0 HC e1 ⊢
  clear hw1 H1
  go_loopw [5] (fun iv wr => ∃ k : Nat, iv = .int .i64 k ∧ k ≤ K ∧ flB d k = true ∧ wr = w1) (fun iv _ => K - (intOf iv).toNat)
  case atStart => exact ⟨0, rfl, Nat.zero_le _, rfl, rfl⟩
  case round =>
    obtain ⟨k, rfl, hk, hb, rfl⟩ := hrel
    generalize hQ : Exit.then _ _ = Q
    have HQ := Lib.hid hQ
    clear hQ
    have HF := Lib.hid hb
    clear hb
    have k0 : (0 : Int) ≤ (k : Int) := Int.natCast_nonneg _
    by_cases hlt : k < K
    · have k1 : (k : Int) < (K : Int) := by omega
      obtain ⟨b, o, rfl, _, _, hx⟩ : ∃ b o, p = some ⟨b, o, none⟩ ∧ la ≤ b ∧ b < ha ∧ ∀ k, k < K → wr.cell? ⟨b, o + k, none⟩ = some (.int .i64 (d k)) := by
        rcases HC.out with e | e
        · omega
        · exact e
      have y0 := hx k hlt
      have HX := Lib.hid hx
      clear hx
      cases hq : flQ (d k)
      · have HR := Lib.hid (show liB m K d = false by unfold liB; rw [flB_no hlt hq]; rfl)
        go_wp2_with (go_at_call 102; refine (l05Flow_any _ _).mono ?_; rintro e w' ⟨rfl, rfl⟩; rw [hq])
        rw [← HQ.out]
        go_wp2_with fail
        go_ret
        exact ⟨ret_b HR.out.symm, B0.out⟩
      · have HR := Lib.hid (show flB d (k + 1) = true by unfold flB; rw [HF.out, hq]; rfl)
        go_wp2_with (go_at_call 102; refine (l05Flow_any _ _).mono ?_; rintro e w' ⟨rfl, rfl⟩; rw [hq])
        rw [← HQ.out]
        refine ⟨⟨_, _, _, _, _, _, _, _, _, _, _, _, _, _, ?rel, rfl⟩, ?measure⟩
        case rel => exact ⟨k + 1, by go_num, hlt, HR.out, rfl⟩
        case measure => simp [intOf]; omega
    · have hkn : K = k := by omega
      have HR := Lib.hid (show liB m K d = decide (K = m) by unfold liB; rw [hkn, HF.out]; rfl)
      have hb2 : ((K : Int) == (m : Int)) = decide (K = m) := by
        by_cases e : K = m
        · simp [e]
        · rw [decide_eq_false e]; simp; omega
      subst hkn
      have k1 : ¬ ((K : Int) < (K : Int)) := by omega
      go_wp2_with fail
      rw [← HQ.out]
      go_wp2_with fail
      go_ret
      refine ⟨ret_b ?_, B0.out⟩
      first | exact HR.out.symm | (rw [HR.out, ← hb2])
theorem liB_iff {m K : Nat} {d : Nat → Int} : liB m K d = true ↔ K = m ∧ flB d K = true := by
  unfold liB
  rw [Bool.and_eq_true, decide_eq_true_eq]
  exact And.comm
theorem l05Code_any (w : World) (v : Value) (n : Nat) (N : Nat → Nod) (m : Nat) (P : Nat → Pip) (lo hi : Nat) (h : NetAt w v n N m P lo hi) (hhi : hi ≤ w.heap.size) (hN : ∀ i, i < n → (N i).s.size ≤ 9223372036854775807) (va : Value) (K : Nat) (d : Nat → Int) (la ha : Nat) (hv : Sl w va K d la ha) (hha : ha ≤ w.heap.size) (hK9 : K ≤ 9223372036854775807) :
    Calls Tryz.prog 46 #[v, va] w fun e w' => e = .returned (.int .i64 (flC n N m P K d)) ∧ Below w.heap.size w w' := by
  obtain ⟨p0, c0, p1, c1, rfl, hn9, hm9⟩ := h.parts
  have HV := Lib.hid h
  have HN := Lib.hid hN
  have A0 := boxed w (.slice p0 n c0) (.slice p1 m c1) 27
  have B0 := below_new w (.cells #[.slice p0 n c0, .slice p1 m c1] 27)
  have hs0 : (w.alloc (.cells #[.slice p0 n c0, .slice p1 m c1] 27)).heap.size = w.heap.size + 1 := by simp
  clear h hN
  go_enter Tryz.func46, Tryz.ntmps46
  have e0' := A0.b0
  have e1' := A0.b1
  go_wp2_with fail
  refine (sIsNetwork_any _ _ n N m P lo hi (HV.out.below B0 hhi) (by omega) HN.out).mono ?_
  rintro e w1 ⟨rfl, b1⟩
  have A1 := A0.below b1 (by omega)
  have B1 := B0.trans (b1.mono (by omega))
  have hs1 := b1.size
  have e0 := A1.b0
  have e1 := A1.b1
  have e2 : w.heap.size < w1.heap.size := by omega
  clear A0 B0 b1 e0' e1'
  cases hB : netB n N m P
  · have H2 := Lib.hid (show flC n N m P K d = 1 by unfold flC; rw [hB]; rfl)
    clear hB
    go_wp2_with fail
    go_ret
    exact ⟨ret_i H2.out.symm, B1⟩
  · have H1 := Lib.hid (hv.below B1 hha)
    cases hl : liB m K d
    · have H2 := Lib.hid (show flC n N m P K d = 3 by
        unfold flC
        rw [hB, if_pos rfl, if_neg (fun g => by rw [liB_iff.2 g] at hl; cases hl)])
      clear hB
      go_wp2_with (go_at_call 52; refine (l05List_any _ p0 p1 n m c0 c1 _ K d _ _ H1.out (by omega) hK9 hm9).mono ?_; rintro e w4 ⟨rfl, hb4⟩; rw [hl])
      go_ret
      exact ⟨ret_i H2.out.symm, B1.trans (hb4.mono (by omega))⟩
    · have H2 := Lib.hid (show flC n N m P K d = 0 by
        unfold flC
        rw [hB, if_pos rfl, if_pos (liB_iff.1 hl)])
      clear hB
      go_wp2_with (go_at_call 52; refine (l05List_any _ p0 p1 n m c0 c1 _ K d _ _ H1.out (by omega) hK9 hm9).mono ?_; rintro e w4 ⟨rfl, hb4⟩; rw [hl])
      go_ret
      exact ⟨ret_i H2.out.symm, B1.trans (hb4.mono (by omega))⟩
end Go.Proofs.YtdbgcbkmcbgdiaaGreat.mem

namespace Go.Proofs.YtdbgcbkmcbgdiaaGreat.mem
open Go.RowKit
set_option linter.unusedVariables false

theorem Ob.zeros (w : World) (n : Nat) : Ob (w.alloc (.cells (zeros n) 2)) w.heap.size n (ia (fun _ => 0)) := Ob.new w _ _ n _ (by unfold mem.zeros; simp [madeCells]) (fun k hk => zeros_get n k hk)
theorem Ob.setIn {w : World} {b n : Nat} {x : Nat → Int} (h : Ob w b n (ia x)) (i : Nat) (v : Int) (hi : i < n) : Ob (w.setCell ⟨b, i, none⟩ (.int .i64 v)) b n (ia (upd x i v)) := by
  refine (h.set i (.int .i64 v) hi).congr fun k _ => ?_
  unfold updV ia upd
  split <;> rfl
theorem dv_bd {P : Nat → Pip} {x : Nat → Int} {z : Int} : ∀ {k : Nat}, (∀ i, i < k → -30000 ≤ x i ∧ x i ≤ 30000) → -60000 * (k : Int) ≤ dv P x k z ∧ dv P x k z ≤ 60000 * (k : Int)
  | 0, _ => by unfold dv; omega
  | k + 1, h => by
    have ih := dv_bd (P := P) (x := x) (z := z) (k := k) (fun i hi => h i (by omega))
    have h1 := h k (by omega)
    unfold dv
    split <;> split <;> omega

set_option maxRecDepth 100000 in
set_option maxHeartbeats 8000000 in
theorem l05Zero_any (w : World) (v : Value) (n : Nat) (d : Nat → Int) (lo hi : Nat) (h : Sl w v n d lo hi) (hn : n ≤ 9223372036854775807) :
    Calls Tryz.prog 99 #[v] w fun e w' => e = .returned (.bool ((List.range n).all (fun z => d z == 0))) ∧ w = w' := by
  obtain ⟨p, cap, rfl, hc⟩ := h
  have HC := Lib.hid hc
  clear hc
  go_enter Tryz.func99, Tryz.ntmps99
  go_wp2_with fail
  go_loopw [3] (fun iv wr => ∃ k : Nat, iv = .int .i64 k ∧ k ≤ n ∧ (∀ i, i < k → d i = 0) ∧ w = wr) (fun iv _ => n - (intOf iv).toNat)
  case atStart => exact ⟨0, rfl, Nat.zero_le _, fun i hi => by omega, rfl⟩
  case round =>
    obtain ⟨k, rfl, hk, hb, rfl⟩ := hrel
    generalize hQ : Exit.then _ _ = Q
    have HQ := Lib.hid hQ
    clear hQ
    have HF := Lib.hid hb
    clear hb
    have k0 : (0 : Int) ≤ (k : Int) := Int.natCast_nonneg _
    by_cases hlt : k < n
    · have k1 : (k : Int) < (n : Int) := by omega
      obtain ⟨b, o, rfl, _, _, hx⟩ : ∃ b o, p = some ⟨b, o, none⟩ ∧ lo ≤ b ∧ b < hi ∧ ∀ k, k < n → w.cell? ⟨b, o + k, none⟩ = some (.int .i64 (d k)) := by
        rcases HC.out with e | e
        · omega
        · exact e
      have y0 := hx k hlt
      have HX := Lib.hid hx
      clear hx
      by_cases hq : d k = 0
      · have h1 : (d k != 0) = false := by simp [hq]
        have HR := Lib.hid (show ∀ i, i < k + 1 → d i = 0 from fun i hi => by
          by_cases e : i = k
          · subst e; exact hq
          · exact HF.out i (by omega))
        clear hq
        go_wp2_with fail
        rw [← HQ.out]
        refine ⟨⟨_, _, _, _, _, _, _, _, _, _, _, _, _, ?rel, rfl⟩, ?measure⟩
        case rel => exact ⟨k + 1, by go_num, hlt, HR.out, rfl⟩
        case measure => simp [intOf]; omega
      · have h1 : (d k != 0) = true := by simpa using hq
        have HR := Lib.hid (show (List.range n).all (fun z => d z == 0) = false by
          rw [Bool.eq_false_iff]
          intro g
          have := List.all_eq_true.1 g k (List.mem_range.2 hlt)
          rw [beq_iff_eq] at this
          exact hq this)
        clear hq
        go_wp2_with fail
        rw [← HQ.out]
        go_wp2_with fail
        go_ret
        exact ⟨ret_b HR.out.symm, rfl⟩
    · have hkn : n = k := by omega
      subst hkn
      have k1 : ¬ ((n : Int) < (n : Int)) := by omega
      have HR := Lib.hid (show (List.range n).all (fun z => d z == 0) = true by
        rw [List.all_eq_true]
        intro z hz
        rw [beq_iff_eq]
        exact HF.out z (List.mem_range.1 hz))
      go_wp2_with fail
      rw [← HQ.out]
      go_wp2_with fail
      go_ret
      exact ⟨ret_b HR.out.symm, rfl⟩

set_option maxRecDepth 100000 in
set_option maxHeartbeats 8000000 in
theorem l05Out_any (w : World) (v : Value) (n : Nat) (N : Nat → Nod) (m : Nat) (P : Nat → Pip) (lo hi : Nat) (h : NetAt w v n N m P lo hi) (hhi : hi ≤ w.heap.size) (hN : ∀ i, i < n → (N i).s.size ≤ 9223372036854775807) (hB : netB n N m P = true) (va : Value) (d : Nat → Int) (la ha : Nat) (hv : Sl w va m d la ha) (hha : ha ≤ w.heap.size) (hf : flB d m = true) :
    Calls Tryz.prog 48 #[v, va] w fun e w' => ∃ v2 g, e = .returned v2 ∧ Sl w' v2 n (fun z => dv P d m ((z : Nat) : Int)) g (g + 1) ∧ w.heap.size ≤ g ∧ g < w'.heap.size ∧ Below w.heap.size w w' := by
  obtain ⟨p0, c0, p1, c1, rfl, hn9, hm9⟩ := h.parts
  obtain ⟨hn1, hn24, hm40⟩ := net_sz hB
  have HV := Lib.hid h
  have HPI := Lib.hid (fun a (ha : a < m) => pip_end (net_pip hB ha))
  have HFR := Lib.hid (show ∀ i, i < m → -30000 ≤ d i ∧ d i ≤ 30000 from fun i hi => flQ_iff.1 (flB_iff.1 hf i hi))
  obtain ⟨pa, ca, rfl, hva⟩ := hv
  have HVZ := Lib.hid hva
  have A0 := (boxed w (.slice p0 n c0) (.slice p1 m c1) 27).keep (Below.heap_alloc _ (.cells (zeros n) 2) _ (by simp only [World.size_alloc]; omega))
  have G0 := Ob.zeros (w.alloc (.cells #[.slice p0 n c0, .slice p1 m c1] 27)) n
  simp only [World.size_alloc] at G0
  have B0 := (below_new w (.cells #[.slice p0 n c0, .slice p1 m c1] 27)).trans ((below_new _ (.cells (zeros n) 2)).mono (by simp only [World.size_alloc]; omega))
  have e0' := (boxed w (.slice p0 n c0) (.slice p1 m c1) 27).b0
  have m1 := fun W => make_int64 W n (by omega)
  have n0 : (0 : Int) ≤ (n : Int) := Int.natCast_nonneg _
  have HA := Lib.hid A0
  have HG := Lib.hid G0
  have HBB := Lib.hid B0
  clear h hN hB A0 G0 B0 hva hf
  go_enter Tryz.func48, Tryz.ntmps48
  go_wp2_with fail
  generalize hW : (w.alloc (.cells #[.slice p0 n c0, .slice p1 m c1] 27)).alloc (.cells (zeros n) 2) = w2 at *
  clear hW m1 e0'
  go_loopw [6] (fun iv wr => ∃ k : Nat, iv = .int .i64 k ∧ k ≤ m ∧ Ob wr (w.heap.size + 1) n (ia (fun z => dv P d k ((z : Nat) : Int))) ∧ Ob wr w.heap.size 2 (bx (.slice p0 n c0) (.slice p1 m c1)) ∧ Below w.heap.size w wr) (fun iv _ => m - (intOf iv).toNat)
  case atStart => exact ⟨0, rfl, Nat.zero_le _, HG.out.congr (fun k _ => rfl), HA.out, HBB.out⟩
  case round =>
    obtain ⟨k, rfl, hk, og, oa, hb⟩ := hrel
    clear HA HG HBB
    have HG := Lib.hid og
    have HA := Lib.hid oa
    have HBB := Lib.hid hb
    clear og oa hb
    generalize hQ : Exit.then _ _ = Q
    have HQ := Lib.hid hQ
    clear hQ
    have k0 : (0 : Int) ≤ (k : Int) := Int.natCast_nonneg _
    have lg := HG.out.lt
    by_cases hlt : k < m
    · have k1 : (k : Int) < (m : Int) := by omega
      obtain ⟨bp, op, rfl, q1, q2, r0, r1, r2, r3, r4⟩ := (HV.out.below HBB.out hhi).pipe hlt
      obtain ⟨ba, oa, rfl, g1, g2, hx⟩ : ∃ b o, pa = some ⟨b, o, none⟩ ∧ la ≤ b ∧ b < ha ∧ ∀ k, k < m → w.cell? ⟨b, o + k, none⟩ = some (.int .i64 (d k)) := by
        rcases HVZ.out with e | e
        · omega
        · exact e
      have ya : wr.cell? ⟨ba, oa + k, none⟩ = some (.int .i64 (d k)) := (HBB.out.cell (p := ⟨ba, oa + k, none⟩) (by show ba < w.heap.size; omega)).trans (hx k hlt)
      have HX := Lib.hid hx
      clear hx r2 r3 r4
      obtain ⟨hf0, ht0, hne⟩ := HPI.out k hlt
      obtain ⟨f, hf⟩ := Int.eq_ofNat_of_zero_le hf0.1
      obtain ⟨t, ht⟩ := Int.eq_ofNat_of_zero_le ht0.1
      rw [hf] at r0 hf0 hne
      rw [ht] at r1 ht0 hne
      have HFE := Lib.hid hf
      have HTE := Lib.hid ht
      clear hf ht
      have f0 := hf0.1
      have f1 := hf0.2
      have t0 := ht0.1
      have t1 := ht0.2
      have hfn : f < n := by omega
      have htn : t < n := by omega
      have e1 : wr.cell? ⟨w.heap.size, 1, none⟩ = some (.slice (some ⟨bp, op, none⟩) m c1) := HA.out.b1
      have yf : wr.cell? ⟨w.heap.size + 1, f, none⟩ = some (.int .i64 (dv P d k ((f : Nat) : Int))) := HG.out.cell f hfn
      have yz := HG.out.free f
      have hd := HFR.out k hlt
      have hb1 := dv_bd (P := P) (x := d) (z := ((f : Nat) : Int)) (k := k) (fun i hi => HFR.out i (by omega))
      have hb2 := dv_bd (P := P) (x := d) (z := ((t : Nat) : Int)) (k := k) (fun i hi => HFR.out i (by omega))
      have a1 : -4611686018427387904 ≤ dv P d k ((f : Nat) : Int) + d k ∧ dv P d k ((f : Nat) : Int) + d k ≤ 4611686018427387904 := by omega
      have a2 : -4611686018427387904 ≤ dv P d k ((t : Nat) : Int) - d k ∧ dv P d k ((t : Nat) : Int) - d k ≤ 4611686018427387904 := by omega
      clear hb1 hb2 hd hf0 ht0
      have hftN : f ≠ t := by omega
      have bne : bp ≠ w.heap.size + 1 := by omega
      have bna : ba ≠ w.heap.size + 1 := by omega
      have o1 := (Only.refl (w.heap.size + 1) wr).setCell f (.int .i64 (dv P d k ((f : Nat) : Int) + d k))
      have G1 := HG.out.setIn f (dv P d k ((f : Nat) : Int) + d k) hfn
      have wne : w.heap.size ≠ w.heap.size + 1 := by omega
      have z1 := (o1.cell (a := ⟨w.heap.size, 1, none⟩) wne).trans e1
      have z2 := (o1.cell (a := ⟨bp, op + k * 5, none⟩) bne).trans r0
      have z3 := (o1.cell (a := ⟨bp, op + k * 5 + 1, none⟩) bne).trans r1
      have z4 := (o1.cell (a := ⟨ba, oa + k, none⟩) bna).trans ya
      have Z1 := Lib.hid z1
      have Z2 := Lib.hid z2
      have Z3 := Lib.hid z3
      have Z4 := Lib.hid z4
      have H1 := Lib.hid a2
      have HR1 := Lib.hid r1
      clear z1 z2 z3 z4 a2 r1
      go_wp2_with fail
      go_still_tail 22, (by kernel_rfl)
      change wpList _ _ _ _ _ wr.drew
      go_wp2_with fail
      have ht2 : (ia (upd (fun z => dv P d k ((z : Nat) : Int)) f (dv P d k ((f : Nat) : Int) + d k))) t = .int .i64 (dv P d k ((t : Nat) : Int)) := by
        unfold ia upd
        rw [if_neg (fun e => hftN e.symm)]
      have G1d : Ob (wr.setCell ⟨w.heap.size + 1, f, none⟩ (.int .i64 (dv P d k ((f : Nat) : Int) + d k))).drew (w.heap.size + 1) n (ia (upd (fun z => dv P d k ((z : Nat) : Int)) f (dv P d k ((f : Nat) : Int) + d k))) := G1.keep rfl
      have OD := o1.below (B := w.heap.size) (by omega)
      obtain ⟨w3, hw3⟩ : ∃ w3, (wr.setCell ⟨w.heap.size + 1, f, none⟩ (.int .i64 (dv P d k ((f : Nat) : Int) + d k))).drew = w3 := ⟨_, rfl⟩
      have e1' : w3.cell? ⟨w.heap.size, 1, none⟩ = some (.slice (some ⟨bp, op, none⟩) m c1) := by rw [← hw3]; exact Z1.out
      have r1' : w3.cell? ⟨bp, op + k * 5 + 1, none⟩ = some (.int .i64 (t : Nat)) := by rw [← hw3]; exact Z3.out
      have ya' : w3.cell? ⟨ba, oa + k, none⟩ = some (.int .i64 (d k)) := by rw [← hw3]; exact Z4.out
      have yf' : w3.cell? ⟨w.heap.size + 1, t, none⟩ = some (.int .i64 (dv P d k ((t : Nat) : Int))) := by rw [← hw3, G1d.cell t htn, ht2]
      have oa3 : Ob w3 w.heap.size 2 (bx (.slice p0 n c0) (.slice (some ⟨bp, op, none⟩) m c1)) := by rw [← hw3]; exact (HA.out.only o1 (by omega)).keep rfl
      have b3 : Below w.heap.size w w3 := by rw [← hw3]; exact below_drw (HBB.out.trans OD)
      rw [hw3] at G1d ⊢
      clear hw3 e1 r0 ya yf yz o1 G1 Z1 Z2 Z3 Z4 HR1 OD a1 ht2
      have yz := G1d.free t
      have a2 := H1.out
      have HA3 := Lib.hid oa3
      have HB3 := Lib.hid b3
      have HG3 := Lib.hid G1d
      clear oa3 b3 G1d
      have o2 := (Only.refl (w.heap.size + 1) w3).setCell t (.int .i64 (dv P d k ((t : Nat) : Int) - d k))
      have z1 := Lib.hid ((o2.cell (a := ⟨w.heap.size, 1, none⟩) wne).trans e1')
      have z2 := Lib.hid ((o2.cell (a := ⟨bp, op + k * 5 + 1, none⟩) bne).trans r1')
      have z4 := Lib.hid ((o2.cell (a := ⟨ba, oa + k, none⟩) bna).trans ya')
      have G2 := Lib.hid (HG3.out.setIn t (dv P d k ((t : Nat) : Int) - d k) htn)
      have OA2 := Lib.hid (HA3.out.only o2 (by omega))
      have OB2 := Lib.hid (HB3.out.trans (o2.below (B := w.heap.size) (by omega)))
      clear o2
      go_still_tail 22, (by kernel_rfl)
      change wpList _ _ _ _ _ w3.drew
      go_wp2_with fail
      clear e1' r1' ya' yf' yz a2
      rw [← HQ.out]
      refine ⟨⟨_, _, _, _, _, _, _, _, _, _, _, _, _, _, _, _, _, _, _, _, _, _, _, _, _, _, _, _, _, _, _, _, _, _, _, _, _, _, _, _, _, _, _, _, _, _, _, _, _, _, _, ?rel, rfl⟩, ?measure⟩
      case rel =>
        refine ⟨k + 1, by go_num, hlt, (G2.out.congr (fun z _ => ?_)).keep rfl, OA2.out.keep rfl, below_drw OB2.out⟩
        unfold ia upd
        dsimp only
        rw [dv, HFE.out, HTE.out]
        by_cases e : z = t
        · subst e
          rw [if_pos rfl, if_neg (show ¬ ((f : Nat) : Int) = ((z : Nat) : Int) by omega), if_pos rfl]
          congr 1
          omega
        · rw [if_neg e, if_neg (show ¬ ((t : Nat) : Int) = ((z : Nat) : Int) by omega)]
          by_cases e2 : z = f
          · subst e2
            rw [if_pos rfl, if_pos rfl]
            congr 1
            omega
          · rw [if_neg e2, if_neg (show ¬ ((f : Nat) : Int) = ((z : Nat) : Int) by omega)]
            congr 1
            omega
      case measure => simp [intOf]; omega
    · have hkn : m = k := by omega
      subst hkn
      have k1 : ¬ ((m : Int) < (m : Int)) := by omega
      go_wp2_with fail
      rw [← HQ.out]
      go_wp2_with fail
      go_ret
      exact ⟨_, w.heap.size + 1, rfl, HG.out.sl n n (Nat.le_refl _), by omega, HG.out.lt, HBB.out⟩
end Go.Proofs.YtdbgcbkmcbgdiaaGreat.mem

namespace Go.Proofs.YtdbgcbkmcbgdiaaGreat.mem
open Go.RowKit
set_option linter.unusedVariables false

theorem cfN_le (n : Nat) (N : Nat → Nod) (m : Nat) (P : Nat → Pip) (K : Nat) (d : Nat → Int) (hm : m ≤ 2000000) : cfN n N m P K d ≤ 2000000 := by
  have := chN_le n P m
  unfold cfN
  split <;> omega
end Go.Proofs.YtdbgcbkmcbgdiaaGreat.mem

namespace Go.Proofs.YtdbgcbkmcbgdiaaGreat.mem
open Go.RowKit
set_option linter.unusedVariables false

/-- a pipe is appended to a row that holds the pipes of another list so far -/
theorem appFr (B : Nat) (W : World) (v : Value) (n : Nat) (F : Nat → Pip) (q : Pip) (hq : F n = q) (h : RowE B 121 5 W v n (pipC F)) (hB : B ≤ W.heap.size) (hn : n ≤ 1000000) :
    ∃ v' w', Sem.run Tryz.prog (Builtin.append_ #[25, 25] 25 #[v, .slice (some ⟨W.heap.size, 0, none⟩) 1 1]) (W.alloc (.cells #[.int .i64 q.f, .int .i64 q.t, .int .i64 q.k, .int .i64 q.v, .int .i64 q.l] 121)) = .ok v' w' ∧ RowE B 121 5 w' v' (n + 1) (pipC F) ∧ Upd (fun x => some x = v.ownBlock) W w' := by
  subst hq
  exact appOne Tryz.underlying25 info_make_pipe (by omega) rfl (by omega) B W v n _ _ h hB [.int .i64 (F n).f, .int .i64 (F n).t, .int .i64 (F n).k, .int .i64 (F n).v, .int .i64 (F n).l] rfl (by intro u hu; simp at hu; rcases hu with rfl | rfl | rfl | rfl | rfl <;> rfl)
    (fun i j hi hj => rfl) (fun j hj => by rcases (by omega : j = 0 ∨ j = 1 ∨ j = 2 ∨ j = 3 ∨ j = 4) with rfl | rfl | rfl | rfl | rfl <;> rfl) hn
theorem row_below {B : Nat} {e : TypeId} {z : Nat} {w w' : World} {v : Value} {n : Nat} {c : Nat → Nat → Value} (h : RowE B e z w v n c) (u : Upd (fun x => some x = v.ownBlock) w w') (hB : B ≤ w.heap.size) : Below B w w' :=
  u.below hB (fun k _ hk => (h.own.lt k hk.symm).1)
set_option maxRecDepth 100000 in
set_option maxHeartbeats 8000000 in
theorem l05Tree_any (w : World) (v : Value) (n : Nat) (N : Nat → Nod) (m : Nat) (P : Nat → Pip) (lo hi : Nat) (h : NetAt w v n N m P lo hi) (hhi : hi ≤ w.heap.size) (hN : ∀ i, i < n → (N i).s.size ≤ 9223372036854775807) (hB : netB n N m P = true) :
    Calls Tryz.prog 118 #[v] w fun e w' => ∃ u1 u2 u3 u4 vf gf, e = .returned (.tuple #[.agg #[.slice u1 n u2, .slice u3 (forest n P m).length u4], vf]) ∧ (∃ gR, Cs w' (.slice u1 n u2) n 3 (nodC N) lo hi ∧ OwnS w' (.slice u3 (forest n P m).length u4) (forest n P m).length 5 (pipC (frP n P m)) gR ∧ (w.heap.size ≤ gR ∨ (forest n P m).length = 0)) ∧ Own w' vf (forest n P m).length (lD (forest n P m)) gf ∧ w.heap.size ≤ gf ∧ Below w.heap.size w w' := by
  obtain ⟨p0, c0, p1, c1, rfl, hn9, hm9⟩ := h.parts
  obtain ⟨hn1, hn24, hm40⟩ := net_sz hB
  have hfm := forest_le n P m
  have HV := Lib.hid h
  have HN := Lib.hid hN
  have HB := Lib.hid hB
  have A0 := (boxed w (.slice p0 n c0) (.slice p1 m c1) 27).keep (Below.heap_alloc _ (.cells #[.slice none 0 0, .slice none 0 0] 27) _ (by simp only [World.size_alloc]; omega))
  have R0 := boxed (w.alloc (.cells #[.slice p0 n c0, .slice p1 m c1] 27)) (.slice none 0 0) (.slice none 0 0) 27
  simp only [World.size_alloc] at R0
  have B0 := (below_new w (.cells #[.slice p0 n c0, .slice p1 m c1] 27)).trans ((below_new _ (.cells #[.slice none 0 0, .slice none 0 0] 27)).mono (by simp only [World.size_alloc]; omega))
  have hs0 : ((w.alloc (.cells #[.slice p0 n c0, .slice p1 m c1] 27)).alloc (.cells #[.slice none 0 0, .slice none 0 0] 27)).heap.size = w.heap.size + 1 + 1 := by simp
  have e0 := A0.b0
  have e1 := A0.b1
  clear h hN hB
  go_enter Tryz.func118, Tryz.ntmps118
  go_wp2_with fail
  refine (l04Forest_any _ _ n N m P lo hi (HV.out.below B0 hhi) (by omega) HN.out HB.out).mono ?_
  rintro e w1 ⟨vf, gf, rfl, hgf, of, b1⟩
  obtain ⟨cf, rfl⟩ := of.shape
  have A1 := A0.below b1 (by omega)
  have R1 := R0.below b1 (by omega)
  have B1 := B0.trans (b1.mono (by omega))
  have hs1 := b1.size
  have hgf' : w.heap.size + 1 + 1 ≤ gf := by omega
  have rn := rowE_nil (B := w1.heap.size) (e := 121) (z := 5) w1 (pipC (frP n P m)) (Nat.le_refl _)
  have b2 := below_new w1 (.cells #[] 121)
  have lf := of.lt
  have la := A1.lt
  have lr := R1.lt
  have HA := Lib.hid A1
  have HR := Lib.hid R1
  have HBB := Lib.hid B1
  have HF := Lib.hid of
  have HRW := Lib.hid rn
  have HB0 := Lib.hid b2
  clear A0 R0 B0 A1 R1 B1 b1 b2 rn of e0 e1 hs0
  go_wp2_with fail
  generalize hW : w1.alloc (.cells #[] 121) = w2 at *
  clear hW
  go_loopw [5, 6] (fun pv iv wr => ∃ (k : Nat) (pv' : Value), pv' = pv ∧ iv = .int .i64 k ∧ k ≤ (forest n P m).length ∧ RowE w1.heap.size 121 5 wr pv' k (pipC (frP n P m)) ∧ Below w1.heap.size w1 wr) (fun _ iv _ => (forest n P m).length - (intOf iv).toNat)
  case atStart => exact ⟨0, _, rfl, rfl, Nat.zero_le _, HRW.out, HB0.out⟩
  case round =>
    obtain ⟨k, pv, rfl, rfl, hk, hrow, bb⟩ := hrel
    obtain ⟨pp, cp, rfl⟩ := hrow.shape
    clear HRW HB0
    have HL := Lib.hid bb
    have HRW := Lib.hid hrow
    have hs7 := bb.size
    clear bb hrow
    have k0 : (0 : Int) ≤ (k : Int) := Int.natCast_nonneg _
    generalize hQ : Exit.then _ _ = Q
    have HQ := Lib.hid hQ
    clear hQ
    by_cases hlt : k < (forest n P m).length
    · have k1 : (k : Int) < ((forest n P m).length : Int) := by omega
      obtain ⟨a, ham, _, hla, _, hFa⟩ := forest_at hlt
      obtain ⟨bp, op, rfl, q1, q2, r0, r1, r2, r3, r4⟩ := (((HV.out.below HBB.out hhi).below HL.out (by omega))).pipe ham
      have a0 : (0 : Int) ≤ (a : Int) := Int.natCast_nonneg _
      have a1 : (a : Int) < (m : Int) := by omega
      have yf : wr.cell? ⟨gf, k, none⟩ = some (.int .i64 (a : Int)) := by
        have h1 := (HL.out.cell (p := ⟨gf, k, none⟩) lf).trans (HF.out.row.cell k hlt)
        rwa [hla] at h1
      have e1 : wr.cell? ⟨w.heap.size, 1, none⟩ = some (.slice (some ⟨bp, op, none⟩) m c1) := (HA.out.below HL.out la).b1
      have HFA := Lib.hid hFa
      clear hla hFa
      have hbw : bp < w1.heap.size := by omega
      have hAny : ∀ X : World, Below w1.heap.size wr X → (fun w' : World => w'.cell? ⟨w.heap.size, 1, none⟩ = some (.slice (some ⟨bp, op, none⟩) m c1) ∧ w'.cell? ⟨gf, k, none⟩ = some (.int .i64 (a : Int)) ∧ w'.cell? ⟨bp, op + a * 5, none⟩ = some (.int .i64 (P a).f) ∧ w'.cell? ⟨bp, op + a * 5 + 1, none⟩ = some (.int .i64 (P a).t) ∧ w'.cell? ⟨bp, op + a * 5 + 2, none⟩ = some (.int .i64 (P a).k) ∧ w'.cell? ⟨bp, op + a * 5 + 3, none⟩ = some (.int .i64 (P a).v) ∧ w'.cell? ⟨bp, op + a * 5 + 4, none⟩ = some (.int .i64 (P a).l)) X := fun X h => ⟨(h.cell (p := ⟨w.heap.size, 1, none⟩) la).trans e1, (h.cell (p := ⟨gf, k, none⟩) lf).trans yf, (h.cell (p := ⟨bp, op + a * 5, none⟩) hbw).trans r0, (h.cell (p := ⟨bp, op + a * 5 + 1, none⟩) hbw).trans r1, (h.cell (p := ⟨bp, op + a * 5 + 2, none⟩) hbw).trans r2, (h.cell (p := ⟨bp, op + a * 5 + 3, none⟩) hbw).trans r3, (h.cell (p := ⟨bp, op + a * 5 + 4, none⟩) hbw).trans r4⟩
      have K0 : Below wr.heap.size wr wr.drew := ⟨rfl, rfl, rfl, Nat.le_refl _, fun _ _ => rfl⟩
      have K1 : Below w1.heap.size wr wr.drew := K0.mono hs7
      have K2 : Below w1.heap.size wr (wr.drew.alloc (.cells #[.int .i64 (P a).f, .int .i64 (P a).t, .int .i64 (P a).k, .int .i64 (P a).v, .int .i64 (P a).l] 121)) := K1.alloc hs7 _
      obtain ⟨v7, wz, hr, hrow7, u7⟩ := appFr w1.heap.size wr.drew _ k (frP n P m) (P a) HFA.out (HRW.out.next K0) hs7 (by omega)
      have K3 : Below w1.heap.size wr wz := K1.trans (row_below (HRW.out.next K0) u7 hs7)
      go_wp2_with fail
      go_region_held3 (fun w' : World => w'.cell? ⟨w.heap.size, 1, none⟩ = some (.slice (some ⟨bp, op, none⟩) m c1) ∧ w'.cell? ⟨gf, k, none⟩ = some (.int .i64 (a : Int)) ∧ w'.cell? ⟨bp, op + a * 5, none⟩ = some (.int .i64 (P a).f) ∧ w'.cell? ⟨bp, op + a * 5 + 1, none⟩ = some (.int .i64 (P a).t) ∧ w'.cell? ⟨bp, op + a * 5 + 2, none⟩ = some (.int .i64 (P a).k) ∧ w'.cell? ⟨bp, op + a * 5 + 3, none⟩ = some (.int .i64 (P a).v) ∧ w'.cell? ⟨bp, op + a * 5 + 4, none⟩ = some (.int .i64 (P a).l)) (first | exact hAny _ K1 | exact hAny _ K2 | exact hAny _ K3)
        (first | (refine step_appT hr rfl (.tmp 16) (.tmp 25) rfl rfl rfl rfl ?_))
      have HR7 := Lib.hid hrow7
      have HL7 := Lib.hid (HL.out.trans K3)
      clear hAny K0 K1 K2 K3 hr hrow7 u7 e1 yf r0 r1 r2 r3 r4
      go_wp2_with fail
      rw [← HQ.out]
      refine ⟨⟨_, _, _, _, _, _, _, _, _, _, _, _, _, _, _, _, _, _, _, ?rel, rfl⟩, ?measure⟩
      case rel => exact ⟨k + 1, v7, rfl, by go_num, hlt, HR7.out, HL7.out⟩
      case measure => simp [intOf]; omega
    · have hkn : (forest n P m).length = k := by omega
      have k1 : ¬ ((k : Int) < ((forest n P m).length : Int)) := by omega
      have HKN := Lib.hid hkn
      clear hkn
      obtain ⟨gR, hrS, hgR⟩ := HRW.out.ownS
      have HRS := Lib.hid hrS
      clear hrS
      have ra := HR.out.below HL.out lr
      have e0 : wr.cell? ⟨w.heap.size, 0, none⟩ = some (.slice p0 n c0) := (HA.out.below HL.out la).b0
      have f0 := ra.free 0
      have f1 := ra.free 1
      have g0 := ra.b0
      have g1 := ra.b1
      have o2 := ((ra.set 0 (.slice p0 n c0) (by omega)).set 1 (.slice pp k cp) (by omega))
      have q0 : ((wr.setCell ⟨w.heap.size + 1, 0, none⟩ (.slice p0 n c0)).setCell ⟨w.heap.size + 1, 1, none⟩ (.slice pp k cp)).cell? ⟨w.heap.size + 1, 0, none⟩ = some (.slice p0 n c0) := by
        have := o2.cell 0 (by omega)
        unfold updV at this
        simpa using this
      have q1 : ((wr.setCell ⟨w.heap.size + 1, 0, none⟩ (.slice p0 n c0)).setCell ⟨w.heap.size + 1, 1, none⟩ (.slice pp k cp)).cell? ⟨w.heap.size + 1, 1, none⟩ = some (.slice pp k cp) := by
        have := o2.cell 1 (by omega)
        unfold updV at this
        simpa using this
      have on := ((Only.refl (w.heap.size + 1) wr).setCell 0 (.slice p0 n c0)).setCell 1 (.slice pp k cp)
      have BF := Lib.hid (on.below (B := w.heap.size) (by omega))
      have HON := Lib.hid on
      clear o2 ra on
      go_wp2_with fail
      rw [← HQ.out]
      go_wp2_with fail
      have hkn := HKN.out
      subst hkn
      refine bodyPost_ret (v := .tuple #[.agg #[.slice p0 n c0, .slice pp (forest n P m).length cp], .slice (some ⟨gf, 0, none⟩) (forest n P m).length cf]) ?_ rfl ?_
      · rw [results_cell_tmp rfl]
        go_simp
      · have hbl : Below w.heap.size w _ := (HBB.out.trans (HL.out.mono (by omega))).trans BF.out
        refine ⟨p0, c0, pp, cp, _, gf, rfl, ?_, (HF.out.keep (HL.out.block _ lf)).keep (HON.out.block gf (by omega)), by omega, hbl⟩
        have hv := HV.out.below hbl hhi
        obtain ⟨v0, v1, he, g0', g1'⟩ := hv.ex
        simp only [Value.agg.injEq, Array.mk.injEq, List.cons.injEq, and_true] at he
        obtain ⟨rfl, rfl⟩ := he
        exact ⟨gR, g0', HRS.out.upd (Upd.of_only HON.out) (by
          rcases hgR with h | h
          · right
            omega
          · exact .inl h), by
          rcases hgR with h | h
          · left
            omega
          · exact .inr h⟩
end Go.Proofs.YtdbgcbkmcbgdiaaGreat.mem

namespace Go.Proofs.YtdbgcbkmcbgdiaaGreat.mem
open Go.RowKit
set_option linter.unusedVariables false

theorem Own.made (w : World) (n : Nat) (hn : n ≤ 1000000) : Own (w.alloc (.cells (zeros n) 2)) (.slice (some ⟨w.heap.size, 0, none⟩) n n) n (fun _ => 0) w.heap.size :=
  ⟨n, zeros n, rfl, heap_alloc_new w _, Nat.le_refl _, by unfold maxLen; omega, by unfold zeros; simp [madeCells], fun k hk => zeros_get n k hk⟩
theorem Own.put1 {w : World} {v : Value} {n g : Nat} {d : Nat → Int} (h : Own w v n d g) (i : Nat) (x : Int) (hi : i < n) : Own (w.setCell ⟨g, i, none⟩ (.int .i64 x)) v n (upd d i x) g := by
  obtain ⟨cap, cur, h0, h1, h2, h3, h4, h5⟩ := h.ex
  refine ⟨cap, cur.setIfInBounds i (.int .i64 x), h0, ?_, h2, h3, by simpa using h4, fun k hk => ?_⟩
  · simp [World.setCell, Array.getElem?_modify, h1]
  · unfold upd
    by_cases e : k = i
    · subst e
      rw [if_pos rfl]
      simp [h4, show k < cap by omega]
    · rw [if_neg e, Array.getElem?_setIfInBounds, if_neg (by omega)]
      exact h5 k hk
theorem Own.free {w : World} {v : Value} {n g : Nat} {d : Nat → Int} (h : Own w v n d g) (i : Nat) : w.frozen? ⟨g, i, none⟩ = false := by
  obtain ⟨cap, cur, h0, h1, _⟩ := h.ex
  simp [World.frozen?, h1]
theorem Own.made1 (w : World) (n c : Nat) (x : Int) (hn : n ≤ 1000000) (hc : c < n) : Own (w.alloc (.cells ((zeros n).setIfInBounds c (.int .i64 x)) 2)) (.slice (some ⟨w.heap.size, 0, none⟩) n n) n (upd (fun _ => 0) c x) w.heap.size := by
  refine ⟨n, _, rfl, heap_alloc_new w _, Nat.le_refl _, by unfold maxLen; omega, by unfold zeros; simp [madeCells], fun k hk => ?_⟩
  unfold upd
  have hz : (zeros n).size = n := by unfold zeros; simp [madeCells]
  by_cases e : k = c
  · subst e
    rw [if_pos rfl]
    simp [hz, hk]
  · rw [if_neg e, Array.getElem?_setIfInBounds, if_neg (by omega)]
    exact zeros_get n k hk
theorem upd_dwX {X : Nat → Prop} {w w' : World} (h : Upd X w w') : Upd X w w'.drew := ⟨h.os, h.tape, h.output, h.size, h.block⟩
theorem treeAt {w : World} {u1 u3 : Option Addr} {n L u2 u4 lo hi gR : Nat} {N : Nat → Nod} {F : Nat → Pip} (h1 : Cs w (.slice u1 n u2) n 3 (nodC N) lo hi) (h2 : OwnS w (.slice u3 L u4) L 5 (pipC F) gR) (hh : hi ≤ w.heap.size) : NetAt w (.agg #[.slice u1 n u2, .slice u3 L u4]) n N L F 0 w.heap.size :=
  ⟨_, _, rfl, h1.mono (Nat.zero_le _) hh, h2.cs (.inr rfl) (Nat.le_refl _)⟩
set_option maxRecDepth 100000 in
set_option maxHeartbeats 8000000 in
theorem l05Cycle_any (w : World) (v : Value) (n : Nat) (N : Nat → Nod) (m : Nat) (P : Nat → Pip) (lo hi : Nat) (h : NetAt w v n N m P lo hi) (hhi : hi ≤ w.heap.size) (hN : ∀ i, i < n → (N i).s.size ≤ 9223372036854775807) (hB : netB n N m P = true) (c : Nat) (hc : c < m) (hch : chP n P m c = true) :
    Calls Tryz.prog 130 #[v, .int .i64 (c : Nat)] w fun e w' => ∃ v2 g, e = .returned v2 ∧ Own w' v2 m (cyc P (fE n P m) (fD n P m) c) g ∧ w.heap.size ≤ g ∧ Below w.heap.size w w' := by
  obtain ⟨p0, c0, p1, c1, rfl, hn9, hm9⟩ := h.parts
  obtain ⟨hn1, hn24, hm40⟩ := net_sz hB
  have hfm := forest_le n P m
  have hinF : inF n P m (fl (rts n P m) n) c = false := by
    unfold chP at hch
    simpa using hch
  obtain ⟨hpf, hpt, _⟩ := pip_end (net_pip hB hc)
  have HV := Lib.hid h
  have HN := Lib.hid hN
  have HB := Lib.hid hB
  have HTB := Lib.hid (net_forest hB)
  have HHAS := Lib.hid (tree_has hB hc)
  have HEND := Lib.hid (scy_end hB hc hinF)
  have HST := Lib.hid (fun a => scy_start hB hc a)
  have HNX := Lib.hid (fun (y z : Int) (j b : Nat) (hy : 0 ≤ y ∧ y < n) (hj : j < (forest n P m).length) (hb : lD (forest n P m) j = ((b : Nat) : Int)) (he : vval (·.en) (vis n (frP n P m) (forest n P m).length (P c).t) y = ((j : Nat) : Int)) (ho : othV (frP n P m j) y = z) (hbz : endB (frP n P m j) y = true) (a : Nat) => scy_next hB hc hinF hy hj hb he ho hbz a)
  have A0 := (boxed w (.slice p0 n c0) (.slice p1 m c1) 27).keep (Below.heap_alloc _ (.cells ((zeros m).setIfInBounds c (.int .i64 1)) 2) _ (by simp only [World.size_alloc]; omega))
  have O0 := Own.made1 (w.alloc (.cells #[.slice p0 n c0, .slice p1 m c1] 27)) m c 1 (by omega) hc
  simp only [World.size_alloc] at O0
  have B0 := (below_new w (.cells #[.slice p0 n c0, .slice p1 m c1] 27)).trans ((below_new _ (.cells ((zeros m).setIfInBounds c (.int .i64 1)) 2)).mono (by simp only [World.size_alloc]; omega))
  have hs0 : ((w.alloc (.cells #[.slice p0 n c0, .slice p1 m c1] 27)).alloc (.cells ((zeros m).setIfInBounds c (.int .i64 1)) 2)).heap.size = w.heap.size + 1 + 1 := by simp
  have e1' := (boxed w (.slice p0 n c0) (.slice p1 m c1) 27).b1
  have m1 := fun W => make_int64 W m (by omega)
  have zs : (zeros m).size = m := by unfold zeros; simp [madeCells]
  have k0 : (0 : Int) ≤ (c : Int) := Int.natCast_nonneg _
  have k1 : (c : Int) < (m : Int) := by omega
  have m0 : (0 : Int) ≤ (m : Int) := Int.natCast_nonneg _
  have e0 := A0.b0
  have e1 := A0.b1
  obtain ⟨t, ht⟩ := Int.eq_ofNat_of_zero_le hpt.1
  have HTN := Lib.hid ht
  have htn : t < n := by omega
  clear h hN hB ht
  go_enter Tryz.func130, Tryz.ntmps130
  go_wp2_with fail
  refine (l05Tree_any _ _ n N m P lo hi (HV.out.below B0 hhi) (by omega) HN.out HB.out).mono ?_
  rintro e w1 ⟨u1, u2, u3, u4, vf, gf, rfl, ⟨gR, tn, tp, hgR⟩, oi, hgf, b1⟩
  obtain ⟨ci, rfl⟩ := oi.shape
  have hgf' : w.heap.size + 1 + 1 ≤ gf := by omega
  have hgR' : w.heap.size + 1 + 1 ≤ gR ∨ (forest n P m).length = 0 := by
    rcases hgR with h | h
    · left; omega
    · exact .inr h
  have A1 := A0.below b1 (by omega)
  have O1 := O0.keep (b1.block _ (by omega))
  have B1 := B0.trans (b1.mono (by omega))
  have hs1 : w.heap.size + 1 + 1 ≤ w1.heap.size := by have := b1.size; omega
  have b2 := below_new w1 (.cells #[.slice u1 n u2, .slice u3 (forest n P m).length u4] 27)
  have T2 := boxed w1 (.slice u1 n u2) (.slice u3 (forest n P m).length u4) 27
  have hs2 : (w1.alloc (.cells #[.slice u1 n u2, .slice u3 (forest n P m).length u4] 27)).heap.size = w1.heap.size + 1 := by simp
  have li := oi.lt
  have HA := Lib.hid (A1.below b2 (by omega))
  have HO := Lib.hid (O1.below b2 (Nat.le_refl _))
  have HBB := Lib.hid (B1.trans (b2.mono (by omega)))
  have HTN2 := Lib.hid (tn.below b2 (by omega))
  have HTP2 := Lib.hid (tp.below b2 (Nat.le_refl _))
  have HI := Lib.hid (oi.below b2 (Nat.le_refl _))
  have H6 := Lib.hid T2
  clear A0 O0 B0 b1 A1 O1 B1 b2 tn tp oi T2 e0 e1 e1' m1 zs hgR hgf
  obtain ⟨bp, op, rfl, q1, q2, r0, r1, r2, r3, r4⟩ := (HV.out.below HBB.out hhi).pipe hc
  have e0 := HA.out.b0
  have e1 := HA.out.b1
  rw [HTN.out] at r1
  clear r2 r3 r4
  go_wp2_with fail
  obtain ⟨w2, hw2⟩ : ∃ w2, w1.alloc (.cells #[.slice u1 n u2, .slice u3 (forest n P m).length u4] 27) = w2 := ⟨_, rfl⟩
  rw [hw2] at HA HO HBB HTN2 HTP2 HI H6 hs2 e0 e1 r0 r1 ⊢
  clear hw2
  have h60 := H6.out.b0
  have h61 := H6.out.b1
  have hwz : w.heap.size ≤ w2.heap.size := by omega
  have hwn : hi ≤ w2.heap.size := by omega
  have NT := Lib.hid (treeAt HTN2.out HTP2.out hwn)
  have HHAS2 := Lib.hid (show vhas (vis n (frP n P m) (forest n P m).length ((t : Nat) : Int)) (P c).f = true by rw [← HTN.out]; exact HHAS.out)
  have bpl : bp < w2.heap.size := by omega
  go_region_held3 (fun w' : World => w'.cell? ⟨w1.heap.size, 0, none⟩ = some (.slice u1 n u2) ∧ w'.cell? ⟨w1.heap.size, 1, none⟩ = some (.slice u3 (forest n P m).length u4) ∧ w'.cell? ⟨w.heap.size, 1, none⟩ = some (.slice (some ⟨bp, op, none⟩) m c1) ∧ w'.cell? ⟨bp, op + c * 5, none⟩ = some (.int .i64 (P c).f))
    (first | exact ⟨h60, h61, e1, r0⟩ | exact SX)
    (first
      | (go_at_call 162; refine (l04Path_any _ _ n N (forest n P m).length (frP n P m) 0 w2.heap.size NT.out.drew (Nat.le_refl _) HN.out HTB.out t htn (P c).f HHAS2.out).mono ?_; rintro e w3 ⟨vp, gp, rfl, op3, hgp, hb3⟩; have hb3' := below_dr0 hb3; have SX : w3.cell? ⟨w1.heap.size, 0, none⟩ = some (.slice u1 n u2) ∧ w3.cell? ⟨w1.heap.size, 1, none⟩ = some (.slice u3 (forest n P m).length u4) ∧ w3.cell? ⟨w.heap.size, 1, none⟩ = some (.slice (some ⟨bp, op, none⟩) m c1) ∧ w3.cell? ⟨bp, op + c * 5, none⟩ = some (.int .i64 (P c).f) := ⟨(hb3'.cell (p := ⟨w1.heap.size, 0, none⟩) (by show w1.heap.size < _; omega)).trans h60, (hb3'.cell (p := ⟨w1.heap.size, 1, none⟩) (by show w1.heap.size < _; omega)).trans h61, (hb3'.cell (p := ⟨w.heap.size, 1, none⟩) (by show w.heap.size < _; omega)).trans e1, (hb3'.cell (p := ⟨bp, op + c * 5, none⟩) bpl).trans r0⟩))
  have hs3 := hb3'.size
  have hgp' : w2.heap.size ≤ gp := hgp
  have HA3 := Lib.hid (HA.out.below hb3' (by omega))
  have HO3 := Lib.hid (HO.out.below hb3' (Nat.le_refl _))
  have HB3 := Lib.hid (HBB.out.trans (hb3'.mono hwz))
  have HTN3 := Lib.hid (HTN2.out.below hb3' hwn)
  have HTP3 := Lib.hid (HTP2.out.below hb3' (Nat.le_refl _))
  have HI3 := Lib.hid (HI.out.below hb3' (Nat.le_refl _))
  have H63 := Lib.hid (H6.out.below hb3' (by omega))
  have HP3 := Lib.hid op3
  have lp := op3.lt
  obtain ⟨cp3, rfl⟩ := op3.shape
  clear HA HO HBB HTN2 HTP2 HI H6 op3 hb3 hb3' SX h60 h61 e0 e1 r0 r1 hgp NT
  go_wp2_with fail
  obtain ⟨w4, hw4⟩ : ∃ w4, w4 = w3 := ⟨_, rfl⟩
  subst hw4
  have hpl : (spL n (frP n P m) (forest n P m).length (t : Nat) (P c).f).length < n := (vis_ok (P := frP n P m) (m := (forest n P m).length) (x := ((t : Nat) : Int)) HTB.out ⟨Int.natCast_nonneg _, by omega⟩).plen HTB.out HHAS2.out
  go_loopw [8, 10] (fun av iv wr => ∃ (k : Nat) (z : Int), av = .int .i64 z ∧ iv = .int .i64 k ∧ k ≤ (spL n (frP n P m) (forest n P m).length (t : Nat) (P c).f).length ∧ z = anc (frP n P m) (vis n (frP n P m) (forest n P m).length ((t : Nat) : Int)) (P c).f ((spL n (frP n P m) (forest n P m).length (t : Nat) (P c).f).length - k) ∧ Own wr (.slice (some ⟨w.heap.size + 1, 0, none⟩) m m) m (scy n P m c z) (w.heap.size + 1) ∧ Upd (fun q => q = w.heap.size + 1) w4 wr) (fun _ iv _ => (spL n (frP n P m) (forest n P m).length (t : Nat) (P c).f).length - (intOf iv).toNat)
  case atStart =>
    refine ⟨0, ((t : Nat) : Int), rfl, rfl, Nat.zero_le _, ?_, HO3.out.congr (fun a _ => ?_), Upd.refl _ _⟩
    · exact ((vis_ok (P := frP n P m) (m := (forest n P m).length) (x := ((t : Nat) : Int)) HTB.out ⟨Int.natCast_nonneg _, by omega⟩).anc_end HTB.out HHAS2.out).symm
    · rw [← HTN.out, HST.out]
      unfold upd one1
      rfl
  case round =>
    obtain ⟨k, z, rfl, rfl, hk, hz, ho, hu⟩ := hrel
    have HOW := Lib.hid ho
    have HU := Lib.hid hu
    have HZ := Lib.hid hz
    have hsz := hu.size
    clear ho hu hz HO3
    have k0' : (0 : Int) ≤ (k : Int) := Int.natCast_nonneg _
    generalize hQ : Exit.then _ _ = Q
    have HQ := Lib.hid hQ
    clear hQ
    by_cases hlt : k < (spL n (frP n P m) (forest n P m).length (t : Nat) (P c).f).length
    · have k1' : (k : Int) < ((spL n (frP n P m) (forest n P m).length (t : Nat) (P c).f).length : Int) := by omega
      obtain ⟨j, Z, Y, w1j, hjL, hzZ, hZn, hyY, hYn, heZ, hoZ, hvY, heY, hoY⟩ := sp_walk2 HTB.out ⟨Int.natCast_nonneg t, by omega⟩ HHAS2.out hlt
      obtain ⟨b, hbm, hbF, hbL, hbI, hFb⟩ := forest_at hjL
      have hzZ2 : z = ((Z : Nat) : Int) := by rw [HZ.out, hzZ]
      subst hzZ2
      have j0 : (0 : Int) ≤ (j : Int) := Int.natCast_nonneg _
      have j1 : (j : Int) < ((forest n P m).length : Int) := by omega
      have b0' : (0 : Int) ≤ (b : Int) := Int.natCast_nonneg _
      have b1' : (b : Int) < (m : Int) := by omega
      have hNX := fun a => HNX.out (Y : Int) (Z : Int) j b ⟨Int.natCast_nonneg Y, by omega⟩ hjL hbL (by rw [HTN.out]; exact hvY) hoY heY a
      have HNXX := Lib.hid hNX
      have yp : wr.cell? ⟨gp, k, none⟩ = some (.int .i64 (j : Nat)) := by
        have h1 := (HP3.out.keep (HU.out.block gp lp (by omega))).row.cell k hlt
        rwa [w1j] at h1
      have yi : wr.cell? ⟨gf, j, none⟩ = some (.int .i64 (b : Nat)) := by
        have h1 := (HI3.out.keep (HU.out.block gf (by omega) (by omega))).row.cell j hjL
        rwa [hbL] at h1
      have h6r := H63.out.keep (HU.out.block w1.heap.size (by omega) (by omega))
      have NTR := Lib.hid (treeAt (HTN3.out.upd HU.out (by omega) (fun q _ hq => by omega)) (HTP3.out.upd HU.out (by
        rcases hgR' with g | g
        · exact .inr (by omega)
        · exact .inl g)) (show hi ≤ wr.heap.size by omega))
      obtain ⟨tb, tu, rfl, _, _, r0, _, _, _, _⟩ := NTR.out.pipe hjL
      have y6a := h6r.b0
      have y6b := h6r.b1
      have HYS := Lib.hid (sum_other (net_pip HTB.out hjL) heZ)
      have HOZ := Lib.hid hoZ
      have HYY := Lib.hid hyY
      have HPN := Lib.hid (net_pip HTB.out hjL)
      clear hNX w1j hzZ hyY hvY heY hoY heZ hoZ hbF hbI hFb h6r hbL
      by_cases hcase : (frP n P m j).f = ((Z : Nat) : Int)
      ·
        have hb1 : ((frP n P m j).f != ((Z : Nat) : Int)) = false := by simp [hcase]
        have hsg : sgn (frP n P m j) ((Z : Nat) : Int) = 1 := by unfold sgn; rw [if_pos hcase]
        have HSG := Lib.hid hsg
        clear hcase hsg
        go_wp2_with fail
        go_region_held3 (fun w' : World => w'.cell? ⟨w1.heap.size, 1, none⟩ = some (.slice (some ⟨tb, tu, none⟩) (forest n P m).length u4) ∧ w'.cell? ⟨gp, k, none⟩ = some (.int .i64 (j : Nat)) ∧ w'.cell? ⟨tb, tu + j * 5, none⟩ = some (.int .i64 (frP n P m j).f))
          (first | exact ⟨y6b, yp, r0⟩ | exact ⟨by assumption, by assumption, by assumption⟩)
          (fail)
        have X := Lib.hid (show wr.cell? ⟨w1.heap.size, 0, none⟩ = some (.slice u1 n u2) ∧ wr.cell? ⟨w1.heap.size, 1, none⟩ = some (.slice (some ⟨tb, tu, none⟩) (forest n P m).length u4) ∧ wr.cell? ⟨gp, k, none⟩ = some (.int .i64 (j : Nat)) from ⟨y6a, y6b, yp⟩)
        have o1 := (Only.refl (w.heap.size + 1) wr).setCell b (.int .i64 (1))
        have hOd : Own (wr.setCell ⟨w.heap.size + 1, b, none⟩ (.int .i64 (1))).drew _ _ _ _ := (HOW.out.put1 b (1) hbm).keep rfl
        have ypd : wr.drew.cell? ⟨gp, k, none⟩ = some (.int .i64 (j : Nat)) := yp
        have yid : wr.drew.cell? ⟨gf, j, none⟩ = some (.int .i64 (b : Nat)) := yi
        have yfd : wr.drew.frozen? ⟨w.heap.size + 1, b, none⟩ = false := HOW.out.free b
        have ycd := (HOW.out.keep rfl : Own wr.drew _ _ _ _).row.cell b hbm
        have z1 : (wr.setCell ⟨w.heap.size + 1, b, none⟩ (.int .i64 (1))).drew.cell? ⟨w1.heap.size, 0, none⟩ = some (.slice u1 n u2) := (o1.cell (a := ⟨w1.heap.size, 0, none⟩) (by show w1.heap.size ≠ _; omega)).trans y6a
        have z2 : (wr.setCell ⟨w.heap.size + 1, b, none⟩ (.int .i64 (1))).drew.cell? ⟨w1.heap.size, 1, none⟩ = some (.slice (some ⟨tb, tu, none⟩) (forest n P m).length u4) := (o1.cell (a := ⟨w1.heap.size, 1, none⟩) (by show w1.heap.size ≠ _; omega)).trans y6b
        have z3 : (wr.setCell ⟨w.heap.size + 1, b, none⟩ (.int .i64 (1))).drew.cell? ⟨gp, k, none⟩ = some (.int .i64 (j : Nat)) := (o1.cell (a := ⟨gp, k, none⟩) (by show gp ≠ _; omega)).trans yp
        have Z1 := Lib.hid z1
        have Z2 := Lib.hid z2
        have Z3 := Lib.hid z3
        have U1 : Upd (fun q => q = w.heap.size + 1) w4 (wr.setCell ⟨w.heap.size + 1, b, none⟩ (.int .i64 (1))).drew := upd_dwX (HU.out.trans (Upd.of_only o1))
        have hzz : (wr.setCell ⟨w.heap.size + 1, b, none⟩ (.int .i64 (1))).drew.heap.size = wr.heap.size := sz_set _ _ _
        have HUU := Lib.hid U1
        have HOO := Lib.hid hOd
        clear z1 z2 z3 o1 hOd U1 X
        go_wp2_with fail
        obtain ⟨w5, hw5⟩ : ∃ w5, (wr.setCell ⟨w.heap.size + 1, b, none⟩ (.int .i64 (1))).drew = w5 := ⟨_, rfl⟩
        have hs5 : w5.heap.size = wr.heap.size := by rw [← hw5]; exact hzz
        rw [hw5] at Z1 Z2 Z3 HUU HOO ⊢
        clear hw5 hzz
        have s1 := Z1.out
        have s2 := Z2.out
        have s3 := Z3.out
        have hn5 : n ≤ 2000000 := by omega
        have hL5 : (forest n P m).length ≤ 2000000 := by omega
        have hzr : inR ((Z : Nat) : Int) 0 (n - 1) = true := inR_iff.2 ⟨by omega, by omega⟩
        have NT5 := Lib.hid (treeAt (HTN3.out.upd HUU.out (by omega) (fun q _ hq => by omega)) (HTP3.out.upd HUU.out (by
          rcases hgR' with g | g
          · exact .inr (by omega)
          · exact .inl g)) (show hi ≤ w5.heap.size by omega))
        clear ypd yid yfd ycd y6a y6b yp yi r0
        go_region_held3 (fun w' : World => w'.cell? ⟨w1.heap.size, 0, none⟩ = some (.slice u1 n u2) ∧ w'.cell? ⟨w1.heap.size, 1, none⟩ = some (.slice (some ⟨tb, tu, none⟩) (forest n P m).length u4) ∧ w'.cell? ⟨gp, k, none⟩ = some (.int .i64 (j : Nat)))
          (first | exact ⟨s1, s2, s3⟩ | exact SX)
          (first
            | (go_at_call 101; refine (l02Other_any _ _ n N (forest n P m).length (frP n P m) 0 w5.heap.size NT5.out.drew (Nat.le_refl _) HN.out hL5 j hjL (Z : Int) HPN.out hn5 hzr).mono ?_; rintro e w6 ⟨rfl, hb6⟩; rw [HYS.out, HOZ.out]; have hb6' := below_dr0 hb6; have SX : w6.cell? ⟨w1.heap.size, 0, none⟩ = some (.slice u1 n u2) ∧ w6.cell? ⟨w1.heap.size, 1, none⟩ = some (.slice (some ⟨tb, tu, none⟩) (forest n P m).length u4) ∧ w6.cell? ⟨gp, k, none⟩ = some (.int .i64 (j : Nat)) := ⟨(hb6'.cell (p := ⟨w1.heap.size, 0, none⟩) (by show w1.heap.size < _; omega)).trans s1, (hb6'.cell (p := ⟨w1.heap.size, 1, none⟩) (by show w1.heap.size < _; omega)).trans s2, (hb6'.cell (p := ⟨gp, k, none⟩) (by show gp < _; omega)).trans s3⟩))
        have HO6 := Lib.hid ((HOO.out.keep (hb6'.block _ (by omega))).congr (e := scy n P m c ((Y : Nat) : Int)) (fun a _ => by
          unfold upd
          rw [HNXX.out a, HSG.out]))
        have HU6 := Lib.hid (HUU.out.trans (Upd.of_below hb6'))
        have hY0 : (0 : Int) ≤ (Y : Int) := Int.natCast_nonneg _
        clear s1 s2 s3 SX hb6 hb6'
        go_wp2_with fail
        rw [← HQ.out]
        refine ⟨⟨_, _, _, _, _, _, _, _, _, _, _, _, _, _, _, _, _, _, _, _, _, _, _, _, _, _, _, _, _, _, _, _, _, _, _, _, _, ?rel, rfl⟩, ?measure⟩
        case rel => exact ⟨k + 1, _, rfl, by go_num, hlt, HYY.out.symm, HO6.out, HU6.out⟩
        case measure => simp [intOf]; omega
      ·
        have hb1 : ((frP n P m j).f != ((Z : Nat) : Int)) = true := by simp [hcase]
        have hsg : sgn (frP n P m j) ((Z : Nat) : Int) = -1 := by unfold sgn; rw [if_neg hcase]
        have HSG := Lib.hid hsg
        clear hcase hsg
        go_wp2_with fail
        go_region_held3 (fun w' : World => w'.cell? ⟨w1.heap.size, 1, none⟩ = some (.slice (some ⟨tb, tu, none⟩) (forest n P m).length u4) ∧ w'.cell? ⟨gp, k, none⟩ = some (.int .i64 (j : Nat)) ∧ w'.cell? ⟨tb, tu + j * 5, none⟩ = some (.int .i64 (frP n P m j).f))
          (first | exact ⟨y6b, yp, r0⟩ | exact ⟨by assumption, by assumption, by assumption⟩)
          (fail)
        have X := Lib.hid (show wr.cell? ⟨w1.heap.size, 0, none⟩ = some (.slice u1 n u2) ∧ wr.cell? ⟨w1.heap.size, 1, none⟩ = some (.slice (some ⟨tb, tu, none⟩) (forest n P m).length u4) ∧ wr.cell? ⟨gp, k, none⟩ = some (.int .i64 (j : Nat)) from ⟨y6a, y6b, yp⟩)
        have o1 := (Only.refl (w.heap.size + 1) wr).setCell b (.int .i64 (-1))
        have hOd : Own (wr.setCell ⟨w.heap.size + 1, b, none⟩ (.int .i64 (-1))).drew _ _ _ _ := (HOW.out.put1 b (-1) hbm).keep rfl
        have ypd : wr.drew.cell? ⟨gp, k, none⟩ = some (.int .i64 (j : Nat)) := yp
        have yid : wr.drew.cell? ⟨gf, j, none⟩ = some (.int .i64 (b : Nat)) := yi
        have yfd : wr.drew.frozen? ⟨w.heap.size + 1, b, none⟩ = false := HOW.out.free b
        have ycd := (HOW.out.keep rfl : Own wr.drew _ _ _ _).row.cell b hbm
        have z1 : (wr.setCell ⟨w.heap.size + 1, b, none⟩ (.int .i64 (-1))).drew.cell? ⟨w1.heap.size, 0, none⟩ = some (.slice u1 n u2) := (o1.cell (a := ⟨w1.heap.size, 0, none⟩) (by show w1.heap.size ≠ _; omega)).trans y6a
        have z2 : (wr.setCell ⟨w.heap.size + 1, b, none⟩ (.int .i64 (-1))).drew.cell? ⟨w1.heap.size, 1, none⟩ = some (.slice (some ⟨tb, tu, none⟩) (forest n P m).length u4) := (o1.cell (a := ⟨w1.heap.size, 1, none⟩) (by show w1.heap.size ≠ _; omega)).trans y6b
        have z3 : (wr.setCell ⟨w.heap.size + 1, b, none⟩ (.int .i64 (-1))).drew.cell? ⟨gp, k, none⟩ = some (.int .i64 (j : Nat)) := (o1.cell (a := ⟨gp, k, none⟩) (by show gp ≠ _; omega)).trans yp
        have Z1 := Lib.hid z1
        have Z2 := Lib.hid z2
        have Z3 := Lib.hid z3
        have U1 : Upd (fun q => q = w.heap.size + 1) w4 (wr.setCell ⟨w.heap.size + 1, b, none⟩ (.int .i64 (-1))).drew := upd_dwX (HU.out.trans (Upd.of_only o1))
        have hzz : (wr.setCell ⟨w.heap.size + 1, b, none⟩ (.int .i64 (-1))).drew.heap.size = wr.heap.size := sz_set _ _ _
        have HUU := Lib.hid U1
        have HOO := Lib.hid hOd
        clear z1 z2 z3 o1 hOd U1 X
        go_wp2_with fail
        obtain ⟨w5, hw5⟩ : ∃ w5, (wr.setCell ⟨w.heap.size + 1, b, none⟩ (.int .i64 (-1))).drew = w5 := ⟨_, rfl⟩
        have hs5 : w5.heap.size = wr.heap.size := by rw [← hw5]; exact hzz
        rw [hw5] at Z1 Z2 Z3 HUU HOO ⊢
        clear hw5 hzz
        have s1 := Z1.out
        have s2 := Z2.out
        have s3 := Z3.out
        have hn5 : n ≤ 2000000 := by omega
        have hL5 : (forest n P m).length ≤ 2000000 := by omega
        have hzr : inR ((Z : Nat) : Int) 0 (n - 1) = true := inR_iff.2 ⟨by omega, by omega⟩
        have NT5 := Lib.hid (treeAt (HTN3.out.upd HUU.out (by omega) (fun q _ hq => by omega)) (HTP3.out.upd HUU.out (by
          rcases hgR' with g | g
          · exact .inr (by omega)
          · exact .inl g)) (show hi ≤ w5.heap.size by omega))
        clear ypd yid yfd ycd y6a y6b yp yi r0
        go_region_held3 (fun w' : World => w'.cell? ⟨w1.heap.size, 0, none⟩ = some (.slice u1 n u2) ∧ w'.cell? ⟨w1.heap.size, 1, none⟩ = some (.slice (some ⟨tb, tu, none⟩) (forest n P m).length u4) ∧ w'.cell? ⟨gp, k, none⟩ = some (.int .i64 (j : Nat)))
          (first | exact ⟨s1, s2, s3⟩ | exact SX)
          (first
            | (go_at_call 101; refine (l02Other_any _ _ n N (forest n P m).length (frP n P m) 0 w5.heap.size NT5.out.drew (Nat.le_refl _) HN.out hL5 j hjL (Z : Int) HPN.out hn5 hzr).mono ?_; rintro e w6 ⟨rfl, hb6⟩; rw [HYS.out, HOZ.out]; have hb6' := below_dr0 hb6; have SX : w6.cell? ⟨w1.heap.size, 0, none⟩ = some (.slice u1 n u2) ∧ w6.cell? ⟨w1.heap.size, 1, none⟩ = some (.slice (some ⟨tb, tu, none⟩) (forest n P m).length u4) ∧ w6.cell? ⟨gp, k, none⟩ = some (.int .i64 (j : Nat)) := ⟨(hb6'.cell (p := ⟨w1.heap.size, 0, none⟩) (by show w1.heap.size < _; omega)).trans s1, (hb6'.cell (p := ⟨w1.heap.size, 1, none⟩) (by show w1.heap.size < _; omega)).trans s2, (hb6'.cell (p := ⟨gp, k, none⟩) (by show gp < _; omega)).trans s3⟩))
        have HO6 := Lib.hid ((HOO.out.keep (hb6'.block _ (by omega))).congr (e := scy n P m c ((Y : Nat) : Int)) (fun a _ => by
          unfold upd
          rw [HNXX.out a, HSG.out]))
        have HU6 := Lib.hid (HUU.out.trans (Upd.of_below hb6'))
        have hY0 : (0 : Int) ≤ (Y : Int) := Int.natCast_nonneg _
        clear s1 s2 s3 SX hb6 hb6'
        go_wp2_with fail
        rw [← HQ.out]
        refine ⟨⟨_, _, _, _, _, _, _, _, _, _, _, _, _, _, _, _, _, _, _, _, _, _, _, _, _, _, _, _, _, _, _, _, _, _, _, _, _, ?rel, rfl⟩, ?measure⟩
        case rel => exact ⟨k + 1, _, rfl, by go_num, hlt, HYY.out.symm, HO6.out, HU6.out⟩
        case measure => simp [intOf]; omega
    · have hkn : (spL n (frP n P m) (forest n P m).length (t : Nat) (P c).f).length = k := by omega
      have k1' : ¬ ((k : Int) < ((spL n (frP n P m) (forest n P m).length (t : Nat) (P c).f).length : Int)) := by omega
      have HOF := Lib.hid (HOW.out.congr (e := cyc P (fE n P m) (fD n P m) c) (fun a ha => by
        rw [HZ.out, hkn, Nat.sub_self, ← HEND.out a ha]
        rfl))
      have HBF := Lib.hid (HB3.out.trans (HU.out.below (show w.heap.size ≤ w4.heap.size by omega) (fun q _ hq => by omega)))
      clear hkn
      go_wp2_with fail
      rw [← HQ.out]
      go_wp2_with fail
      go_ret
      exact ⟨_, w.heap.size + 1, rfl, HOF.out, by omega, HBF.out⟩
end Go.Proofs.YtdbgcbkmcbgdiaaGreat.mem

namespace Go.Proofs.YtdbgcbkmcbgdiaaGreat.mem
open Go.RowKit
set_option linter.unusedVariables false

theorem cyN_le (n : Nat) (N : Nat → Nod) (m : Nat) (P : Nat → Pip) (x : Int) (hm : m ≤ 2000000) : cyN n N m P x ≤ 2000000 := by
  unfold cyN
  split <;> omega
set_option maxRecDepth 100000 in
set_option maxHeartbeats 8000000 in
theorem l05Add_any (w : World) (va vb : Value) (m : Nat) (d y : Nat → Int) (c : Int) (la ha lb hb : Nat) (hv : Sl w va m d la ha) (hha : ha ≤ w.heap.size) (hu : Sl w vb m y lb hb) (hhb : hb ≤ w.heap.size) (hm : m ≤ 1000000)
    (h1 : ∀ k, k < m → -4611686018427387904 ≤ d k + c * y k ∧ d k + c * y k ≤ 4611686018427387904) (h2 : ∀ k, k < m → -4611686018427387904 ≤ c * y k ∧ c * y k ≤ 4611686018427387904) :
    Calls Tryz.prog 51 #[va, vb, .int .i64 c] w fun e w' => ∃ v2 g, e = .returned v2 ∧ Own w' v2 m (fun k => d k + c * y k) g ∧ w.heap.size ≤ g ∧ Below w.heap.size w w' := by
  have b0 := below_new w (.cells #[] 2)
  have HO := Lib.hid (Own.nilled w (fun k => d k + c * y k))
  have HBB := Lib.hid b0
  have hs0 : (w.alloc (.cells #[] 2)).heap.size = w.heap.size + 1 := by simp
  obtain ⟨pa, ca, rfl, hva⟩ := hv
  obtain ⟨pb, cb, rfl, hvb⟩ := hu
  have HVZ := Lib.hid hva
  have HUZ := Lib.hid hvb
  have H1 := Lib.hid h1
  have H2 := Lib.hid h2
  clear hva hvb h1 h2 b0
  go_enter Tryz.func51, Tryz.ntmps51
  go_wp2_with fail
  generalize hW : w.alloc (.cells #[] 2) = w1 at *
  clear hW
  go_loopw [7, 8] (fun ov iv wr => ∃ (k g : Nat) (ov' : Value), ov' = ov ∧ iv = .int .i64 k ∧ k ≤ m ∧ Own wr ov' k (fun k => d k + c * y k) g ∧ w.heap.size ≤ g ∧ Below w.heap.size w wr) (fun _ iv _ => m - (intOf iv).toNat)
  case atStart => exact ⟨0, w.heap.size, _, rfl, rfl, Nat.zero_le _, HO.out, Nat.le_refl _, HBB.out⟩
  case round =>
    obtain ⟨k, g, ov, rfl, rfl, hk, ho, hg, hb'⟩ := hrel
    obtain ⟨co, rfl⟩ := ho.shape
    clear HO HBB
    have HO := Lib.hid ho
    have HBB := Lib.hid hb'
    have lg := ho.lt
    have hsz := hb'.size
    clear ho hb'
    have k0 : (0 : Int) ≤ (k : Int) := Int.natCast_nonneg _
    generalize hQ : Exit.then _ _ = Q
    have HQ := Lib.hid hQ
    clear hQ
    by_cases hlt : k < m
    · have k1 : (k : Int) < (m : Int) := by omega
      obtain ⟨ba, oa, rfl, g1, g2, hx⟩ : ∃ b o, pa = some ⟨b, o, none⟩ ∧ la ≤ b ∧ b < ha ∧ ∀ k, k < m → w.cell? ⟨b, o + k, none⟩ = some (.int .i64 (d k)) := by
        rcases HVZ.out with e | e
        · omega
        · exact e
      obtain ⟨bb, ob, rfl, g3, g4, hy⟩ : ∃ b o, pb = some ⟨b, o, none⟩ ∧ lb ≤ b ∧ b < hb ∧ ∀ k, k < m → w.cell? ⟨b, o + k, none⟩ = some (.int .i64 (y k)) := by
        rcases HUZ.out with e | e
        · omega
        · exact e
      have ya : wr.cell? ⟨ba, oa + k, none⟩ = some (.int .i64 (d k)) := (HBB.out.cell (p := ⟨ba, oa + k, none⟩) (by show ba < w.heap.size; omega)).trans (hx k hlt)
      have yb : wr.cell? ⟨bb, ob + k, none⟩ = some (.int .i64 (y k)) := (HBB.out.cell (p := ⟨bb, ob + k, none⟩) (by show bb < w.heap.size; omega)).trans (hy k hlt)
      have HX := Lib.hid hx
      have HY := Lib.hid hy
      clear hx hy
      have a1 := H1.out k hlt
      have a2 := H2.out k hlt
      obtain ⟨v7, w7, g7, hr, ap⟩ := app_run (wr.drew.alloc (.cells #[.int .i64 (d k + c * y k)] 2)) _ k _ g (d k + c * y k) wr.heap.size ((HO.out.keep (w' := wr.drew) rfl).alloc _) (cell_new1 wr.drew _) (by omega)
      obtain ⟨c7, rfl⟩ := ap.own.shape
      have bl := ap.below (B := w.heap.size) hg (by rw [szal]; show g ≤ wr.heap.size + 1; omega)
      have HO7 := Lib.hid ap.own'
      have K7 : Below w.heap.size wr w7 := (below_alloc (below_drw (Below.refl w.heap.size wr)) hsz (.cells #[.int .i64 (d k + c * y k)] 2)).trans bl.1
      have HB7 := Lib.hid (HBB.out.trans K7)
      have hg7 := bl.2
      clear ap bl
      have X0 := Lib.hid (show wr.cell? ⟨ba, oa + k, none⟩ = some (.int .i64 (d k)) ∧ wr.cell? ⟨bb, ob + k, none⟩ = some (.int .i64 (y k)) from ⟨ya, yb⟩)
      have hba : ba < w.heap.size := by omega
      have hbb : bb < w.heap.size := by omega
      have KA : ∀ W', Below w.heap.size wr W' → W'.cell? ⟨ba, oa + k, none⟩ = some (.int .i64 (d k)) ∧ W'.cell? ⟨bb, ob + k, none⟩ = some (.int .i64 (y k)) := fun W' h => ⟨(h.cell (p := ⟨ba, oa + k, none⟩) hba).trans ya, (h.cell (p := ⟨bb, ob + k, none⟩) hbb).trans yb⟩
      have hw2 : IntKind.i64.wrap (c * y k) = c * y k := IntWalk.i64_in _ (by omega)
      have hw1 : IntKind.i64.wrap (d k + c * y k) = d k + c * y k := IntWalk.i64_in _ (by omega)
      have Q1 : Below w.heap.size wr wr.drew := below_drw (Below.refl _ _)
      have Q2 : Below w.heap.size wr (wr.drew.alloc (.cells #[.int .i64 (d k + c * y k)] 2)) := below_alloc Q1 hsz _
      go_wp2_with fail
      go_region_held3 (fun w' : World => w'.cell? ⟨ba, oa + k, none⟩ = some (.int .i64 (d k)) ∧ w'.cell? ⟨bb, ob + k, none⟩ = some (.int .i64 (y k)))
        (first | exact KA _ Q1 | exact KA _ Q2 | exact KA _ K7)
        (first | (refine step_appT hr rfl (.tmp 16) (.tmp 28) rfl rfl rfl rfl ?_))
      clear ya yb KA Q1 Q2 K7 hr a1 a2 hw1 hw2
      go_wp2_with fail
      rw [← HQ.out]
      refine ⟨⟨_, _, _, _, _, _, _, _, _, _, _, _, _, _, _, _, _, _, _, _, _, _, ?rel, rfl⟩, ?measure⟩
      case rel => exact ⟨k + 1, g7, _, rfl, by go_num, hlt, HO7.out, hg7, HB7.out⟩
      case measure => simp [intOf]; omega
    · have hkn : m = k := by omega
      subst hkn
      have k1 : ¬ ((m : Int) < (m : Int)) := by omega
      go_wp2_with fail
      rw [← HQ.out]
      go_wp2_with fail
      go_ret
      exact ⟨_, g, rfl, HO.out, hg, HBB.out⟩
end Go.Proofs.YtdbgcbkmcbgdiaaGreat.mem

namespace Go.Proofs.YtdbgcbkmcbgdiaaGreat.mem
open Go.RowKit
set_option linter.unusedVariables false

theorem adN_le (n : Nat) (N : Nat → Nod) (m : Nat) (P : Nat → Pip) (K : Nat) (d : Nat → Int) (x y : Int) (hm : m ≤ 2000000) : adN n N m P K d x y ≤ 2000000 := by
  unfold adN
  split <;> omega
end Go.Proofs.YtdbgcbkmcbgdiaaGreat.mem
