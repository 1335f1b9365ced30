/-
  The specification's chords, lists of flows, and sums at nodes. Conditions: as each states.
-/
import Derived.Test.YtcnhlagkaggioaaRows
import Derived.Test.YtcnhlagkaggioaaCiM
namespace Go.Proofs.Ytcnhlagkaggioaa.mem
open Go.RowKit
set_option linter.unusedVariables false

theorem inF_has {n : Nat} {P : Nat → Pip} {m a : Nat} (ha : a < m) : hasB (forest n P m).length (lD (forest n P m)) ((a : Nat) : Int) = inF n P m (fl (rts n P m) n) a := by
  cases hp : inF n P m (fl (rts n P m) n) a
  · refine hasB_no fun k hk e => ?_
    obtain ⟨b, hb, hb2, hb3, _⟩ := forest_at hk
    obtain rfl : b = a := by omega
    rw [hp] at hb2
    cases hb2
  · obtain ⟨h1, h2⟩ := forest_idx ha hp
    exact hasB_yes h1 h2
set_option maxRecDepth 100000 in
set_option maxHeartbeats 8000000 in
theorem l05Chords_any (w : World) (v : Value) (n : Nat) (N : Nat → Nod) (m : Nat) (P : Nat → Pip) (lo hi : Nat) (h : NetAt w v n N m P lo hi) (hhi : hi ≤ w.heap.size) (hN : ∀ i, i < n → (N i).s.size ≤ 9223372036854775807) (hB : netB n N m P = true) :
    Calls Try.prog 61 #[v] w fun e w' => ∃ v2 g, e = .returned v2 ∧ Own w' v2 (chN n P m) (fd (chP n P m) m) g ∧ w.heap.size ≤ g ∧ Below w.heap.size w w' := by
  have hm40 := (net_sz hB).2.2
  have HB := Lib.hid hB
  clear hB
  obtain ⟨p0, c0, p1, c1, rfl, hn9, hm9⟩ := h.parts
  have HV := Lib.hid h
  have HN := Lib.hid hN
  have A0 := boxed w (.slice p0 n c0) (.slice p1 m c1) 33
  have B0 := below_new w (.cells #[.slice p0 n c0, .slice p1 m c1] 33)
  have hs0 : (w.alloc (.cells #[.slice p0 n c0, .slice p1 m c1] 33)).heap.size = w.heap.size + 1 := by simp
  clear h hN
  go_enter Try.func61, Try.ntmps61
  have e0' := A0.b0
  have e1' := A0.b1
  go_wp2_with fail
  refine (l04Forest_any _ _ n N m P lo hi (HV.out.below B0 hhi) (by omega) HN.out HB.out).mono ?_
  rintro e w1 ⟨vf, gf, rfl, hgf, of, b1⟩
  obtain ⟨cf, rfl⟩ := of.shape
  have A1 := A0.below b1 (by omega)
  have B1 := B0.trans (b1.mono (by omega))
  have hs1 := b1.size
  have b2 := below_new w1 (.cells #[] 2)
  have HA := Lib.hid (A1.below b2 (by omega))
  have HBB := Lib.hid (B1.trans (b2.mono (by omega)))
  have HF := Lib.hid (of.below b2 (Nat.le_refl _))
  have HO := Lib.hid (Own.nilled w1 (fd (chP n P m) 0))
  have hgl := of.lt
  have hs2 : (w1.alloc (.cells #[] 2)).heap.size = w1.heap.size + 1 := by simp
  clear A0 B0 A1 B1 b1 b2 of e0' e1'
  go_wp2_with fail
  generalize hW : w1.alloc (.cells #[] 2) = w2 at *
  clear hW
  have hfm := forest_le n P m
  go_loopw [4, 5] (fun ov iv wr => ∃ (k g : Nat) (ov' : Value), ov' = ov ∧ iv = .int .i64 k ∧ k ≤ m ∧ Own wr ov' (fl (chP n P m) k).length (fd (chP n P m) k) g ∧ w.heap.size < g ∧ g ≠ gf ∧ Own wr (.slice (some ⟨gf, 0, none⟩) (forest n P m).length cf) (forest n P m).length (lD (forest n P m)) gf ∧ Ob wr w.heap.size 2 (bx (.slice p0 n c0) (.slice p1 m c1)) ∧ Below w.heap.size w wr) (fun _ iv _ => m - (intOf iv).toNat)
  case atStart => exact ⟨0, w1.heap.size, _, rfl, rfl, Nat.zero_le _, HO.out, by omega, by omega, HF.out, HA.out, HBB.out⟩
  case round =>
    obtain ⟨k, g, ov, rfl, rfl, hk, ho, hg, hne, of, oa, hb⟩ := hrel
    obtain ⟨co, rfl⟩ := ho.shape
    clear HF HO HA HBB
    have HO := Lib.hid ho
    have HF := Lib.hid of
    have HA := Lib.hid oa
    have HBB := Lib.hid hb
    have lg := ho.lt
    have lf := of.lt
    have la := oa.lt
    have e1 : wr.cell? ⟨w.heap.size, 1, none⟩ = some (.slice p1 m c1) := oa.b1
    clear ho of oa hb
    have k0 : (0 : Int) ≤ (k : Int) := Int.natCast_nonneg _
    generalize hQ : Exit.then _ _ = Q
    have HQ := Lib.hid hQ
    clear hQ
    by_cases hlt : k < m
    · have k1 : (k : Int) < (m : Int) := by omega
      have hih := inF_has (n := n) (P := P) hlt
      cases hp : inF n P m (fl (rts n P m) n) k
      · have hpc : chP n P m k = true := by unfold chP; rw [hp]; rfl
        rw [hp] at hih
        obtain ⟨v7, w7, g7, hr, ap⟩ := coll_run wr _ (chP n P m) k g HO.out (by omega)
        have Y := coll_below ap (B := w.heap.size + 1) (by omega) lg
        have O7 := Lib.hid (fl_app hpc ap)
        have hoth := ap.other (c := gf) (fun e => hne e.symm) (by rw [szal]; omega)
        have hotA := ap.other (c := w.heap.size) (by omega) (by rw [szal]; omega)
        have HF7 := Lib.hid ((HF.out.alloc _).keep hoth.1)
        have HA7 := Lib.hid ((HA.out.keep (Below.heap_alloc _ (.cells #[.int .i64 (k : Nat)] 2) _ la)).keep hotA.1)
        have HB7 := Lib.hid (HBB.out.trans (Y.1.mono (by omega)))
        have hg7 := Y.2
        have hne7 := hoth.2
        clear ap hoth hotA Y hp hpc
        go_wp2_with (first | (go_at_call 70; refine (l02Has_any _ _ _ (lD (forest n P m)) 0 _ (HF.out.ownS.cs (.inr rfl) (Nat.le_refl _)) _).mono ?_; rintro e w' ⟨rfl, rfl⟩; rw [hih]) | (at_builtin; refine wpList_app hr rfl _ _ rfl rfl rfl rfl ?_))
        rw [← HQ.out]
        refine ⟨⟨_, _, _, _, _, _, _, _, _, _, _, _, _, _, _, _, _, ?rel, rfl⟩, ?measure⟩
        case rel => exact ⟨k + 1, g7, _, rfl, by go_num, hlt, O7.out, by omega, fun e => hne7 e.symm, HF7.out, HA7.out, HB7.out⟩
        case measure => simp [intOf]; omega
      · have HPC := Lib.hid (show chP n P m k = false by unfold chP; rw [hp]; rfl)
        rw [hp] at hih
        clear hp
        go_wp2_with (go_at_call 70; refine (l02Has_any _ _ _ (lD (forest n P m)) 0 _ (HF.out.ownS.cs (.inr rfl) (Nat.le_refl _)) _).mono ?_; rintro e w' ⟨rfl, rfl⟩; rw [hih])
        rw [← HQ.out]
        refine ⟨⟨_, _, _, _, _, _, _, _, _, _, _, _, _, _, _, _, _, ?rel, rfl⟩, ?measure⟩
        case rel => exact ⟨k + 1, g, _, rfl, by go_num, hlt, fl_keep HPC.out HO.out, hg, hne, HF.out, HA.out, HBB.out⟩
        case measure => simp [intOf]; omega
    · have hkn : m = k := by omega
      subst hkn
      have k1 : ¬ ((m : Int) < (m : Int)) := by omega
      go_wp2_with fail
      rw [← HQ.out]
      go_wp2_with fail
      go_ret
      exact ⟨_, g, rfl, HO.out, by omega, HBB.out⟩
theorem chordsOfS_any (w : World) (v : Value) (n : Nat) (N : Nat → Nod) (m : Nat) (P : Nat → Pip) (lo hi : Nat) (h : NetAt w v n N m P lo hi) (hhi : hi ≤ w.heap.size) (hN : ∀ i, i < n → (N i).s.size ≤ 9223372036854775807) :
    Calls Try.prog 17 #[v] w (LIPost w (coN n N m P) (fd (chP n P m) m) (cmC (netB n N m P))) := by
  obtain ⟨p0, c0, p1, c1, rfl, hn9, hm9⟩ := h.parts
  have HV := Lib.hid h
  have HN := Lib.hid hN
  have A0 := boxed w (.slice p0 n c0) (.slice p1 m c1) 33
  have B0 := below_new w (.cells #[.slice p0 n c0, .slice p1 m c1] 33)
  have hs0 : (w.alloc (.cells #[.slice p0 n c0, .slice p1 m c1] 33)).heap.size = w.heap.size + 1 := by simp
  clear h hN
  go_enter Try.func17, Try.ntmps17
  have e0' := A0.b0
  have e1' := A0.b1
  go_wp2_with fail
  refine (sIsNetwork_any _ _ n N m P lo hi (HV.out.below B0 hhi) (by omega) HN.out).mono ?_
  rintro e w1 ⟨rfl, b1⟩
  have A1 := A0.below b1 (by omega)
  have B1 := B0.trans (b1.mono (by omega))
  have hs1 := b1.size
  have e0 := A1.b0
  have e1 := A1.b1
  have e2 : w.heap.size < w1.heap.size := by omega
  clear A0 B0 b1 e0' e1'
  cases hB : netB n N m P
  · have H2 := Lib.hid (show coN n N m P = 0 by unfold coN; rw [hB]; rfl)
    have H3 := Lib.hid (show cmC (netB n N m P) = 1 by rw [hB]; rfl)
    clear hB
    go_wp2_with fail
    go_ret2
    exact li_err H2.out H3.out.symm rfl B1
  · have H2 := Lib.hid (show coN n N m P = chN n P m by unfold coN; rw [hB]; rfl)
    have H3 := Lib.hid (show cmC (netB n N m P) = 0 by rw [hB]; rfl)
    have HB := Lib.hid hB
    clear hB
    go_wp2_with fail
    refine (l05Chords_any w1 _ n N m P lo hi (HV.out.below B1 hhi) (by omega) HN.out HB.out).mono ?_
    rintro e w3 ⟨v2, g, rfl, ot, hg, b3⟩
    have B3 := B1.trans (b3.mono (by omega))
    clear b3
    go_wp2_with fail
    go_ret2
    exact li_ok H2.out.symm (by rw [H3.out]; rfl) ot (by omega) B3
theorem coN_le (n : Nat) (N : Nat → Nod) (m : Nat) (P : Nat → Pip) (hm : m ≤ 2000000) : coN n N m P ≤ 2000000 := by
  have := chN_le n P m
  unfold coN
  split <;> omega
theorem agreeChordsOf (n : Nat) (N : Nat → Nod) (m : Nat) (P : Nat → Pip) (hN : ∀ i, i < n → (N i).s.size ≤ 9223372036854775807) (_hn : n ≤ 2000000) (hm : m ≤ 2000000) :
    ∃ rn rd rc, rn ≤ 2000000 ∧ (∀ w v, NetAt w v n N m P 0 w.heap.size → Calls Try.prog 19 #[v] w (LIPost w rn rd rc)) ∧ (∀ w v, NetAt w v n N m P 0 w.heap.size → Calls Try.prog 17 #[v] w (LIPost w rn rd rc)) :=
  ⟨coN n N m P, fd (chP n P m) m, cmC (netB n N m P), coN_le n N m P hm, fun w v h => chordsOfI_any w v n N m P 0 _ h (Nat.le_refl _) hN, fun w v h => chordsOfS_any w v n N m P 0 _ h (Nat.le_refl _) hN⟩

theorem l05Flow_any (w : World) (x : Int) : Calls Try.prog 84 #[.int .i64 x] w fun e w' => e = .returned (.bool (flQ x)) ∧ w = w' := by
  unfold flQ
  go_enter Try.func84, Try.ntmps84
  go_wp2_with (go_at_call 120; refine (l01In_any _ _ _ _).mono ?_; rintro e w' ⟨rfl, rfl⟩)
  go_ret
  exact ⟨rfl, rfl⟩
/-- is a list one of flows of a network with m pipes? -/
def liB (m K : Nat) (d : Nat → Int) : Bool := flB d K && decide (K = m)
set_option maxRecDepth 100000 in
set_option maxHeartbeats 8000000 in
theorem l05List_any (w : World) (p0 p1 : Option Addr) (n m c0 c1 : Nat) (va : Value) (K : Nat) (d : Nat → Int) (la ha : Nat) (hv : Sl w va K d la ha) (hha : ha ≤ w.heap.size) (hK9 : K ≤ 9223372036854775807) (hm9 : m ≤ 9223372036854775807) :
    Calls Try.prog 76 #[.agg #[.slice p0 n c0, .slice p1 m c1], va] w fun e w' => e = .returned (.bool (liB m K d)) ∧ Below w.heap.size w w' := by
  have A0 := boxed w (.slice p0 n c0) (.slice p1 m c1) 33
  have B0 := Lib.hid (below_new w (.cells #[.slice p0 n c0, .slice p1 m c1] 33))
  have H1 := Lib.hid (hv.below B0.out hha)
  obtain ⟨p, cap, rfl, hc⟩ := hv.below B0.out hha
  have HC := Lib.hid hc
  have e1 := A0.b1
  clear hc A0 hv
  go_enter Try.func76, Try.ntmps76
  go_wp2_with fail
  obtain ⟨w1, hw1⟩ : ∃ w1, w.alloc (.cells #[.slice p0 n c0, .slice p1 m c1] 33) = w1 := ⟨_, rfl⟩
  rw [hw1] at B0 HC e1 ⊢
  clear hw1 H1
  go_loopw [5] (fun iv wr => ∃ k : Nat, iv = .int .i64 k ∧ k ≤ K ∧ flB d k = true ∧ wr = w1) (fun iv _ => K - (intOf iv).toNat)
  case atStart => exact ⟨0, rfl, Nat.zero_le _, rfl, rfl⟩
  case round =>
    obtain ⟨k, rfl, hk, hb, rfl⟩ := hrel
    generalize hQ : Exit.then _ _ = Q
    have HQ := Lib.hid hQ
    clear hQ
    have HF := Lib.hid hb
    clear hb
    have k0 : (0 : Int) ≤ (k : Int) := Int.natCast_nonneg _
    by_cases hlt : k < K
    · have k1 : (k : Int) < (K : Int) := by omega
      obtain ⟨b, o, rfl, _, _, hx⟩ : ∃ b o, p = some ⟨b, o, none⟩ ∧ la ≤ b ∧ b < ha ∧ ∀ k, k < K → wr.cell? ⟨b, o + k, none⟩ = some (.int .i64 (d k)) := by
        rcases HC.out with e | e
        · omega
        · exact e
      have y0 := hx k hlt
      have HX := Lib.hid hx
      clear hx
      cases hq : flQ (d k)
      · have HR := Lib.hid (show liB m K d = false by unfold liB; rw [flB_no hlt hq]; rfl)
        go_wp2_with (go_at_call 84; refine (l05Flow_any _ _).mono ?_; rintro e w' ⟨rfl, rfl⟩; rw [hq])
        rw [← HQ.out]
        go_wp2_with fail
        go_ret
        exact ⟨ret_b HR.out.symm, B0.out⟩
      · have HR := Lib.hid (show flB d (k + 1) = true by unfold flB; rw [HF.out, hq]; rfl)
        go_wp2_with (go_at_call 84; refine (l05Flow_any _ _).mono ?_; rintro e w' ⟨rfl, rfl⟩; rw [hq])
        rw [← HQ.out]
        refine ⟨⟨_, _, _, _, _, _, _, _, _, _, _, _, _, _, ?rel, rfl⟩, ?measure⟩
        case rel => exact ⟨k + 1, by go_num, hlt, HR.out, rfl⟩
        case measure => simp [intOf]; omega
    · have hkn : K = k := by omega
      have HR := Lib.hid (show liB m K d = decide (K = m) by unfold liB; rw [hkn, HF.out]; rfl)
      have hb2 : ((K : Int) == (m : Int)) = decide (K = m) := by
        by_cases e : K = m
        · simp [e]
        · rw [decide_eq_false e]; simp; omega
      subst hkn
      have k1 : ¬ ((K : Int) < (K : Int)) := by omega
      go_wp2_with fail
      rw [← HQ.out]
      go_wp2_with fail
      go_ret
      refine ⟨ret_b ?_, B0.out⟩
      first | exact HR.out.symm | (rw [HR.out, ← hb2])
theorem liB_iff {m K : Nat} {d : Nat → Int} : liB m K d = true ↔ K = m ∧ flB d K = true := by
  unfold liB
  rw [Bool.and_eq_true, decide_eq_true_eq]
  exact And.comm
theorem l05Code_any (w : World) (v : Value) (n : Nat) (N : Nat → Nod) (m : Nat) (P : Nat → Pip) (lo hi : Nat) (h : NetAt w v n N m P lo hi) (hhi : hi ≤ w.heap.size) (hN : ∀ i, i < n → (N i).s.size ≤ 9223372036854775807) (va : Value) (K : Nat) (d : Nat → Int) (la ha : Nat) (hv : Sl w va K d la ha) (hha : ha ≤ w.heap.size) (hK9 : K ≤ 9223372036854775807) :
    Calls Try.prog 83 #[v, va] w fun e w' => e = .returned (.int .i64 (flC n N m P K d)) ∧ Below w.heap.size w w' := by
  obtain ⟨p0, c0, p1, c1, rfl, hn9, hm9⟩ := h.parts
  have HV := Lib.hid h
  have HN := Lib.hid hN
  have A0 := boxed w (.slice p0 n c0) (.slice p1 m c1) 33
  have B0 := below_new w (.cells #[.slice p0 n c0, .slice p1 m c1] 33)
  have hs0 : (w.alloc (.cells #[.slice p0 n c0, .slice p1 m c1] 33)).heap.size = w.heap.size + 1 := by simp
  clear h hN
  go_enter Try.func83, Try.ntmps83
  have e0' := A0.b0
  have e1' := A0.b1
  go_wp2_with fail
  refine (sIsNetwork_any _ _ n N m P lo hi (HV.out.below B0 hhi) (by omega) HN.out).mono ?_
  rintro e w1 ⟨rfl, b1⟩
  have A1 := A0.below b1 (by omega)
  have B1 := B0.trans (b1.mono (by omega))
  have hs1 := b1.size
  have e0 := A1.b0
  have e1 := A1.b1
  have e2 : w.heap.size < w1.heap.size := by omega
  clear A0 B0 b1 e0' e1'
  cases hB : netB n N m P
  · have H2 := Lib.hid (show flC n N m P K d = 1 by unfold flC; rw [hB]; rfl)
    clear hB
    go_wp2_with fail
    go_ret
    exact ⟨ret_i H2.out.symm, B1⟩
  · have H1 := Lib.hid (hv.below B1 hha)
    cases hl : liB m K d
    · have H2 := Lib.hid (show flC n N m P K d = 3 by
        unfold flC
        rw [hB, if_pos rfl, if_neg (fun g => by rw [liB_iff.2 g] at hl; cases hl)])
      clear hB
      go_wp2_with (go_at_call 76; refine (l05List_any _ p0 p1 n m c0 c1 _ K d _ _ H1.out (by omega) hK9 hm9).mono ?_; rintro e w4 ⟨rfl, hb4⟩; rw [hl])
      go_ret
      exact ⟨ret_i H2.out.symm, B1.trans (hb4.mono (by omega))⟩
    · have H2 := Lib.hid (show flC n N m P K d = 0 by
        unfold flC
        rw [hB, if_pos rfl, if_pos (liB_iff.1 hl)])
      clear hB
      go_wp2_with (go_at_call 76; refine (l05List_any _ p0 p1 n m c0 c1 _ K d _ _ H1.out (by omega) hK9 hm9).mono ?_; rintro e w4 ⟨rfl, hb4⟩; rw [hl])
      go_ret
      exact ⟨ret_i H2.out.symm, B1.trans (hb4.mono (by omega))⟩
end Go.Proofs.Ytcnhlagkaggioaa.mem
