/-
  ComponentsOf, IsConnected and IsTree: the contracts of the program and of the specification. Conditions: as each states.
-/
import Derived.Test.YtjjjdahegcjmaaaRows
import Derived.Test.YtjjjdahegcjmaaaCms
namespace Go.Proofs.Ytjjjdahegcjmaaa.mem
open Go.RowKit
set_option linter.unusedVariables false

def cmC (b : Bool) : Int := if b = true then 0 else 1
noncomputable def cmN (n : Nat) (N : Nat → Nod) (m : Nat) (P : Nat → Pip) : Nat := if cmC (netB n N m P) = 0 then n else 0
noncomputable def conB (n : Nat) (N : Nat → Nod) (m : Nat) (P : Nat → Pip) : Bool := netB n N m P && decide (cnt n P m = 1)
noncomputable def treeB (n : Nat) (N : Nat → Nod) (m : Nat) (P : Nat → Pip) : Bool := conB n N m P && decide (m + 1 = n)

set_option maxRecDepth 100000 in
set_option maxHeartbeats 4000000 in
theorem l04Count_any (w : World) (v : Value) (n : Nat) (N : Nat → Nod) (m : Nat) (P : Nat → Pip) (lo hi : Nat) (h : NetAt w v n N m P lo hi) (hhi : hi ≤ w.heap.size) (hN : ∀ i, i < n → (N i).s.size ≤ 9223372036854775807) (hB : netB n N m P = true) :
    Calls Try.prog 78 #[v] w fun e w' => e = .returned (.int .i64 (cnt n P m : Nat)) ∧ Below w.heap.size w w' := by
  obtain ⟨p0, c0, p1, c1, rfl, hn9, hm9⟩ := h.parts
  obtain ⟨hn1, hn24, hm40⟩ := net_sz hB
  have HV := Lib.hid h
  have HN := Lib.hid hN
  have HB := Lib.hid hB
  have B0 := below_new w (.cells #[.slice p0 n c0, .slice p1 m c1] 30)
  have hs0 : (w.alloc (.cells #[.slice p0 n c0, .slice p1 m c1] 30)).heap.size = w.heap.size + 1 := by simp
  clear h hN hB
  go_enter Try.func78, Try.ntmps78
  go_wp2_with fail
  refine (l04Components_any _ _ n N m P lo hi (HV.out.below B0 hhi) (by omega) HN.out HB.out).mono ?_
  rintro e w3 ⟨g, rfl, hg, ot, b3⟩
  have HT := Lib.hid ot
  have HB3 := Lib.hid (B0.trans (b3.mono (by omega)))
  clear ot b3 B0 hs0
  go_wp2_with fail
  go_loopw [4, 5] (fun cv iv wr => ∃ k : Nat, iv = .int .i64 k ∧ k ≤ n ∧ cv = .int .i64 ((fl (rts n P m) k).length : Nat) ∧ Ob wr g n (tabC (cmp n P m n)) ∧ Below w.heap.size w wr) (fun _ iv _ => n - (intOf iv).toNat)
  case atStart => exact ⟨0, rfl, Nat.zero_le _, rfl, HT.out, HB3.out⟩
  case round =>
    obtain ⟨k, rfl, hk, rfl, ht, hb⟩ := hrel
    clear HT HB3
    have HT := Lib.hid ht
    have HBB := Lib.hid hb
    clear ht hb
    have k0 : (0 : Int) ≤ (k : Int) := Int.natCast_nonneg _
    have hfl := fl_le (rts n P m) k
    generalize hQ : Exit.then _ _ = Q
    have HQ := Lib.hid hQ
    clear hQ
    by_cases hlt : k < n
    · have k1 : (k : Int) < (n : Int) := by omega
      have y0 : wr.cell? ⟨g, k, none⟩ = some (.int .i64 (cmp n P m n k)) := HT.out.cell k hlt
      have HRE := Lib.hid (rts_eq n P m k)
      have hcm : (cmp n P m n k == ((k : Nat) : Int)) = (((k : Nat) : Int) == cmp n P m n k) := by rw [Bool.eq_iff_iff, beq_iff_eq, beq_iff_eq]; exact ⟨fun h => h.symm, fun h => h.symm⟩
      cases hr : rts n P m k
      · have hb1 : (cmp n P m n k == ((k : Nat) : Int)) = false := by rw [hcm, HRE.out, hr]
        have HR := Lib.hid (fl_no hr)
        clear hr hcm
        go_wp2_with fail
        rw [← HQ.out]
        refine ⟨⟨_, _, _, _, _, _, _, _, _, _, _, _, _, _, _, _, ?rel, rfl⟩, ?measure⟩
        case rel => exact ⟨k + 1, by go_num, hlt, by rw [HR.out], HT.out, HBB.out⟩
        case measure => simp [intOf]; omega
      · have hb1 : (cmp n P m n k == ((k : Nat) : Int)) = true := by rw [hcm, HRE.out, hr]
        have HR := Lib.hid (fl_yes hr)
        have HC := Lib.hid (show cmp n P m n k = (k : Int) by rw [beq_iff_eq] at hb1; exact hb1)
        rw [HC.out] at y0
        clear hr hcm hb1
        go_wp2_with fail
        rw [← HQ.out]
        refine ⟨⟨_, _, _, _, _, _, _, _, _, _, _, _, _, _, _, _, ?rel, rfl⟩, ?measure⟩
        case rel => exact ⟨k + 1, by go_num, hlt, by rw [HR.out, List.length_append, List.length_singleton]; go_num, HT.out, HBB.out⟩
        case measure => simp [intOf]; omega
    · have hkn : n = k := by omega
      subst hkn
      have k1 : ¬ ((n : Int) < (n : Int)) := by omega
      go_wp2
      rw [← HQ.out]
      go_wp2
      go_ret
      exact ⟨rfl, HBB.out⟩
theorem li_tab1 {w w' : World} {cnt g n : Nat} {f : Int → Int} {c : Int} {e : Ending} (h0 : n = cnt) (hc : 0 = c) (he : e = .returned (.tuple #[.slice (some ⟨g, 0, none⟩) n n, .int .i64 0])) (h : Ob w' g n (tabC f)) (hn : n ≤ 24) (hg : w.heap.size ≤ g) (hb : Below w.heap.size w w') : LIPost w cnt (fun k => f ((k : Nat) : Int)) c e w' := li_tab h0 hc he h hn hg hb

set_option maxRecDepth 100000 in
set_option maxHeartbeats 4000000 in
theorem componentsOfI_any (w : World) (v : Value) (n : Nat) (N : Nat → Nod) (m : Nat) (P : Nat → Pip) (lo hi : Nat) (h : NetAt w v n N m P lo hi) (hhi : hi ≤ w.heap.size) (hN : ∀ i, i < n → (N i).s.size ≤ 9223372036854775807) :
    Calls Try.prog 32 #[v] w (LIPost w (cmN n N m P) (fun k => cmp n P m n ((k : Nat) : Int)) (cmC (netB n N m P))) := by
  obtain ⟨p0, c0, p1, c1, rfl, hn9, hm9⟩ := h.parts
  have HV := Lib.hid h
  have HN := Lib.hid hN
  have A0 := boxed w (.slice p0 n c0) (.slice p1 m c1) 30
  have B0 := below_new w (.cells #[.slice p0 n c0, .slice p1 m c1] 30)
  have hs0 : (w.alloc (.cells #[.slice p0 n c0, .slice p1 m c1] 30)).heap.size = w.heap.size + 1 := by simp
  clear h hN
  go_enter Try.func32, Try.ntmps32
  go_wp2_with fail
  refine (isNetwork_any _ _ n N m P lo hi (HV.out.below B0 hhi) (by omega) HN.out).mono ?_
  rintro e w2 ⟨rfl, b2⟩
  have A2 := A0.below b2 (by omega)
  have B2 := B0.trans (b2.mono (by omega))
  have hs2 := b2.size
  have e0 := A2.b0
  have e1 := A2.b1
  have e2 : w.heap.size < w2.heap.size := by omega
  clear A0 B0 b2
  cases hB : netB n N m P
  · have H2 := Lib.hid (show cmN n N m P = 0 by unfold cmN; rw [hB]; rfl)
    have H3 := Lib.hid (show cmC (netB n N m P) = 1 by rw [hB]; rfl)
    clear hB
    go_wp2_with fail
    go_ret2
    exact li_err H2.out H3.out.symm rfl B2
  · have H2 := Lib.hid (show cmN n N m P = n by unfold cmN; rw [hB]; rfl)
    have H3 := Lib.hid (show cmC (netB n N m P) = 0 by rw [hB]; rfl)
    have HB := Lib.hid hB
    have hn24 := (net_sz hB).2.1
    clear hB
    go_wp2_with fail
    refine (components_any _ _ n N m P lo hi (HV.out.below B2 hhi) (by omega) HB.out).mono ?_
    rintro e w3 ⟨g, rfl, hg, ot, b3⟩
    have B3 := B2.trans (b3.mono (by omega))
    clear b3
    go_wp2_with fail
    go_ret2
    exact li_tab H2.out.symm H3.out.symm rfl ot hn24 (by omega) B3

set_option maxRecDepth 100000 in
set_option maxHeartbeats 4000000 in
theorem componentsOfS_any (w : World) (v : Value) (n : Nat) (N : Nat → Nod) (m : Nat) (P : Nat → Pip) (lo hi : Nat) (h : NetAt w v n N m P lo hi) (hhi : hi ≤ w.heap.size) (hN : ∀ i, i < n → (N i).s.size ≤ 9223372036854775807) :
    Calls Try.prog 31 #[v] w (LIPost w (cmN n N m P) (fun k => cmp n P m n ((k : Nat) : Int)) (cmC (netB n N m P))) := by
  obtain ⟨p0, c0, p1, c1, rfl, hn9, hm9⟩ := h.parts
  have HV := Lib.hid h
  have HN := Lib.hid hN
  have A0 := boxed w (.slice p0 n c0) (.slice p1 m c1) 30
  have B0 := below_new w (.cells #[.slice p0 n c0, .slice p1 m c1] 30)
  have hs0 : (w.alloc (.cells #[.slice p0 n c0, .slice p1 m c1] 30)).heap.size = w.heap.size + 1 := by simp
  clear h hN
  go_enter Try.func31, Try.ntmps31
  go_wp2_with fail
  refine (sIsNetwork_any _ _ n N m P lo hi (HV.out.below B0 hhi) (by omega) HN.out).mono ?_
  rintro e w2 ⟨rfl, b2⟩
  have A2 := A0.below b2 (by omega)
  have B2 := B0.trans (b2.mono (by omega))
  have hs2 := b2.size
  have e0 := A2.b0
  have e1 := A2.b1
  have e2 : w.heap.size < w2.heap.size := by omega
  clear A0 B0 b2
  cases hB : netB n N m P
  · have H2 := Lib.hid (show cmN n N m P = 0 by unfold cmN; rw [hB]; rfl)
    have H3 := Lib.hid (show cmC (netB n N m P) = 1 by rw [hB]; rfl)
    clear hB
    go_wp2_with fail
    go_ret2
    exact li_err H2.out H3.out.symm rfl B2
  · have H2 := Lib.hid (show cmN n N m P = n by unfold cmN; rw [hB]; rfl)
    have H3 := Lib.hid (show cmC (netB n N m P) = 0 by rw [hB]; rfl)
    have HB := Lib.hid hB
    have hn24 := (net_sz hB).2.1
    clear hB
    go_wp2_with fail
    refine (l04Components_any _ _ n N m P lo hi (HV.out.below B2 hhi) (by omega) HN.out HB.out).mono ?_
    rintro e w3 ⟨g, rfl, hg, ot, b3⟩
    have B3 := B2.trans (b3.mono (by omega))
    clear b3
    go_wp2_with fail
    go_ret2
    exact li_tab H2.out.symm H3.out.symm rfl ot hn24 (by omega) B3
theorem cmN_le (n : Nat) (N : Nat → Nod) (m : Nat) (P : Nat → Pip) (hn : n ≤ 2000000) : cmN n N m P ≤ 2000000 := by
  unfold cmN
  split <;> omega
theorem agreeComponentsOf (n : Nat) (N : Nat → Nod) (m : Nat) (P : Nat → Pip) (hN : ∀ i, i < n → (N i).s.size ≤ 9223372036854775807) (_hn : n ≤ 2000000) (hm : m ≤ 2000000) :
    ∃ rn rd rc, rn ≤ 2000000 ∧ (∀ w v, NetAt w v n N m P 0 w.heap.size → Calls Try.prog 32 #[v] w (LIPost w rn rd rc)) ∧ (∀ w v, NetAt w v n N m P 0 w.heap.size → Calls Try.prog 31 #[v] w (LIPost w rn rd rc)) :=
  ⟨cmN n N m P, fun k => cmp n P m n ((k : Nat) : Int), cmC (netB n N m P), cmN_le n N m P _hn, fun w v h => componentsOfI_any w v n N m P 0 _ h (Nat.le_refl _) hN, fun w v h => componentsOfS_any w v n N m P 0 _ h (Nat.le_refl _) hN⟩

set_option maxRecDepth 100000 in
set_option maxHeartbeats 4000000 in
theorem isConnectedI_any (w : World) (v : Value) (n : Nat) (N : Nat → Nod) (m : Nat) (P : Nat → Pip) (lo hi : Nat) (h : NetAt w v n N m P lo hi) (hhi : hi ≤ w.heap.size) (hN : ∀ i, i < n → (N i).s.size ≤ 9223372036854775807) :
    Calls Try.prog 34 #[v] w (BPost w (conB n N m P)) := by
  obtain ⟨p0, c0, p1, c1, rfl, hn9, hm9⟩ := h.parts
  have HV := Lib.hid h
  have HN := Lib.hid hN
  have A0 := boxed w (.slice p0 n c0) (.slice p1 m c1) 30
  have B0 := below_new w (.cells #[.slice p0 n c0, .slice p1 m c1] 30)
  have hs0 : (w.alloc (.cells #[.slice p0 n c0, .slice p1 m c1] 30)).heap.size = w.heap.size + 1 := by simp
  clear h hN
  go_enter Try.func34, Try.ntmps34
  go_wp2_with fail
  refine (isNetwork_any _ _ n N m P lo hi (HV.out.below B0 hhi) (by omega) HN.out).mono ?_
  rintro e w2 ⟨rfl, b2⟩
  have A2 := A0.below b2 (by omega)
  have B2 := B0.trans (b2.mono (by omega))
  have hs2 := b2.size
  have e0 := A2.b0
  have e1 := A2.b1
  have e2 : w.heap.size < w2.heap.size := by omega
  clear A0 B0 b2
  cases hB : netB n N m P
  · have H2 := Lib.hid (show conB n N m P = false by unfold conB; rw [hB]; rfl)
    clear hB
    go_wp2_with fail
    go_ret
    exact ⟨ret_b H2.out.symm, B2⟩
  · have H2 := Lib.hid (show conB n N m P = decide (cnt n P m = 1) by unfold conB; rw [hB]; rfl)
    have HB := Lib.hid hB
    have hcl := cnt_le n P m
    have hn24 := (net_sz hB).2.1
    clear hB
    go_wp2_with fail
    refine (leastNodes_any _ _ n N m P lo hi (HV.out.below B2 hhi) (by omega) HB.out).mono ?_
    rintro e w3 ⟨v3, g, rfl, o3, hg, b3⟩
    obtain ⟨c3, rfl⟩ := o3.shape
    have B3 := B2.trans (b3.mono (by omega))
    clear b3 o3
    have hd : ((((cnt n P m : Nat) : Int)) == 1) = conB n N m P := by
      rw [H2.out, Bool.eq_iff_iff]
      simp only [beq_iff_eq, decide_eq_true_eq]
      omega
    have HD := Lib.hid hd
    clear hd
    go_wp2_with fail
    go_ret
    exact ⟨ret_b HD.out, B3⟩
set_option maxRecDepth 100000 in
set_option maxHeartbeats 4000000 in
theorem isConnectedS_any (w : World) (v : Value) (n : Nat) (N : Nat → Nod) (m : Nat) (P : Nat → Pip) (lo hi : Nat) (h : NetAt w v n N m P lo hi) (hhi : hi ≤ w.heap.size) (hN : ∀ i, i < n → (N i).s.size ≤ 9223372036854775807) :
    Calls Try.prog 33 #[v] w (BPost w (conB n N m P)) := by
  obtain ⟨p0, c0, p1, c1, rfl, hn9, hm9⟩ := h.parts
  have HV := Lib.hid h
  have HN := Lib.hid hN
  have A0 := boxed w (.slice p0 n c0) (.slice p1 m c1) 30
  have B0 := below_new w (.cells #[.slice p0 n c0, .slice p1 m c1] 30)
  have hs0 : (w.alloc (.cells #[.slice p0 n c0, .slice p1 m c1] 30)).heap.size = w.heap.size + 1 := by simp
  clear h hN
  go_enter Try.func33, Try.ntmps33
  go_wp2_with fail
  refine (sIsNetwork_any _ _ n N m P lo hi (HV.out.below B0 hhi) (by omega) HN.out).mono ?_
  rintro e w2 ⟨rfl, b2⟩
  have A2 := A0.below b2 (by omega)
  have B2 := B0.trans (b2.mono (by omega))
  have hs2 := b2.size
  have e0 := A2.b0
  have e1 := A2.b1
  have e2 : w.heap.size < w2.heap.size := by omega
  clear A0 B0 b2
  cases hB : netB n N m P
  · have H2 := Lib.hid (show conB n N m P = false by unfold conB; rw [hB]; rfl)
    clear hB
    go_wp2_with fail
    go_ret
    exact ⟨ret_b H2.out.symm, B2⟩
  · have H2 := Lib.hid (show conB n N m P = decide (cnt n P m = 1) by unfold conB; rw [hB]; rfl)
    have HB := Lib.hid hB
    have hcl := cnt_le n P m
    have hn24 := (net_sz hB).2.1
    clear hB
    go_wp2_with fail
    refine (l04Count_any _ _ n N m P lo hi (HV.out.below B2 hhi) (by omega) HN.out HB.out).mono ?_
    rintro e w3 ⟨rfl, b3⟩
    have B3 := B2.trans (b3.mono (by omega))
    clear b3
    have hd : ((((cnt n P m : Nat) : Int)) == 1) = conB n N m P := by
      rw [H2.out, Bool.eq_iff_iff]
      simp only [beq_iff_eq, decide_eq_true_eq]
      omega
    have HD := Lib.hid hd
    clear hd
    go_wp2_with fail
    go_ret
    exact ⟨ret_b HD.out, B3⟩

set_option maxRecDepth 100000 in
set_option maxHeartbeats 4000000 in
theorem isTreeI_any (w : World) (v : Value) (n : Nat) (N : Nat → Nod) (m : Nat) (P : Nat → Pip) (lo hi : Nat) (h : NetAt w v n N m P lo hi) (hhi : hi ≤ w.heap.size) (hN : ∀ i, i < n → (N i).s.size ≤ 9223372036854775807) :
    Calls Try.prog 36 #[v] w (BPost w (treeB n N m P)) := by
  obtain ⟨p0, c0, p1, c1, rfl, hn9, hm9⟩ := h.parts
  have HV := Lib.hid h
  have HN := Lib.hid hN
  have A0 := boxed w (.slice p0 n c0) (.slice p1 m c1) 30
  have B0 := below_new w (.cells #[.slice p0 n c0, .slice p1 m c1] 30)
  have hs0 : (w.alloc (.cells #[.slice p0 n c0, .slice p1 m c1] 30)).heap.size = w.heap.size + 1 := by simp
  clear h hN
  go_enter Try.func36, Try.ntmps36
  go_wp2_with fail
  refine (isConnectedI_any _ _ n N m P lo hi (HV.out.below B0 hhi) (by omega) HN.out).mono ?_
  rintro e w2 ⟨rfl, b2⟩
  have A2 := A0.below b2 (by omega)
  have B2 := B0.trans (b2.mono (by omega))
  have hs2 := b2.size
  have e0 := A2.b0
  have e1 := A2.b1
  have e2 : w.heap.size < w2.heap.size := by omega
  clear A0 B0 b2
  cases hC : conB n N m P
  · have H2 := Lib.hid (show treeB n N m P = false by unfold treeB; rw [hC]; rfl)
    clear hC
    go_wp2_with fail
    go_ret
    exact ⟨ret_b H2.out.symm, B2⟩
  · have H2 := Lib.hid (show treeB n N m P = decide (m + 1 = n) by unfold treeB; rw [hC]; rfl)
    have hn1 : 1 ≤ n ∧ n ≤ 24 := by
      unfold conB at hC
      rw [Bool.and_eq_true] at hC
      have := net_sz hC.1
      exact ⟨this.1, this.2.1⟩
    clear hC
    obtain ⟨hn1, hn2⟩ := hn1
    have hd : ((((m : Nat) : Int)) == ((n : Nat) : Int) - 1) = treeB n N m P := by
      rw [H2.out, Bool.eq_iff_iff]
      simp only [beq_iff_eq, decide_eq_true_eq]
      omega
    have HD := Lib.hid hd
    clear hd
    go_wp2_with fail
    go_ret
    exact ⟨ret_b HD.out, B2⟩

set_option maxRecDepth 100000 in
set_option maxHeartbeats 4000000 in
theorem isTreeS_any (w : World) (v : Value) (n : Nat) (N : Nat → Nod) (m : Nat) (P : Nat → Pip) (lo hi : Nat) (h : NetAt w v n N m P lo hi) (hhi : hi ≤ w.heap.size) (hN : ∀ i, i < n → (N i).s.size ≤ 9223372036854775807) :
    Calls Try.prog 35 #[v] w (BPost w (treeB n N m P)) := by
  obtain ⟨p0, c0, p1, c1, rfl, hn9, hm9⟩ := h.parts
  have HV := Lib.hid h
  have HN := Lib.hid hN
  have A0 := boxed w (.slice p0 n c0) (.slice p1 m c1) 30
  have B0 := below_new w (.cells #[.slice p0 n c0, .slice p1 m c1] 30)
  have hs0 : (w.alloc (.cells #[.slice p0 n c0, .slice p1 m c1] 30)).heap.size = w.heap.size + 1 := by simp
  clear h hN
  go_enter Try.func35, Try.ntmps35
  go_wp2_with fail
  refine (isConnectedS_any _ _ n N m P lo hi (HV.out.below B0 hhi) (by omega) HN.out).mono ?_
  rintro e w2 ⟨rfl, b2⟩
  have A2 := A0.below b2 (by omega)
  have B2 := B0.trans (b2.mono (by omega))
  have hs2 := b2.size
  have e0 := A2.b0
  have e1 := A2.b1
  have e2 : w.heap.size < w2.heap.size := by omega
  clear A0 B0 b2
  cases hC : conB n N m P
  · have H2 := Lib.hid (show treeB n N m P = false by unfold treeB; rw [hC]; rfl)
    clear hC
    go_wp2_with fail
    go_ret
    exact ⟨ret_b H2.out.symm, B2⟩
  · have H2 := Lib.hid (show treeB n N m P = decide (m + 1 = n) by unfold treeB; rw [hC]; rfl)
    have hn1 : 1 ≤ n ∧ n ≤ 24 := by
      unfold conB at hC
      rw [Bool.and_eq_true] at hC
      have := net_sz hC.1
      exact ⟨this.1, this.2.1⟩
    clear hC
    obtain ⟨hn1, hn2⟩ := hn1
    have hd : ((((m : Nat) : Int)) == ((n : Nat) : Int) - 1) = treeB n N m P := by
      rw [H2.out, Bool.eq_iff_iff]
      simp only [beq_iff_eq, decide_eq_true_eq]
      omega
    have HD := Lib.hid hd
    clear hd
    go_wp2_with fail
    go_ret
    exact ⟨ret_b HD.out, B2⟩
theorem agreeIsConnected (n : Nat) (N : Nat → Nod) (m : Nat) (P : Nat → Pip) (hN : ∀ i, i < n → (N i).s.size ≤ 9223372036854775807) (_hn : n ≤ 2000000) (hm : m ≤ 2000000) :
    ∃ rb, (∀ w v, NetAt w v n N m P 0 w.heap.size → Calls Try.prog 34 #[v] w (BPost w rb)) ∧ (∀ w v, NetAt w v n N m P 0 w.heap.size → Calls Try.prog 33 #[v] w (BPost w rb)) :=
  ⟨conB n N m P, fun w v h => isConnectedI_any w v n N m P 0 _ h (Nat.le_refl _) hN, fun w v h => isConnectedS_any w v n N m P 0 _ h (Nat.le_refl _) hN⟩
theorem agreeIsTree (n : Nat) (N : Nat → Nod) (m : Nat) (P : Nat → Pip) (hN : ∀ i, i < n → (N i).s.size ≤ 9223372036854775807) (_hn : n ≤ 2000000) (hm : m ≤ 2000000) :
    ∃ rb, (∀ w v, NetAt w v n N m P 0 w.heap.size → Calls Try.prog 36 #[v] w (BPost w rb)) ∧ (∀ w v, NetAt w v n N m P 0 w.heap.size → Calls Try.prog 35 #[v] w (BPost w rb)) :=
  ⟨treeB n N m P, fun w v h => isTreeI_any w v n N m P 0 _ h (Nat.le_refl _) hN, fun w v h => isTreeS_any w v n N m P 0 _ h (Nat.le_refl _) hN⟩
end Go.Proofs.Ytjjjdahegcjmaaa.mem
