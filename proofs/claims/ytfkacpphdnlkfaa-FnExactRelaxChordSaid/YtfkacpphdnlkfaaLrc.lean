/-
  RelaxChord, both. Conditions: as each states.
-/
import Derived.Test.YtfkacpphdnlkfaaRows
import Derived.Test.YtfkacpphdnlkfaaLbs
import Derived.Test.YtfkacpphdnlkfaaLrs
namespace Go.Proofs.Ytfkacpphdnlkfaa.mem
open Go.RowKit
set_option linter.unusedVariables false

noncomputable def rcD (n : Nat) (m : Nat) (P : Nat → Pip) (d : Nat → Int) (x : Int) : Nat → Int := fun k => d k + bstT m P d (cyD n P m x) * cyD n P m x k
noncomputable def rcN (n : Nat) (N : Nat → Nod) (m : Nat) (P : Nat → Pip) (K : Nat) (d : Nat → Int) (x : Int) : Nat := if ckC n N m P K d x = 0 then m else 0
theorem bstT_congr {m : Nat} {P : Nat → Pip} {x u y : Nat → Int} (h : ∀ k, k < m → x k = u k) : bstT m P x y = bstT m P u y := by
  obtain ⟨e1, e2⟩ := al_congr (y := y) h
  have e3 : bePr P x y m = bePr P u y m := by
    funext t
    unfold bePr egC
    rw [egS_congr (x := fun k => x k + (t + 1) * y k) (y := fun k => u k + (t + 1) * y k) (fun k hk => by rw [h k hk]), egS_congr (x := fun k => x k + t * y k) (y := fun k => u k + t * y k) (fun k hk => by rw [h k hk])]
  unfold bstT
  rw [e1, e2, e3]
theorem cyO_net {n : Nat} {N : Nat → Nod} {P : Nat → Pip} {m : Nat} (hN : netB n N m P = true) {c : Nat} (hc : c < m) (hch : chP n P m c = true) : CyO P (cyc P (fE n P m) (fD n P m) c) m :=
  ⟨fun j hj => (pip_k (net_pip hN hj)).1, fun j _ => cyc_one hN hc hch j, c, hc, by
    rw [(fo_net hN).cyc_chord hc (chP_no hN hch)]
    unfold one1
    rw [if_pos rfl]
    omega⟩
theorem bst_rng {n : Nat} {N : Nat → Nod} {P : Nat → Pip} {m : Nat} (hN : netB n N m P = true) {c : Nat} (hc : c < m) (hch : chP n P m c = true) {d : Nat → Int} (hd : ∀ k, k < m → -30000 ≤ d k ∧ d k ≤ 30000) : -60000 ≤ bstT m P d (cyc P (fE n P m) (fD n P m) c) ∧ bstT m P d (cyc P (fE n P m) (fD n P m) c) ≤ 60000 := by
  have h1 := al_bnd (x := d) (y := cyc P (fE n P m) (fD n P m) c) (k := m) hd (fun j _ => cyc_one hN hc hch j)
  have h2 := bstT_is (P := P) (x := d) (y := cyc P (fE n P m) (fD n P m) c) (m := m) (by omega)
  have := h2.ge
  have := h2.le
  omega
set_option maxRecDepth 100000 in
set_option maxHeartbeats 8000000 in
theorem relaxChordS_any (w : World) (v : Value) (n : Nat) (N : Nat → Nod) (m : Nat) (P : Nat → Pip) (lo hi : Nat) (h : NetAt w v n N m P lo hi) (hhi : hi ≤ w.heap.size) (hN : ∀ i, i < n → (N i).s.size ≤ 9223372036854775807) (va : Value) (K : Nat) (d : Nat → Int) (la ha : Nat) (hv : Sl w va K d la ha) (hha : ha ≤ w.heap.size) (hK9 : K ≤ 9223372036854775807) (x : Int) :
    Calls Try.prog 19 #[v, va, .int .i64 x] w (LIPost w (rcN n N m P K d x) (rcD n m P d x) (ckC n N m P K d x)) := by
  obtain ⟨p0, c0, p1, c1, rfl, hn9, hm9⟩ := h.parts
  have HV := Lib.hid h
  have HN := Lib.hid hN
  obtain ⟨pa, ca, rfl⟩ := hv.sh
  have HSV := Lib.hid hv
  have A0 := boxed w (.slice p0 n c0) (.slice p1 m c1) 33
  have B0 := below_new w (.cells #[.slice p0 n c0, .slice p1 m c1] 33)
  have hs0 : (w.alloc (.cells #[.slice p0 n c0, .slice p1 m c1] 33)).heap.size = w.heap.size + 1 := by simp
  clear h hN hv
  go_enter Try.func19, Try.ntmps19
  have e0' := A0.b0
  have e1' := A0.b1
  go_wp2_with fail
  refine (l10Code_any _ _ n N m P lo hi (HV.out.below B0 hhi) (by omega) HN.out _ K d la ha (HSV.out.below B0 hha) (by omega) hK9 x).mono ?_
  rintro e w1 ⟨rfl, b1⟩
  have A1 := A0.below b1 (by omega)
  have B1 := B0.trans (b1.mono (by omega))
  have hs1 := b1.size
  have e0 := A1.b0
  have e1 := A1.b1
  have e2 : w.heap.size < w1.heap.size := by omega
  clear A0 B0 b1 e0' e1'
  by_cases hc : ckC n N m P K d x = 0
  · obtain ⟨hfc, hch⟩ := ckC_ok hc
    obtain ⟨hB, rfl, hf⟩ := flC_ok hfc
    have hm40 := (net_sz hB).2.2
    have HB := Lib.hid hB
    have HC := Lib.hid hc
    have HF := Lib.hid (show ∀ k, k < K → -30000 ≤ d k ∧ d k ≤ 30000 from fun k hk => flQ_iff.1 (flB_iff.1 hf k hk))
    have H1 := Lib.hid (HSV.out.below B1 hha)
    obtain ⟨c, rfl, hcm, hcp⟩ := chB_yes hch
    have HCP := Lib.hid hcp
    rw [hc]
    clear hc hB hf hfc hch hcp
    have HR := Lib.hid (show rcN n N K P K d (c : Int) = K by unfold rcN; rw [if_pos HC.out])
    have HYD := Lib.hid (show cyD n P K (c : Int) = cyc P (fE n P K) (fD n P K) c by unfold cyD; rw [Int.toNat_natCast])
    have HCO := Lib.hid (cyO_net HB.out hcm HCP.out)
    have hbr := bst_rng HB.out hcm HCP.out HF.out
    have hi1 : hi ≤ w1.heap.size := by omega
    have ha1 : ha ≤ w1.heap.size := by omega
    have HDD := Lib.hid (show ∀ k, rcD n K P d (c : Int) k = d k + bstT K P d (cyc P (fE n P K) (fD n P K) c) * cyc P (fE n P K) (fD n P K) c k from fun k => by unfold rcD; rw [HYD.out])
    have HCY := Lib.hid (fun (W : World) (hW : Below w1.heap.size w1 W) => l05Cycle_any W _ n N K P lo hi (HV.out.below (B1.trans (hW.mono (by omega))) hhi) (Nat.le_trans hi1 hW.size) HN.out HB.out c hcm HCP.out)
    generalize hcy : cyc P (fE n P K) (fD n P K) c = y at *
    generalize hbt : bstT K P d y = t at *
    have HBT := Lib.hid hbt
    have HTY := Lib.hid (show ∀ k, k < K → (-4611686018427387904 ≤ d k + t * y k ∧ d k + t * y k ≤ 4611686018427387904) ∧ (-4611686018427387904 ≤ t * y k ∧ t * y k ≤ 4611686018427387904) from fun k hk => by
      have h1 := mulc hbr (HCO.out.y1 k hk)
      have h2 := HF.out k hk
      omega)
    clear hcy hbt
    go_wp2_with (first
      | (go_at_call 55; refine (HCY.out w1 (Below.refl _ _)).mono ?_; rintro e wX ⟨vy, gy, rfl, oy, hgy, hbX⟩; obtain ⟨cy, rfl⟩ := oy.shape; have zX := hbX.size; have q0 := (A1.below hbX e2).b0; have q1 := (A1.below hbX e2).b1)
      | (go_at_call 57; have hbe := l11Best_any wX _ n N K P lo hi (HV.out.below (B1.trans (hbX.mono (by omega))) hhi) (by omega) HB.out _ d la ha (H1.out.below hbX ha1) (by omega) HF.out _ y gy (gy + 1) oy.sl oy.lt HCO.out; rw [HBT.out] at hbe; refine hbe.mono ?_; clear hbe; rintro e wY ⟨rfl, hbY⟩; have zY := hbY.size)
      | (go_at_call 56; refine (l05Add_any wY _ _ K d y t la ha gy (gy + 1) ((H1.out.below hbX ha1).below hbY (by omega)) (by omega) (oy.sl.below hbY oy.lt) (by have := oy.lt; omega) (by omega) (fun k hk => (HTY.out k hk).1) (fun k hk => (HTY.out k hk).2)).mono ?_; rintro e wZ ⟨vz, gz, rfl, oz, hgz, hbZ⟩; obtain ⟨cz, rfl⟩ := oz.shape))
    go_ret2
    exact li_ok HR.out.symm (by first | rfl | (rw [HC.out]; rfl)) (oz.congr (fun k _ => (HDD.out k).symm)) (by omega) (B1.trans ((hbX.trans ((hbY.trans (hbZ.mono zY)).mono zX)).mono (by omega)))
  · have hb1 : (ckC n N m P K d x != 0) = true := by simpa using hc
    have H3 := Lib.hid (show rcN n N m P K d x = 0 by unfold rcN; rw [if_neg hc])
    clear hc
    go_wp2_with fail
    go_ret2
    exact li_err H3.out rfl rfl B1
theorem wp_allocF {o : Oper} {a : Act} {w : World} {K : Act → World → Prop} {Q : Exit → Act → World → Prop} (ho : o.op = .alloc 68)
    (h : K (a.put o.dst (.pointer (some ⟨w.heap.size, 0, none⟩))) (w.alloc (.cells (arr fun _ => 0) 68))) : o.wp Try.prog a w K Q := by
  unfold Oper.wp execOp
  simp only [ho, Sem.run_bind, run_allocF, Result.andThen_ok]
  exact h
theorem wp_allocN {o : Oper} {a : Act} {w : World} {K : Act → World → Prop} {Q : Exit → Act → World → Prop} (ho : o.op = .alloc 70)
    (h : K (a.put o.dst (.pointer (some ⟨w.heap.size, 0, none⟩))) (w.alloc (.cells (nfL (.slice none 0 0) (.slice none 0 0) fun _ => 0).toArray 70))) : o.wp Try.prog a w K Q := by
  unfold Oper.wp execOp
  simp only [ho, Sem.run_bind, run_allocN, Result.andThen_ok]
  exact h
theorem wp_stF {o : Oper} {a : Act} {w : World} {K : Act → World → Prop} {Q : Exit → Act → World → Prop} (x y : Operand) (ho : o.op = .store 68 x y) (b : Nat) (L : List Value) (hx : a.eval x = .pointer (some ⟨b, 0, none⟩)) (hy : a.eval y = .agg L.toArray) (hL : L.length = 40) (h1 : ∀ v ∈ L, v.oneCell' = true) (ht : w.there b 0 40)
    (h : K (a.put o.dst undef) (w.setCells b 0 L)) : o.wp Try.prog a w K Q :=
  wp_store_mid 68 x y ho b 0 L.toArray hx hy (by rw [List.size_toArray, hL]; exact ht) (by rw [List.size_toArray, hL]; exact flow_info) (all_oneCell_toArray h1) h
theorem wp_stN {o : Oper} {a : Act} {w : World} {K : Act → World → Prop} {Q : Exit → Act → World → Prop} (x y : Operand) (ho : o.op = .store 70 x y) (b : Nat) (s0 s1 : Value) (z : Nat → Int) (hx : a.eval x = .pointer (some ⟨b, 0, none⟩)) (hy : a.eval y = .agg (nfL s0 s1 z).toArray) (h0 : s0.oneCell' = true) (h1 : s1.oneCell' = true) (ht : w.there b 0 42)
    (h : K (a.put o.dst undef) (w.setCells b 0 (nfL s0 s1 z))) : o.wp Try.prog a w K Q :=
  wp_store_mid 70 x y ho b 0 (nfL s0 s1 z).toArray hx hy (by rw [List.size_toArray, nfL_len]; exact ht) (by rw [List.size_toArray, nfL_len]; exact nf_info) (all_oneCell_toArray (nfL_one h0 h1 z)) h
theorem thereN_lt {w : World} {b N : Nat} (hN : 0 < N) (h : w.there b 0 N) : b < w.heap.size := by
  obtain ⟨h1, _⟩ := h 0 hN
  cases hc : w.cell? ⟨b, 0 + 0, none⟩ with
  | none => rw [hc] at h1; exact absurd h1 (by simp)
  | some v => exact World.block_lt_of_cell? w _ hc
theorem run_fieldN (w : World) (s0 s1 : Value) (z : Nat → Int) : (Instr.field 70 (.agg (nfL s0 s1 z).toArray) 1).run Try.prog w = .ok (.agg (arr z)) w := by
  obtain ⟨i0, hi0, hz0, hz1, hz2⟩ := info_parts info_flow
  have e : (List.take 40 (List.drop 2 (nfL s0 s1 z))).toArray = arr z := by
    show (List.take 40 (arrL z)).toArray = arr z
    rw [List.take_of_length_le (by rw [arr_len]; omega)]
    rfl
  simp [Instr.field, run_underlying Try.underlying70, run_underlying Try.underlying68, asAgg, part, isAgg, sizeOf, typeInfo, hi0, hz1, e]
theorem yieldsIf_fieldN {ops : Array Oper} {S : World → Prop} {op : Oper} {a : Act} (hw : Region.wanted op (yielded ops a.tmps) = true) (x : Operand) (ho : op.op = .field 70 x 1) (s0 s1 : Value) (z : Nat → Int) (hx : a.eval x = .agg (nfL s0 s1 z).toArray) : YieldsIf Try.prog ops S op (.agg (arr z)) a :=
  .inl ⟨hw, fun w _ => by
    unfold execOp
    simp only [ho, Sem.run_bind, hx, run_fieldN, Result.andThen_ok]
    rfl⟩
set_option maxRecDepth 100000 in
set_option maxHeartbeats 8000000 in
theorem relaxChordI_any (w : World) (v : Value) (n : Nat) (N : Nat → Nod) (m : Nat) (P : Nat → Pip) (lo hi : Nat) (h : NetAt w v n N m P lo hi) (hhi : hi ≤ w.heap.size) (hN : ∀ i, i < n → (N i).s.size ≤ 9223372036854775807) (va : Value) (K : Nat) (d : Nat → Int) (la ha : Nat) (hv : Sl w va K d la ha) (hha : ha ≤ w.heap.size) (hK9 : K ≤ 9223372036854775807) (x : Int) :
    Calls Try.prog 20 #[v, va, .int .i64 x] w (LIPost w (rcN n N m P K d x) (rcD n m P d x) (ckC n N m P K d x)) := by
  obtain ⟨p0, c0, p1, c1, rfl, hn9, hm9⟩ := h.parts
  have HV := Lib.hid h
  have HN := Lib.hid hN
  have HSV := Lib.hid hv
  obtain ⟨pa, ca, rfl⟩ := hv.sh
  have A0 := boxed w (.slice p0 n c0) (.slice p1 m c1) 33
  have B0 := below_new w (.cells #[.slice p0 n c0, .slice p1 m c1] 33)
  have hs0 : (w.alloc (.cells #[.slice p0 n c0, .slice p1 m c1] 33)).heap.size = w.heap.size + 1 := by simp
  clear h hN hv
  go_enter Try.func20, Try.ntmps20
  have e0' := A0.b0
  have e1' := A0.b1
  go_wp2_with fail
  refine (checkChord_any _ _ n N m P lo hi (HV.out.below B0 hhi) (by omega) HN.out _ K d la ha (HSV.out.below B0 hha) (by omega) hK9 x).mono ?_
  rintro e w1 ⟨rfl, b1⟩
  have A1 := A0.below b1 (by omega)
  have B1 := B0.trans (b1.mono (by omega))
  have hs1 := b1.size
  have e0 := A1.b0
  have e1 := A1.b1
  have e2 : w.heap.size < w1.heap.size := by omega
  clear A0 B0 b1 e0' e1'
  by_cases hc : ckC n N m P K d x = 0
  · obtain ⟨hfc, hch⟩ := ckC_ok hc
    obtain ⟨hB, rfl, hf⟩ := flC_ok hfc
    have hm40 := (net_sz hB).2.2
    have HB := Lib.hid hB
    have HC := Lib.hid hc
    have HF := Lib.hid (show ∀ k, k < K → -30000 ≤ d k ∧ d k ≤ 30000 from fun k hk => flQ_iff.1 (flB_iff.1 hf k hk))
    obtain ⟨c, rfl, hcm, hcp⟩ := chB_yes hch
    have HCP := Lib.hid hcp
    rw [hc]
    clear hc hB hf hfc hch hcp
    have HR := Lib.hid (show rcN n N K P K d (c : Int) = K by unfold rcN; rw [if_pos HC.out])
    have HYD := Lib.hid (show cyD n P K (c : Int) = cyc P (fE n P K) (fD n P K) c by unfold cyD; rw [Int.toNat_natCast])
    have HCO := Lib.hid (cyO_net HB.out hcm HCP.out)
    have hbr := bst_rng HB.out hcm HCP.out HF.out
    have HDD := Lib.hid (show ∀ k, rcD n K P d (c : Int) k = d k + bstT K P d (cyc P (fE n P K) (fD n P K) c) * cyc P (fE n P K) (fD n P K) c k from fun k => by unfold rcD; rw [HYD.out])
    have HBC := Lib.hid (show ∀ y, bstT K P (pad K d) y = bstT K P d y from fun y => bstT_congr (fun k hk => pad_at hk))
    have HXP := Lib.hid (show ∀ k, -30000 ≤ pad K d k ∧ pad K d k ≤ 30000 from fun k => pad_rng HF.out k)
    have HPD := Lib.hid (show ∀ k, k < K → pad K d k = d k from fun k hk => pad_at hk)
    have HY40 := Lib.hid (show ∀ k, k < 40 → -1 ≤ cyc P (fE n P K) (fD n P K) c k ∧ cyc P (fE n P K) (fD n P K) c k ≤ 1 from fun k _ => cyc_one HB.out hcm HCP.out k)
    have HY0 := Lib.hid (show ∀ k, K ≤ k → cyc P (fE n P K) (fD n P K) c k = 0 from fun k hk => cyc_off HB.out hcm hk)
    have hi1 : hi ≤ w1.heap.size := by omega
    have ha1 : ha ≤ w1.heap.size := by omega
    have HCYC := Lib.hid (fun (W : World) (hW : Below w1.heap.size w1 W) => cycleOf_any W _ n N K P lo hi (HV.out.below (B1.trans (hW.mono (by omega))) hhi) (Nat.le_trans hi1 hW.size) HB.out c hcm)
    have HWF := Lib.hid (fun (W : World) (hW : Below w1.heap.size w1 W) => withFlows_any W p0 p1 c0 c1 n K _ K d la ha (HSV.out.below (B1.trans (hW.mono (by omega))) hha) (Nat.le_trans ha1 hW.size) hm40)
    generalize hcy : cyc P (fE n P K) (fD n P K) c = y at *
    generalize hbt : bstT K P d y = t at *
    have HBT := Lib.hid hbt
    generalize hpx : pad K d = x0 at *
    clear hcy hbt hpx
    obtain ⟨Ly, hLy, eLy⟩ : ∃ L : List Value, arr y = List.toArray L ∧ L = arrL y := ⟨_, rfl, rfl⟩
    have nLy : Ly.length = 40 := by rw [eLy, arr_len]
    have oLy : ∀ v ∈ Ly, v.oneCell' = true := by rw [eLy]; exact arr_oneL _
    have HLy := Lib.hid hLy
    rw [hLy] at HCYC
    have eLy2 := eLy
    clear hLy eLy
    have HEy := Lib.hid eLy2
    clear eLy2
    have gA := range2 e0 e1
    have KS : ∀ W : World, Below w1.heap.size w1 W → (Below w1.heap.size w1 W ∧ W.rangeAt w.heap.size 0 [.slice p0 n c0, .slice p1 K c1]) := fun W hW => ⟨hW, range_blockN gA (hW.block _ e2)⟩
    have nN : (Try.prog.info? 33).map (·.size) = some 2 := by kernel_rfl
    have UN := Try.underlying33
    go_wp2_with fail
    go_cut [9, 10] from 18 to 23 (fun s9 s10 wx => ∃ b9 b10 : Nat, s9 = .pointer (some ⟨b9, 0, none⟩) ∧ s10 = .pointer (some ⟨b10, 0, none⟩) ∧ wx.rangeAt b9 0 (nfL (.slice p0 n c0) (.slice p1 K c1) x0) ∧ wx.rangeAt b10 0 Ly ∧ w1.heap.size ≤ b9 ∧ w1.heap.size ≤ b10 ∧ Below w1.heap.size w1 wx)
    case first =>
      clear HCO HDD HBC HXP HPD HY40 HY0 HBT HR HYD
      refine wp_region_noPanic ?_
      refine wp_region_held_drew (S := fun w' : World => Below w1.heap.size w1 w' ∧ w'.rangeAt w.heap.size 0 [.slice p0 n c0, .slice p1 K c1]) (by kernel_rfl) (KS _ (below_drw (Below.refl _ _))) (fun sH => ?_)
      refine wpAnyH_take (i := 0) (v := .agg #[.slice p0 n c0, .slice p1 K c1]) nthe0 (by kernel_rfl) (by kernel_rfl) (by kernel_rfl) (fun _ _ _ h => h) (yieldsIf_load_mid (by rfl) _ _ rfl w.heap.size 0 rfl [.slice p0 n c0, .slice p1 K c1] _ (fun _ h => h.2) UN rfl (by exact nN)) sH ?_
      try simp only [Act.put, List.setIfInBounds_toArray, List.set_cons_zero, List.set_cons_succ]
      refine wpAnyH_take (i := 1) (v := ?_) nthe1 (by kernel_rfl) (by kernel_rfl) (by kernel_rfl) (fun _ _ _ h => h) (Or.inl ⟨by rfl, ?_⟩) sH ?_
      rotate_left
      · intro wS hSw; (try dsimp only at hSw); go_simp; try with_reducible rfl
      try simp only [Act.put, List.setIfInBounds_toArray, List.set_cons_zero, List.set_cons_succ]
      refine wpAnyH_take (i := 3) (v := .agg #[.slice p0 n c0, .slice p1 K c1]) nthe3 (by kernel_rfl) (by kernel_rfl) (by kernel_rfl) (fun _ _ _ h => h) (yieldsIf_load_mid (by rfl) _ _ rfl w.heap.size 0 rfl [.slice p0 n c0, .slice p1 K c1] _ (fun _ h => h.2) UN rfl (by exact nN)) sH ?_
      try simp only [Act.put, List.setIfInBounds_toArray, List.set_cons_zero, List.set_cons_succ]
      refine wpAnyH_take (i := 4) (v := ?_) nthe4 (by kernel_rfl) (by kernel_rfl) (by kernel_rfl) (fun _ _ _ h => h) (Or.inl ⟨by rfl, ?_⟩) sH ?_
      rotate_left
      · intro wS hSw; (try dsimp only at hSw); go_simp; try with_reducible rfl
      try simp only [Act.put, List.setIfInBounds_toArray, List.set_cons_zero, List.set_cons_succ]
      refine wpAnyH_ready (rs := [2, 6, 7]) (by kernel_rfl) (by simp) (AllReadyH.cons nthe2 (fun K9 hK => ?_) (AllReadyH.cons nthe6 (fun K9 hK => ?_) (AllReadyH.cons nthe7 (fun K9 hK => ?_) AllReadyH.nil)))
      clear sH
      · go_simp
        refine (HWF.out (w1.drew) (below_drw (Below.refl w1.heap.size w1))).mono ?_
        rintro e wv1 ⟨rfl, hb1⟩
        have B1 : Below w1.heap.size w1 wv1 := Below.trans (below_drw (Below.refl w1.heap.size w1)) (hb1.mono (Below.size (below_drw (Below.refl w1.heap.size w1))))
        refine hK.out _ _ (KS _ B1) (fun sH => ?_)
        clear hK
        try simp only [Act.put, List.setIfInBounds_toArray, List.set_cons_zero, List.set_cons_succ]
        refine wpAnyH_ready (rs := [5, 6, 7]) (by kernel_rfl) (by simp) (AllReadyH.cons nthe5 (fun K9 hK => ?_) (AllReadyH.cons nthe6 (fun K9 hK => ?_) (AllReadyH.cons nthe7 (fun K9 hK => ?_) AllReadyH.nil)))
        clear sH
        · go_simp
          refine (HCYC.out (wv1) B1).mono ?_
          rintro e wv2 ⟨rfl, hb2⟩
          have B2 : Below w1.heap.size w1 wv2 := Below.trans B1 (hb2.mono (Below.size B1))
          refine hK.out _ _ (KS _ B2) (fun sH => ?_)
          clear hK
          try simp only [Act.put, List.setIfInBounds_toArray, List.set_cons_zero, List.set_cons_succ]
          refine wpAnyH_ready (rs := [6, 7]) (by kernel_rfl) (by simp) (AllReadyH.cons nthe6 (fun K9 hK => ?_) (AllReadyH.cons nthe7 (fun K9 hK => ?_) AllReadyH.nil))
          clear sH
          · rw [if_pos (by rfl)]
            refine wp_allocN rfl ?_
            have B3 : Below w1.heap.size w1 ((wv2).alloc (.cells (nfL (.slice none 0 0) (.slice none 0 0) fun _ => 0).toArray 70)) := Below.trans B2 ((below_new (wv2) (.cells (nfL (.slice none 0 0) (.slice none 0 0) fun _ => 0).toArray 70)).mono (Below.size B2))
            have x3 := Ob.newN (wv2) (.slice none 0 0) (.slice none 0 0) (fun _ => 0) 70
            have l3 : w1.heap.size ≤ (wv2).heap.size := Below.size B2
            obtain ⟨wv3, hw3⟩ : ∃ wv, (wv2).alloc (.cells (nfL (.slice none 0 0) (.slice none 0 0) fun _ => 0).toArray 70) = wv := ⟨_, rfl⟩
            obtain ⟨bv3, hv3⟩ : ∃ bv, (wv2).heap.size = bv := ⟨_, rfl⟩
            rw [hw3] at B3 x3 ⊢
            rw [hv3] at x3 l3 ⊢
            clear hw3 hv3
            refine hK.out _ _ (KS _ B3) (fun sH => ?_)
            clear hK
            try simp only [Act.put, List.setIfInBounds_toArray, List.set_cons_zero, List.set_cons_succ]
            refine wpAnyH_ready (rs := [7]) (by kernel_rfl) (by simp) (AllReadyH.cons nthe7 (fun K9 hK => ?_) AllReadyH.nil)
            clear sH
            rw [if_pos (by rfl)]
            refine wp_allocF rfl ?_
            have B4 : Below w1.heap.size w1 ((wv3).alloc (.cells (arr fun _ => 0) 68)) := Below.trans B3 ((below_new (wv3) (.cells (arr fun _ => 0) 68)).mono (Below.size B3))
            have x4 := Ob.newA (wv3) (fun _ => 0) 68
            have l4 : w1.heap.size ≤ (wv3).heap.size := Below.size B3
            have m4 := (x3).below (below_new (wv3) (.cells (arr fun _ => 0) 68)) (x3).lt
            have z4 : bv3 < (wv3).heap.size := (x3).lt
            obtain ⟨wv4, hw4⟩ : ∃ wv, (wv3).alloc (.cells (arr fun _ => 0) 68) = wv := ⟨_, rfl⟩
            obtain ⟨bv4, hv4⟩ : ∃ bv, (wv3).heap.size = bv := ⟨_, rfl⟩
            rw [hw4] at B4 x4 m4 ⊢
            rw [hv4] at x4 l4 ⊢
            rw [hv4] at z4
            clear hw4 hv4
            refine hK.out _ _ (KS _ B4) (fun sH => ?_)
            clear hK
            try simp only [Act.put, List.setIfInBounds_toArray, List.set_cons_zero, List.set_cons_succ]
            refine wpAnyH_ready (rs := [8]) (by kernel_rfl) (by simp) (AllReadyH.cons nthe8 (fun K9 hK => ?_) AllReadyH.nil)
            clear sH
            rw [if_pos (by rfl)]
            have ne1 : bv3 ≠ bv4 := by omega
            have v0 := (m4).there
            have oy := (Only.refl bv3 wv4).setCs (nfL (.slice p0 n c0) (.slice p1 K c1) x0) 0
            have v1 := (m4).nput (.slice p0 n c0) (.slice p1 K c1) x0
            have v2 := (x4).only oy ne1.symm
            have v3 := Below.trans B4 (oy.below (B := w1.heap.size) (by omega))
            refine wp_stN _ _ rfl bv3 (.slice p0 n c0) (.slice p1 K c1) x0 rfl rfl rfl rfl v0 ?_
            obtain ⟨wp, hwp⟩ : ∃ wp, World.setCells wv4 bv3 0 (nfL (.slice p0 n c0) (.slice p1 K c1) x0) = wp := ⟨_, rfl⟩
            rw [hwp] at v1 v2 v3 ⊢
            clear hwp oy v0
            refine hK.out _ _ (KS _ v3) (fun sH => ?_)
            clear hK
            try simp only [Act.put]
            refine wpAnyH_ready (rs := [9]) (by kernel_rfl) (by simp) (AllReadyH.cons nthe9 (fun K9 hK => ?_) AllReadyH.nil)
            clear sH
            rw [if_pos (by rfl)]
            have v0 := v2.there
            have oy := (Only.refl bv4 wp).setCs Ly 0
            have v4 := v1.only oy ne1
            have v5 : World.rangeAt (wp.setCells bv4 0 Ly) bv4 0 Ly := World.rangeAt_setCells_same _ _ _ _ (by rw [nLy]; exact v0)
            have v6 := v3.trans (oy.below (B := w1.heap.size) (by omega))
            refine wp_stF _ _ rfl bv4 Ly rfl rfl nLy oLy v0 ?_
            obtain ⟨wq, hwq⟩ : ∃ wq, World.setCells wp bv4 0 Ly = wq := ⟨_, rfl⟩
            rw [hwq] at v4 v5 v6 ⊢
            clear hwq oy v0
            refine hK.out _ _ (KS _ v6) (fun sH => ?_)
            clear hK
            try simp only [Act.put]
            refine wpAnyH_done (by kernel_rfl) ?_ _
            refine NoPanic.normal ?_
            go_wp2_with fail
            go_meet
            exact ⟨_, _, rfl, rfl, v4.nall, v5, by omega, by omega, v6⟩
          · rw [if_pos (by rfl)]
            refine wp_allocF rfl ?_
            have B5 : Below w1.heap.size w1 ((wv2).alloc (.cells (arr fun _ => 0) 68)) := Below.trans B2 ((below_new (wv2) (.cells (arr fun _ => 0) 68)).mono (Below.size B2))
            have x5 := Ob.newA (wv2) (fun _ => 0) 68
            have l5 : w1.heap.size ≤ (wv2).heap.size := Below.size B2
            obtain ⟨wv5, hw5⟩ : ∃ wv, (wv2).alloc (.cells (arr fun _ => 0) 68) = wv := ⟨_, rfl⟩
            obtain ⟨bv5, hv5⟩ : ∃ bv, (wv2).heap.size = bv := ⟨_, rfl⟩
            rw [hw5] at B5 x5 ⊢
            rw [hv5] at x5 l5 ⊢
            clear hw5 hv5
            refine hK.out _ _ (KS _ B5) (fun sH => ?_)
            clear hK
            try simp only [Act.put, List.setIfInBounds_toArray, List.set_cons_succ]
            refine wpAnyH_ready (rs := [6]) (by kernel_rfl) (by simp) (AllReadyH.cons nthe6 (fun K9 hK => ?_) AllReadyH.nil)
            clear sH
            rw [if_pos (by rfl)]
            refine wp_allocN rfl ?_
            have B6 : Below w1.heap.size w1 ((wv5).alloc (.cells (nfL (.slice none 0 0) (.slice none 0 0) fun _ => 0).toArray 70)) := Below.trans B5 ((below_new (wv5) (.cells (nfL (.slice none 0 0) (.slice none 0 0) fun _ => 0).toArray 70)).mono (Below.size B5))
            have x6 := Ob.newN (wv5) (.slice none 0 0) (.slice none 0 0) (fun _ => 0) 70
            have l6 : w1.heap.size ≤ (wv5).heap.size := Below.size B5
            have k6 := (x5).below (below_new (wv5) (.cells (nfL (.slice none 0 0) (.slice none 0 0) fun _ => 0).toArray 70)) (x5).lt
            have z6 : bv5 < (wv5).heap.size := (x5).lt
            obtain ⟨wv6, hw6⟩ : ∃ wv, (wv5).alloc (.cells (nfL (.slice none 0 0) (.slice none 0 0) fun _ => 0).toArray 70) = wv := ⟨_, rfl⟩
            obtain ⟨bv6, hv6⟩ : ∃ bv, (wv5).heap.size = bv := ⟨_, rfl⟩
            rw [hw6] at B6 x6 k6 ⊢
            rw [hv6] at x6 l6 ⊢
            rw [hv6] at z6
            clear hw6 hv6
            refine hK.out _ _ (KS _ B6) (fun sH => ?_)
            clear hK
            try simp only [Act.put, List.set_cons_zero]
            refine wpAnyH_ready (rs := [8]) (by kernel_rfl) (by simp) (AllReadyH.cons nthe8 (fun K9 hK => ?_) AllReadyH.nil)
            clear sH
            rw [if_pos (by rfl)]
            have ne1 : bv6 ≠ bv5 := by omega
            have v0 := (x6).there
            have oy := (Only.refl bv6 wv6).setCs (nfL (.slice p0 n c0) (.slice p1 K c1) x0) 0
            have v1 := (x6).nput (.slice p0 n c0) (.slice p1 K c1) x0
            have v2 := (k6).only oy ne1.symm
            have v3 := Below.trans B6 (oy.below (B := w1.heap.size) (by omega))
            refine wp_stN _ _ rfl bv6 (.slice p0 n c0) (.slice p1 K c1) x0 rfl rfl rfl rfl v0 ?_
            obtain ⟨wp, hwp⟩ : ∃ wp, World.setCells wv6 bv6 0 (nfL (.slice p0 n c0) (.slice p1 K c1) x0) = wp := ⟨_, rfl⟩
            rw [hwp] at v1 v2 v3 ⊢
            clear hwp oy v0
            refine hK.out _ _ (KS _ v3) (fun sH => ?_)
            clear hK
            try simp only [Act.put]
            refine wpAnyH_ready (rs := [9]) (by kernel_rfl) (by simp) (AllReadyH.cons nthe9 (fun K9 hK => ?_) AllReadyH.nil)
            clear sH
            rw [if_pos (by rfl)]
            have v0 := v2.there
            have oy := (Only.refl bv5 wp).setCs Ly 0
            have v4 := v1.only oy ne1
            have v5 : World.rangeAt (wp.setCells bv5 0 Ly) bv5 0 Ly := World.rangeAt_setCells_same _ _ _ _ (by rw [nLy]; exact v0)
            have v6 := v3.trans (oy.below (B := w1.heap.size) (by omega))
            refine wp_stF _ _ rfl bv5 Ly rfl rfl nLy oLy v0 ?_
            obtain ⟨wq, hwq⟩ : ∃ wq, World.setCells wp bv5 0 Ly = wq := ⟨_, rfl⟩
            rw [hwq] at v4 v5 v6 ⊢
            clear hwq oy v0
            refine hK.out _ _ (KS _ v6) (fun sH => ?_)
            clear hK
            try simp only [Act.put, List.setIfInBounds_toArray]
            refine wpAnyH_done (by kernel_rfl) ?_ _
            refine NoPanic.normal ?_
            go_wp2_with fail
            go_meet
            exact ⟨_, _, rfl, rfl, v4.nall, v5, by omega, by omega, v6⟩
        · rw [if_pos (by rfl)]
          refine wp_allocN rfl ?_
          have B7 : Below w1.heap.size w1 ((wv1).alloc (.cells (nfL (.slice none 0 0) (.slice none 0 0) fun _ => 0).toArray 70)) := Below.trans B1 ((below_new (wv1) (.cells (nfL (.slice none 0 0) (.slice none 0 0) fun _ => 0).toArray 70)).mono (Below.size B1))
          have x7 := Ob.newN (wv1) (.slice none 0 0) (.slice none 0 0) (fun _ => 0) 70
          have l7 : w1.heap.size ≤ (wv1).heap.size := Below.size B1
          obtain ⟨wv7, hw7⟩ : ∃ wv, (wv1).alloc (.cells (nfL (.slice none 0 0) (.slice none 0 0) fun _ => 0).toArray 70) = wv := ⟨_, rfl⟩
          obtain ⟨bv7, hv7⟩ : ∃ bv, (wv1).heap.size = bv := ⟨_, rfl⟩
          rw [hw7] at B7 x7 ⊢
          rw [hv7] at x7 l7 ⊢
          clear hw7 hv7
          refine hK.out _ _ (KS _ B7) (fun sH => ?_)
          clear hK
          try simp only [Act.put, List.setIfInBounds_toArray, List.set_cons_succ]
          refine wpAnyH_ready (rs := [5, 7]) (by kernel_rfl) (by simp) (AllReadyH.cons nthe5 (fun K9 hK => ?_) (AllReadyH.cons nthe7 (fun K9 hK => ?_) AllReadyH.nil))
          clear sH
          · go_simp
            refine (HCYC.out (wv7) B7).mono ?_
            rintro e wv8 ⟨rfl, hb8⟩
            have B8 : Below w1.heap.size w1 wv8 := Below.trans B7 (hb8.mono (Below.size B7))
            have m8 := (x7).below hb8 (x7).lt
            refine hK.out _ _ (KS _ B8) (fun sH => ?_)
            clear hK
            try simp only [Act.put, List.setIfInBounds_toArray, List.set_cons_succ]
            refine wpAnyH_ready (rs := [7]) (by kernel_rfl) (by simp) (AllReadyH.cons nthe7 (fun K9 hK => ?_) AllReadyH.nil)
            clear sH
            rw [if_pos (by rfl)]
            refine wp_allocF rfl ?_
            have B9 : Below w1.heap.size w1 ((wv8).alloc (.cells (arr fun _ => 0) 68)) := Below.trans B8 ((below_new (wv8) (.cells (arr fun _ => 0) 68)).mono (Below.size B8))
            have x9 := Ob.newA (wv8) (fun _ => 0) 68
            have l9 : w1.heap.size ≤ (wv8).heap.size := Below.size B8
            have m9 := (m8).below (below_new (wv8) (.cells (arr fun _ => 0) 68)) (m8).lt
            have z9 : bv7 < (wv8).heap.size := (m8).lt
            obtain ⟨wv9, hw9⟩ : ∃ wv, (wv8).alloc (.cells (arr fun _ => 0) 68) = wv := ⟨_, rfl⟩
            obtain ⟨bv9, hv9⟩ : ∃ bv, (wv8).heap.size = bv := ⟨_, rfl⟩
            rw [hw9] at B9 x9 m9 ⊢
            rw [hv9] at x9 l9 ⊢
            rw [hv9] at z9
            clear hw9 hv9
            refine hK.out _ _ (KS _ B9) (fun sH => ?_)
            clear hK
            try simp only [Act.put]
            refine wpAnyH_ready (rs := [8]) (by kernel_rfl) (by simp) (AllReadyH.cons nthe8 (fun K9 hK => ?_) AllReadyH.nil)
            clear sH
            rw [if_pos (by rfl)]
            have ne1 : bv7 ≠ bv9 := by omega
            have v0 := (m9).there
            have oy := (Only.refl bv7 wv9).setCs (nfL (.slice p0 n c0) (.slice p1 K c1) x0) 0
            have v1 := (m9).nput (.slice p0 n c0) (.slice p1 K c1) x0
            have v2 := (x9).only oy ne1.symm
            have v3 := Below.trans B9 (oy.below (B := w1.heap.size) (by omega))
            refine wp_stN _ _ rfl bv7 (.slice p0 n c0) (.slice p1 K c1) x0 rfl rfl rfl rfl v0 ?_
            obtain ⟨wp, hwp⟩ : ∃ wp, World.setCells wv9 bv7 0 (nfL (.slice p0 n c0) (.slice p1 K c1) x0) = wp := ⟨_, rfl⟩
            rw [hwp] at v1 v2 v3 ⊢
            clear hwp oy v0
            refine hK.out _ _ (KS _ v3) (fun sH => ?_)
            clear hK
            try simp only [Act.put, List.setIfInBounds_toArray]
            refine wpAnyH_ready (rs := [9]) (by kernel_rfl) (by simp) (AllReadyH.cons nthe9 (fun K9 hK => ?_) AllReadyH.nil)
            clear sH
            rw [if_pos (by rfl)]
            have v0 := v2.there
            have oy := (Only.refl bv9 wp).setCs Ly 0
            have v4 := v1.only oy ne1
            have v5 : World.rangeAt (wp.setCells bv9 0 Ly) bv9 0 Ly := World.rangeAt_setCells_same _ _ _ _ (by rw [nLy]; exact v0)
            have v6 := v3.trans (oy.below (B := w1.heap.size) (by omega))
            refine wp_stF _ _ rfl bv9 Ly rfl rfl nLy oLy v0 ?_
            obtain ⟨wq, hwq⟩ : ∃ wq, World.setCells wp bv9 0 Ly = wq := ⟨_, rfl⟩
            rw [hwq] at v4 v5 v6 ⊢
            clear hwq oy v0
            refine hK.out _ _ (KS _ v6) (fun sH => ?_)
            clear hK
            try simp only [Act.put]
            refine wpAnyH_done (by kernel_rfl) ?_ _
            refine NoPanic.normal ?_
            go_wp2_with fail
            go_meet
            exact ⟨_, _, rfl, rfl, v4.nall, v5, by omega, by omega, v6⟩
          · rw [if_pos (by rfl)]
            refine wp_allocF rfl ?_
            have B10 : Below w1.heap.size w1 ((wv7).alloc (.cells (arr fun _ => 0) 68)) := Below.trans B7 ((below_new (wv7) (.cells (arr fun _ => 0) 68)).mono (Below.size B7))
            have x10 := Ob.newA (wv7) (fun _ => 0) 68
            have l10 : w1.heap.size ≤ (wv7).heap.size := Below.size B7
            have m10 := (x7).below (below_new (wv7) (.cells (arr fun _ => 0) 68)) (x7).lt
            have z10 : bv7 < (wv7).heap.size := (x7).lt
            obtain ⟨wv10, hw10⟩ : ∃ wv, (wv7).alloc (.cells (arr fun _ => 0) 68) = wv := ⟨_, rfl⟩
            obtain ⟨bv10, hv10⟩ : ∃ bv, (wv7).heap.size = bv := ⟨_, rfl⟩
            rw [hw10] at B10 x10 m10 ⊢
            rw [hv10] at x10 l10 ⊢
            rw [hv10] at z10
            clear hw10 hv10
            refine hK.out _ _ (KS _ B10) (fun sH => ?_)
            clear hK
            try simp only [Act.put, List.setIfInBounds_toArray, List.set_cons_succ]
            refine wpAnyH_ready (rs := [5]) (by kernel_rfl) (by simp) (AllReadyH.cons nthe5 (fun K9 hK => ?_) AllReadyH.nil)
            clear sH
            go_simp
            refine (HCYC.out (wv10) B10).mono ?_
            rintro e wv11 ⟨rfl, hb11⟩
            have B11 : Below w1.heap.size w1 wv11 := Below.trans B10 (hb11.mono (Below.size B10))
            have m11 := (m10).below hb11 (m10).lt
            have k11 := (x10).below hb11 (x10).lt
            refine hK.out _ _ (KS _ B11) (fun sH => ?_)
            clear hK
            try simp only [Act.put, List.set_cons_succ]
            refine wpAnyH_ready (rs := [8]) (by kernel_rfl) (by simp) (AllReadyH.cons nthe8 (fun K9 hK => ?_) AllReadyH.nil)
            clear sH
            rw [if_pos (by rfl)]
            have ne1 : bv7 ≠ bv10 := by omega
            have v0 := (m11).there
            have oy := (Only.refl bv7 wv11).setCs (nfL (.slice p0 n c0) (.slice p1 K c1) x0) 0
            have v1 := (m11).nput (.slice p0 n c0) (.slice p1 K c1) x0
            have v2 := (k11).only oy ne1.symm
            have v3 := Below.trans B11 (oy.below (B := w1.heap.size) (by omega))
            refine wp_stN _ _ rfl bv7 (.slice p0 n c0) (.slice p1 K c1) x0 rfl rfl rfl rfl v0 ?_
            obtain ⟨wp, hwp⟩ : ∃ wp, World.setCells wv11 bv7 0 (nfL (.slice p0 n c0) (.slice p1 K c1) x0) = wp := ⟨_, rfl⟩
            rw [hwp] at v1 v2 v3 ⊢
            clear hwp oy v0
            refine hK.out _ _ (KS _ v3) (fun sH => ?_)
            clear hK
            try simp only [Act.put]
            refine wpAnyH_ready (rs := [9]) (by kernel_rfl) (by simp) (AllReadyH.cons nthe9 (fun K9 hK => ?_) AllReadyH.nil)
            clear sH
            rw [if_pos (by rfl)]
            have v0 := v2.there
            have oy := (Only.refl bv10 wp).setCs Ly 0
            have v4 := v1.only oy ne1
            have v5 : World.rangeAt (wp.setCells bv10 0 Ly) bv10 0 Ly := World.rangeAt_setCells_same _ _ _ _ (by rw [nLy]; exact v0)
            have v6 := v3.trans (oy.below (B := w1.heap.size) (by omega))
            refine wp_stF _ _ rfl bv10 Ly rfl rfl nLy oLy v0 ?_
            obtain ⟨wq, hwq⟩ : ∃ wq, World.setCells wp bv10 0 Ly = wq := ⟨_, rfl⟩
            rw [hwq] at v4 v5 v6 ⊢
            clear hwq oy v0
            refine hK.out _ _ (KS _ v6) (fun sH => ?_)
            clear hK
            try simp only [Act.put]
            refine wpAnyH_done (by kernel_rfl) ?_ _
            refine NoPanic.normal ?_
            go_wp2_with fail
            go_meet
            exact ⟨_, _, rfl, rfl, v4.nall, v5, by omega, by omega, v6⟩
        · rw [if_pos (by rfl)]
          refine wp_allocF rfl ?_
          have B12 : Below w1.heap.size w1 ((wv1).alloc (.cells (arr fun _ => 0) 68)) := Below.trans B1 ((below_new (wv1) (.cells (arr fun _ => 0) 68)).mono (Below.size B1))
          have x12 := Ob.newA (wv1) (fun _ => 0) 68
          have l12 : w1.heap.size ≤ (wv1).heap.size := Below.size B1
          obtain ⟨wv12, hw12⟩ : ∃ wv, (wv1).alloc (.cells (arr fun _ => 0) 68) = wv := ⟨_, rfl⟩
          obtain ⟨bv12, hv12⟩ : ∃ bv, (wv1).heap.size = bv := ⟨_, rfl⟩
          rw [hw12] at B12 x12 ⊢
          rw [hv12] at x12 l12 ⊢
          clear hw12 hv12
          refine hK.out _ _ (KS _ B12) (fun sH => ?_)
          clear hK
          try simp only [Act.put, List.setIfInBounds_toArray, List.set_cons_succ]
          refine wpAnyH_ready (rs := [5, 6]) (by kernel_rfl) (by simp) (AllReadyH.cons nthe5 (fun K9 hK => ?_) (AllReadyH.cons nthe6 (fun K9 hK => ?_) AllReadyH.nil))
          clear sH
          · go_simp
            refine (HCYC.out (wv12) B12).mono ?_
            rintro e wv13 ⟨rfl, hb13⟩
            have B13 : Below w1.heap.size w1 wv13 := Below.trans B12 (hb13.mono (Below.size B12))
            have k13 := (x12).below hb13 (x12).lt
            refine hK.out _ _ (KS _ B13) (fun sH => ?_)
            clear hK
            try simp only [Act.put, List.set_cons_succ]
            refine wpAnyH_ready (rs := [6]) (by kernel_rfl) (by simp) (AllReadyH.cons nthe6 (fun K9 hK => ?_) AllReadyH.nil)
            clear sH
            rw [if_pos (by rfl)]
            refine wp_allocN rfl ?_
            have B14 : Below w1.heap.size w1 ((wv13).alloc (.cells (nfL (.slice none 0 0) (.slice none 0 0) fun _ => 0).toArray 70)) := Below.trans B13 ((below_new (wv13) (.cells (nfL (.slice none 0 0) (.slice none 0 0) fun _ => 0).toArray 70)).mono (Below.size B13))
            have x14 := Ob.newN (wv13) (.slice none 0 0) (.slice none 0 0) (fun _ => 0) 70
            have l14 : w1.heap.size ≤ (wv13).heap.size := Below.size B13
            have k14 := (k13).below (below_new (wv13) (.cells (nfL (.slice none 0 0) (.slice none 0 0) fun _ => 0).toArray 70)) (k13).lt
            have z14 : bv12 < (wv13).heap.size := (k13).lt
            obtain ⟨wv14, hw14⟩ : ∃ wv, (wv13).alloc (.cells (nfL (.slice none 0 0) (.slice none 0 0) fun _ => 0).toArray 70) = wv := ⟨_, rfl⟩
            obtain ⟨bv14, hv14⟩ : ∃ bv, (wv13).heap.size = bv := ⟨_, rfl⟩
            rw [hw14] at B14 x14 k14 ⊢
            rw [hv14] at x14 l14 ⊢
            rw [hv14] at z14
            clear hw14 hv14
            refine hK.out _ _ (KS _ B14) (fun sH => ?_)
            clear hK
            try simp only [Act.put]
            refine wpAnyH_ready (rs := [8]) (by kernel_rfl) (by simp) (AllReadyH.cons nthe8 (fun K9 hK => ?_) AllReadyH.nil)
            clear sH
            rw [if_pos (by rfl)]
            have ne1 : bv14 ≠ bv12 := by omega
            have v0 := (x14).there
            have oy := (Only.refl bv14 wv14).setCs (nfL (.slice p0 n c0) (.slice p1 K c1) x0) 0
            have v1 := (x14).nput (.slice p0 n c0) (.slice p1 K c1) x0
            have v2 := (k14).only oy ne1.symm
            have v3 := Below.trans B14 (oy.below (B := w1.heap.size) (by omega))
            refine wp_stN _ _ rfl bv14 (.slice p0 n c0) (.slice p1 K c1) x0 rfl rfl rfl rfl v0 ?_
            obtain ⟨wp, hwp⟩ : ∃ wp, World.setCells wv14 bv14 0 (nfL (.slice p0 n c0) (.slice p1 K c1) x0) = wp := ⟨_, rfl⟩
            rw [hwp] at v1 v2 v3 ⊢
            clear hwp oy v0
            refine hK.out _ _ (KS _ v3) (fun sH => ?_)
            clear hK
            try simp only [Act.put, List.setIfInBounds_toArray]
            refine wpAnyH_ready (rs := [9]) (by kernel_rfl) (by simp) (AllReadyH.cons nthe9 (fun K9 hK => ?_) AllReadyH.nil)
            clear sH
            rw [if_pos (by rfl)]
            have v0 := v2.there
            have oy := (Only.refl bv12 wp).setCs Ly 0
            have v4 := v1.only oy ne1
            have v5 : World.rangeAt (wp.setCells bv12 0 Ly) bv12 0 Ly := World.rangeAt_setCells_same _ _ _ _ (by rw [nLy]; exact v0)
            have v6 := v3.trans (oy.below (B := w1.heap.size) (by omega))
            refine wp_stF _ _ rfl bv12 Ly rfl rfl nLy oLy v0 ?_
            obtain ⟨wq, hwq⟩ : ∃ wq, World.setCells wp bv12 0 Ly = wq := ⟨_, rfl⟩
            rw [hwq] at v4 v5 v6 ⊢
            clear hwq oy v0
            refine hK.out _ _ (KS _ v6) (fun sH => ?_)
            clear hK
            try simp only [Act.put]
            refine wpAnyH_done (by kernel_rfl) ?_ _
            refine NoPanic.normal ?_
            go_wp2_with fail
            go_meet
            exact ⟨_, _, rfl, rfl, v4.nall, v5, by omega, by omega, v6⟩
          · rw [if_pos (by rfl)]
            refine wp_allocN rfl ?_
            have B15 : Below w1.heap.size w1 ((wv12).alloc (.cells (nfL (.slice none 0 0) (.slice none 0 0) fun _ => 0).toArray 70)) := Below.trans B12 ((below_new (wv12) (.cells (nfL (.slice none 0 0) (.slice none 0 0) fun _ => 0).toArray 70)).mono (Below.size B12))
            have x15 := Ob.newN (wv12) (.slice none 0 0) (.slice none 0 0) (fun _ => 0) 70
            have l15 : w1.heap.size ≤ (wv12).heap.size := Below.size B12
            have k15 := (x12).below (below_new (wv12) (.cells (nfL (.slice none 0 0) (.slice none 0 0) fun _ => 0).toArray 70)) (x12).lt
            have z15 : bv12 < (wv12).heap.size := (x12).lt
            obtain ⟨wv15, hw15⟩ : ∃ wv, (wv12).alloc (.cells (nfL (.slice none 0 0) (.slice none 0 0) fun _ => 0).toArray 70) = wv := ⟨_, rfl⟩
            obtain ⟨bv15, hv15⟩ : ∃ bv, (wv12).heap.size = bv := ⟨_, rfl⟩
            rw [hw15] at B15 x15 k15 ⊢
            rw [hv15] at x15 l15 ⊢
            rw [hv15] at z15
            clear hw15 hv15
            refine hK.out _ _ (KS _ B15) (fun sH => ?_)
            clear hK
            try simp only [Act.put, List.setIfInBounds_toArray, List.set_cons_succ]
            refine wpAnyH_ready (rs := [5]) (by kernel_rfl) (by simp) (AllReadyH.cons nthe5 (fun K9 hK => ?_) AllReadyH.nil)
            clear sH
            go_simp
            refine (HCYC.out (wv15) B15).mono ?_
            rintro e wv16 ⟨rfl, hb16⟩
            have B16 : Below w1.heap.size w1 wv16 := Below.trans B15 (hb16.mono (Below.size B15))
            have m16 := (x15).below hb16 (x15).lt
            have k16 := (k15).below hb16 (k15).lt
            refine hK.out _ _ (KS _ B16) (fun sH => ?_)
            clear hK
            try simp only [Act.put, List.set_cons_succ]
            refine wpAnyH_ready (rs := [8]) (by kernel_rfl) (by simp) (AllReadyH.cons nthe8 (fun K9 hK => ?_) AllReadyH.nil)
            clear sH
            rw [if_pos (by rfl)]
            have ne1 : bv15 ≠ bv12 := by omega
            have v0 := (m16).there
            have oy := (Only.refl bv15 wv16).setCs (nfL (.slice p0 n c0) (.slice p1 K c1) x0) 0
            have v1 := (m16).nput (.slice p0 n c0) (.slice p1 K c1) x0
            have v2 := (k16).only oy ne1.symm
            have v3 := Below.trans B16 (oy.below (B := w1.heap.size) (by omega))
            refine wp_stN _ _ rfl bv15 (.slice p0 n c0) (.slice p1 K c1) x0 rfl rfl rfl rfl v0 ?_
            obtain ⟨wp, hwp⟩ : ∃ wp, World.setCells wv16 bv15 0 (nfL (.slice p0 n c0) (.slice p1 K c1) x0) = wp := ⟨_, rfl⟩
            rw [hwp] at v1 v2 v3 ⊢
            clear hwp oy v0
            refine hK.out _ _ (KS _ v3) (fun sH => ?_)
            clear hK
            try simp only [Act.put]
            refine wpAnyH_ready (rs := [9]) (by kernel_rfl) (by simp) (AllReadyH.cons nthe9 (fun K9 hK => ?_) AllReadyH.nil)
            clear sH
            rw [if_pos (by rfl)]
            have v0 := v2.there
            have oy := (Only.refl bv12 wp).setCs Ly 0
            have v4 := v1.only oy ne1
            have v5 : World.rangeAt (wp.setCells bv12 0 Ly) bv12 0 Ly := World.rangeAt_setCells_same _ _ _ _ (by rw [nLy]; exact v0)
            have v6 := v3.trans (oy.below (B := w1.heap.size) (by omega))
            refine wp_stF _ _ rfl bv12 Ly rfl rfl nLy oLy v0 ?_
            obtain ⟨wq, hwq⟩ : ∃ wq, World.setCells wp bv12 0 Ly = wq := ⟨_, rfl⟩
            rw [hwq] at v4 v5 v6 ⊢
            clear hwq oy v0
            refine hK.out _ _ (KS _ v6) (fun sH => ?_)
            clear hK
            try simp only [Act.put]
            refine wpAnyH_done (by kernel_rfl) ?_ _
            refine NoPanic.normal ?_
            go_wp2_with fail
            go_meet
            exact ⟨_, _, rfl, rfl, v4.nall, v5, by omega, by omega, v6⟩
      · rw [if_pos (by rfl)]
        refine wp_allocN rfl ?_
        have B17 : Below w1.heap.size w1 ((w1.drew).alloc (.cells (nfL (.slice none 0 0) (.slice none 0 0) fun _ => 0).toArray 70)) := Below.trans (below_drw (Below.refl w1.heap.size w1)) ((below_new (w1.drew) (.cells (nfL (.slice none 0 0) (.slice none 0 0) fun _ => 0).toArray 70)).mono (Below.size (below_drw (Below.refl w1.heap.size w1))))
        have x17 := Ob.newN (w1.drew) (.slice none 0 0) (.slice none 0 0) (fun _ => 0) 70
        have l17 : w1.heap.size ≤ (w1.drew).heap.size := Below.size (below_drw (Below.refl w1.heap.size w1))
        obtain ⟨wv17, hw17⟩ : ∃ wv, (w1.drew).alloc (.cells (nfL (.slice none 0 0) (.slice none 0 0) fun _ => 0).toArray 70) = wv := ⟨_, rfl⟩
        obtain ⟨bv17, hv17⟩ : ∃ bv, (w1.drew).heap.size = bv := ⟨_, rfl⟩
        rw [hw17] at B17 x17 ⊢
        rw [hv17] at x17 l17 ⊢
        clear hw17 hv17
        refine hK.out _ _ (KS _ B17) (fun sH => ?_)
        clear hK
        try simp only [Act.put]
        refine wpAnyH_ready (rs := [2, 7]) (by kernel_rfl) (by simp) (AllReadyH.cons nthe2 (fun K9 hK => ?_) (AllReadyH.cons nthe7 (fun K9 hK => ?_) AllReadyH.nil))
        clear sH
        · go_simp
          refine (HWF.out (wv17) B17).mono ?_
          rintro e wv18 ⟨rfl, hb18⟩
          have B18 : Below w1.heap.size w1 wv18 := Below.trans B17 (hb18.mono (Below.size B17))
          have m18 := (x17).below hb18 (x17).lt
          refine hK.out _ _ (KS _ B18) (fun sH => ?_)
          clear hK
          try simp only [Act.put, List.set_cons_succ]
          refine wpAnyH_ready (rs := [5, 7]) (by kernel_rfl) (by simp) (AllReadyH.cons nthe5 (fun K9 hK => ?_) (AllReadyH.cons nthe7 (fun K9 hK => ?_) AllReadyH.nil))
          clear sH
          · go_simp
            refine (HCYC.out (wv18) B18).mono ?_
            rintro e wv19 ⟨rfl, hb19⟩
            have B19 : Below w1.heap.size w1 wv19 := Below.trans B18 (hb19.mono (Below.size B18))
            have m19 := (m18).below hb19 (m18).lt
            refine hK.out _ _ (KS _ B19) (fun sH => ?_)
            clear hK
            try simp only [Act.put, List.set_cons_succ]
            refine wpAnyH_ready (rs := [7]) (by kernel_rfl) (by simp) (AllReadyH.cons nthe7 (fun K9 hK => ?_) AllReadyH.nil)
            clear sH
            rw [if_pos (by rfl)]
            refine wp_allocF rfl ?_
            have B20 : Below w1.heap.size w1 ((wv19).alloc (.cells (arr fun _ => 0) 68)) := Below.trans B19 ((below_new (wv19) (.cells (arr fun _ => 0) 68)).mono (Below.size B19))
            have x20 := Ob.newA (wv19) (fun _ => 0) 68
            have l20 : w1.heap.size ≤ (wv19).heap.size := Below.size B19
            have m20 := (m19).below (below_new (wv19) (.cells (arr fun _ => 0) 68)) (m19).lt
            have z20 : bv17 < (wv19).heap.size := (m19).lt
            obtain ⟨wv20, hw20⟩ : ∃ wv, (wv19).alloc (.cells (arr fun _ => 0) 68) = wv := ⟨_, rfl⟩
            obtain ⟨bv20, hv20⟩ : ∃ bv, (wv19).heap.size = bv := ⟨_, rfl⟩
            rw [hw20] at B20 x20 m20 ⊢
            rw [hv20] at x20 l20 ⊢
            rw [hv20] at z20
            clear hw20 hv20
            refine hK.out _ _ (KS _ B20) (fun sH => ?_)
            clear hK
            try simp only [Act.put]
            refine wpAnyH_ready (rs := [8]) (by kernel_rfl) (by simp) (AllReadyH.cons nthe8 (fun K9 hK => ?_) AllReadyH.nil)
            clear sH
            rw [if_pos (by rfl)]
            have ne1 : bv17 ≠ bv20 := by omega
            have v0 := (m20).there
            have oy := (Only.refl bv17 wv20).setCs (nfL (.slice p0 n c0) (.slice p1 K c1) x0) 0
            have v1 := (m20).nput (.slice p0 n c0) (.slice p1 K c1) x0
            have v2 := (x20).only oy ne1.symm
            have v3 := Below.trans B20 (oy.below (B := w1.heap.size) (by omega))
            refine wp_stN _ _ rfl bv17 (.slice p0 n c0) (.slice p1 K c1) x0 rfl rfl rfl rfl v0 ?_
            obtain ⟨wp, hwp⟩ : ∃ wp, World.setCells wv20 bv17 0 (nfL (.slice p0 n c0) (.slice p1 K c1) x0) = wp := ⟨_, rfl⟩
            rw [hwp] at v1 v2 v3 ⊢
            clear hwp oy v0
            refine hK.out _ _ (KS _ v3) (fun sH => ?_)
            clear hK
            try simp only [Act.put, List.setIfInBounds_toArray]
            refine wpAnyH_ready (rs := [9]) (by kernel_rfl) (by simp) (AllReadyH.cons nthe9 (fun K9 hK => ?_) AllReadyH.nil)
            clear sH
            rw [if_pos (by rfl)]
            have v0 := v2.there
            have oy := (Only.refl bv20 wp).setCs Ly 0
            have v4 := v1.only oy ne1
            have v5 : World.rangeAt (wp.setCells bv20 0 Ly) bv20 0 Ly := World.rangeAt_setCells_same _ _ _ _ (by rw [nLy]; exact v0)
            have v6 := v3.trans (oy.below (B := w1.heap.size) (by omega))
            refine wp_stF _ _ rfl bv20 Ly rfl rfl nLy oLy v0 ?_
            obtain ⟨wq, hwq⟩ : ∃ wq, World.setCells wp bv20 0 Ly = wq := ⟨_, rfl⟩
            rw [hwq] at v4 v5 v6 ⊢
            clear hwq oy v0
            refine hK.out _ _ (KS _ v6) (fun sH => ?_)
            clear hK
            try simp only [Act.put]
            refine wpAnyH_done (by kernel_rfl) ?_ _
            refine NoPanic.normal ?_
            go_wp2_with fail
            go_meet
            exact ⟨_, _, rfl, rfl, v4.nall, v5, by omega, by omega, v6⟩
          · rw [if_pos (by rfl)]
            refine wp_allocF rfl ?_
            have B21 : Below w1.heap.size w1 ((wv18).alloc (.cells (arr fun _ => 0) 68)) := Below.trans B18 ((below_new (wv18) (.cells (arr fun _ => 0) 68)).mono (Below.size B18))
            have x21 := Ob.newA (wv18) (fun _ => 0) 68
            have l21 : w1.heap.size ≤ (wv18).heap.size := Below.size B18
            have m21 := (m18).below (below_new (wv18) (.cells (arr fun _ => 0) 68)) (m18).lt
            have z21 : bv17 < (wv18).heap.size := (m18).lt
            obtain ⟨wv21, hw21⟩ : ∃ wv, (wv18).alloc (.cells (arr fun _ => 0) 68) = wv := ⟨_, rfl⟩
            obtain ⟨bv21, hv21⟩ : ∃ bv, (wv18).heap.size = bv := ⟨_, rfl⟩
            rw [hw21] at B21 x21 m21 ⊢
            rw [hv21] at x21 l21 ⊢
            rw [hv21] at z21
            clear hw21 hv21
            refine hK.out _ _ (KS _ B21) (fun sH => ?_)
            clear hK
            try simp only [Act.put]
            refine wpAnyH_ready (rs := [5]) (by kernel_rfl) (by simp) (AllReadyH.cons nthe5 (fun K9 hK => ?_) AllReadyH.nil)
            clear sH
            go_simp
            refine (HCYC.out (wv21) B21).mono ?_
            rintro e wv22 ⟨rfl, hb22⟩
            have B22 : Below w1.heap.size w1 wv22 := Below.trans B21 (hb22.mono (Below.size B21))
            have m22 := (m21).below hb22 (m21).lt
            have k22 := (x21).below hb22 (x21).lt
            refine hK.out _ _ (KS _ B22) (fun sH => ?_)
            clear hK
            try simp only [Act.put, List.set_cons_succ]
            refine wpAnyH_ready (rs := [8]) (by kernel_rfl) (by simp) (AllReadyH.cons nthe8 (fun K9 hK => ?_) AllReadyH.nil)
            clear sH
            rw [if_pos (by rfl)]
            have ne1 : bv17 ≠ bv21 := by omega
            have v0 := (m22).there
            have oy := (Only.refl bv17 wv22).setCs (nfL (.slice p0 n c0) (.slice p1 K c1) x0) 0
            have v1 := (m22).nput (.slice p0 n c0) (.slice p1 K c1) x0
            have v2 := (k22).only oy ne1.symm
            have v3 := Below.trans B22 (oy.below (B := w1.heap.size) (by omega))
            refine wp_stN _ _ rfl bv17 (.slice p0 n c0) (.slice p1 K c1) x0 rfl rfl rfl rfl v0 ?_
            obtain ⟨wp, hwp⟩ : ∃ wp, World.setCells wv22 bv17 0 (nfL (.slice p0 n c0) (.slice p1 K c1) x0) = wp := ⟨_, rfl⟩
            rw [hwp] at v1 v2 v3 ⊢
            clear hwp oy v0
            refine hK.out _ _ (KS _ v3) (fun sH => ?_)
            clear hK
            try simp only [Act.put]
            refine wpAnyH_ready (rs := [9]) (by kernel_rfl) (by simp) (AllReadyH.cons nthe9 (fun K9 hK => ?_) AllReadyH.nil)
            clear sH
            rw [if_pos (by rfl)]
            have v0 := v2.there
            have oy := (Only.refl bv21 wp).setCs Ly 0
            have v4 := v1.only oy ne1
            have v5 : World.rangeAt (wp.setCells bv21 0 Ly) bv21 0 Ly := World.rangeAt_setCells_same _ _ _ _ (by rw [nLy]; exact v0)
            have v6 := v3.trans (oy.below (B := w1.heap.size) (by omega))
            refine wp_stF _ _ rfl bv21 Ly rfl rfl nLy oLy v0 ?_
            obtain ⟨wq, hwq⟩ : ∃ wq, World.setCells wp bv21 0 Ly = wq := ⟨_, rfl⟩
            rw [hwq] at v4 v5 v6 ⊢
            clear hwq oy v0
            refine hK.out _ _ (KS _ v6) (fun sH => ?_)
            clear hK
            try simp only [Act.put]
            refine wpAnyH_done (by kernel_rfl) ?_ _
            refine NoPanic.normal ?_
            go_wp2_with fail
            go_meet
            exact ⟨_, _, rfl, rfl, v4.nall, v5, by omega, by omega, v6⟩
        · rw [if_pos (by rfl)]
          refine wp_allocF rfl ?_
          have B23 : Below w1.heap.size w1 ((wv17).alloc (.cells (arr fun _ => 0) 68)) := Below.trans B17 ((below_new (wv17) (.cells (arr fun _ => 0) 68)).mono (Below.size B17))
          have x23 := Ob.newA (wv17) (fun _ => 0) 68
          have l23 : w1.heap.size ≤ (wv17).heap.size := Below.size B17
          have m23 := (x17).below (below_new (wv17) (.cells (arr fun _ => 0) 68)) (x17).lt
          have z23 : bv17 < (wv17).heap.size := (x17).lt
          obtain ⟨wv23, hw23⟩ : ∃ wv, (wv17).alloc (.cells (arr fun _ => 0) 68) = wv := ⟨_, rfl⟩
          obtain ⟨bv23, hv23⟩ : ∃ bv, (wv17).heap.size = bv := ⟨_, rfl⟩
          rw [hw23] at B23 x23 m23 ⊢
          rw [hv23] at x23 l23 ⊢
          rw [hv23] at z23
          clear hw23 hv23
          refine hK.out _ _ (KS _ B23) (fun sH => ?_)
          clear hK
          try simp only [Act.put]
          refine wpAnyH_ready (rs := [2]) (by kernel_rfl) (by simp) (AllReadyH.cons nthe2 (fun K9 hK => ?_) AllReadyH.nil)
          clear sH
          go_simp
          refine (HWF.out (wv23) B23).mono ?_
          rintro e wv24 ⟨rfl, hb24⟩
          have B24 : Below w1.heap.size w1 wv24 := Below.trans B23 (hb24.mono (Below.size B23))
          have m24 := (m23).below hb24 (m23).lt
          have k24 := (x23).below hb24 (x23).lt
          refine hK.out _ _ (KS _ B24) (fun sH => ?_)
          clear hK
          try simp only [Act.put, List.set_cons_succ]
          refine wpAnyH_ready (rs := [5]) (by kernel_rfl) (by simp) (AllReadyH.cons nthe5 (fun K9 hK => ?_) AllReadyH.nil)
          clear sH
          go_simp
          refine (HCYC.out (wv24) B24).mono ?_
          rintro e wv25 ⟨rfl, hb25⟩
          have B25 : Below w1.heap.size w1 wv25 := Below.trans B24 (hb25.mono (Below.size B24))
          have m25 := (m24).below hb25 (m24).lt
          have k25 := (k24).below hb25 (k24).lt
          refine hK.out _ _ (KS _ B25) (fun sH => ?_)
          clear hK
          try simp only [Act.put, List.set_cons_succ]
          refine wpAnyH_ready (rs := [8]) (by kernel_rfl) (by simp) (AllReadyH.cons nthe8 (fun K9 hK => ?_) AllReadyH.nil)
          clear sH
          rw [if_pos (by rfl)]
          have ne1 : bv17 ≠ bv23 := by omega
          have v0 := (m25).there
          have oy := (Only.refl bv17 wv25).setCs (nfL (.slice p0 n c0) (.slice p1 K c1) x0) 0
          have v1 := (m25).nput (.slice p0 n c0) (.slice p1 K c1) x0
          have v2 := (k25).only oy ne1.symm
          have v3 := Below.trans B25 (oy.below (B := w1.heap.size) (by omega))
          refine wp_stN _ _ rfl bv17 (.slice p0 n c0) (.slice p1 K c1) x0 rfl rfl rfl rfl v0 ?_
          obtain ⟨wp, hwp⟩ : ∃ wp, World.setCells wv25 bv17 0 (nfL (.slice p0 n c0) (.slice p1 K c1) x0) = wp := ⟨_, rfl⟩
          rw [hwp] at v1 v2 v3 ⊢
          clear hwp oy v0
          refine hK.out _ _ (KS _ v3) (fun sH => ?_)
          clear hK
          try simp only [Act.put]
          refine wpAnyH_ready (rs := [9]) (by kernel_rfl) (by simp) (AllReadyH.cons nthe9 (fun K9 hK => ?_) AllReadyH.nil)
          clear sH
          rw [if_pos (by rfl)]
          have v0 := v2.there
          have oy := (Only.refl bv23 wp).setCs Ly 0
          have v4 := v1.only oy ne1
          have v5 : World.rangeAt (wp.setCells bv23 0 Ly) bv23 0 Ly := World.rangeAt_setCells_same _ _ _ _ (by rw [nLy]; exact v0)
          have v6 := v3.trans (oy.below (B := w1.heap.size) (by omega))
          refine wp_stF _ _ rfl bv23 Ly rfl rfl nLy oLy v0 ?_
          obtain ⟨wq, hwq⟩ : ∃ wq, World.setCells wp bv23 0 Ly = wq := ⟨_, rfl⟩
          rw [hwq] at v4 v5 v6 ⊢
          clear hwq oy v0
          refine hK.out _ _ (KS _ v6) (fun sH => ?_)
          clear hK
          try simp only [Act.put]
          refine wpAnyH_done (by kernel_rfl) ?_ _
          refine NoPanic.normal ?_
          go_wp2_with fail
          go_meet
          exact ⟨_, _, rfl, rfl, v4.nall, v5, by omega, by omega, v6⟩
      · rw [if_pos (by rfl)]
        refine wp_allocF rfl ?_
        have B26 : Below w1.heap.size w1 ((w1.drew).alloc (.cells (arr fun _ => 0) 68)) := Below.trans (below_drw (Below.refl w1.heap.size w1)) ((below_new (w1.drew) (.cells (arr fun _ => 0) 68)).mono (Below.size (below_drw (Below.refl w1.heap.size w1))))
        have x26 := Ob.newA (w1.drew) (fun _ => 0) 68
        have l26 : w1.heap.size ≤ (w1.drew).heap.size := Below.size (below_drw (Below.refl w1.heap.size w1))
        obtain ⟨wv26, hw26⟩ : ∃ wv, (w1.drew).alloc (.cells (arr fun _ => 0) 68) = wv := ⟨_, rfl⟩
        obtain ⟨bv26, hv26⟩ : ∃ bv, (w1.drew).heap.size = bv := ⟨_, rfl⟩
        rw [hw26] at B26 x26 ⊢
        rw [hv26] at x26 l26 ⊢
        clear hw26 hv26
        refine hK.out _ _ (KS _ B26) (fun sH => ?_)
        clear hK
        try simp only [Act.put]
        refine wpAnyH_ready (rs := [2, 6]) (by kernel_rfl) (by simp) (AllReadyH.cons nthe2 (fun K9 hK => ?_) (AllReadyH.cons nthe6 (fun K9 hK => ?_) AllReadyH.nil))
        clear sH
        · go_simp
          refine (HWF.out (wv26) B26).mono ?_
          rintro e wv27 ⟨rfl, hb27⟩
          have B27 : Below w1.heap.size w1 wv27 := Below.trans B26 (hb27.mono (Below.size B26))
          have k27 := (x26).below hb27 (x26).lt
          refine hK.out _ _ (KS _ B27) (fun sH => ?_)
          clear hK
          try simp only [Act.put, List.set_cons_succ]
          refine wpAnyH_ready (rs := [5, 6]) (by kernel_rfl) (by simp) (AllReadyH.cons nthe5 (fun K9 hK => ?_) (AllReadyH.cons nthe6 (fun K9 hK => ?_) AllReadyH.nil))
          clear sH
          · go_simp
            refine (HCYC.out (wv27) B27).mono ?_
            rintro e wv28 ⟨rfl, hb28⟩
            have B28 : Below w1.heap.size w1 wv28 := Below.trans B27 (hb28.mono (Below.size B27))
            have k28 := (k27).below hb28 (k27).lt
            refine hK.out _ _ (KS _ B28) (fun sH => ?_)
            clear hK
            try simp only [Act.put, List.set_cons_zero, List.set_cons_succ]
            refine wpAnyH_ready (rs := [6]) (by kernel_rfl) (by simp) (AllReadyH.cons nthe6 (fun K9 hK => ?_) AllReadyH.nil)
            clear sH
            rw [if_pos (by rfl)]
            refine wp_allocN rfl ?_
            have B29 : Below w1.heap.size w1 ((wv28).alloc (.cells (nfL (.slice none 0 0) (.slice none 0 0) fun _ => 0).toArray 70)) := Below.trans B28 ((below_new (wv28) (.cells (nfL (.slice none 0 0) (.slice none 0 0) fun _ => 0).toArray 70)).mono (Below.size B28))
            have x29 := Ob.newN (wv28) (.slice none 0 0) (.slice none 0 0) (fun _ => 0) 70
            have l29 : w1.heap.size ≤ (wv28).heap.size := Below.size B28
            have k29 := (k28).below (below_new (wv28) (.cells (nfL (.slice none 0 0) (.slice none 0 0) fun _ => 0).toArray 70)) (k28).lt
            have z29 : bv26 < (wv28).heap.size := (k28).lt
            obtain ⟨wv29, hw29⟩ : ∃ wv, (wv28).alloc (.cells (nfL (.slice none 0 0) (.slice none 0 0) fun _ => 0).toArray 70) = wv := ⟨_, rfl⟩
            obtain ⟨bv29, hv29⟩ : ∃ bv, (wv28).heap.size = bv := ⟨_, rfl⟩
            rw [hw29] at B29 x29 k29 ⊢
            rw [hv29] at x29 l29 ⊢
            rw [hv29] at z29
            clear hw29 hv29
            refine hK.out _ _ (KS _ B29) (fun sH => ?_)
            clear hK
            try simp only [Act.put]
            refine wpAnyH_ready (rs := [8]) (by kernel_rfl) (by simp) (AllReadyH.cons nthe8 (fun K9 hK => ?_) AllReadyH.nil)
            clear sH
            rw [if_pos (by rfl)]
            have ne1 : bv29 ≠ bv26 := by omega
            have v0 := (x29).there
            have oy := (Only.refl bv29 wv29).setCs (nfL (.slice p0 n c0) (.slice p1 K c1) x0) 0
            have v1 := (x29).nput (.slice p0 n c0) (.slice p1 K c1) x0
            have v2 := (k29).only oy ne1.symm
            have v3 := Below.trans B29 (oy.below (B := w1.heap.size) (by omega))
            refine wp_stN _ _ rfl bv29 (.slice p0 n c0) (.slice p1 K c1) x0 rfl rfl rfl rfl v0 ?_
            obtain ⟨wp, hwp⟩ : ∃ wp, World.setCells wv29 bv29 0 (nfL (.slice p0 n c0) (.slice p1 K c1) x0) = wp := ⟨_, rfl⟩
            rw [hwp] at v1 v2 v3 ⊢
            clear hwp oy v0
            refine hK.out _ _ (KS _ v3) (fun sH => ?_)
            clear hK
            try simp only [Act.put]
            refine wpAnyH_ready (rs := [9]) (by kernel_rfl) (by simp) (AllReadyH.cons nthe9 (fun K9 hK => ?_) AllReadyH.nil)
            clear sH
            rw [if_pos (by rfl)]
            have v0 := v2.there
            have oy := (Only.refl bv26 wp).setCs Ly 0
            have v4 := v1.only oy ne1
            have v5 : World.rangeAt (wp.setCells bv26 0 Ly) bv26 0 Ly := World.rangeAt_setCells_same _ _ _ _ (by rw [nLy]; exact v0)
            have v6 := v3.trans (oy.below (B := w1.heap.size) (by omega))
            refine wp_stF _ _ rfl bv26 Ly rfl rfl nLy oLy v0 ?_
            obtain ⟨wq, hwq⟩ : ∃ wq, World.setCells wp bv26 0 Ly = wq := ⟨_, rfl⟩
            rw [hwq] at v4 v5 v6 ⊢
            clear hwq oy v0
            refine hK.out _ _ (KS _ v6) (fun sH => ?_)
            clear hK
            try simp only [Act.put, List.setIfInBounds_toArray]
            refine wpAnyH_done (by kernel_rfl) ?_ _
            refine NoPanic.normal ?_
            go_wp2_with fail
            go_meet
            exact ⟨_, _, rfl, rfl, v4.nall, v5, by omega, by omega, v6⟩
          · rw [if_pos (by rfl)]
            refine wp_allocN rfl ?_
            have B30 : Below w1.heap.size w1 ((wv27).alloc (.cells (nfL (.slice none 0 0) (.slice none 0 0) fun _ => 0).toArray 70)) := Below.trans B27 ((below_new (wv27) (.cells (nfL (.slice none 0 0) (.slice none 0 0) fun _ => 0).toArray 70)).mono (Below.size B27))
            have x30 := Ob.newN (wv27) (.slice none 0 0) (.slice none 0 0) (fun _ => 0) 70
            have l30 : w1.heap.size ≤ (wv27).heap.size := Below.size B27
            have k30 := (k27).below (below_new (wv27) (.cells (nfL (.slice none 0 0) (.slice none 0 0) fun _ => 0).toArray 70)) (k27).lt
            have z30 : bv26 < (wv27).heap.size := (k27).lt
            obtain ⟨wv30, hw30⟩ : ∃ wv, (wv27).alloc (.cells (nfL (.slice none 0 0) (.slice none 0 0) fun _ => 0).toArray 70) = wv := ⟨_, rfl⟩
            obtain ⟨bv30, hv30⟩ : ∃ bv, (wv27).heap.size = bv := ⟨_, rfl⟩
            rw [hw30] at B30 x30 k30 ⊢
            rw [hv30] at x30 l30 ⊢
            rw [hv30] at z30
            clear hw30 hv30
            refine hK.out _ _ (KS _ B30) (fun sH => ?_)
            clear hK
            try simp only [Act.put]
            refine wpAnyH_ready (rs := [5]) (by kernel_rfl) (by simp) (AllReadyH.cons nthe5 (fun K9 hK => ?_) AllReadyH.nil)
            clear sH
            go_simp
            refine (HCYC.out (wv30) B30).mono ?_
            rintro e wv31 ⟨rfl, hb31⟩
            have B31 : Below w1.heap.size w1 wv31 := Below.trans B30 (hb31.mono (Below.size B30))
            have m31 := (x30).below hb31 (x30).lt
            have k31 := (k30).below hb31 (k30).lt
            refine hK.out _ _ (KS _ B31) (fun sH => ?_)
            clear hK
            try simp only [Act.put, List.set_cons_zero, List.set_cons_succ]
            refine wpAnyH_ready (rs := [8]) (by kernel_rfl) (by simp) (AllReadyH.cons nthe8 (fun K9 hK => ?_) AllReadyH.nil)
            clear sH
            rw [if_pos (by rfl)]
            have ne1 : bv30 ≠ bv26 := by omega
            have v0 := (m31).there
            have oy := (Only.refl bv30 wv31).setCs (nfL (.slice p0 n c0) (.slice p1 K c1) x0) 0
            have v1 := (m31).nput (.slice p0 n c0) (.slice p1 K c1) x0
            have v2 := (k31).only oy ne1.symm
            have v3 := Below.trans B31 (oy.below (B := w1.heap.size) (by omega))
            refine wp_stN _ _ rfl bv30 (.slice p0 n c0) (.slice p1 K c1) x0 rfl rfl rfl rfl v0 ?_
            obtain ⟨wp, hwp⟩ : ∃ wp, World.setCells wv31 bv30 0 (nfL (.slice p0 n c0) (.slice p1 K c1) x0) = wp := ⟨_, rfl⟩
            rw [hwp] at v1 v2 v3 ⊢
            clear hwp oy v0
            refine hK.out _ _ (KS _ v3) (fun sH => ?_)
            clear hK
            try simp only [Act.put]
            refine wpAnyH_ready (rs := [9]) (by kernel_rfl) (by simp) (AllReadyH.cons nthe9 (fun K9 hK => ?_) AllReadyH.nil)
            clear sH
            rw [if_pos (by rfl)]
            have v0 := v2.there
            have oy := (Only.refl bv26 wp).setCs Ly 0
            have v4 := v1.only oy ne1
            have v5 : World.rangeAt (wp.setCells bv26 0 Ly) bv26 0 Ly := World.rangeAt_setCells_same _ _ _ _ (by rw [nLy]; exact v0)
            have v6 := v3.trans (oy.below (B := w1.heap.size) (by omega))
            refine wp_stF _ _ rfl bv26 Ly rfl rfl nLy oLy v0 ?_
            obtain ⟨wq, hwq⟩ : ∃ wq, World.setCells wp bv26 0 Ly = wq := ⟨_, rfl⟩
            rw [hwq] at v4 v5 v6 ⊢
            clear hwq oy v0
            refine hK.out _ _ (KS _ v6) (fun sH => ?_)
            clear hK
            try simp only [Act.put]
            refine wpAnyH_done (by kernel_rfl) ?_ _
            refine NoPanic.normal ?_
            go_wp2_with fail
            go_meet
            exact ⟨_, _, rfl, rfl, v4.nall, v5, by omega, by omega, v6⟩
        · rw [if_pos (by rfl)]
          refine wp_allocN rfl ?_
          have B32 : Below w1.heap.size w1 ((wv26).alloc (.cells (nfL (.slice none 0 0) (.slice none 0 0) fun _ => 0).toArray 70)) := Below.trans B26 ((below_new (wv26) (.cells (nfL (.slice none 0 0) (.slice none 0 0) fun _ => 0).toArray 70)).mono (Below.size B26))
          have x32 := Ob.newN (wv26) (.slice none 0 0) (.slice none 0 0) (fun _ => 0) 70
          have l32 : w1.heap.size ≤ (wv26).heap.size := Below.size B26
          have k32 := (x26).below (below_new (wv26) (.cells (nfL (.slice none 0 0) (.slice none 0 0) fun _ => 0).toArray 70)) (x26).lt
          have z32 : bv26 < (wv26).heap.size := (x26).lt
          obtain ⟨wv32, hw32⟩ : ∃ wv, (wv26).alloc (.cells (nfL (.slice none 0 0) (.slice none 0 0) fun _ => 0).toArray 70) = wv := ⟨_, rfl⟩
          obtain ⟨bv32, hv32⟩ : ∃ bv, (wv26).heap.size = bv := ⟨_, rfl⟩
          rw [hw32] at B32 x32 k32 ⊢
          rw [hv32] at x32 l32 ⊢
          rw [hv32] at z32
          clear hw32 hv32
          refine hK.out _ _ (KS _ B32) (fun sH => ?_)
          clear hK
          try simp only [Act.put]
          refine wpAnyH_ready (rs := [2]) (by kernel_rfl) (by simp) (AllReadyH.cons nthe2 (fun K9 hK => ?_) AllReadyH.nil)
          clear sH
          go_simp
          refine (HWF.out (wv32) B32).mono ?_
          rintro e wv33 ⟨rfl, hb33⟩
          have B33 : Below w1.heap.size w1 wv33 := Below.trans B32 (hb33.mono (Below.size B32))
          have m33 := (x32).below hb33 (x32).lt
          have k33 := (k32).below hb33 (k32).lt
          refine hK.out _ _ (KS _ B33) (fun sH => ?_)
          clear hK
          try simp only [Act.put, List.set_cons_succ]
          refine wpAnyH_ready (rs := [5]) (by kernel_rfl) (by simp) (AllReadyH.cons nthe5 (fun K9 hK => ?_) AllReadyH.nil)
          clear sH
          go_simp
          refine (HCYC.out (wv33) B33).mono ?_
          rintro e wv34 ⟨rfl, hb34⟩
          have B34 : Below w1.heap.size w1 wv34 := Below.trans B33 (hb34.mono (Below.size B33))
          have m34 := (m33).below hb34 (m33).lt
          have k34 := (k33).below hb34 (k33).lt
          refine hK.out _ _ (KS _ B34) (fun sH => ?_)
          clear hK
          try simp only [Act.put, List.set_cons_succ]
          refine wpAnyH_ready (rs := [8]) (by kernel_rfl) (by simp) (AllReadyH.cons nthe8 (fun K9 hK => ?_) AllReadyH.nil)
          clear sH
          rw [if_pos (by rfl)]
          have ne1 : bv32 ≠ bv26 := by omega
          have v0 := (m34).there
          have oy := (Only.refl bv32 wv34).setCs (nfL (.slice p0 n c0) (.slice p1 K c1) x0) 0
          have v1 := (m34).nput (.slice p0 n c0) (.slice p1 K c1) x0
          have v2 := (k34).only oy ne1.symm
          have v3 := Below.trans B34 (oy.below (B := w1.heap.size) (by omega))
          refine wp_stN _ _ rfl bv32 (.slice p0 n c0) (.slice p1 K c1) x0 rfl rfl rfl rfl v0 ?_
          obtain ⟨wp, hwp⟩ : ∃ wp, World.setCells wv34 bv32 0 (nfL (.slice p0 n c0) (.slice p1 K c1) x0) = wp := ⟨_, rfl⟩
          rw [hwp] at v1 v2 v3 ⊢
          clear hwp oy v0
          refine hK.out _ _ (KS _ v3) (fun sH => ?_)
          clear hK
          try simp only [Act.put]
          refine wpAnyH_ready (rs := [9]) (by kernel_rfl) (by simp) (AllReadyH.cons nthe9 (fun K9 hK => ?_) AllReadyH.nil)
          clear sH
          rw [if_pos (by rfl)]
          have v0 := v2.there
          have oy := (Only.refl bv26 wp).setCs Ly 0
          have v4 := v1.only oy ne1
          have v5 : World.rangeAt (wp.setCells bv26 0 Ly) bv26 0 Ly := World.rangeAt_setCells_same _ _ _ _ (by rw [nLy]; exact v0)
          have v6 := v3.trans (oy.below (B := w1.heap.size) (by omega))
          refine wp_stF _ _ rfl bv26 Ly rfl rfl nLy oLy v0 ?_
          obtain ⟨wq, hwq⟩ : ∃ wq, World.setCells wp bv26 0 Ly = wq := ⟨_, rfl⟩
          rw [hwq] at v4 v5 v6 ⊢
          clear hwq oy v0
          refine hK.out _ _ (KS _ v6) (fun sH => ?_)
          clear hK
          try simp only [Act.put]
          refine wpAnyH_done (by kernel_rfl) ?_ _
          refine NoPanic.normal ?_
          go_wp2_with fail
          go_meet
          exact ⟨_, _, rfl, rfl, v4.nall, v5, by omega, by omega, v6⟩
    case rest =>
      obtain ⟨b9, b10, rfl, rfl, g9, g10, l9, l10, hbx⟩ := hcut
      clear KS
      have z2 := hbx.size
      have i9 : b9 < wc.heap.size := rangeAt_lt g9 (by rw [nfL_len]; omega)
      have i10 : b10 < wc.heap.size := rangeAt_lt g10 (by rw [nLy]; omega)
      have g0 := range2 ((hbx.cell (p := ⟨w.heap.size, 0, none⟩) e2).trans e0) ((hbx.cell (p := ⟨w.heap.size, 1, none⟩) e2).trans e1)
      have B2 := B1.trans (hbx.mono (by omega))
      have hw2 : w.heap.size ≤ wc.heap.size := by omega
      have hi2 : hi ≤ wc.heap.size := by omega
      have KS : ∀ W : World, Below wc.heap.size wc W → (Below wc.heap.size wc W ∧ W.rangeAt w.heap.size 0 [.slice p0 n c0, .slice p1 K c1] ∧ W.rangeAt b9 0 (nfL (.slice p0 n c0) (.slice p1 K c1) x0) ∧ W.rangeAt b10 0 Ly) := fun W hW => ⟨hW, range_blockN g0 (hW.block _ (by omega)), range_blockN g9 (hW.block _ i9), range_blockN g10 (hW.block _ i10)⟩
      obtain ⟨z, hz⟩ : ∃ z : Nat → Int, (fun k => x0 k + y k * t) = z := ⟨_, rfl⟩
      have HZ := Lib.hid hz
      have HZD := Lib.hid (show ∀ k, k < K → z k = rcD n K P d (c : Int) k from fun k hk => by rw [← hz, HDD.out k, ← HPD.out k hk, Int.mul_comm])
      have HPY := Lib.hid (show ∀ k, k < 40 → (-4611686018427387904 ≤ x0 k + y k * t ∧ x0 k + y k * t ≤ 4611686018427387904) ∧ (-4611686018427387904 ≤ y k * t ∧ y k * t ≤ 4611686018427387904) from fun k hk => by
        have h1 := mulc hbr (HY40.out k hk)
        have h2 := HXP.out k
        rw [Int.mul_comm] at h1
        omega)
      clear hz hbx
      go_wp2_with fail
      refine wp_region_noPanic ?_
      refine wp_region_held_drew (S := fun w' : World => Below wc.heap.size wc w' ∧ w'.rangeAt w.heap.size 0 [.slice p0 n c0, .slice p1 K c1] ∧ w'.rangeAt b9 0 (nfL (.slice p0 n c0) (.slice p1 K c1) x0) ∧ w'.rangeAt b10 0 Ly) (by kernel_rfl) (KS _ (below_drw (Below.refl _ _))) (fun sH => ?_)
      refine wpAnyH_take (i := 0) (v := .agg #[.slice p0 n c0, .slice p1 K c1]) nthe0 (by kernel_rfl) (by kernel_rfl) (by kernel_rfl) (fun _ _ _ h => h) (yieldsIf_load_mid (by rfl) _ _ rfl w.heap.size 0 rfl [.slice p0 n c0, .slice p1 K c1] _ (fun _ h => h.2.1) UN rfl (by exact nN)) sH ?_
      try simp only [Act.put]
      refine wpAnyH_take (i := 1) (v := .agg (nfL (.slice p0 n c0) (.slice p1 K c1) x0).toArray) nthe1 (by kernel_rfl) (by kernel_rfl) (by kernel_rfl) (fun _ _ _ h => h) (yieldsIf_load_mid (by rfl) _ _ rfl b9 0 rfl (nfL (.slice p0 n c0) (.slice p1 K c1) x0) _ (fun _ h => h.2.2.1) Try.underlying70 rfl (by rw [nfL_len]; exact nf_info)) sH ?_
      try simp only [Act.put]
      refine wpAnyH_take (i := 2) (v := .agg (Ly).toArray) nthe2 (by kernel_rfl) (by kernel_rfl) (by kernel_rfl) (fun _ _ _ h => h) (yieldsIf_load_mid (by rfl) _ _ rfl b10 0 rfl (Ly) _ (fun _ h => h.2.2.2) Try.underlying68 rfl (by rw [nLy]; exact flow_info)) sH ?_
      try simp only [Act.put]
      refine wpAnyH_take (i := 3) (v := .agg (nfL (.slice p0 n c0) (.slice p1 K c1) x0).toArray) nthe3 (by kernel_rfl) (by kernel_rfl) (by kernel_rfl) (fun _ _ _ h => h) (yieldsIf_load_mid (by rfl) _ _ rfl b9 0 rfl (nfL (.slice p0 n c0) (.slice p1 K c1) x0) _ (fun _ h => h.2.2.1) Try.underlying70 rfl (by rw [nfL_len]; exact nf_info)) sH ?_
      try simp only [Act.put]
      refine wpAnyH_take (i := 4) (v := .agg (Ly).toArray) nthe4 (by kernel_rfl) (by kernel_rfl) (by kernel_rfl) (fun _ _ _ h => h) (yieldsIf_load_mid (by rfl) _ _ rfl b10 0 rfl (Ly) _ (fun _ h => h.2.2.2) Try.underlying68 rfl (by rw [nLy]; exact flow_info)) sH ?_
      try simp only [Act.put]
      refine wpAnyH_ready (rs := [5]) (by kernel_rfl) (by simp) (AllReadyH.cons nthe5 (fun KON hKON => ?_) AllReadyH.nil)
      clear sH
      go_simp
      have hbe := bestTimes_any wc.drew p0 p1 c0 c1 n N K P lo hi (HV.out.below (B2.trans ((below_drw (Below.refl wc.heap.size wc)).mono hw2)) hhi) (Nat.le_trans hi2 (below_drw (Below.refl wc.heap.size wc)).size) HB.out x0 (fun k _ => HXP.out k) y HY40.out HY0.out HCO.out
      rw [HBC.out y, HBT.out, HLy.out] at hbe
      refine hbe.mono ?_
      clear hbe
      rintro e wA ⟨rfl, hbA⟩
      have BA : Below wc.heap.size wc wA := (below_drw (Below.refl wc.heap.size wc)).trans (hbA.mono (below_drw (Below.refl wc.heap.size wc)).size)
      refine hKON.out _ _ (KS _ BA) (fun sH => ?_)
      clear hKON KON
      try simp only [Act.put, List.setIfInBounds_toArray, List.set_cons_succ]
      refine wpAnyH_ready (rs := [6]) (by kernel_rfl) (by simp) (AllReadyH.cons nthe6 (fun KON hKON => ?_) AllReadyH.nil)
      clear sH
      go_simp
      have hpc := plusCycle_any wA (.slice p0 n c0) (.slice p1 K c1) rfl rfl x0 y t (fun k hk => (HPY.out k hk).1) (fun k hk => (HPY.out k hk).2)
      rw [HZ.out, HLy.out] at hpc
      refine hpc.mono ?_
      clear hpc
      rintro e wB ⟨rfl, hbB⟩
      have BB : Below wc.heap.size wc wB := BA.trans (hbB.mono BA.size)
      refine hKON.out _ _ (KS _ BB) (fun sH => ?_)
      clear hKON KON
      try simp only [Act.put, List.set_cons_zero]
      refine wpAnyH_take (i := 7) (v := .agg (arr z)) nthe7 (by kernel_rfl) (by kernel_rfl) (by kernel_rfl) (fun _ _ _ h => h) (yieldsIf_fieldN (by rfl) _ rfl (.slice p0 n c0) (.slice p1 K c1) z rfl) sH ?_
      try simp only [Act.put]
      refine wpAnyH_ready (rs := [8]) (by kernel_rfl) (by simp) (AllReadyH.cons nthe8 (fun KON hKON => ?_) AllReadyH.nil)
      clear sH
      go_simp
      refine (listOf_any wB p0 p1 n K c0 c1 z hm40).mono ?_
      rintro e wD ⟨v5, g5, rfl, o5, hg5, hbC⟩
      obtain ⟨c5, rfl⟩ := o5.shape
      have BC : Below wc.heap.size wc wD := BB.trans (hbC.mono BB.size)
      refine hKON.out _ _ (KS _ BC) (fun sH => ?_)
      clear hKON KON
      try simp only [Act.put, List.setIfInBounds_toArray, List.set_cons_succ]
      refine wpAnyH_take (i := 9) (v := ?_) nthe9 (by kernel_rfl) (by kernel_rfl) (by kernel_rfl) (fun _ _ _ h => h) (Or.inl ⟨by rfl, ?_⟩) sH ?_
      rotate_left
      · intro wS hSw; (try dsimp only at hSw); go_simp; try with_reducible rfl
      try simp only [Act.put]
      refine wpAnyH_take (i := 10) (v := ?_) nthe10 (by kernel_rfl) (by kernel_rfl) (by kernel_rfl) (fun _ _ _ h => h) (Or.inl ⟨by rfl, ?_⟩) sH ?_
      rotate_left
      · intro wS hSw; (try dsimp only at hSw); go_simp; try with_reducible rfl
      try simp only [Act.put, List.setIfInBounds_toArray, List.set_cons_succ]
      refine wpAnyH_done (by kernel_rfl) ?_ _
      refine NoPanic.normal ?_
      go_wp2_with fail
      go_ret2
      exact li_ok HR.out.symm (by first | rfl | (rw [HC.out]; rfl)) (o5.congr (fun k hk => HZD.out k hk)) (by have := BB.size; omega) (B2.trans (BC.mono hw2))
  · have hb1 : (ckC n N m P K d x != 0) = true := by simpa using hc
    have H3 := Lib.hid (show rcN n N m P K d x = 0 by unfold rcN; rw [if_neg hc])
    clear hc
    go_wp2_with fail
    go_ret2
    exact li_err H3.out rfl rfl B1
end Go.Proofs.Ytfkacpphdnlkfaa.mem
