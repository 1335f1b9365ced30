/-
  isStep, RelaxFlows, both. Conditions: as each states.
-/
import Derived.Test.YtdbgcbkmcbgdiaaGreatRows
import Derived.Test.YtdbgcbkmcbgdiaaGreatLrr
import Derived.Test.YtdbgcbkmcbgdiaaGreatElM
namespace Go.Proofs.YtdbgcbkmcbgdiaaGreat.mem
open Go.RowKit
set_option linter.unusedVariables false

def LIIPost (w : World) (cnt : Nat) (d : Nat → Int) (a c : Int) (e : Ending) (w' : World) : Prop :=
  ∃ v g, e = .returned (.tuple #[v, .int .i64 a, .int .i64 c]) ∧ OwnS w' v cnt 1 (fun i _ => .int .i64 (d i)) g ∧ w.heap.size ≤ g ∧ Below w.heap.size w w'
theorem lii_err {w w' : World} {cnt : Nat} {d : Nat → Int} {a c c' : Int} {e : Ending} (h0 : cnt = 0) (ha : a = 0) (hc : c = c') (he : e = .returned (.tuple #[.slice none 0 0, .int .i64 0, .int .i64 c])) (hb : Below w.heap.size w w') : LIIPost w cnt d a c' e w' := by
  subst h0 hc ha
  exact ⟨_, w.heap.size, he, OwnS.none_ _ _ _ _, Nat.le_refl _, hb⟩
theorem lii_ok {w w' : World} {v : Value} {cnt n g : Nat} {d : Nat → Int} {a a' c c' : Int} {e : Ending} (h0 : n = cnt) (ha : a = a') (hc : c = c') (he : e = .returned (.tuple #[v, .int .i64 a, .int .i64 c])) (h : Own w' v n d g) (hg : w.heap.size ≤ g) (hb : Below w.heap.size w w') : LIIPost w cnt d a' c' e w' := by
  subst h0 ha hc
  exact ⟨v, g, he, h.ownS, hg, hb⟩
noncomputable def rfC (n : Nat) (N : Nat → Nod) (m : Nat) (P : Nat → Pip) (K : Nat) (d : Nat → Int) (st : Int) : Int := if flC n N m P K d = 0 then (if stB st = true then 0 else 2) else flC n N m P K d
def rfR (n : Nat) (m : Nat) (P : Nat → Pip) (d : Nat → Int) (st : Int) : (Nat → Int) × Int := rlx m P (fun i => cyc P (fE n P m) (fD n P m) (chS n P m i)) (chN n P m) d st
noncomputable def rfN (n : Nat) (N : Nat → Nod) (m : Nat) (P : Nat → Pip) (K : Nat) (d : Nat → Int) (st : Int) : Nat := if rfC n N m P K d st = 0 then m else 0
noncomputable def rfM (n : Nat) (N : Nat → Nod) (m : Nat) (P : Nat → Pip) (K : Nat) (d : Nat → Int) (st : Int) : Int := if rfC n N m P K d st = 0 then (rfR n m P d st).2 else 0
theorem bits_and_i64_nat (a b : Nat) (ha : a < 4294967296) (hb : b < 4294967296) : bits .and .i64 (a : Int) (b : Int) = ((a &&& b : Nat) : Int) := by
  have hx : a &&& b < 2 ^ 32 := Nat.and_lt_two_pow _ (by omega)
  have h1 : (BitVec.ofInt 64 (a : Int)).toNat = a := by
    rw [BitVec.ofInt_natCast, BitVec.toNat_ofNat]; exact Nat.mod_eq_of_lt (by omega)
  have h2 : (BitVec.ofInt 64 (b : Int)).toNat = b := by
    rw [BitVec.ofInt_natCast, BitVec.toNat_ofNat]; exact Nat.mod_eq_of_lt (by omega)
  show IntKind.i64.wrap ((BitVec.ofInt 64 (a : Int) &&& BitVec.ofInt 64 (b : Int)).toNat : Int) = _
  rw [BitVec.toNat_and, h1, h2]
  exact IntWalk.i64_in _ (by omega)
theorem stB_no {x : Int} (h : inR x 1 32768 = false) : stB x = false := by
  cases hs : stB x
  · rfl
  · have h1 := stB_rng hs
    rw [inR_iff.2 h1] at h
    exact absurd h (by simp)
theorem isStep_any (x : Int) (w : World) : Calls Tryz.prog 93 #[.int .i64 x] w fun e w' => e = .returned (.bool (stB x)) ∧ w = w' := by
  cases hx : inR x 1 32768
  · have HS := Lib.hid (stB_no hx)
    have HX := Lib.hid hx
    clear hx
    go_enter Tryz.func93, Tryz.ntmps93
    go_wp2_with (go_at_call 109; refine (inRange_any _ _ _ _).mono ?_; rintro e w' ⟨rfl, rfl⟩; rw [HX.out])
    go_ret
    exact ⟨ret_b HS.out.symm, rfl⟩
  · obtain ⟨h0, h1⟩ := inR_iff.1 hx
    have HX := Lib.hid hx
    obtain ⟨k, rfl⟩ := Int.eq_ofNat_of_zero_le (show 0 ≤ x by omega)
    have hw : IntKind.i64.wrap ((k : Int) - 1) = (k : Int) - 1 := IntWalk.i64_in _ (by omega)
    have hb : bits .and .i64 (k : Int) ((k : Int) - 1) = ((k &&& (k - 1) : Nat) : Int) := by
      rw [show (k : Int) - 1 = ((k - 1 : Nat) : Int) by omega]
      exact bits_and_i64_nat _ _ (by omega) (by omega)
    have hp := and_p2 16 k (by omega) (by have : (2 : Nat) ^ 16 = 65536 := by decide
                                          omega)
    have hs : stB (k : Int) = p2N 16 k := by
      unfold stB
      rw [Int.toNat_natCast, decide_eq_true (show (0 : Int) < (k : Int) by omega), Bool.and_true]
    clear hx
    cases h2 : p2N 16 k
    · have HS := Lib.hid (hs.trans h2)
      have hq : (((k &&& (k - 1) : Nat) : Int) == 0) = false := by
        have : ¬ (k &&& (k - 1)) = 0 := fun e => by rw [hp.1 e] at h2; exact absurd h2 (by simp)
        simpa using this
      clear hp hs h2
      go_enter Tryz.func93, Tryz.ntmps93
      go_wp2_with (go_at_call 109; refine (inRange_any _ _ _ _).mono ?_; rintro e w' ⟨rfl, rfl⟩; rw [HX.out])
      go_ret
      exact ⟨ret_b HS.out.symm, rfl⟩
    · have HS := Lib.hid (hs.trans h2)
      have hq : (((k &&& (k - 1) : Nat) : Int) == 0) = true := by
        have := hp.2 h2
        rw [this]
        rfl
      clear hp hs h2
      go_enter Tryz.func93, Tryz.ntmps93
      go_wp2_with (go_at_call 109; refine (inRange_any _ _ _ _).mono ?_; rintro e w' ⟨rfl, rfl⟩; rw [HX.out])
      go_ret
      exact ⟨ret_b HS.out.symm, rfl⟩
theorem stB_pow {x : Int} : stB x = true ↔ ∃ j : Nat, j < 16 ∧ x = ((2 ^ j : Nat) : Int) := by
  unfold stB
  rw [Bool.and_eq_true, p2N_pow, decide_eq_true_iff]
  constructor
  · rintro ⟨⟨j, hj, e⟩, h0⟩
    exact ⟨j, hj, by omega⟩
  · rintro ⟨j, hj, e⟩
    have h1 : 0 < 2 ^ j := Nat.pow_pos (by omega)
    exact ⟨⟨j, hj, by omega⟩, by omega⟩
theorem info_nf : (Tryz.prog.info? 115).map (fun i => (i.zero, i.size, i.bytes)) = some (some (.agg (nfL (.slice none 0 0) (.slice none 0 0) fun _ => 0).toArray), 42, 368) := by kernel_rfl
theorem run_allocN (w : World) : (Instr.alloc 115 true (.tuple #[])).run Tryz.prog w = .ok (.pointer (some ⟨w.heap.size, 0, none⟩)) (w.alloc (.cells (nfL (.slice none 0 0) (.slice none 0 0) fun _ => 0).toArray 115)) := by
  obtain ⟨i0, hi0, hz0, hz1, hz2⟩ := info_parts info_nf
  simp [Instr.alloc, zeroValue, typeInfo, hi0, hz0, newVar, newRow, Value.cells]
/-- flows with their network, all zero -/
theorem wpList_allocN {ops : Array Oper} {rest : List Oper} {o : Oper} {a : Act} {w : World} {Q : Exit → Act → World → Prop} (hg : o.guard = none) (ho : o.op = .alloc 115)
    (h : wpList Tryz.prog ops Q rest (a.put o.dst (.pointer (some ⟨w.heap.size, 0, none⟩))) (w.alloc (.cells (nfL (.slice none 0 0) (.slice none 0 0) fun _ => 0).toArray 115))) : wpList Tryz.prog ops Q (o :: rest) a w := by
  refine wpList_plain hg fun K hK => ?_
  unfold Oper.wp execOp
  simp only [ho, Sem.run_bind, run_allocN, Result.andThen_ok]
  exact hK _ _ h
set_option maxRecDepth 100000 in
set_option maxHeartbeats 8000000 in
theorem relaxFlowsI_any (w : World) (v : Value) (n : Nat) (N : Nat → Nod) (m : Nat) (P : Nat → Pip) (lo hi : Nat) (h : NetAt w v n N m P lo hi) (hhi : hi ≤ w.heap.size) (hN : ∀ i, i < n → (N i).s.size ≤ 9223372036854775807) (va : Value) (K : Nat) (d : Nat → Int) (la ha : Nat) (hv : Sl w va K d la ha) (hha : ha ≤ w.heap.size) (hK9 : K ≤ 9223372036854775807)  (st : Int) :
    Calls Tryz.prog 45 #[v, va, .int .i64 st] w (LIIPost w (rfN n N m P K d st) (rfR n m P d st).1 (rfM n N m P K d st) (rfC n N m P K d st)) := by
  obtain ⟨p0, c0, p1, c1, rfl, hn9, hm9⟩ := h.parts
  have HV := Lib.hid h
  have HN := Lib.hid hN
  have HSV := Lib.hid hv
  obtain ⟨pa, ca, rfl⟩ := hv.sh
  have A0 := (boxed w (.slice p0 n c0) (.slice p1 m c1) 27).keep (Below.heap_alloc _ (.cells #[.slice pa K ca] 28) _ (by rw [szal]; omega))
  have B0 := (below_new w (.cells #[.slice p0 n c0, .slice p1 m c1] 27)).trans ((below_new _ (.cells #[.slice pa K ca] 28)).mono (by rw [szal]; omega))
  have hs0 : ((w.alloc (.cells #[.slice p0 n c0, .slice p1 m c1] 27)).alloc (.cells #[.slice pa K ca] 28)).heap.size = w.heap.size + 1 + 1 := by simp
  have y0' := cell_newV (w.alloc (.cells #[.slice p0 n c0, .slice p1 m c1] 27)) (.slice pa K ca) 28
  simp only [szal] at y0'
  clear h hN hv
  go_enter Tryz.func45, Tryz.ntmps45
  have e0' := A0.b0
  have e1' := A0.b1
  go_wp2_with fail
  refine (checkFlows_any _ _ n N m P lo hi (HV.out.below B0 hhi) (by omega) HN.out _ _ y0' (by omega) K d la ha (HSV.out.below B0 hha) (by omega) hK9).mono ?_
  rintro e w1 ⟨rfl, b1⟩
  have A1 := A0.below b1 (by omega)
  have B1 := B0.trans (b1.mono (by omega))
  have hs1 := b1.size
  have e0 := A1.b0
  have e1 := A1.b1
  have e2 : w.heap.size < w1.heap.size := by omega
  clear A0 B0 b1 e0' e1'
  by_cases hc : flC n N m P K d = 0
  · obtain ⟨hB, rfl, hf⟩ := flC_ok hc
    have hm40 := (net_sz hB).2.2
    have HB := Lib.hid hB
    have HC := Lib.hid hc
    have HF := Lib.hid (show ∀ k, k < K → -30000 ≤ d k ∧ d k ≤ 30000 from fun k hk => flQ_iff.1 (flB_iff.1 hf k hk))
    rw [hc]
    clear hc hB hf
    cases hst : stB st
    · have H4 := Lib.hid (show rfC n N K P K d st = 2 by unfold rfC; rw [if_pos HC.out, hst]; rfl)
      have H3 := Lib.hid (show rfN n N K P K d st = 0 by unfold rfN; rw [H4.out]; rfl)
      have H2 := Lib.hid (show rfM n N K P K d st = 0 by unfold rfM; rw [H4.out]; rfl)
      go_wp2_with (go_at_call 93; refine (isStep_any _ _).mono ?_; rintro e w' ⟨rfl, rfl⟩; rw [hst])
      go_ret3
      exact lii_err H3.out H2.out H4.out.symm rfl B1
    · have H4 := Lib.hid (show rfC n N K P K d st = 0 by unfold rfC; rw [if_pos HC.out, hst]; rfl)
      have H3 := Lib.hid (show rfN n N K P K d st = K by unfold rfN; rw [H4.out]; rfl)
      have H2 := Lib.hid (show rfM n N K P K d st = (rfR n K P d st).2 by unfold rfM; rw [H4.out]; rfl)
      have hsr := stB_rng hst
      have HREL := Lib.hid (fun (W : World) (hW : Below w.heap.size w W) => relaxedFrom_any W p0 p1 c0 c1 n N K P lo hi (HV.out.below hW hhi) (Nat.le_trans hhi hW.size) HB.out d HF.out st hsr)
      have hRR : rlx K P (fun i => cyc P (fE n P K) (fD n P K) (chS n P K i)) (chN n P K) d st = rfR n K P d st := rfl
      rw [hRR] at HREL
      clear hRR
      generalize hr : rfR n K P d st = r at *
      have HRE := Lib.hid hr
      clear hr
      go_upto_region 7 with (first
        | (go_at_call 93; refine (isStep_any _ _).mono ?_; rintro e w' ⟨rfl, rfl⟩; rw [hst])
        | (go_at_call 94; refine (withFlows_any _ p0 p1 c0 c1 n K _ K d la ha (HSV.out.below B1 hha) (by omega) hm40).mono ?_; rintro e wX ⟨rfl, hbX⟩; have zX := hbX.size; have BX := B1.trans (hbX.mono (by omega)))
        | (go_at_call 95; refine (HREL.out wX BX).mono ?_; rintro e wY ⟨rfl, hbY⟩; have zY := hbY.size; have BY := BX.trans (hbY.mono BX.size); have tY := (Ob.newN wY (.slice none 0 0) (.slice none 0 0) (fun _ => 0) 115).there)
        | (refine wpList_allocN rfl rfl ?_)
        | (refine wpList_stN rfl _ _ rfl wY.heap.size (.slice p0 n c0) (.slice p1 K c1) (pad K r.1) rfl rfl rfl rfl tY ?_; obtain ⟨wZ, hwZ⟩ : ∃ wZ, (wY.alloc (.cells (nfL (.slice none 0 0) (.slice none 0 0) fun _ => 0).toArray 115)).setCells wY.heap.size 0 (nfL (.slice p0 n c0) (.slice p1 K c1) (pad K r.1)) = wZ := ⟨_, rfl⟩; rw [hwZ]; have HWZ := Lib.hid hwZ; clear hwZ))
      have C0 := (Ob.newN wY (.slice none 0 0) (.slice none 0 0) (fun _ => 0) 115).nput (.slice p0 n c0) (.slice p1 K c1) (pad K r.1)
      have bZ := (below_new wY (.cells (nfL (.slice none 0 0) (.slice none 0 0) fun _ => 0).toArray 115)).trans (((Only.refl wY.heap.size (wY.alloc (.cells (nfL (.slice none 0 0) (.slice none 0 0) fun _ => 0).toArray 115))).setCs (nfL (.slice p0 n c0) (.slice p1 K c1) (pad K r.1)) 0).below (Nat.le_refl _))
      rw [HWZ.out] at C0 bZ
      clear tY
      have sZ := bZ.size
      have BZ := BY.trans (bZ.mono BY.size)
      have bYZ := (hbX.trans (hbY.mono zX)).trans (bZ.mono (by omega))
      have f0 := (A1.below bYZ (by omega)).b0
      have f1 := (A1.below bYZ (by omega)).b1
      have g2 := C0.nrange
      obtain ⟨Lx, hLx, eLx⟩ : ∃ L : List Value, arr (pad K r.1) = List.toArray L ∧ L = arrL (pad K r.1) := ⟨_, rfl, rfl⟩
      rw [← eLx] at g2
      have nLx : Lx.length = 40 := by rw [eLx, arr_len]
      have HLx := Lib.hid hLx
      obtain ⟨bq, hbq⟩ : ∃ bq, wY.heap.size = bq := ⟨_, rfl⟩
      rw [hbq] at g2 ⊢
      clear hLx eLx e0 e1 bYZ A1 B1 BX BY hbX hbY bZ hbq C0
      go_wp2_with (first
        | (refine wpList_ldF rfl _ rfl bq 2 Lx rfl nLx g2 ?_)
        | (go_at_call 96; rw [← HLx.out]; refine (listOf_any _ p0 p1 n K c0 c1 _ hm40).mono ?_; rintro e wL ⟨v5, g5, rfl, o5, hg5, hb5⟩))
      go_ret3
      exact lii_ok H3.out.symm H2.out.symm H4.out.symm rfl (o5.congr (fun k hk => by rw [HRE.out]; exact pad_at hk)) (by have := BZ.size; omega) (BZ.trans (hb5.mono BZ.size))
  · have hb1 : (flC n N m P K d != 0) = true := by simpa using hc
    have H4 := Lib.hid (show rfC n N m P K d st = flC n N m P K d by unfold rfC; rw [if_neg hc])
    have H3 := Lib.hid (show rfN n N m P K d st = 0 by unfold rfN; rw [H4.out, if_neg hc])
    have H2 := Lib.hid (show rfM n N m P K d st = 0 by unfold rfM; rw [H4.out, if_neg hc])
    clear hc
    go_wp2_with fail
    go_ret3
    exact lii_err H3.out H2.out H4.out.symm rfl B1
end Go.Proofs.YtdbgcbkmcbgdiaaGreat.mem
