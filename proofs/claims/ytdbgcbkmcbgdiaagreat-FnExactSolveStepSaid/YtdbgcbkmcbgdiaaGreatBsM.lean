/-
  Several texts in one: Bss, Bst, Bsu, Bsv.
-/
import Derived.Test.YtdbgcbkmcbgdiaaGreatRows
import Derived.Test.YtdbgcbkmcbgdiaaGreatCsM
import Derived.Test.YtdbgcbkmcbgdiaaGreatBaM
import Derived.BigQuiet
import Derived.Deep.Cut
namespace Go.Proofs.YtdbgcbkmcbgdiaaGreat.mem
open Go.RowKit
set_option linter.unusedVariables false

theorem l06Supply_any (w : World) (x : Int) : Calls Tryz.prog 97 #[.int .i64 x] w fun e w' => e = .returned (.bool (flQ x)) ∧ w = w' := by
  unfold flQ
  go_enter Tryz.func97, Tryz.ntmps97
  go_wp2_with (go_at_call 117; refine (l01In_any _ _ _ _).mono ?_; rintro e w' ⟨rfl, rfl⟩)
  go_ret
  exact ⟨rfl, rfl⟩
set_option maxRecDepth 100000 in
set_option maxHeartbeats 8000000 in
theorem l06List_any (w : World) (p0 p1 : Option Addr) (n m c0 c1 : Nat) (va : Value) (K : Nat) (d : Nat → Int) (la ha : Nat) (hv : Sl w va K d la ha) (hha : ha ≤ w.heap.size) (hK9 : K ≤ 9223372036854775807) (hn9 : n ≤ 9223372036854775807) :
    Calls Tryz.prog 47 #[.agg #[.slice p0 n c0, .slice p1 m c1], va] w fun e w' => e = .returned (.bool (liB n K d)) ∧ Below w.heap.size w w' := by
  have A0 := boxed w (.slice p0 n c0) (.slice p1 m c1) 27
  have B0 := Lib.hid (below_new w (.cells #[.slice p0 n c0, .slice p1 m c1] 27))
  have H1 := Lib.hid (hv.below B0.out hha)
  obtain ⟨p, cap, rfl, hc⟩ := hv.below B0.out hha
  have HC := Lib.hid hc
  have e1 := A0.b0
  clear hc A0 hv
  go_enter Tryz.func47, Tryz.ntmps47
  go_wp2_with fail
  obtain ⟨w1, hw1⟩ : ∃ w1, w.alloc (.cells #[.slice p0 n c0, .slice p1 m c1] 27) = w1 := ⟨_, rfl⟩
  rw [hw1] at B0 HC e1 ⊢
  clear hw1 H1
  go_loopw [5] (fun iv wr => ∃ k : Nat, iv = .int .i64 k ∧ k ≤ K ∧ flB d k = true ∧ wr = w1) (fun iv _ => K - (intOf iv).toNat)
  case atStart => exact ⟨0, rfl, Nat.zero_le _, rfl, rfl⟩
  case round =>
    obtain ⟨k, rfl, hk, hb, rfl⟩ := hrel
    generalize hQ : Exit.then _ _ = Q
    have HQ := Lib.hid hQ
    clear hQ
    have HF := Lib.hid hb
    clear hb
    have k0 : (0 : Int) ≤ (k : Int) := Int.natCast_nonneg _
    by_cases hlt : k < K
    · have k1 : (k : Int) < (K : Int) := by omega
      obtain ⟨b, o, rfl, _, _, hx⟩ : ∃ b o, p = some ⟨b, o, none⟩ ∧ la ≤ b ∧ b < ha ∧ ∀ k, k < K → wr.cell? ⟨b, o + k, none⟩ = some (.int .i64 (d k)) := by
        rcases HC.out with e | e
        · omega
        · exact e
      have y0 := hx k hlt
      have HX := Lib.hid hx
      clear hx
      cases hq : flQ (d k)
      · have HR := Lib.hid (show liB n K d = false by unfold liB; rw [flB_no hlt hq]; rfl)
        go_wp2_with (go_at_call 97; refine (l06Supply_any _ _).mono ?_; rintro e w' ⟨rfl, rfl⟩; rw [hq])
        rw [← HQ.out]
        go_wp2_with fail
        go_ret
        exact ⟨ret_b HR.out.symm, B0.out⟩
      · have HR := Lib.hid (show flB d (k + 1) = true by unfold flB; rw [HF.out, hq]; rfl)
        go_wp2_with (go_at_call 97; refine (l06Supply_any _ _).mono ?_; rintro e w' ⟨rfl, rfl⟩; rw [hq])
        rw [← HQ.out]
        refine ⟨⟨_, _, _, _, _, _, _, _, _, _, _, _, _, _, ?rel, rfl⟩, ?measure⟩
        case rel => exact ⟨k + 1, by go_num, hlt, HR.out, rfl⟩
        case measure => simp [intOf]; omega
    · have hkn : K = k := by omega
      have HR := Lib.hid (show liB n K d = decide (K = n) by unfold liB; rw [hkn, HF.out]; rfl)
      have hb2 : ((K : Int) == (n : Int)) = decide (K = n) := by
        by_cases e : K = n
        · simp [e]
        · rw [decide_eq_false e]; simp; omega
      subst hkn
      have k1 : ¬ ((K : Int) < (K : Int)) := by omega
      go_wp2_with fail
      rw [← HQ.out]
      go_wp2_with fail
      go_ret
      refine ⟨ret_b ?_, B0.out⟩
      first | exact HR.out.symm | (rw [HR.out, ← hb2])
theorem l06Code_any (w : World) (v : Value) (n : Nat) (N : Nat → Nod) (m : Nat) (P : Nat → Pip) (lo hi : Nat) (h : NetAt w v n N m P lo hi) (hhi : hi ≤ w.heap.size) (hN : ∀ i, i < n → (N i).s.size ≤ 9223372036854775807) (va : Value) (K : Nat) (d : Nat → Int) (la ha : Nat) (hv : Sl w va K d la ha) (hha : ha ≤ w.heap.size) (hK9 : K ≤ 9223372036854775807) :
    Calls Tryz.prog 116 #[v, va] w fun e w' => e = .returned (.int .i64 (svC n N m P K d)) ∧ Below w.heap.size w w' := by
  obtain ⟨p0, c0, p1, c1, rfl, hn9, hm9⟩ := h.parts
  have HV := Lib.hid h
  have HN := Lib.hid hN
  have A0 := boxed w (.slice p0 n c0) (.slice p1 m c1) 27
  have B0 := below_new w (.cells #[.slice p0 n c0, .slice p1 m c1] 27)
  have hs0 : (w.alloc (.cells #[.slice p0 n c0, .slice p1 m c1] 27)).heap.size = w.heap.size + 1 := by simp
  clear h hN
  go_enter Tryz.func116, Tryz.ntmps116
  have e0' := A0.b0
  have e1' := A0.b1
  go_wp2_with fail
  refine (sIsNetwork_any _ _ n N m P lo hi (HV.out.below B0 hhi) (by omega) HN.out).mono ?_
  rintro e w1 ⟨rfl, b1⟩
  have A1 := A0.below b1 (by omega)
  have B1 := B0.trans (b1.mono (by omega))
  have hs1 := b1.size
  have e0 := A1.b0
  have e1 := A1.b1
  have e2 : w.heap.size < w1.heap.size := by omega
  clear A0 B0 b1 e0' e1'
  cases hB : netB n N m P
  · have H2 := Lib.hid (show svC n N m P K d = 1 by unfold svC; rw [hB]; rfl)
    clear hB
    go_wp2_with fail
    go_ret
    exact ⟨ret_i H2.out.symm, B1⟩
  · have H1 := Lib.hid (hv.below B1 hha)
    cases hl : liB n K d
    · have H2 := Lib.hid (show svC n N m P K d = 3 by
        unfold svC
        rw [hB, if_pos rfl, if_neg (fun g => by rw [liB_iff.2 g] at hl; cases hl)])
      clear hB
      go_wp2_with (go_at_call 47; refine (l06List_any _ p0 p1 n m c0 c1 _ K d _ _ H1.out (by omega) hK9 hn9).mono ?_; rintro e w4 ⟨rfl, hb4⟩; rw [hl])
      go_ret
      exact ⟨ret_i H2.out.symm, B1.trans (hb4.mono (by omega))⟩
    · have H2 := Lib.hid (show svC n N m P K d = 0 by
        unfold svC
        rw [hB, if_pos rfl, if_pos (liB_iff.1 hl)])
      clear hB
      go_wp2_with (go_at_call 47; refine (l06List_any _ p0 p1 n m c0 c1 _ K d _ _ H1.out (by omega) hK9 hn9).mono ?_; rintro e w4 ⟨rfl, hb4⟩; rw [hl])
      go_ret
      exact ⟨ret_i H2.out.symm, B1.trans (hb4.mono (by omega))⟩
set_option maxRecDepth 100000 in
set_option maxHeartbeats 8000000 in
theorem l05OutO_any (w : World) (v : Value) (n : Nat) (N : Nat → Nod) (m : Nat) (P : Nat → Pip) (lo hi : Nat) (h : NetAt w v n N m P lo hi) (hhi : hi ≤ w.heap.size) (hN : ∀ i, i < n → (N i).s.size ≤ 9223372036854775807) (hB : netB n N m P = true) (va : Value) (d : Nat → Int) (la ha : Nat) (hv : Sl w va m d la ha) (hha : ha ≤ w.heap.size) (hf : flB d m = true) :
    Calls Tryz.prog 48 #[v, va] w fun e w' => ∃ g, e = .returned (.slice (some ⟨g, 0, none⟩) n n) ∧ Ob w' g n (ia (suD m P d)) ∧ w.heap.size ≤ g ∧ Below w.heap.size w w' := by
  obtain ⟨p0, c0, p1, c1, rfl, hn9, hm9⟩ := h.parts
  obtain ⟨hn1, hn24, hm40⟩ := net_sz hB
  have HV := Lib.hid h
  have HPI := Lib.hid (fun a (ha : a < m) => pip_end (net_pip hB ha))
  have HFR := Lib.hid (show ∀ i, i < m → -30000 ≤ d i ∧ d i ≤ 30000 from fun i hi => flQ_iff.1 (flB_iff.1 hf i hi))
  obtain ⟨pa, ca, rfl, hva⟩ := hv
  have HVZ := Lib.hid hva
  have A0 := (boxed w (.slice p0 n c0) (.slice p1 m c1) 27).keep (Below.heap_alloc _ (.cells (zeros n) 2) _ (by simp only [World.size_alloc]; omega))
  have G0 := Ob.zeros (w.alloc (.cells #[.slice p0 n c0, .slice p1 m c1] 27)) n
  simp only [World.size_alloc] at G0
  have B0 := (below_new w (.cells #[.slice p0 n c0, .slice p1 m c1] 27)).trans ((below_new _ (.cells (zeros n) 2)).mono (by simp only [World.size_alloc]; omega))
  have e0' := (boxed w (.slice p0 n c0) (.slice p1 m c1) 27).b0
  have m1 := fun W => make_int64 W n (by omega)
  have n0 : (0 : Int) ≤ (n : Int) := Int.natCast_nonneg _
  have HA := Lib.hid A0
  have HG := Lib.hid G0
  have HBB := Lib.hid B0
  clear h hN hB A0 G0 B0 hva hf
  go_enter Tryz.func48, Tryz.ntmps48
  go_wp2_with fail
  generalize hW : (w.alloc (.cells #[.slice p0 n c0, .slice p1 m c1] 27)).alloc (.cells (zeros n) 2) = w2 at *
  clear hW m1 e0'
  go_loopw [6] (fun iv wr => ∃ k : Nat, iv = .int .i64 k ∧ k ≤ m ∧ Ob wr (w.heap.size + 1) n (ia (fun z => dv P d k ((z : Nat) : Int))) ∧ Ob wr w.heap.size 2 (bx (.slice p0 n c0) (.slice p1 m c1)) ∧ Below w.heap.size w wr) (fun iv _ => m - (intOf iv).toNat)
  case atStart => exact ⟨0, rfl, Nat.zero_le _, HG.out.congr (fun k _ => rfl), HA.out, HBB.out⟩
  case round =>
    obtain ⟨k, rfl, hk, og, oa, hb⟩ := hrel
    clear HA HG HBB
    have HG := Lib.hid og
    have HA := Lib.hid oa
    have HBB := Lib.hid hb
    clear og oa hb
    generalize hQ : Exit.then _ _ = Q
    have HQ := Lib.hid hQ
    clear hQ
    have k0 : (0 : Int) ≤ (k : Int) := Int.natCast_nonneg _
    have lg := HG.out.lt
    by_cases hlt : k < m
    · have k1 : (k : Int) < (m : Int) := by omega
      obtain ⟨bp, op, rfl, q1, q2, r0, r1, r2, r3, r4⟩ := (HV.out.below HBB.out hhi).pipe hlt
      obtain ⟨ba, oa, rfl, g1, g2, hx⟩ : ∃ b o, pa = some ⟨b, o, none⟩ ∧ la ≤ b ∧ b < ha ∧ ∀ k, k < m → w.cell? ⟨b, o + k, none⟩ = some (.int .i64 (d k)) := by
        rcases HVZ.out with e | e
        · omega
        · exact e
      have ya : wr.cell? ⟨ba, oa + k, none⟩ = some (.int .i64 (d k)) := (HBB.out.cell (p := ⟨ba, oa + k, none⟩) (by show ba < w.heap.size; omega)).trans (hx k hlt)
      have HX := Lib.hid hx
      clear hx r2 r3 r4
      obtain ⟨hf0, ht0, hne⟩ := HPI.out k hlt
      obtain ⟨f, hf⟩ := Int.eq_ofNat_of_zero_le hf0.1
      obtain ⟨t, ht⟩ := Int.eq_ofNat_of_zero_le ht0.1
      rw [hf] at r0 hf0 hne
      rw [ht] at r1 ht0 hne
      have HFE := Lib.hid hf
      have HTE := Lib.hid ht
      clear hf ht
      have f0 := hf0.1
      have f1 := hf0.2
      have t0 := ht0.1
      have t1 := ht0.2
      have hfn : f < n := by omega
      have htn : t < n := by omega
      have e1 : wr.cell? ⟨w.heap.size, 1, none⟩ = some (.slice (some ⟨bp, op, none⟩) m c1) := HA.out.b1
      have yf : wr.cell? ⟨w.heap.size + 1, f, none⟩ = some (.int .i64 (dv P d k ((f : Nat) : Int))) := HG.out.cell f hfn
      have yz := HG.out.free f
      have hd := HFR.out k hlt
      have hb1 := dv_bd (P := P) (x := d) (z := ((f : Nat) : Int)) (k := k) (fun i hi => HFR.out i (by omega))
      have hb2 := dv_bd (P := P) (x := d) (z := ((t : Nat) : Int)) (k := k) (fun i hi => HFR.out i (by omega))
      have a1 : -4611686018427387904 ≤ dv P d k ((f : Nat) : Int) + d k ∧ dv P d k ((f : Nat) : Int) + d k ≤ 4611686018427387904 := by omega
      have a2 : -4611686018427387904 ≤ dv P d k ((t : Nat) : Int) - d k ∧ dv P d k ((t : Nat) : Int) - d k ≤ 4611686018427387904 := by omega
      clear hb1 hb2 hd hf0 ht0
      have hftN : f ≠ t := by omega
      have bne : bp ≠ w.heap.size + 1 := by omega
      have bna : ba ≠ w.heap.size + 1 := by omega
      have o1 := (Only.refl (w.heap.size + 1) wr).setCell f (.int .i64 (dv P d k ((f : Nat) : Int) + d k))
      have G1 := HG.out.setIn f (dv P d k ((f : Nat) : Int) + d k) hfn
      have wne : w.heap.size ≠ w.heap.size + 1 := by omega
      have z1 := (o1.cell (a := ⟨w.heap.size, 1, none⟩) wne).trans e1
      have z2 := (o1.cell (a := ⟨bp, op + k * 5, none⟩) bne).trans r0
      have z3 := (o1.cell (a := ⟨bp, op + k * 5 + 1, none⟩) bne).trans r1
      have z4 := (o1.cell (a := ⟨ba, oa + k, none⟩) bna).trans ya
      have Z1 := Lib.hid z1
      have Z2 := Lib.hid z2
      have Z3 := Lib.hid z3
      have Z4 := Lib.hid z4
      have H1 := Lib.hid a2
      have HR1 := Lib.hid r1
      clear z1 z2 z3 z4 a2 r1
      go_wp2_with fail
      go_still_tail 22, (by kernel_rfl)
      change wpList _ _ _ _ _ wr.drew
      go_wp2_with fail
      have ht2 : (ia (upd (fun z => dv P d k ((z : Nat) : Int)) f (dv P d k ((f : Nat) : Int) + d k))) t = .int .i64 (dv P d k ((t : Nat) : Int)) := by
        unfold ia upd
        rw [if_neg (fun e => hftN e.symm)]
      have G1d : Ob (wr.setCell ⟨w.heap.size + 1, f, none⟩ (.int .i64 (dv P d k ((f : Nat) : Int) + d k))).drew (w.heap.size + 1) n (ia (upd (fun z => dv P d k ((z : Nat) : Int)) f (dv P d k ((f : Nat) : Int) + d k))) := G1.keep rfl
      have OD := o1.below (B := w.heap.size) (by omega)
      obtain ⟨w3, hw3⟩ : ∃ w3, (wr.setCell ⟨w.heap.size + 1, f, none⟩ (.int .i64 (dv P d k ((f : Nat) : Int) + d k))).drew = w3 := ⟨_, rfl⟩
      have e1' : w3.cell? ⟨w.heap.size, 1, none⟩ = some (.slice (some ⟨bp, op, none⟩) m c1) := by rw [← hw3]; exact Z1.out
      have r1' : w3.cell? ⟨bp, op + k * 5 + 1, none⟩ = some (.int .i64 (t : Nat)) := by rw [← hw3]; exact Z3.out
      have ya' : w3.cell? ⟨ba, oa + k, none⟩ = some (.int .i64 (d k)) := by rw [← hw3]; exact Z4.out
      have yf' : w3.cell? ⟨w.heap.size + 1, t, none⟩ = some (.int .i64 (dv P d k ((t : Nat) : Int))) := by rw [← hw3, G1d.cell t htn, ht2]
      have oa3 : Ob w3 w.heap.size 2 (bx (.slice p0 n c0) (.slice (some ⟨bp, op, none⟩) m c1)) := by rw [← hw3]; exact (HA.out.only o1 (by omega)).keep rfl
      have b3 : Below w.heap.size w w3 := by rw [← hw3]; exact below_drw (HBB.out.trans OD)
      rw [hw3] at G1d ⊢
      clear hw3 e1 r0 ya yf yz o1 G1 Z1 Z2 Z3 Z4 HR1 OD a1 ht2
      have yz := G1d.free t
      have a2 := H1.out
      have HA3 := Lib.hid oa3
      have HB3 := Lib.hid b3
      have HG3 := Lib.hid G1d
      clear oa3 b3 G1d
      have o2 := (Only.refl (w.heap.size + 1) w3).setCell t (.int .i64 (dv P d k ((t : Nat) : Int) - d k))
      have z1 := Lib.hid ((o2.cell (a := ⟨w.heap.size, 1, none⟩) wne).trans e1')
      have z2 := Lib.hid ((o2.cell (a := ⟨bp, op + k * 5 + 1, none⟩) bne).trans r1')
      have z4 := Lib.hid ((o2.cell (a := ⟨ba, oa + k, none⟩) bna).trans ya')
      have G2 := Lib.hid (HG3.out.setIn t (dv P d k ((t : Nat) : Int) - d k) htn)
      have OA2 := Lib.hid (HA3.out.only o2 (by omega))
      have OB2 := Lib.hid (HB3.out.trans (o2.below (B := w.heap.size) (by omega)))
      clear o2
      go_still_tail 22, (by kernel_rfl)
      change wpList _ _ _ _ _ w3.drew
      go_wp2_with fail
      clear e1' r1' ya' yf' yz a2
      rw [← HQ.out]
      refine ⟨⟨_, _, _, _, _, _, _, _, _, _, _, _, _, _, _, _, _, _, _, _, _, _, _, _, _, _, _, _, _, _, _, _, _, _, _, _, _, _, _, _, _, _, _, _, _, _, _, _, _, _, _, ?rel, rfl⟩, ?measure⟩
      case rel =>
        refine ⟨k + 1, by go_num, hlt, (G2.out.congr (fun z _ => ?_)).keep rfl, OA2.out.keep rfl, below_drw OB2.out⟩
        unfold ia upd
        dsimp only
        rw [dv, HFE.out, HTE.out]
        by_cases e : z = t
        · subst e
          rw [if_pos rfl, if_neg (show ¬ ((f : Nat) : Int) = ((z : Nat) : Int) by omega), if_pos rfl]
          congr 1
          omega
        · rw [if_neg e, if_neg (show ¬ ((t : Nat) : Int) = ((z : Nat) : Int) by omega)]
          by_cases e2 : z = f
          · subst e2
            rw [if_pos rfl, if_pos rfl]
            congr 1
            omega
          · rw [if_neg e2, if_neg (show ¬ ((f : Nat) : Int) = ((z : Nat) : Int) by omega)]
            congr 1
            omega
      case measure => simp [intOf]; omega
    · have hkn : m = k := by omega
      subst hkn
      have k1 : ¬ ((m : Int) < (m : Int)) := by omega
      go_wp2_with fail
      rw [← HQ.out]
      go_wp2_with fail
      go_ret
      exact ⟨w.heap.size + 1, rfl, HG.out, by omega, HBB.out⟩

theorem Ob.ownS1 {w : World} {b n : Nat} {x : Nat → Int} (h : Ob w b n (ia x)) (hn : n ≤ 9223372036854775807) : OwnS w (.slice (some ⟨b, 0, none⟩) n n) n 1 (fun i _ => .int .i64 (x i)) b :=
  ⟨_, n, rfl, Nat.le_refl _, hn, .inr ⟨rfl, ⟨n, ia x, by omega, h, fun i j hi hj => by
    obtain rfl : j = 0 := by omega
    show ia x (i * 1 + 0) = _
    rw [Nat.mul_one, Nat.add_zero]
    rfl⟩⟩⟩
theorem suN_le (n : Nat) (N : Nat → Nod) (m : Nat) (P : Nat → Pip) (K : Nat) (d : Nat → Int) (hn : n ≤ 2000000) : suN n N m P K d ≤ 2000000 := by
  unfold suN
  split <;> omega
/-- are the first k elements the same? -/
def smB (d e : Nat → Int) (k : Nat) : Bool := (List.range k).all (fun z => d z == e z)
theorem smB_succ (d e : Nat → Int) (k : Nat) : smB d e (k + 1) = (smB d e k && (d k == e k)) := by
  unfold smB
  rw [List.range_succ, List.all_append]
  simp
theorem smB_no {d e : Nat → Int} {n k : Nat} (hk : k < n) (h : (d k == e k) = false) : smB d e n = false := by
  unfold smB
  rw [List.all_eq_false]
  exact ⟨k, List.mem_range.2 hk, by simpa using h⟩
set_option maxRecDepth 100000 in
set_option maxHeartbeats 8000000 in
theorem l06Same_any (w : World) (va vb : Value) (n : Nat) (d : Nat → Int) (la ha : Nat) (hv : Sl w va n d la ha) (e : Nat → Int) (lb hb : Nat) (hu : Sl w vb n e lb hb) (hn : n ≤ 9223372036854775807) :
    Calls Tryz.prog 68 #[va, vb] w fun e' w' => e' = .returned (.bool (smB d e n)) ∧ Below w.heap.size w w' := by
  obtain ⟨pa, ca, rfl, hva⟩ := hv
  obtain ⟨pb, cb, rfl, hvb⟩ := hu
  have HVA := Lib.hid hva
  have HVB := Lib.hid hvb
  have hb0 : ((n : Int) != (n : Int)) = false := by simp
  clear hva hvb
  go_enter Tryz.func68, Tryz.ntmps68
  go_wp2_with fail
  go_loopw [5] (fun iv wr => ∃ k : Nat, iv = .int .i64 k ∧ k ≤ n ∧ smB d e k = true ∧ (∀ b o, wr.cell? ⟨b, o, none⟩ = w.cell? ⟨b, o, none⟩) ∧ Below w.heap.size w wr) (fun iv _ => n - (intOf iv).toNat)
  case atStart => exact ⟨0, rfl, Nat.zero_le _, rfl, fun _ _ => rfl, Below.refl _ _⟩
  case round =>
    obtain ⟨k, rfl, hk, hb', hce, hbl⟩ := hrel
    generalize hQ : Exit.then _ _ = Q
    have HQ := Lib.hid hQ
    clear hQ
    have HF := Lib.hid hb'
    have HCE := Lib.hid hce
    have HBL := Lib.hid hbl
    clear hb' hce hbl
    have k0 : (0 : Int) ≤ (k : Int) := Int.natCast_nonneg _
    by_cases hlt : k < n
    · have k1 : (k : Int) < (n : Int) := by omega
      obtain ⟨ba, oa, rfl, _, _, hx⟩ : ∃ b o, pa = some ⟨b, o, none⟩ ∧ la ≤ b ∧ b < ha ∧ ∀ k, k < n → w.cell? ⟨b, o + k, none⟩ = some (.int .i64 (d k)) := by
        rcases HVA.out with e | e
        · omega
        · exact e
      obtain ⟨bb, ob, rfl, _, _, hz⟩ : ∃ b o, pb = some ⟨b, o, none⟩ ∧ lb ≤ b ∧ b < hb ∧ ∀ k, k < n → w.cell? ⟨b, o + k, none⟩ = some (.int .i64 (e k)) := by
        rcases HVB.out with e | e
        · omega
        · exact e
      have y0 := (HCE.out ba (oa + k)).trans (hx k hlt)
      have y1 := (HCE.out bb (ob + k)).trans (hz k hlt)
      have HX := Lib.hid hx
      have HZ := Lib.hid hz
      clear hx hz
      cases hq : (d k == e k)
      · have HR := Lib.hid (smB_no hlt hq)
        have hq2 : (d k != e k) = true := by unfold bne; rw [hq]; rfl
        clear hq
        go_wp2_with fail
        go_quiet (fail)
        go_wp2_with fail
        rw [← HQ.out]
        go_wp2_with fail
        go_ret
        exact ⟨ret_b HR.out.symm, below_dN HBL.out _⟩
      · have HR := Lib.hid (show smB d e (k + 1) = true by rw [smB_succ, HF.out, hq]; rfl)
        have hq2 : (d k != e k) = false := by unfold bne; rw [hq]; rfl
        clear hq
        go_wp2_with fail
        go_quiet (fail)
        go_wp2_with fail
        rw [← HQ.out]
        refine ⟨⟨_, _, _, _, _, _, _, _, _, _, _, _, _, _, _, _, _, ?rel, rfl⟩, ?measure⟩
        case rel => exact ⟨k + 1, by go_num, hlt, HR.out, fun b o => HCE.out b o, below_dN HBL.out _⟩
        case measure => simp [intOf]; omega
    · have hkn : n = k := by omega
      have HR := Lib.hid (show smB d e n = true by rw [hkn]; exact HF.out)
      have k1 : ¬ ((k : Int) < (n : Int)) := by omega
      clear hkn
      go_wp2_with fail
      rw [← HQ.out]
      go_wp2_with fail
      go_ret
      exact ⟨ret_b HR.out.symm, HBL.out⟩
theorem svC_zero {n : Nat} {N : Nat → Nod} {m : Nat} {P : Nat → Pip} {K : Nat} {d : Nat → Int} (hB : netB n N m P = true) : decide (svC n N m P K d = 0) = liB n K d := by
  unfold svC
  rw [hB, if_pos rfl]
  cases hl : liB n K d
  · rw [if_neg (fun g => by rw [liB_iff.2 g] at hl; cases hl)]
    rfl
  · rw [if_pos (liB_iff.1 hl)]
    rfl
end Go.Proofs.YtdbgcbkmcbgdiaaGreat.mem

namespace Go.Proofs.YtdbgcbkmcbgdiaaGreat.mem
open Go.RowKit
set_option linter.unusedVariables false

set_option maxRecDepth 100000 in
set_option maxHeartbeats 8000000 in
theorem l06Even_any (w : World) (v : Value) (n : Nat) (N : Nat → Nod) (m : Nat) (P : Nat → Pip) (lo hi : Nat) (h : NetAt w v n N m P lo hi) (hhi : hi ≤ w.heap.size) (hN : ∀ i, i < n → (N i).s.size ≤ 9223372036854775807) (hB : netB n N m P = true) (va : Value) (s : Nat → Int) (la ha : Nat) (hv : Sl w va n s la ha) (hha : ha ≤ w.heap.size) (hf : flB s n = true) :
    Calls Tryz.prog 49 #[v, va] w fun e w' => e = .returned (.bool (evB n P m s)) ∧ Below w.heap.size w w' := by
  obtain ⟨p0, c0, p1, c1, rfl, hn9, hm9⟩ := h.parts
  obtain ⟨hn1, hn24, hm40⟩ := net_sz hB
  have HV := Lib.hid h
  have HN := Lib.hid hN
  have HB := Lib.hid hB
  have HFR := Lib.hid (show ∀ i, i < n → -30000 ≤ s i ∧ s i ≤ 30000 from fun i hi => flQ_iff.1 (flB_iff.1 hf i hi))
  obtain ⟨pa, ca, rfl, hva⟩ := hv
  have HVZ := Lib.hid hva
  have A0 := boxed w (.slice p0 n c0) (.slice p1 m c1) 27
  have B0 := below_new w (.cells #[.slice p0 n c0, .slice p1 m c1] 27)
  have hs0 : (w.alloc (.cells #[.slice p0 n c0, .slice p1 m c1] 27)).heap.size = w.heap.size + 1 := by simp
  have m1 := fun W => make_int64 W n (by omega)
  have n0 : (0 : Int) ≤ (n : Int) := Int.natCast_nonneg _
  clear h hN hB hva hf
  go_enter Tryz.func49, Tryz.ntmps49
  have e0' := A0.b0
  have e1' := A0.b1
  go_wp2_with fail
  refine (l04Components_any _ _ n N m P lo hi (HV.out.below B0 hhi) (by omega) HN.out HB.out).mono ?_
  rintro e w1 ⟨gc, rfl, hgc, oc, b1⟩
  have B1 := B0.trans (b1.mono (by omega))
  have hs1 := b1.size
  have b2 := below_new w1 (.cells (zeros n) 2)
  have lc := oc.lt
  have HS := Lib.hid (Ob.zeros w1 n)
  have HC := Lib.hid (oc.below b2 lc)
  have HBB := Lib.hid (B1.trans (b2.mono (by omega)))
  have hgl : w.heap.size < w1.heap.size := by omega
  clear A0 B0 e0' e1' b1 b2 oc B1 hs0 hs1 hgc
  go_wp2_with fail
  obtain ⟨w2, hw2⟩ : ∃ w2, w1.alloc (.cells (zeros n) 2) = w2 := ⟨_, rfl⟩
  obtain ⟨gs, hgs⟩ : ∃ gs, w1.heap.size = gs := ⟨_, rfl⟩
  rw [hw2] at HC HBB HS ⊢
  rw [hgs] at HS lc hgl ⊢
  clear hw2 hgs m1
  go_loopw [7] (fun iv wr => ∃ k : Nat, iv = .int .i64 k ∧ k ≤ n ∧ Ob wr gs n (ia (fun z => csm (cmpN n P m) s k ((z : Nat) : Int))) ∧ Ob wr gc n (tabC (cmp n P m n)) ∧ Below w.heap.size w wr) (fun iv _ => n - (intOf iv).toNat)
  case atStart => exact ⟨0, rfl, Nat.zero_le _, HS.out.congr (fun k _ => rfl), HC.out, HBB.out⟩
  case round =>
    obtain ⟨k, rfl, hk, os, oc, hb⟩ := hrel
    clear HS HC HBB
    have HS := Lib.hid os
    have HC := Lib.hid oc
    have HBB := Lib.hid hb
    clear os oc hb
    generalize hQ : Exit.then _ _ = Q
    have HQ := Lib.hid hQ
    clear hQ
    have k0 : (0 : Int) ≤ (k : Int) := Int.natCast_nonneg _
    by_cases hlt : k < n
    · have k1 : (k : Int) < (n : Int) := by omega
      obtain ⟨r, hr, hcr⟩ := cmp_nat (P := P) (m := m) HB.out hlt
      have yc : wr.cell? ⟨gc, k, none⟩ = some (.int .i64 (r : Nat)) := by rw [← hcr]; exact HC.out.cell k hlt
      obtain ⟨ba, oa, rfl, g1, g2, hx⟩ : ∃ b o, pa = some ⟨b, o, none⟩ ∧ la ≤ b ∧ b < ha ∧ ∀ k, k < n → w.cell? ⟨b, o + k, none⟩ = some (.int .i64 (s k)) := by
        rcases HVZ.out with e | e
        · omega
        · exact e
      have ya : wr.cell? ⟨ba, oa + k, none⟩ = some (.int .i64 (s k)) := (HBB.out.cell (p := ⟨ba, oa + k, none⟩) (by show ba < w.heap.size; omega)).trans (hx k hlt)
      have HX := Lib.hid hx
      clear hx
      have ys : wr.cell? ⟨gs, r, none⟩ = some (.int .i64 (csm (cmpN n P m) s k ((r : Nat) : Int))) := HS.out.cell r hr
      have yz := HS.out.free r
      have hb1 := csm_bd (R := cmpN n P m) (s := s) (z := ((r : Nat) : Int)) (k := k) (fun i hi => HFR.out i (by omega))
      have hd := HFR.out k hlt
      have a1 : -4611686018427387904 ≤ csm (cmpN n P m) s k ((r : Nat) : Int) + s k ∧ csm (cmpN n P m) s k ((r : Nat) : Int) + s k ≤ 4611686018427387904 := by omega
      have r0 : (0 : Int) ≤ (r : Int) := Int.natCast_nonneg _
      have r1 : (r : Int) < (n : Int) := by omega
      have HU := Lib.hid (show ∀ z : Nat, upd (fun z => csm (cmpN n P m) s k ((z : Nat) : Int)) r (csm (cmpN n P m) s k ((r : Nat) : Int) + s k) z = csm (cmpN n P m) s (k + 1) ((z : Nat) : Int) from fun z => by
        simp only [upd]
        rw [csm]
        unfold cmpN
        rw [hcr]
        by_cases e : z = r
        · subst e; rw [if_pos rfl, if_pos rfl]
        · rw [if_neg e, if_neg (show ¬ ((r : Nat) : Int) = ((z : Nat) : Int) by omega), Int.add_zero])
      have o1 := (Only.refl gs wr).setCell r (.int .i64 (csm (cmpN n P m) s k ((r : Nat) : Int) + s k))
      have HS1 := Lib.hid (HS.out.setIn r (csm (cmpN n P m) s k ((r : Nat) : Int) + s k) hr)
      have HC1 := Lib.hid (HC.out.only o1 (by omega))
      have HB1 := Lib.hid (HBB.out.trans (o1.below (B := w.heap.size) (by omega)))
      clear hb1 hd hcr o1
      go_wp2_with fail
      go_still_tail 18, (by kernel_rfl)
      change wpList _ _ _ _ _ wr.drew
      go_wp2_with fail
      rw [← HQ.out]
      refine ⟨⟨_, _, _, _, _, _, _, _, _, _, _, _, _, _, _, _, _, _, _, _, _, _, _, _, _, ?rel, rfl⟩, ?measure⟩
      case rel => exact ⟨k + 1, by go_num, hlt, (HS1.out.congr (fun z _ => by unfold ia; rw [HU.out z])).keep rfl, HC1.out.keep rfl, below_drw HB1.out⟩
      case measure => simp [intOf]; omega
    · have hkn : n = k := by omega
      have hr : Ob wr gs n (ia (fun z => csm (cmpN n P m) s n ((z : Nat) : Int))) := by
        have := HS.out
        rwa [← hkn] at this
      have HR := Lib.hid hr
      have k1 : ¬ ((k : Int) < (n : Int)) := by omega
      clear hkn hr
      go_wp2_with fail
      rw [← HQ.out]
      go_wp2_with fail
      refine (l05Zero_any _ _ n _ _ _ (HR.out.sl n n (Nat.le_refl _)) (by omega)).mono ?_
      rintro e w9 ⟨rfl, rfl⟩
      go_wp2_with fail
      go_ret
      exact ⟨rfl, HBB.out⟩
theorem absS_any (x : Int) (w : World) (h1 : -9223372036854775807 ≤ x) (h2 : x ≤ 9223372036854775807) : Calls Tryz.prog 126 #[.int .i64 x] w fun e w' => e = .returned (.int .i64 (x.natAbs : Int)) ∧ w = w' := by
  by_cases h : x < 0
  all_goals
    go_enter Tryz.func126, Tryz.ntmps126
    go_wp2
    go_ret
    exact ⟨ret_i2 (by omega), rfl⟩
theorem ovN_le (n : Nat) (N : Nat → Nod) (m : Nat) (P : Nat → Pip) (K : Nat) (d : Nat → Int) (hm : m ≤ 2000000) : ovN n N m P K d ≤ 2000000 := by
  have := fl_le (ovP P d) m
  unfold ovN
  split <;> omega
end Go.Proofs.YtdbgcbkmcbgdiaaGreat.mem

namespace Go.Proofs.YtdbgcbkmcbgdiaaGreat.mem
open Go.RowKit
set_option linter.unusedVariables false

theorem afC_no {n : Nat} {N : Nat → Nod} {m : Nat} {P : Nat → Pip} {K : Nat} {d : Nat → Int} {L : Nat} {s : Nat → Int} (h : flC n N m P K d ≠ 0) : afC n N m P K d L s = flC n N m P K d := by
  unfold flC at h
  unfold afC flC
  cases hB : netB n N m P
  · simp
  · rw [hB, if_pos rfl] at h
    rw [if_pos rfl, if_pos rfl]
    by_cases g : K = m ∧ flB d K = true
    · rw [if_pos g] at h
      exact absurd rfl h
    · rw [if_neg g, if_neg (fun q => g q.1)]
theorem afN_le (n : Nat) (N : Nat → Nod) (m : Nat) (P : Nat → Pip) (K : Nat) (d : Nat → Int) (L : Nat) (s : Nat → Int) (hm : m ≤ 2000000) : afN n N m P K d L s ≤ 2000000 := by
  unfold afN
  split <;> omega
theorem trV_f {P : Nat → Pip} {d : Nat → Int} {z : Int} {k : Nat} (hf : (P k).f = z) : trV P d z (k + 1) = trV P d z k + max (-(d k)) 0 := by
  rw [trV, if_pos (by unfold endB; simp [hf]), if_pos hf]
theorem trV_t {P : Nat → Pip} {d : Nat → Int} {z : Int} {k : Nat} (hf : (P k).f ≠ z) (ht : (P k).t = z) : trV P d z (k + 1) = trV P d z k + max (d k) 0 := by
  rw [trV, if_pos (by unfold endB; simp [ht]), if_neg hf]
theorem trV_o {P : Nat → Pip} {d : Nat → Int} {z : Int} {k : Nat} (hf : (P k).f ≠ z) (ht : (P k).t ≠ z) : trV P d z (k + 1) = trV P d z k := by
  rw [trV, if_neg (by unfold endB; simp [hf, ht]), Int.add_zero]
end Go.Proofs.YtdbgcbkmcbgdiaaGreat.mem

namespace Go.Proofs.YtdbgcbkmcbgdiaaGreat.mem
open Go.RowKit
set_option linter.unusedVariables false

theorem oth_sum {q : Pip} {z : Int} (h : endB q z = true) : q.f + q.t - z = othV q z := by
  unfold endB at h
  simp only [Bool.or_eq_true, beq_iff_eq] at h
  unfold othV
  by_cases hf : q.f = z
  · rw [if_pos hf]; omega
  · rw [if_neg hf]
    have := h.resolve_left hf
    omega
theorem fo_end {n : Nat} {N : Nat → Nod} {P : Nat → Pip} {m : Nat} (hN : netB n N m P = true) {V a : Nat} (hV : V < n) (h : fE n P m ((V : Nat) : Int) = ((a : Nat) : Int)) : endB (P a) ((V : Nat) : Int) = true := by
  rcases (fo_net (P := P) (m := m) hN).par ((V : Nat) : Int) (by omega) (by omega) with e | ⟨b, hb, e, g, _⟩
  · omega
  · obtain rfl : b = a := by omega
    exact g
theorem vis_len (n : Nat) (P : Nat → Pip) (m : Nat) (x : Int) : 1 ≤ (vis n P m x).length := by
  have := vis_self n P m x
  unfold vhas at this
  rcases Nat.eq_zero_or_pos (vis n P m x).length with h | h
  · rw [List.eq_nil_of_length_eq_zero h] at this
    cases this
  · exact h
set_option maxRecDepth 100000 in
set_option maxHeartbeats 16000000 in
theorem l06Forest_any (w : World) (v : Value) (n : Nat) (N : Nat → Nod) (m : Nat) (P : Nat → Pip) (lo hi : Nat) (h : NetAt w v n N m P lo hi) (hhi : hi ≤ w.heap.size) (hN : ∀ i, i < n → (N i).s.size ≤ 9223372036854775807) (hB : netB n N m P = true) (va : Value) (s : Nat → Int) (la ha : Nat) (hv : Sl w va n s la ha) (hha : ha ≤ w.heap.size) (hf : flB s n = true) (hev : evB n P m s = true) :
    Calls Tryz.prog 50 #[v, va] w fun e w' => ∃ v2 g, e = .returned v2 ∧ Own w' v2 m (fflN n P m s) g ∧ w.heap.size ≤ g ∧ Below w.heap.size w w' := by
  obtain ⟨p0, c0, p1, c1, rfl, hn9, hm9⟩ := h.parts
  obtain ⟨hn1, hn24, hm40⟩ := net_sz hB
  have HV := Lib.hid h
  have HN := Lib.hid hN
  have HB := Lib.hid hB
  have HEV := Lib.hid hev
  have HPB := Lib.hid (fun a (ha : a < m) => net_pip hB ha)
  have HFR := Lib.hid (show ∀ i, i < n → -30000 ≤ s i ∧ s i ≤ 30000 from fun i hi => flQ_iff.1 (flB_iff.1 hf i hi))
  obtain ⟨pa, ca, rfl, hva⟩ := hv
  obtain ⟨ba, oa, rfl, g1, g2', hx⟩ : ∃ b o, pa = some ⟨b, o, none⟩ ∧ la ≤ b ∧ b < ha ∧ ∀ k, k < n → w.cell? ⟨b, o + k, none⟩ = some (.int .i64 (s k)) := by
    rcases hva with e | e
    · omega
    · exact e
  have A0 := boxed w (.slice p0 n c0) (.slice p1 m c1) 27
  have B0 := below_new w (.cells #[.slice p0 n c0, .slice p1 m c1] 27)
  obtain ⟨w1, hw1⟩ : ∃ w1, w.alloc (.cells #[.slice p0 n c0, .slice p1 m c1] 27) = w1 := ⟨_, rfl⟩
  have hs1 : w1.heap.size = w.heap.size + 1 := by rw [← hw1]; simp
  have e1 : w1.cell? ⟨w.heap.size, 1, none⟩ = some (.slice p1 m c1) := by rw [← hw1]; exact A0.b1
  rw [hw1] at A0 B0
  have O2 := Own.made w1 m (by omega)
  obtain ⟨w2, hw2⟩ : ∃ w2, w1.alloc (.cells (zeros m) 2) = w2 := ⟨_, rfl⟩
  have hs2 : w2.heap.size = w.heap.size + 1 + 1 := by rw [← hw2]; simp [hs1]
  have b2 : Below w1.heap.size w1 w2 := by rw [← hw2]; exact below_new _ _
  rw [hw2] at O2
  have A2 := A0.below b2 (by omega)
  have B2 := B0.trans (b2.mono (by omega))
  have O3 := Own.nilled w2 s
  obtain ⟨w3, hw3⟩ : ∃ w3, w2.alloc (.cells #[] 2) = w3 := ⟨_, rfl⟩
  have hs3 : w3.heap.size = w.heap.size + 3 := by rw [← hw3]; simp [hs2]
  have b3 : Below w2.heap.size w2 w3 := by rw [← hw3]; exact below_new _ _
  rw [hw3] at O3
  have A3 := A2.below b3 (by omega)
  have B3 := B2.trans (b3.mono (by omega))
  have O23 := O2.below b3 (by omega)
  rw [hs2] at O3
  obtain ⟨v4, w4, gl, hr, ap⟩ := apm_run w3 _ 0 s (w.heap.size + 1 + 1) ba oa n ca s O3 (fun k hk => (B3.cell (p := ⟨ba, oa + k, none⟩) (by show ba < w.heap.size; omega)).trans (hx k hk)) (by omega)
  have bl := ap.below (B := w.heap.size + 2) (Nat.le_refl _) (by omega)
  have O4 := ap.own.congr (e := s) (fun k hk => by unfold catD; rw [if_neg (by omega), Nat.sub_zero])
  rw [Nat.zero_add] at O4
  obtain ⟨cl, rfl⟩ := O4.shape
  have O24 := O23.keep (bl.1.block _ (by omega))
  have A4 := A3.below bl.1 (by omega)
  have B4 := B3.trans (bl.1.mono (by omega))
  have f0 : w4.cell? ⟨w.heap.size, 0, none⟩ = some (.slice p0 n c0) := A4.b0
  have f1 : w4.cell? ⟨w.heap.size, 1, none⟩ = some (.slice p1 m c1) := A4.b1
  have hlg : w.heap.size + 1 < gl := by have := bl.2; omega
  have hs4 := B4.size
  have l4 := O24.lt
  have lL := O4.lt
  have m1 := fun W => make_int64 W m (by omega)
  have n0 : (0 : Int) ≤ (n : Int) := Int.natCast_nonneg _
  have m0 : (0 : Int) ≤ (m : Int) := Int.natCast_nonneg _
  have HO := Lib.hid O24
  have HL := Lib.hid O4
  have HA := Lib.hid A4
  have HBB := Lib.hid B4
  have HX := Lib.hid hx
  rw [hs1] at HO
  have hs2' := Lib.hid hs2
  clear h hN hB hva hf hev A0 B0 O2 b2 A2 B2 O3 b3 A3 B3 O23 ap bl O4 O24 A4 B4 hx hs3 hs2
  subst hw3 hw2 hw1
  go_enter Tryz.func50, Tryz.ntmps50
  go_wp2_with (at_builtin; refine wpList_app hr rfl _ _ rfl rfl rfl rfl ?_)
  clear hr e1 m1
  refine (l04Components_any _ _ n N m P lo hi (HV.out.below HBB.out hhi) (by omega) HN.out HB.out).mono ?_
  rintro e w5 ⟨gc, rfl, hgc, oc, b5⟩
  have HC := Lib.hid oc
  have HO5 := Lib.hid (HO.out.below b5 (by omega))
  have HL5 := Lib.hid (HL.out.below b5 (Nat.le_refl _))
  have HA5 := Lib.hid (HA.out.below b5 (by omega))
  have HB5 := Lib.hid (HBB.out.trans (b5.mono (by omega)))
  have hgl2 : gl < gc := by omega
  obtain ⟨go, hgo⟩ : ∃ go, w.heap.size + 1 = go := ⟨_, rfl⟩
  simp only [szal] at *
  rw [hgo] at HO5 hlg ⊢
  have hgo2 : w.heap.size < go := by omega
  have HST := Lib.hid (St.start (n := n) (P := P) (m := m) (E := fE n P m) (s := s) (DnR_zero n P m))
  clear oc b5 HO HL HA HBB hgc f0 f1 hs1 hs4 l4 lL hgo hs2'
  go_wp2_with fail
  go_loopw [8] (fun iv wr => ∃ (k : Nat) (x l : Nat → Int), iv = .int .i64 k ∧ k ≤ n ∧ St n P m (fE n P m) s (DnR n P m k) x l ∧ Own wr (.slice (some ⟨go, 0, none⟩) m m) m x go ∧ Own wr (.slice (some ⟨gl, 0, none⟩) n cl) n l gl ∧ Ob wr gc n (tabC (cmp n P m n)) ∧ Ob wr w.heap.size 2 (bx (.slice p0 n c0) (.slice p1 m c1)) ∧ Below w.heap.size w wr) (fun iv _ => n - (intOf iv).toNat)
  case atStart => exact ⟨0, _, _, rfl, Nat.zero_le _, HST.out, HO5.out, HL5.out, HC.out, HA5.out, HB5.out⟩
  case round =>
    obtain ⟨k, x, l, rfl, hk, st, ho, hl, hc, ha', hb⟩ := hrel
    clear HST HO5 HL5 HC HA5 HB5
    have ST := Lib.hid st
    have HO := Lib.hid ho
    have HL := Lib.hid hl
    have HC := Lib.hid hc
    have HA := Lib.hid ha'
    have HBB := Lib.hid hb
    have lo1 := ho.lt
    have ll := hl.lt
    have lc := hc.lt
    have la1 := ha'.lt
    clear st ho hl hc ha' hb
    have k0 : (0 : Int) ≤ (k : Int) := Int.natCast_nonneg _
    generalize hQ : Exit.then _ _ = Q
    have HQ := Lib.hid hQ
    clear hQ
    by_cases hlt : k < n
    · have k1 : (k : Int) < (n : Int) := by omega
      have y0 : wr.cell? ⟨gc, k, none⟩ = some (.int .i64 (cmp n P m n k)) := HC.out.cell k hlt
      have HRE := Lib.hid (rts_eq n P m k)
      cases hr : rts n P m k
      · have hb1 : (cmp n P m n k != ((k : Nat) : Int)) = true := by
          have := HRE.out
          rw [hr, beq_eq_false_iff_ne] at this
          simpa using fun e => this e.symm
        have ST1 := Lib.hid (ST.out.same (DnR_skip hr))
        clear hr
        go_wp2_with fail
        rw [← HQ.out]
        refine ⟨⟨_, _, _, _, _, _, _, _, _, _, _, _, _, _, _, _, _, _, _, _, _, _, _, _, _, _, _, _, _, _, _, _, _, _, _, _, _, _, _, _, _, _, _, _, _, _, _, _, _, _, _, _, _, _, _, _, _, _, _, _, _, _, _, _, _, _, _, _, _, _, _, _, _, _, _, _, _, _, ?rel, rfl⟩, ?measure⟩
        case rel => exact ⟨k + 1, x, l, by go_num, hlt, ST1.out, HO.out, HL.out, HC.out, HA.out, HBB.out⟩
        case measure => simp [intOf]; omega
      · have hce : cmp n P m n k = ((k : Nat) : Int) := by
          have := HRE.out
          rw [hr, beq_iff_eq] at this
          exact this.symm
        have hb1 : (cmp n P m n k != ((k : Nat) : Int)) = false := by simp [hce]
        have HRT := Lib.hid hr
        have y1 : wr.cell? ⟨w.heap.size, 0, none⟩ = some (.slice p0 n c0) := HA.out.b0
        have y2 : wr.cell? ⟨w.heap.size, 1, none⟩ = some (.slice p1 m c1) := HA.out.b1
        clear hr hce
        go_wp2_with fail
        refine (l04Search_any _ _ n N m P lo hi (HV.out.below HBB.out hhi) (by omega) HN.out HB.out k hlt).mono ?_
        rintro e w5 ⟨v2, g2, rfl, oe, oo, hg2, b5⟩
        obtain ⟨co, rfl⟩ := oo.shape
        obtain ⟨ge, hge⟩ : ∃ ge, wr.heap.size + 1 = ge := ⟨_, rfl⟩
        rw [hge] at oe
        rw [hge]
        obtain ⟨L, hL⟩ : ∃ L, (vis n P m ((k : Nat) : Int)).length = L := ⟨_, rfl⟩
        have hL1 : 1 ≤ L := by rw [← hL]; exact vis_len n P m _
        have HLE := Lib.hid hL
        rw [hL] at oo ⊢
        have ST5 := Lib.hid (ST.out.same (DnI_top (k := k) (j := L - 1 + 1) (show (vis n P m ((k : Nat) : Int)).length ≤ L - 1 + 1 by rw [hL]; omega)))
        have hne1 : go ≠ ge := by omega
        have hne2 : gl ≠ ge := by omega
        have hne3 : go ≠ g2 := by omega
        have hne4 : gl ≠ g2 := by omega
        have HO5 := Lib.hid (HO.out.below b5 (by omega))
        have HL5 := Lib.hid (HL.out.below b5 (by omega))
        have HC5 := Lib.hid (HC.out.below b5 lc)
        have HA5 := Lib.hid (HA.out.below b5 la1)
        have HB5 := Lib.hid (HBB.out.trans (b5.mono (by have := HBB.out.size; omega)))
        have HE5 := Lib.hid oe
        have HR5 := Lib.hid oo
        have hLL : (L : Int) - 1 = ((L - 1 : Nat) : Int) := by omega
        have HLL := Lib.hid hLL
        have L0 : (0 : Int) ≤ (L : Int) - 1 := by omega
        have L9 : (L : Int) ≤ 1000 := by have := (vis_ok (P := P) (m := m) (x := ((k : Nat) : Int)) HB.out (by omega)).len; rw [hL] at this; omega
        clear hL oe oo b5 y0 y1 y2 hge ST hLL
        go_wp2_with fail
        go_loopw [11] (fun jv wr => ∃ (j : Nat) (x l : Nat → Int), jv = .int .i64 j ∧ j ≤ L - 1 ∧ St n P m (fE n P m) s (DnI n P m k (j + 1)) x l ∧ Own wr (.slice (some ⟨go, 0, none⟩) m m) m x go ∧ Own wr (.slice (some ⟨gl, 0, none⟩) n cl) n l gl ∧ Ob wr ge n (tabC (vval (·.en) (vis n P m ((k : Nat) : Int)))) ∧ Own wr (.slice (some ⟨g2, 0, none⟩) L co) L (ordD (vis n P m ((k : Nat) : Int))) g2 ∧ Ob wr gc n (tabC (cmp n P m n)) ∧ Ob wr w.heap.size 2 (bx (.slice p0 n c0) (.slice p1 m c1)) ∧ Below w.heap.size w wr) (fun jv _ => (intOf jv).toNat)
        case atStart => exact ⟨L - 1, _, _, by rw [← HLL.out], Nat.le_refl _, ST5.out, HO5.out, HL5.out, HE5.out, HR5.out, HC5.out, HA5.out, HB5.out⟩
        case round =>
          obtain ⟨j, x, l, rfl, hj, st, ho, hl, he, hr, hc, ha', hb⟩ := hrel
          clear ST5 HO5 HL5 HE5 HR5 HC5 HA5 HB5 HO HL HC HA HBB lo1 ll lc la1
          have HST := Lib.hid st
          have HO := Lib.hid ho
          have HL := Lib.hid hl
          have HE := Lib.hid he
          have HR := Lib.hid hr
          have HC := Lib.hid hc
          have HA := Lib.hid ha'
          have HBB := Lib.hid hb
          have lo1 := ho.lt
          have ll := hl.lt
          have le1 := he.lt
          have lr := hr.lt
          have lc := hc.lt
          have la1 := ha'.lt
          have hsz := hb.size
          clear st ho hl he hr hc ha' hb
          generalize hQ3 : Exit.then _ _ = Q3
          have HQ3 := Lib.hid hQ3
          clear hQ3
          rcases Nat.eq_zero_or_pos j with rfl | hj0
          · have ST1 := Lib.hid (HST.out.same (DnI_end HB.out hlt HRT.out))
            go_wp2_with fail
            rw [← HQ3.out]
            go_wp2_with fail
            rw [← HQ.out]
            refine ⟨⟨_, _, _, _, _, _, _, _, _, _, _, _, _, _, _, _, _, _, _, _, _, _, _, _, _, _, _, _, _, _, _, _, _, _, _, _, _, _, _, _, _, _, _, _, _, _, _, _, _, _, _, _, _, _, _, _, _, _, _, _, _, _, _, _, _, _, _, _, _, _, _, _, _, _, _, _, _, _, ?rel, rfl⟩, ?measure⟩
            case rel => exact ⟨k + 1, x, l, by go_num, hlt, ST1.out, HO.out, HL.out, HC.out, HA.out, HBB.out⟩
            case measure => simp [intOf]; omega
          · obtain ⟨j, rfl⟩ : ∃ i, j = i + 1 := ⟨j - 1, by omega⟩
            have hjL : j + 1 < L := by omega
            obtain ⟨v, hv⟩ : ∃ v, (vis n P m ((k : Nat) : Int))[j + 1]? = some v := ⟨_, List.getElem?_eq_getElem (by rw [HLE.out]; exact hjL)⟩
            obtain ⟨V, a, U, i, u, hV, hVn, ham, hen, hE, hoth, hUn, hij, hui, hU, hval⟩ := vis_en HB.out hlt HRT.out hv (by omega)
            have hend := fo_end HB.out hVn hE
            have hsum := (oth_sum hend).trans hoth
            have STX := St.step (fo_net HB.out) HST.out hVn ham hE hoth hUn (DnI_not HB.out hlt HRT.out hv hV (by omega)) (DnI_not HB.out hlt HRT.out hui hU (by omega))
            have ST := Lib.hid (STX.same (DnI_step hv (by omega) hV))
            have hbV := HST.out.bd HFR.out hn24 hVn
            have hbU := HST.out.bd HFR.out hn24 hUn
            have hUV : U ≠ V := by
              intro e
              have := (oth_oth (HPB.out a ham) hend).2.2
              rw [hoth, e] at this
              exact this rfl
            have hyV : inR ((V : Nat) : Int) 0 ((n : Nat) - 1) = true := by rw [inR_iff]; omega
            obtain ⟨lv, hlv⟩ : ∃ lv, l V = lv := ⟨_, rfl⟩
            have HLV := Lib.hid hlv
            rw [hlv] at hbV
            have y0 : wr.cell? ⟨g2, j + 1, none⟩ = some (.int .i64 (V : Nat)) := by rw [← hV, ← ordD_some hv]; exact HR.out.row.cell (j + 1) hjL
            have y1 : wr.cell? ⟨ge, V, none⟩ = some (.int .i64 (a : Nat)) := by rw [← hval]; exact HE.out.cell V hVn
            have y2 : wr.cell? ⟨gl, V, none⟩ = some (.int .i64 lv) := by rw [← hlv]; exact HL.out.row.cell V hVn
            obtain ⟨bp, op, rfl, q1, q2, y3, _⟩ := (HV.out.below HBB.out hhi).pipe ham
            have yz := HO.out.free a
            have yo : wr.cell? ⟨go, a, none⟩ = some (.int .i64 (x a)) := HO.out.row.cell a ham
            have f0 : wr.cell? ⟨w.heap.size, 0, none⟩ = some (.slice p0 n c0) := HA.out.b0
            have f1 : wr.cell? ⟨w.heap.size, 1, none⟩ = some (.slice (some ⟨bp, op, none⟩) m c1) := HA.out.b1
            have y4 : (0 : Int) < ((j + 1 : Nat) : Int) := by omega
            have j0 : (0 : Int) ≤ (j : Int) := Int.natCast_nonneg _
            have j1 : ((j + 1 : Nat) : Int) < (L : Int) := by omega
            have j9 : (j : Int) ≤ 1000 := by omega
            have V0 : (0 : Int) ≤ (V : Int) := Int.natCast_nonneg _
            have V1 : (V : Int) < (n : Int) := by omega
            have U0 : (0 : Int) ≤ (U : Int) := Int.natCast_nonneg _
            have U1 : (U : Int) < (n : Int) := by omega
            have a0 : (0 : Int) ≤ (a : Int) := Int.natCast_nonneg _
            have a1 : (a : Int) < (m : Int) := by omega
            have bnd1 : -4611686018427387904 ≤ l U + lv ∧ l U + lv ≤ 4611686018427387904 := by omega
            clear STX hlv hV hU hen hE hoth hend hui hv hval HST L0 L9
            by_cases hf : (P a).f = ((V : Nat) : Int)
            · have hb2 : ((P a).f != ((V : Nat) : Int)) = false := by simp [hf]
              have HSG := Lib.hid (show sgv (P a) ((V : Nat) : Int) (l V) = l V from if_pos hf)
              clear hf
              have o1 := (Only.refl go wr).setCell a (.int .i64 (lv))
              have HO5 := Lib.hid (HO.out.put1 a (lv) ham)
              have HL5 := Lib.hid (HL.out.keep (o1.block gl (by omega)))
              have HE5 := Lib.hid (HE.out.only o1 (by omega))
              have HR5 := Lib.hid (HR.out.keep (o1.block g2 (by omega)))
              have HC5 := Lib.hid (HC.out.only o1 (by omega))
              have HA5 := Lib.hid (HA.out.only o1 (by omega))
              have HB5 := Lib.hid (HBB.out.trans (o1.below (B := w.heap.size) (by omega)))
              have hz5 : wr.heap.size ≤ (wr.setCell ⟨go, a, none⟩ (.int .i64 (lv))).heap.size := by simp
              have z1 := (o1.cell (a := ⟨w.heap.size, 0, none⟩) (by show w.heap.size ≠ _; omega)).trans f0
              have z2 := (o1.cell (a := ⟨w.heap.size, 1, none⟩) (by show w.heap.size ≠ _; omega)).trans f1
              have HZ1 := Lib.hid z1
              have HZ2 := Lib.hid z2
              clear z1 z2
              clear o1
              go_upto_region 18 with (fail)
              obtain ⟨w5, hw5⟩ : ∃ w5, wr.setCell ⟨go, a, none⟩ (.int .i64 (lv)) = w5 := ⟨_, rfl⟩
              rw [hw5] at HO5 HL5 HE5 HR5 HC5 HA5 HB5 hz5 HZ1 HZ2 ⊢
              clear hw5 f0 f1 y0 y1 y2 y3 y4 yz yo
              have f0 := HZ1.out
              have f1 := HZ2.out
              go_wp2_with fail
              refine (l02Other_any w5 _ n N m P lo hi (HV.out.below HB5.out hhi) (by omega) HN.out (by omega) a ham ((V : Nat) : Int) (HPB.out a ham) (by omega) hyV).mono ?_
              rintro e w6 ⟨rfl, b6⟩
              rw [hsum]
              have hz6 := b6.size
              have HO6 := Lib.hid (HO5.out.below b6 (by omega))
              have HL6 := Lib.hid (HL5.out.below b6 (by omega))
              have HE6 := Lib.hid (HE5.out.below b6 (by omega))
              have HR6 := Lib.hid (HR5.out.below b6 (by omega))
              have HC6 := Lib.hid (HC5.out.below b6 (by omega))
              have HA6 := Lib.hid (HA5.out.below b6 (by omega))
              have HB6 := Lib.hid (HB5.out.trans (b6.mono (by omega)))
              clear b6 HO5 HL5 HE5 HR5 HC5 HA5 HB5 f0 f1 HZ1 HZ2
              have yu : w6.cell? ⟨gl, U, none⟩ = some (.int .i64 (l U)) := HL6.out.row.cell U hUn
              have yv : w6.cell? ⟨gl, V, none⟩ = some (.int .i64 lv) := by rw [← HLV.out]; exact HL6.out.row.cell V hVn
              have yz := HL6.out.free U
              have yz2 := HL6.out.free V
              have o7 := (Only.refl gl w6).setCell U (.int .i64 (l U + lv))
              have HO7 := Lib.hid ((HO6.out.keep (o7.block go (by omega))).keep (w' := (w6.setCell ⟨gl, U, none⟩ (.int .i64 (l U + lv))).drew) rfl)
              have HL7 := Lib.hid ((HL6.out.put1 U (l U + lv) hUn).keep (w' := (w6.setCell ⟨gl, U, none⟩ (.int .i64 (l U + lv))).drew) rfl)
              have HE7 := Lib.hid ((HE6.out.only o7 (by omega)).keep (w' := (w6.setCell ⟨gl, U, none⟩ (.int .i64 (l U + lv))).drew) rfl)
              have HR7 := Lib.hid ((HR6.out.keep (o7.block g2 (by omega))).keep (w' := (w6.setCell ⟨gl, U, none⟩ (.int .i64 (l U + lv))).drew) rfl)
              have HC7 := Lib.hid ((HC6.out.only o7 (by omega)).keep (w' := (w6.setCell ⟨gl, U, none⟩ (.int .i64 (l U + lv))).drew) rfl)
              have HA7 := Lib.hid ((HA6.out.only o7 (by omega)).keep (w' := (w6.setCell ⟨gl, U, none⟩ (.int .i64 (l U + lv))).drew) rfl)
              have HB7 := Lib.hid (below_drw (HB6.out.trans (o7.below (B := w.heap.size) (by omega))))
              clear o7
              go_wp2_with fail
              go_still_tail 12, (by kernel_rfl)
              change wpList _ _ _ _ _ w6.drew
              go_upto_region 20 with (fail)
              obtain ⟨w7, hw7⟩ : ∃ w7, (w6.setCell ⟨gl, U, none⟩ (.int .i64 (l U + lv))).drew = w7 := ⟨_, rfl⟩
              rw [hw7] at HO7 HL7 HE7 HR7 HC7 HA7 HB7
              rw [hw7]
              clear hw7 yu yv yz yz2 HO6 HL6 HE6 HR6 HC6 HA6 HB6
              have yz := HL7.out.free V
              have yo : w7.cell? ⟨gl, V, none⟩ = some (.int .i64 (upd l U (l U + lv) V)) := HL7.out.row.cell V hVn
              have o8 := (Only.refl gl w7).setCell V (.int .i64 0)
              have HO8 := Lib.hid (HO7.out.keep (o8.block go (by omega)))
              have HL8 := Lib.hid (HL7.out.put1 V 0 hVn)
              have HE8 := Lib.hid (HE7.out.only o8 (by omega))
              have HR8 := Lib.hid (HR7.out.keep (o8.block g2 (by omega)))
              have HC8 := Lib.hid (HC7.out.only o8 (by omega))
              have HA8 := Lib.hid (HA7.out.only o8 (by omega))
              have HB8 := Lib.hid (HB7.out.trans (o8.below (B := w.heap.size) (by omega)))
              clear o8 HO7 HL7 HE7 HR7 HC7 HA7 HB7
              go_wp2_with fail
              rw [← HQ3.out]
              refine ⟨⟨_, _, _, _, _, _, _, _, _, _, _, _, _, _, _, _, _, _, _, _, _, _, _, _, _, _, _, _, _, _, _, _, _, _, _, _, _, _, _, _, _, _, _, _, _, _, _, _, _, _, _, _, _, _, ?rel, rfl⟩, ?measure⟩
              case rel =>
                refine ⟨j, _, _, by go_num, by omega, ?_, HO8.out, HL8.out, HE8.out, HR8.out, HC8.out, HA8.out, HB8.out⟩
                have := ST.out
                rw [HSG.out, HLV.out] at this
                exact this
              case measure => simp [intOf]
            · have hb2 : ((P a).f != ((V : Nat) : Int)) = true := by simpa using hf
              have HSG := Lib.hid (show sgv (P a) ((V : Nat) : Int) (l V) = -(l V) from if_neg hf)
              clear hf
              have o1 := (Only.refl go wr).setCell a (.int .i64 (-lv))
              have HO5 := Lib.hid (HO.out.put1 a (-lv) ham)
              have HL5 := Lib.hid (HL.out.keep (o1.block gl (by omega)))
              have HE5 := Lib.hid (HE.out.only o1 (by omega))
              have HR5 := Lib.hid (HR.out.keep (o1.block g2 (by omega)))
              have HC5 := Lib.hid (HC.out.only o1 (by omega))
              have HA5 := Lib.hid (HA.out.only o1 (by omega))
              have HB5 := Lib.hid (HBB.out.trans (o1.below (B := w.heap.size) (by omega)))
              have hz5 : wr.heap.size ≤ (wr.setCell ⟨go, a, none⟩ (.int .i64 (-lv))).heap.size := by simp
              have z1 := (o1.cell (a := ⟨w.heap.size, 0, none⟩) (by show w.heap.size ≠ _; omega)).trans f0
              have z2 := (o1.cell (a := ⟨w.heap.size, 1, none⟩) (by show w.heap.size ≠ _; omega)).trans f1
              have HZ1 := Lib.hid z1
              have HZ2 := Lib.hid z2
              clear z1 z2
              clear o1
              go_upto_region 18 with (fail)
              obtain ⟨w5, hw5⟩ : ∃ w5, wr.setCell ⟨go, a, none⟩ (.int .i64 (-lv)) = w5 := ⟨_, rfl⟩
              rw [hw5] at HO5 HL5 HE5 HR5 HC5 HA5 HB5 hz5 HZ1 HZ2 ⊢
              clear hw5 f0 f1 y0 y1 y2 y3 y4 yz yo
              have f0 := HZ1.out
              have f1 := HZ2.out
              go_wp2_with fail
              refine (l02Other_any w5 _ n N m P lo hi (HV.out.below HB5.out hhi) (by omega) HN.out (by omega) a ham ((V : Nat) : Int) (HPB.out a ham) (by omega) hyV).mono ?_
              rintro e w6 ⟨rfl, b6⟩
              rw [hsum]
              have hz6 := b6.size
              have HO6 := Lib.hid (HO5.out.below b6 (by omega))
              have HL6 := Lib.hid (HL5.out.below b6 (by omega))
              have HE6 := Lib.hid (HE5.out.below b6 (by omega))
              have HR6 := Lib.hid (HR5.out.below b6 (by omega))
              have HC6 := Lib.hid (HC5.out.below b6 (by omega))
              have HA6 := Lib.hid (HA5.out.below b6 (by omega))
              have HB6 := Lib.hid (HB5.out.trans (b6.mono (by omega)))
              clear b6 HO5 HL5 HE5 HR5 HC5 HA5 HB5 f0 f1 HZ1 HZ2
              have yu : w6.cell? ⟨gl, U, none⟩ = some (.int .i64 (l U)) := HL6.out.row.cell U hUn
              have yv : w6.cell? ⟨gl, V, none⟩ = some (.int .i64 lv) := by rw [← HLV.out]; exact HL6.out.row.cell V hVn
              have yz := HL6.out.free U
              have yz2 := HL6.out.free V
              have o7 := (Only.refl gl w6).setCell U (.int .i64 (l U + lv))
              have HO7 := Lib.hid ((HO6.out.keep (o7.block go (by omega))).keep (w' := (w6.setCell ⟨gl, U, none⟩ (.int .i64 (l U + lv))).drew) rfl)
              have HL7 := Lib.hid ((HL6.out.put1 U (l U + lv) hUn).keep (w' := (w6.setCell ⟨gl, U, none⟩ (.int .i64 (l U + lv))).drew) rfl)
              have HE7 := Lib.hid ((HE6.out.only o7 (by omega)).keep (w' := (w6.setCell ⟨gl, U, none⟩ (.int .i64 (l U + lv))).drew) rfl)
              have HR7 := Lib.hid ((HR6.out.keep (o7.block g2 (by omega))).keep (w' := (w6.setCell ⟨gl, U, none⟩ (.int .i64 (l U + lv))).drew) rfl)
              have HC7 := Lib.hid ((HC6.out.only o7 (by omega)).keep (w' := (w6.setCell ⟨gl, U, none⟩ (.int .i64 (l U + lv))).drew) rfl)
              have HA7 := Lib.hid ((HA6.out.only o7 (by omega)).keep (w' := (w6.setCell ⟨gl, U, none⟩ (.int .i64 (l U + lv))).drew) rfl)
              have HB7 := Lib.hid (below_drw (HB6.out.trans (o7.below (B := w.heap.size) (by omega))))
              clear o7
              go_wp2_with fail
              go_still_tail 12, (by kernel_rfl)
              change wpList _ _ _ _ _ w6.drew
              go_upto_region 20 with (fail)
              obtain ⟨w7, hw7⟩ : ∃ w7, (w6.setCell ⟨gl, U, none⟩ (.int .i64 (l U + lv))).drew = w7 := ⟨_, rfl⟩
              rw [hw7] at HO7 HL7 HE7 HR7 HC7 HA7 HB7
              rw [hw7]
              clear hw7 yu yv yz yz2 HO6 HL6 HE6 HR6 HC6 HA6 HB6
              have yz := HL7.out.free V
              have yo : w7.cell? ⟨gl, V, none⟩ = some (.int .i64 (upd l U (l U + lv) V)) := HL7.out.row.cell V hVn
              have o8 := (Only.refl gl w7).setCell V (.int .i64 0)
              have HO8 := Lib.hid (HO7.out.keep (o8.block go (by omega)))
              have HL8 := Lib.hid (HL7.out.put1 V 0 hVn)
              have HE8 := Lib.hid (HE7.out.only o8 (by omega))
              have HR8 := Lib.hid (HR7.out.keep (o8.block g2 (by omega)))
              have HC8 := Lib.hid (HC7.out.only o8 (by omega))
              have HA8 := Lib.hid (HA7.out.only o8 (by omega))
              have HB8 := Lib.hid (HB7.out.trans (o8.below (B := w.heap.size) (by omega)))
              clear o8 HO7 HL7 HE7 HR7 HC7 HA7 HB7
              go_wp2_with fail
              rw [← HQ3.out]
              refine ⟨⟨_, _, _, _, _, _, _, _, _, _, _, _, _, _, _, _, _, _, _, _, _, _, _, _, _, _, _, _, _, _, _, _, _, _, _, _, _, _, _, _, _, _, _, _, _, _, _, _, _, _, _, _, _, _, ?rel, rfl⟩, ?measure⟩
              case rel =>
                refine ⟨j, _, _, by go_num, by omega, ?_, HO8.out, HL8.out, HE8.out, HR8.out, HC8.out, HA8.out, HB8.out⟩
                have := ST.out
                rw [HSG.out, HLV.out] at this
                exact this
              case measure => simp [intOf]
    · have hkn : n = k := by omega
      have STF := Lib.hid (ST.out.fin HB.out HEV.out (fun z hz he => by rw [← hkn]; exact DnR_all HB.out z hz he))
      have k1 : ¬ ((k : Int) < (n : Int)) := by omega
      clear hkn
      go_wp2_with fail
      rw [← HQ.out]
      go_wp2_with fail
      go_ret
      exact ⟨_, go, rfl, HO.out.congr (fun a ha => STF.out a ha), by omega, HBB.out⟩
set_option maxRecDepth 100000 in
set_option maxHeartbeats 8000000 in
theorem forestFlowsS_any (w : World) (v : Value) (n : Nat) (N : Nat → Nod) (m : Nat) (P : Nat → Pip) (lo hi : Nat) (h : NetAt w v n N m P lo hi) (hhi : hi ≤ w.heap.size) (hN : ∀ i, i < n → (N i).s.size ≤ 9223372036854775807) (va : Value) (K : Nat) (d : Nat → Int) (la ha : Nat) (hv : Sl w va K d la ha) (hha : ha ≤ w.heap.size) (hK9 : K ≤ 9223372036854775807) :
    Calls Tryz.prog 87 #[v, va] w (LIPost w (ffN n N m P K d) (fflN n P m d) (ffC n N m P K d)) := by
  obtain ⟨p0, c0, p1, c1, rfl, hn9, hm9⟩ := h.parts
  have HV := Lib.hid h
  have HN := Lib.hid hN
  obtain ⟨pa, ca, rfl⟩ := hv.sh
  have A0 := boxed w (.slice p0 n c0) (.slice p1 m c1) 27
  have B0 := below_new w (.cells #[.slice p0 n c0, .slice p1 m c1] 27)
  have hs0 : (w.alloc (.cells #[.slice p0 n c0, .slice p1 m c1] 27)).heap.size = w.heap.size + 1 := by simp
  clear h hN
  go_enter Tryz.func87, Tryz.ntmps87
  have e0' := A0.b0
  have e1' := A0.b1
  go_wp2_with fail
  refine (l06Code_any _ _ n N m P lo hi (HV.out.below B0 hhi) (by omega) HN.out _ K d la ha (hv.below B0 hha) (by omega) hK9).mono ?_
  rintro e w1 ⟨rfl, b1⟩
  have A1 := A0.below b1 (by omega)
  have B1 := B0.trans (b1.mono (by omega))
  have hs1 := b1.size
  have e0 := A1.b0
  have e1 := A1.b1
  have e2 : w.heap.size < w1.heap.size := by omega
  clear A0 B0 b1 e0' e1'
  by_cases hc : svC n N m P K d = 0
  · obtain ⟨hB, rfl, hf⟩ := svC_ok hc
    obtain ⟨hn1, hn24, hm40⟩ := net_sz hB
    have HB := Lib.hid hB
    have HF := Lib.hid hf
    have H1 := Lib.hid (hv.below B1 hha)
    have HFC := Lib.hid (show ffC K N m P K d = if evB K P m d = true then (if flB (fflN K P m d) m = true then 0 else 2) else 5 by unfold ffC; rw [if_pos hc])
    rw [hc]
    clear hc hB hf hv
    go_wp2_with fail
    refine (l06Even_any w1 _ K N m P lo hi (HV.out.below B1 hhi) (by omega) HN.out HB.out _ d la ha H1.out (by omega) HF.out).mono ?_
    rintro e w2 ⟨rfl, b2⟩
    have A2 := A1.below b2 e2
    have B2 := B1.trans (b2.mono (by omega))
    have hs2 := b2.size
    have H2 := Lib.hid (H1.out.below b2 (by omega))
    have f0 := A2.b0
    have f1 := A2.b1
    clear e0 e1 A1 b2 H1
    cases hev : evB K P m d
    · have H4 := Lib.hid (show ffC K N m P K d = 5 by rw [HFC.out, hev]; rfl)
      have H3 := Lib.hid (show ffN K N m P K d = 0 by unfold ffN; rw [H4.out]; rfl)
      clear hev
      go_wp2_with fail
      go_ret2
      exact li_err H3.out H4.out.symm rfl B2
    · have HFD := Lib.hid (show ffC K N m P K d = if flB (fflN K P m d) m = true then 0 else 2 by rw [HFC.out, hev]; rfl)
      have HEV := Lib.hid hev
      clear hev
      go_wp2_with fail
      refine (l06Forest_any w2 _ K N m P lo hi (HV.out.below B2 hhi) (by omega) HN.out HB.out _ d la ha H2.out (by omega) HF.out HEV.out).mono ?_
      rintro e w3 ⟨v3, g3, rfl, o3, hg3, b3⟩
      have A3 := A2.below b3 (by omega)
      have B3 := B2.trans (b3.mono (by omega))
      have hs3 := b3.size
      have lo3 := o3.lt
      have HO3 := Lib.hid o3
      clear f0 f1 A2 b3 o3
      have f0 := A3.b0
      have f1 := A3.b1
      cases hq : flB (fflN K P m d) m
      all_goals
        have HQF := Lib.hid hq
        clear hq
        go_wp2_with (go_at_call 52; refine (l05List_any _ p0 p1 K m c0 c1 _ m _ _ _ HO3.out.sl (by omega) hm9 hm9).mono ?_; rintro e w7 ⟨rfl, hb7⟩; rw [show liB m m (fflN K P m d) = flB (fflN K P m d) m from by unfold liB; simp, HQF.out])
        go_ret2
      · have H4 := Lib.hid (show ffC K N m P K d = 2 by rw [HFD.out, HQF.out]; rfl)
        exact li_err (show _ = 0 by unfold ffN; rw [H4.out]; rfl) H4.out.symm rfl (B3.trans (hb7.mono (by omega)))
      · have H4 := Lib.hid (show ffC K N m P K d = 0 by rw [HFD.out, HQF.out]; rfl)
        exact li_ok (show m = _ by unfold ffN; rw [H4.out]; rfl) (by rw [H4.out]; rfl) (HO3.out.below hb7 (by omega)) (by omega) (B3.trans (hb7.mono (by omega)))
  · have hb1 : (svC n N m P K d != 0) = true := by simpa using hc
    have H4 := Lib.hid (show ffC n N m P K d = svC n N m P K d by unfold ffC; rw [if_neg hc])
    have H3 := Lib.hid (show ffN n N m P K d = 0 by unfold ffN; rw [H4.out, if_neg hc])
    clear hc
    go_wp2_with fail
    go_ret2
    exact li_err H3.out H4.out.symm rfl B1
theorem ffN_le (n : Nat) (N : Nat → Nod) (m : Nat) (P : Nat → Pip) (K : Nat) (d : Nat → Int) (hm : m ≤ 2000000) : ffN n N m P K d ≤ 2000000 := by
  unfold ffN
  split <;> omega
theorem agreeForestFlows (n : Nat) (N : Nat → Nod) (m : Nat) (P : Nat → Pip) (K : Nat) (d : Nat → Int) (hN : ∀ i, i < n → (N i).s.size ≤ 9223372036854775807) (_hn : n ≤ 2000000) (hm : m ≤ 2000000) (hK : K ≤ 2000000) :
    ∃ rn rd rc, rn ≤ 2000000 ∧ (∀ w v va, NetAt w v n N m P 0 w.heap.size → Sl w va K d 0 w.heap.size → Calls Tryz.prog 89 #[v, va] w (LIPost w rn rd rc)) ∧ (∀ w v va, NetAt w v n N m P 0 w.heap.size → Sl w va K d 0 w.heap.size → Calls Tryz.prog 87 #[v, va] w (LIPost w rn rd rc)) :=
  ⟨ffN n N m P K d, fflN n P m d, ffC n N m P K d, ffN_le n N m P K d hm, fun w v va h hv => forestFlowsI_any w v n N m P 0 _ h (Nat.le_refl _) hN va K d 0 _ hv (Nat.le_refl _) (by omega), fun w v va h hv => forestFlowsS_any w v n N m P 0 _ h (Nat.le_refl _) hN va K d 0 _ hv (Nat.le_refl _) (by omega)⟩

end Go.Proofs.YtdbgcbkmcbgdiaaGreat.mem
