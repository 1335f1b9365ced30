/-
  Components: the least nodes, the specification's table and count. Conditions: as each states.
-/
import Derived.Test.YtjjjdahegcjmaaaRows
import Derived.Test.YtjjjdahegcjmaaaCmq
import Derived.Test.YtjjjdahegcjmaaaSrd
namespace Go.Proofs.Ytjjjdahegcjmaaa.mem
open Go.RowKit
set_option linter.unusedVariables false

theorem rts_eq (n : Nat) (P : Nat → Pip) (m i : Nat) : (((i : Nat) : Int) == cmp n P m n i) = rts n P m i := by
  unfold rts
  rw [Bool.eq_iff_iff]
  simp only [beq_iff_eq, decide_eq_true_eq]
  exact eq_comm
theorem cnt_le (n : Nat) (P : Nat → Pip) (m : Nat) : cnt n P m ≤ n := fl_le _ _

set_option maxRecDepth 100000 in
set_option maxHeartbeats 4000000 in
theorem leastNodes_any (w : World) (v : Value) (n : Nat) (N : Nat → Nod) (m : Nat) (P : Nat → Pip) (lo hi : Nat) (h : NetAt w v n N m P lo hi) (hhi : hi ≤ w.heap.size) (hB : netB n N m P = true) :
    Calls Try.prog 79 #[v] w fun e w' => ∃ v2 g, e = .returned v2 ∧ Own w' v2 (cnt n P m) (fd (rts n P m) n) g ∧ w.heap.size ≤ g ∧ Below w.heap.size w w' := by
  obtain ⟨p0, c0, p1, c1, rfl, hn9, hm9⟩ := h.parts
  obtain ⟨hn1, hn24, hm40⟩ := net_sz hB
  have HV := Lib.hid h
  have HB := Lib.hid hB
  have A0 := boxed w (.slice p0 n c0) (.slice p1 m c1) 30
  have B0 := below_new w (.cells #[.slice p0 n c0, .slice p1 m c1] 30)
  obtain ⟨w1, hw1⟩ : ∃ w1, w.alloc (.cells #[.slice p0 n c0, .slice p1 m c1] 30) = w1 := ⟨_, rfl⟩
  have hs1 : w1.heap.size = w.heap.size + 1 := by rw [← hw1]; simp
  rw [hw1] at A0 B0
  have F0 := Own.nilled w1 (fd (rts n P m) 0)
  have b2 := below_new w1 (.cells #[] 2)
  obtain ⟨w2, hw2⟩ : ∃ w2, w1.alloc (.cells #[] 2) = w2 := ⟨_, rfl⟩
  have hs2 : w2.heap.size = w.heap.size + 2 := by rw [← hw2]; simp [hs1]
  rw [hw2] at F0 b2
  have A2 := A0.below b2 (by omega)
  have B2 := B0.trans (b2.mono (by omega))
  have HF := Lib.hid F0
  have HBB := Lib.hid B2
  have e0 : w2.cell? ⟨w.heap.size, 0, none⟩ = some (.slice p0 n c0) := A2.b0
  have e1 : w2.cell? ⟨w.heap.size, 1, none⟩ = some (.slice p1 m c1) := A2.b1
  have e2 : w.heap.size < w2.heap.size := by omega
  clear h hB A0 B0 F0 b2 A2 B2
  subst hw2 hw1
  go_enter Try.func79, Try.ntmps79
  go_wp2_with fail
  generalize hW : (w.alloc (Obj.cells #[Value.slice p0 n c0, Value.slice p1 m c1] 30)).alloc (.cells #[] 2) = w2 at *
  clear hW e0 e1
  refine (components_any w2 _ n N m P lo hi (HV.out.below HBB.out hhi) (by omega) HB.out).mono ?_
  rintro e w3 ⟨gt, rfl, hgt, ot, b3⟩
  have HT := Lib.hid ot
  have HF3 := Lib.hid (HF.out.below b3 (Nat.le_refl _))
  have HB3 := Lib.hid (HBB.out.trans (b3.mono (by omega)))
  have hs3 := b3.size
  have hgl := ot.lt
  clear ot b3 HF HBB
  go_wp2_with fail
  go_loopw [3, 10] (fun ov iv wr => ∃ (k g : Nat) (ov' : Value), ov' = ov ∧ iv = .int .i64 k ∧ k ≤ n ∧ Own wr ov' (fl (rts n P m) k).length (fd (rts n P m) k) g ∧ w.heap.size < g ∧ g ≠ gt ∧ Ob wr gt n (tabC (cmp n P m n)) ∧ Below w.heap.size w wr) (fun _ iv _ => n - (intOf iv).toNat)
  case atStart => exact ⟨0, w.heap.size + 1, _, rfl, rfl, Nat.zero_le _, by have := HF3.out; simp only [World.size_alloc] at this; exact this, by omega, by omega, HT.out, HB3.out⟩
  case round =>
    obtain ⟨k, g, ov, rfl, rfl, hk, ho, hg, hne, ht, hb⟩ := hrel
    obtain ⟨co, rfl⟩ := ho.shape
    clear HF3 HT HB3
    have HO := Lib.hid ho
    have HT := Lib.hid ht
    have HBB := Lib.hid hb
    have lg := ho.lt
    have lt := ht.lt
    clear ho ht hb
    have k0 : (0 : Int) ≤ (k : Int) := Int.natCast_nonneg _
    generalize hQ : Exit.then _ _ = Q
    have HQ := Lib.hid hQ
    clear hQ
    by_cases hlt : k < n
    · have k1 : (k : Int) < (n : Int) := by omega
      have y0 : wr.cell? ⟨gt, k, none⟩ = some (.int .i64 (cmp n P m n k)) := HT.out.cell k hlt
      have HRE := Lib.hid (rts_eq n P m k)
      cases hr : rts n P m k
      · have hb1 : (((k : Nat) : Int) == cmp n P m n k) = false := by rw [HRE.out, hr]
        have HR := Lib.hid hr
        clear hr
        go_wp2_with fail
        rw [← HQ.out]
        refine ⟨⟨_, _, _, _, _, _, _, _, _, _, _, _, _, _, _, _, ?rel, rfl⟩, ?measure⟩
        case rel => exact ⟨k + 1, g, _, rfl, by go_num, hlt, fl_keep HR.out HO.out, hg, hne, HT.out, HBB.out⟩
        case measure => simp [intOf]; omega
      · have hb1 : (((k : Nat) : Int) == cmp n P m n k) = true := by rw [HRE.out, hr]
        have hce : cmp n P m n k = (k : Int) := by rw [beq_iff_eq] at hb1; exact hb1.symm
        rw [hce] at y0
        have HR := Lib.hid hr
        clear hr hb1 hce
        obtain ⟨v7, w7, g7, hr, ap⟩ := coll_run wr _ (rts n P m) k g HO.out (by omega)
        have Y := Lib.hid (coll_below ap (B := w.heap.size + 1) (by omega) lg)
        have O7 := Lib.hid (fl_app HR.out ap)
        have hoth := ap.other (c := gt) (by omega) (by rw [szal]; omega)
        have HT7 := Lib.hid ((HT.out.keep (Below.heap_alloc _ (.cells #[.int .i64 (k : Nat)] 2) _ lt)).keep hoth.1)
        have hne7 := hoth.2
        have hg7 := Y.out.2.1
        clear ap hoth
        go_wp2_with (at_builtin; refine wpList_app hr rfl _ _ rfl rfl rfl rfl ?_)
        rw [← HQ.out]
        refine ⟨⟨_, _, _, _, _, _, _, _, _, _, _, _, _, _, _, _, ?rel, rfl⟩, ?measure⟩
        case rel => exact ⟨k + 1, g7, _, rfl, by go_num, hlt, O7.out, by omega, fun e => hne7 e.symm, HT7.out, HBB.out.trans (Y.out.1.mono (by omega))⟩
        case measure => simp [intOf]; omega
    · have hkn : n = k := by omega
      subst hkn
      have k1 : ¬ ((n : Int) < (n : Int)) := by omega
      go_wp2
      rw [← HQ.out]
      go_wp2
      go_ret
      exact ⟨_, g, rfl, HO.out, by omega, HBB.out⟩
end Go.Proofs.Ytjjjdahegcjmaaa.mem
