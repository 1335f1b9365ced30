/-
  EntriesFrom, the specification's, and that both agree. Conditions: as each states.
-/
import Derived.Test.YtjjjdahegcjmaaaRows
import Derived.Test.YtjjjdahegcjmaaaSrd
namespace Go.Proofs.Ytjjjdahegcjmaaa.mem
open Go.RowKit
set_option linter.unusedVariables false

set_option maxRecDepth 100000 in
set_option maxHeartbeats 4000000 in
theorem entriesFromS_any (w : World) (v : Value) (n : Nat) (N : Nat → Nod) (m : Nat) (P : Nat → Pip) (lo hi : Nat) (h : NetAt w v n N m P lo hi) (hhi : hi ≤ w.heap.size) (hN : ∀ i, i < n → (N i).s.size ≤ 9223372036854775807) (x : Int) :
    Calls Try.prog 27 #[v, .int .i64 x] w (LIPost w (ndN n N m P x) (fun k => vval (·.en) (vis n P m x) ((k : Nat) : Int)) (ndC n N m P x)) := by
  obtain ⟨p0, c0, p1, c1, rfl, hn9, hm9⟩ := h.parts
  have HV := Lib.hid h
  have HN := Lib.hid hN
  have A0 := boxed w (.slice p0 n c0) (.slice p1 m c1) 30
  have B0 := below_new w (.cells #[.slice p0 n c0, .slice p1 m c1] 30)
  have hs0 : (w.alloc (.cells #[.slice p0 n c0, .slice p1 m c1] 30)).heap.size = w.heap.size + 1 := by simp
  have HCD := Lib.hid (show codeB (netB n N m P) (inR x 0 (n - 1)) = ndC n N m P x from rfl)
  have HND := Lib.hid (show ndN n N m P x = if ndC n N m P x = 0 then n else 0 from rfl)
  clear h hN
  go_enter Try.func27, Try.ntmps27
  go_wp2_with fail
  refine (l02NodeCode_any _ _ n N m P lo hi (HV.out.below B0 hhi) (by omega) HN.out x).mono ?_
  rintro e w5 ⟨rfl, b5⟩
  rw [HCD.out]
  have A5 := A0.below b5 (by omega)
  have B5 := B0.trans (b5.mono (by omega))
  have hs5 := b5.size
  have e0 := A5.b0
  have e1 := A5.b1
  have e2 : w.heap.size < w5.heap.size := by omega
  clear A0 B0 b5
  by_cases hc : ndC n N m P x = 0
  rotate_left 1
  · have hcb : (ndC n N m P x != 0) = true := by simp [hc]
    have H := Lib.hid (show ndN n N m P x = 0 by rw [HND.out, if_neg hc])
    clear hc
    go_wp2_with fail
    go_ret2
    exact li_err H.out rfl rfl B5
  have hcb : (ndC n N m P x != 0) = false := by simp [hc]
  have HND2 := Lib.hid (show ndN n N m P x = n by rw [HND.out, if_pos hc])
  have HC := Lib.hid hc
  obtain ⟨hB, X0, rfl, hX⟩ := ndC_zero hc
  clear hc
  have hn24 := (net_sz hB).2.1
  have HB := Lib.hid hB
  clear hB
  go_wp2_with fail
  refine (l04Search_any _ _ n N m P lo hi (HV.out.below B5 hhi) (by omega) HN.out HB.out X0 hX).mono ?_
  rintro e w6 ⟨v2, g2, rfl, oe, oo, hg2, b6⟩
  have B6 := B5.trans (b6.mono (by omega))
  have hg : w.heap.size ≤ w5.heap.size + 1 := by omega
  clear b6
  go_wp2_with fail
  go_ret2
  exact li_tab HND2.out.symm HC.out.symm rfl oe hn24 hg B6
theorem ndN_le (n : Nat) (N : Nat → Nod) (m : Nat) (P : Nat → Pip) (x : Int) (hn : n ≤ 2000000) : ndN n N m P x ≤ 2000000 := by
  unfold ndN
  split <;> omega
theorem agreeEntriesFrom (n : Nat) (N : Nat → Nod) (m : Nat) (P : Nat → Pip) (x : Int) (hN : ∀ i, i < n → (N i).s.size ≤ 9223372036854775807) (_hn : n ≤ 2000000) (hm : m ≤ 2000000) :
    ∃ rn rd rc, rn ≤ 2000000 ∧ (∀ w v, NetAt w v n N m P 0 w.heap.size → Calls Try.prog 28 #[v, .int .i64 x] w (LIPost w rn rd rc)) ∧ (∀ w v, NetAt w v n N m P 0 w.heap.size → Calls Try.prog 27 #[v, .int .i64 x] w (LIPost w rn rd rc)) :=
  ⟨ndN n N m P x, fun k => vval (·.en) (vis n P m x) ((k : Nat) : Int), ndC n N m P x, ndN_le n N m P x _hn, fun w v h => entriesFromI_any w v n N m P 0 _ h (Nat.le_refl _) hN x, fun w v h => entriesFromS_any w v n N m P 0 _ h (Nat.le_refl _) hN x⟩
end Go.Proofs.Ytjjjdahegcjmaaa.mem
