/-
  RenameNode: what it computes, in the program and in the specification. Conditions: as each states.
-/
import Derived.Test.YtdmcggnhnkaoeaaRows
import Derived.Test.YtdmcggnhnkaoeaaNetOw
import Derived.Test.YtdmcggnhnkaoeaaNetTP
import Derived.WalkKit
import Derived.ProofKit
import Derived.Outline
import Derived.OwnWalk
import Derived.Lib.Hide
import Derived.Deep.RegionHeld3
import Derived.Deep.Cut
import Derived.Deep.RegionWith
namespace Go.Proofs.Ytdmcggnhnkaoeaa.mem
open Go.RowKit
set_option linter.unusedVariables false

def rnN (N : Nat → Nod) (k : Nat) (s : ByteArray) : Nat → Nod := fun i => if i = k then ⟨s, (N k).lo, (N k).hi⟩ else N i
noncomputable def rnC (n : Nat) (N : Nat → Nod) (m : Nat) (P : Nat → Pip) (x : Int) (s : ByteArray) : Int :=
  if codeB (netB n N m P) (inR x 0 (n - 1)) = 0 then (if netB n (rnN N x.toNat s) m P = true then 0 else 5) else codeB (netB n N m P) (inR x 0 (n - 1))
noncomputable def rnK (n : Nat) (N : Nat → Nod) (m : Nat) (P : Nat → Pip) (x : Int) (s : ByteArray) (k : Nat) : Nat := if rnC n N m P x s = 0 then k else 0
theorem rn_row {w : World} {b n k : Nat} {N : Nat → Nod} {s : ByteArray} (h : Rw w b n 3 (nodC N)) (hk : k < n) : Rw (w.setCell ⟨b, k * 3, none⟩ (.string s)) b n 3 (nodC (rnN N k s)) := by
  have := h.set k 0 (.string s) hk (by omega)
  rw [Nat.add_zero] at this
  refine this.congr fun i j hi hj => ?_
  unfold updC
  by_cases e : i = k
  · subst e
    rcases (by omega : j = 0 ∨ j = 1 ∨ j = 2) with rfl | rfl | rfl <;> simp [nodC, rnN]
  · rcases (by omega : j = 0 ∨ j = 1 ∨ j = 2) with rfl | rfl | rfl <;> simp [nodC, rnN, e]
theorem codeB_0' {b r : Bool} (h : codeB b r = 0) : b = true ∧ r = true := by
  unfold codeB at h
  cases b <;> cases r <;> simp at h
  exact ⟨rfl, rfl⟩
/-- a network of one's own in which a node's name has been written anew -/
theorem rn_own {w : World} {u1 : Value} {n m b1 b2 c0 k : Nat} {N : Nat → Nod} {P : Nat → Pip} {s : ByteArray} (h : NetOwn w (.agg #[.slice (some ⟨b1, 0, none⟩) n c0, u1]) n N m P b1 b2) (hk : k < n) :
    NetOwn (w.setCell ⟨b1, k * 3, none⟩ (.string s)) (.agg #[.slice (some ⟨b1, 0, none⟩) n c0, u1]) n (rnN N k s) m P b1 b2 := by
  obtain ⟨z0, z1, he, g0, g1, hd⟩ := h.ex
  simp only [Value.agg.injEq, Array.mk.injEq, List.cons.injEq, and_true] at he
  obtain ⟨rfl, rfl⟩ := he
  obtain ⟨p, c, hv, h1, h2, h3⟩ := g0.ex
  injection hv with e1 _ e3
  subst e1 e3
  rcases h3 with h3 | ⟨_, h3⟩
  · omega
  exact ⟨_, _, rfl, (rn_row h3 hk).own h1 h2, g1.upd (Upd.of_only ((Only.refl b1 w).setCell (k * 3) (.string s))) (by omega), hd⟩
theorem rn_at {w : World} {u1 : Value} {p0 : Option Addr} {n m b1 b2 c0 : Nat} {N : Nat → Nod} {P : Nat → Pip} (h : NetOwn w (.agg #[.slice p0 n c0, u1]) n N m P b1 b2) (hn : 0 < n) : p0 = some ⟨b1, 0, none⟩ ∧ Rw w b1 n 3 (nodC N) := by
  obtain ⟨z0, z1, he, g0, g1, hd⟩ := h.ex
  simp only [Value.agg.injEq, Array.mk.injEq, List.cons.injEq, and_true] at he
  obtain ⟨rfl, rfl⟩ := he
  obtain ⟨p, q, hv, h1, h2, h3⟩ := g0.ex
  injection hv with e1 _ e3
  subst e1
  rcases h3 with h3 | ⟨h3, h4⟩
  · omega
  exact ⟨h3, h4⟩

set_option maxRecDepth 100000 in
set_option maxHeartbeats 4000000 in
theorem renameI_any (w : World) (v : Value) (n : Nat) (N : Nat → Nod) (m : Nat) (P : Nat → Pip) (lo hi : Nat) (h : NetAt w v n N m P lo hi) (hhi : hi ≤ w.heap.size) (hN : ∀ i, i < n → (N i).s.size ≤ 9223372036854775807) (hn2 : n ≤ 2000000) (hm2 : m ≤ 2000000) (x : Int) (s : ByteArray) (hs : s.size ≤ 9223372036854775807) :
    Calls Try.prog 30 #[v, .int .i64 x, .string s] w (NIPost w (rnK n N m P x s n) (rnN N x.toNat s) (rnK n N m P x s m) P (rnC n N m P x s)) := by
  obtain ⟨v0, v1, rfl, g0, g1⟩ := h.ex
  obtain ⟨p0, c0, rfl⟩ := g0.shape
  obtain ⟨p1, c1, rfl⟩ := g1.shape
  have HV := Lib.hid h
  have HN := Lib.hid hN
  clear h g0 g1 hN
  obtain ⟨rc, hrc⟩ : ∃ c, c = codeB (netB n N m P) (inR x 0 (n - 1)) := ⟨_, rfl⟩
  have HCD := Lib.hid hrc
  have hall : allR n 1 (fun _ => x) = inR x 0 (n - 1) := by
    rw [Bool.eq_iff_iff, allR_iff]
    exact ⟨fun h => h 0 (by omega), fun h i _ => h⟩
  have HAL := Lib.hid hall
  clear hall
  clear hrc
  go_enter Try.func30, Try.ntmps30
  go_wp2_with fail
  have A1 := (boxed w (.slice p0 n c0) (.slice p1 m c1) 27).keep (Below.heap_alloc (w.alloc (Obj.cells #[Value.slice p0 n c0, Value.slice p1 m c1] 27)) (Obj.cells #[Value.slice none 0 0, Value.slice none 0 0] 27) _ (by simp))
  have R1 := boxed (w.alloc (Obj.cells #[Value.slice p0 n c0, Value.slice p1 m c1] 27)) (.slice none 0 0) (.slice none 0 0) 27
  rw [show (w.alloc (Obj.cells #[Value.slice p0 n c0, Value.slice p1 m c1] 27)).heap.size = w.heap.size + 1 by simp] at R1
  have C1 := bel2 w (Obj.cells #[Value.slice p0 n c0, Value.slice p1 m c1] 27) (Obj.cells #[Value.slice none 0 0, Value.slice none 0 0] 27)
  have hs1 : w.heap.size + 2 ≤ ((w.alloc (Obj.cells #[Value.slice p0 n c0, Value.slice p1 m c1] 27)).alloc (Obj.cells #[Value.slice none 0 0, Value.slice none 0 0] 27)).heap.size := by simp
  have S1 := one_arg ((w.alloc (Obj.cells #[Value.slice p0 n c0, Value.slice p1 m c1] 27)).alloc (Obj.cells #[Value.slice none 0 0, Value.slice none 0 0] 27)) x
  have A1' := A1.next (below_new ((w.alloc (Obj.cells #[Value.slice p0 n c0, Value.slice p1 m c1] 27)).alloc (Obj.cells #[Value.slice none 0 0, Value.slice none 0 0] 27)) (Obj.cells #[Value.int .i64 x] 2))
  have R1' := R1.next (below_new ((w.alloc (Obj.cells #[Value.slice p0 n c0, Value.slice p1 m c1] 27)).alloc (Obj.cells #[Value.slice none 0 0, Value.slice none 0 0] 27)) (Obj.cells #[Value.int .i64 x] 2))
  have C1' := belowNext C1 (below_new ((w.alloc (Obj.cells #[Value.slice p0 n c0, Value.slice p1 m c1] 27)).alloc (Obj.cells #[Value.slice none 0 0, Value.slice none 0 0] 27)) (Obj.cells #[Value.int .i64 x] 2))
  have hs1' := Nat.le_trans hs1 (below_new ((w.alloc (Obj.cells #[Value.slice p0 n c0, Value.slice p1 m c1] 27)).alloc (Obj.cells #[Value.slice none 0 0, Value.slice none 0 0] 27)) (Obj.cells #[Value.int .i64 x] 2)).size
  simp only [szal] at S1
  refine (checkNodes_any _ _ n N m P lo hi (HV.out.below C1' hhi) (by omega) HN.out _ 1 (fun _ => x) 0 _ S1 (by simp)).mono ?_
  rintro e w2 ⟨rfl, b2⟩
  have A2 := A1'.next b2
  have R2 := R1'.next b2
  have C2 := belowNext C1' b2
  have hs2 := Nat.le_trans hs1' b2.size
  clear A1' R1' C1' hs1' S1
  have e0 := A2.b0
  have e1 := A2.b1
  have e2 : w.heap.size < w2.heap.size := by omega
  clear b2 A1 C1 hs1 R1
  rw [HAL.out, ← HCD.out]
  by_cases hc : rc = 0
  rotate_left 1
  · have hcb : (rc != 0) = true := by simp [hc]
    have f0 := R2.b0
    have f1 := R2.b1
    have k0 := R2.free 0
    have k1 := R2.free 1
    have hr : rnC n N m P x s = rc := by unfold rnC; rw [← HCD.out, if_neg hc]
    have HR := Lib.hid hr
    have H := Lib.hid (fun k => show rnK n N m P x s k = 0 by unfold rnK; rw [hr, if_neg hc])
    have C3 := Lib.hid (below_set (below_set C2 (b := w.heap.size + 1) (by omega) 0 (.slice none 0 0)) (b := w.heap.size + 1) (by omega) 1 (.slice none 0 0))
    clear hc hr
    go_wp2_with fail
    refine bodyPost_ret (v := .tuple #[.agg #[.slice none 0 0, .slice none 0 0], .int .i64 rc]) (by simp [results, Try.results30, go_sem, f0, f1]) rfl (ni_err (H.out n) (H.out m) HR.out.symm rfl C3.out)
  have hcb : (rc != 0) = false := by simp [hc]
  have hcc : codeB (netB n N m P) (inR x 0 (n - 1)) = 0 := by rw [← HCD.out]; exact hc
  have hr : rnC n N m P x s = if netB n (rnN N x.toNat s) m P = true then 0 else 5 := by unfold rnC; rw [if_pos hcc]
  have hz := codeB_0' hcc
  obtain ⟨k, rfl⟩ := Int.eq_ofNat_of_zero_le (inR_iff.1 hz.2).1
  have hxk := (inR_iff.1 hz.2).2
  have hkn : k < n := by omega
  have hkI : (k : Int) < n := by omega
  subst hc
  simp only [Int.toNat_natCast] at hr ⊢
  have HR := Lib.hid hr
  clear hcc hz hr HCD
  go_wp2_with fail
  refine (copied_any _ _ n N m P lo hi (HV.out.below C2 hhi) (by omega) HN.out hn2 hm2).mono ?_
  rintro e w3 ⟨u, b1, b2, rfl, ou, l1, l2, b3⟩
  obtain ⟨u1, u2, u3, u4, rfl⟩ := ou.shape
  obtain ⟨rfl, hR⟩ := rn_at ou (by omega)
  have hlt := hR.lt
  have bn := below_new w3 (Obj.cells #[Value.slice (some ⟨b1, 0, none⟩) n u2, Value.slice u3 m u4] 27)
  have q0 := (hR.below bn hlt).free (k * 3)
  have cs : (w3.alloc (Obj.cells #[Value.slice (some ⟨b1, 0, none⟩) n u2, Value.slice u3 m u4] 27)).cell? ⟨b1, k * 3 + 0, none⟩ = some (.string (N k).s) := (hR.below bn hlt).cell k 0 hkn (by omega)
  have t0 := (boxed w3 (.slice (some ⟨b1, 0, none⟩) n u2) (.slice u3 m u4) 27).b0
  have hs3 := Nat.le_trans hs2 b3.size
  have hO := (Only.refl b1 w3).setCell (k * 3) (.string s)
  have hsz : (w3.setCell ⟨b1, k * 3, none⟩ (.string s)).heap.size = w3.heap.size := sz_set _ _ _
  have bm := below_new (w3.setCell ⟨b1, k * 3, none⟩ (.string s)) (Obj.cells #[Value.slice (some ⟨b1, 0, none⟩) n u2, Value.slice u3 m u4] 27)
  have T5 := boxed (w3.setCell ⟨b1, k * 3, none⟩ (.string s)) (.slice (some ⟨b1, 0, none⟩) n u2) (.slice u3 m u4) 27
  have R5 := ((R2.next b3).only hO (by omega)).next bm
  have C5 := belowNext (below_set (belowNext C2 b3) (b := b1) (by omega) (k * 3) (.string s)) bm
  have O5 := (rn_own (s := s) ou hkn).next bm
  have hs5 : w.heap.size + 2 ≤ ((w3.setCell ⟨b1, k * 3, none⟩ (.string s)).alloc (Obj.cells #[Value.slice (some ⟨b1, 0, none⟩) n u2, Value.slice u3 m u4] 27)).heap.size := Nat.le_trans (by omega) bm.size
  simp only [hsz] at T5
  clear b3 bn bm A2 R2 C2 e0 e1 e2 ou hR hO hsz
  rw [Nat.add_zero] at cs
  go_upto_region 6 with (fail)
  clear t0 q0 cs
  generalize hW : (w3.setCell ⟨b1, k * 3, none⟩ (.string s)).alloc (Obj.cells #[Value.slice (some ⟨b1, 0, none⟩) n u2, Value.slice u3 m u4] 27) = W5 at *
  clear hW
  have t0 := T5.b0
  have t1 := T5.b1
  go_wp2_with fail
  refine (isNetwork_any _ _ n (rnN N k s) m P 0 W5.heap.size O5.net (Nat.le_refl _) (fun i hi => by unfold rnN; split; exact hs; exact HN.out i hi)).mono ?_
  rintro e w6 ⟨rfl, b6⟩
  have T6 := T5.next b6
  have R6 := R5.next b6
  have C6 := belowNext C5 b6
  have O6 := O5.next b6
  have hs6 := Nat.le_trans hs5 b6.size
  clear b6 T5 R5 C5 O5 t0 t1 hs5
  have t0 := T6.b0
  have t1 := T6.b1
  have f0 := R6.b0
  have f1 := R6.b1
  have k0 := R6.free 0
  have k1 := R6.free 1
  by_cases hv : netB n (rnN N k s) m P = true
  · have hr : rnC n N m P (k : Int) s = 0 := by rw [HR.out, if_pos hv]
    have H := Lib.hid (fun q => show rnK n N m P (k : Int) s q = q by unfold rnK; rw [if_pos hr])
    have hO := ((Only.refl (w.heap.size + 1) w6).setCell 0 (.slice (some ⟨b1, 0, none⟩) n u2)).setCell 1 (.slice u3 m u4)
    have C7 := Lib.hid (below_set (below_set C6 (b := w.heap.size + 1) (by omega) 0 (.slice (some ⟨b1, 0, none⟩) n u2)) (b := w.heap.size + 1) (by omega) 1 (.slice u3 m u4))
    have O7 := Lib.hid (O6.upd (Upd.of_only hO) (.inr (by omega)) (.inr (by omega)))
    have HRR := Lib.hid hr
    clear hr C6 O6 hO T6 R6
    go_wp2_with fail
    refine bodyPost_ret (v := .tuple #[.agg #[.slice (some ⟨b1, 0, none⟩) n u2, .slice u3 m u4], .int .i64 0]) (by simp [results, Try.results30, go_sem, f0, f1]) rfl ?_
    rw [H.out n, H.out m, HRR.out]
    exact ⟨_, b1, b2, rfl, O7.out, by omega, by omega, C7.out⟩
  · have hv' : netB n (rnN N k s) m P = false := by simpa using hv
    have hr : rnC n N m P (k : Int) s = 5 := by rw [HR.out, if_neg hv]
    have H := Lib.hid (fun q => show rnK n N m P (k : Int) s q = 0 by unfold rnK; rw [hr]; rfl)
    have C7 := Lib.hid (below_set (below_set C6 (b := w.heap.size + 1) (by omega) 0 (.slice none 0 0)) (b := w.heap.size + 1) (by omega) 1 (.slice none 0 0))
    have HRR := Lib.hid hr
    clear hr hv C6 O6 T6 R6
    go_wp2_with fail
    refine bodyPost_ret (v := .tuple #[.agg #[.slice none 0 0, .slice none 0 0], .int .i64 5]) (by simp [results, Try.results30, go_sem, f0, f1]) rfl (ni_err (H.out n) (H.out m) HRR.out.symm rfl C7.out)

set_option maxRecDepth 100000 in
set_option maxHeartbeats 4000000 in
theorem renameS_any (w : World) (v : Value) (n : Nat) (N : Nat → Nod) (m : Nat) (P : Nat → Pip) (lo hi : Nat) (h : NetAt w v n N m P lo hi) (hhi : hi ≤ w.heap.size) (hN : ∀ i, i < n → (N i).s.size ≤ 9223372036854775807) (hn2 : n ≤ 2000000) (hm2 : m ≤ 2000000) (x : Int) (s : ByteArray) (hs : s.size ≤ 9223372036854775807) :
    Calls Try.prog 31 #[v, .int .i64 x, .string s] w (NIPost w (rnK n N m P x s n) (rnN N x.toNat s) (rnK n N m P x s m) P (rnC n N m P x s)) := by
  obtain ⟨v0, v1, rfl, g0, g1⟩ := h.ex
  obtain ⟨p0, c0, rfl⟩ := g0.shape
  obtain ⟨p1, c1, rfl⟩ := g1.shape
  have HV := Lib.hid h
  have HN := Lib.hid hN
  clear h g0 g1 hN
  obtain ⟨rc, hrc⟩ : ∃ c, c = codeB (netB n N m P) (inR x 0 (n - 1)) := ⟨_, rfl⟩
  have HCD := Lib.hid hrc
  clear hrc
  go_enter Try.func31, Try.ntmps31
  go_wp2_with fail
  have A1 := (boxed w (.slice p0 n c0) (.slice p1 m c1) 27).keep (Below.heap_alloc (w.alloc (Obj.cells #[Value.slice p0 n c0, Value.slice p1 m c1] 27)) (Obj.cells #[Value.slice none 0 0, Value.slice none 0 0] 27) _ (by simp))
  have R1 := boxed (w.alloc (Obj.cells #[Value.slice p0 n c0, Value.slice p1 m c1] 27)) (.slice none 0 0) (.slice none 0 0) 27
  rw [show (w.alloc (Obj.cells #[Value.slice p0 n c0, Value.slice p1 m c1] 27)).heap.size = w.heap.size + 1 by simp] at R1
  have C1 := bel2 w (Obj.cells #[Value.slice p0 n c0, Value.slice p1 m c1] 27) (Obj.cells #[Value.slice none 0 0, Value.slice none 0 0] 27)
  have hs1 : w.heap.size + 2 ≤ ((w.alloc (Obj.cells #[Value.slice p0 n c0, Value.slice p1 m c1] 27)).alloc (Obj.cells #[Value.slice none 0 0, Value.slice none 0 0] 27)).heap.size := by simp
  refine (l02NodeCode_any _ _ n N m P lo hi (HV.out.below C1 hhi) (by omega) HN.out x).mono ?_
  rintro e w2 ⟨rfl, b2⟩
  have A2 := A1.next b2
  have R2 := R1.next b2
  have C2 := belowNext C1 b2
  have hs2 := Nat.le_trans hs1 b2.size
  have e0 := A2.b0
  have e1 := A2.b1
  have e2 : w.heap.size < w2.heap.size := by omega
  clear b2 A1 C1 hs1 R1
  rw [← HCD.out]
  by_cases hc : rc = 0
  rotate_left 1
  · have hcb : (rc != 0) = true := by simp [hc]
    have f0 := R2.b0
    have f1 := R2.b1
    have k0 := R2.free 0
    have k1 := R2.free 1
    have hr : rnC n N m P x s = rc := by unfold rnC; rw [← HCD.out, if_neg hc]
    have HR := Lib.hid hr
    have H := Lib.hid (fun k => show rnK n N m P x s k = 0 by unfold rnK; rw [hr, if_neg hc])
    have C3 := Lib.hid (below_set (below_set C2 (b := w.heap.size + 1) (by omega) 0 (.slice none 0 0)) (b := w.heap.size + 1) (by omega) 1 (.slice none 0 0))
    clear hc hr
    go_wp2_with fail
    refine bodyPost_ret (v := .tuple #[.agg #[.slice none 0 0, .slice none 0 0], .int .i64 rc]) (by simp [results, Try.results31, go_sem, f0, f1]) rfl (ni_err (H.out n) (H.out m) HR.out.symm rfl C3.out)
  have hcb : (rc != 0) = false := by simp [hc]
  have hcc : codeB (netB n N m P) (inR x 0 (n - 1)) = 0 := by rw [← HCD.out]; exact hc
  have hr : rnC n N m P x s = if netB n (rnN N x.toNat s) m P = true then 0 else 5 := by unfold rnC; rw [if_pos hcc]
  have hz := codeB_0' hcc
  obtain ⟨k, rfl⟩ := Int.eq_ofNat_of_zero_le (inR_iff.1 hz.2).1
  have hxk := (inR_iff.1 hz.2).2
  have hkn : k < n := by omega
  have hkI : (k : Int) < n := by omega
  subst hc
  simp only [Int.toNat_natCast] at hr ⊢
  have HR := Lib.hid hr
  clear hcc hz hr HCD
  go_wp2_with fail
  refine (l02Own_any _ _ n N m P lo hi (HV.out.below C2 hhi) (by omega) HN.out hn2 hm2).mono ?_
  rintro e w3 ⟨u, b1, b2, rfl, ou, l1, l2, b3⟩
  obtain ⟨u1, u2, u3, u4, rfl⟩ := ou.shape
  obtain ⟨rfl, hR⟩ := rn_at ou (by omega)
  have hlt := hR.lt
  have bn := below_new w3 (Obj.cells #[Value.slice (some ⟨b1, 0, none⟩) n u2, Value.slice u3 m u4] 27)
  have q0 := (hR.below bn hlt).free (k * 3)
  have cs : (w3.alloc (Obj.cells #[Value.slice (some ⟨b1, 0, none⟩) n u2, Value.slice u3 m u4] 27)).cell? ⟨b1, k * 3 + 0, none⟩ = some (.string (N k).s) := (hR.below bn hlt).cell k 0 hkn (by omega)
  have t0 := (boxed w3 (.slice (some ⟨b1, 0, none⟩) n u2) (.slice u3 m u4) 27).b0
  have hs3 := Nat.le_trans hs2 b3.size
  have hO := (Only.refl b1 w3).setCell (k * 3) (.string s)
  have hsz : (w3.setCell ⟨b1, k * 3, none⟩ (.string s)).heap.size = w3.heap.size := sz_set _ _ _
  have bm := below_new (w3.setCell ⟨b1, k * 3, none⟩ (.string s)) (Obj.cells #[Value.slice (some ⟨b1, 0, none⟩) n u2, Value.slice u3 m u4] 27)
  have T5 := boxed (w3.setCell ⟨b1, k * 3, none⟩ (.string s)) (.slice (some ⟨b1, 0, none⟩) n u2) (.slice u3 m u4) 27
  have R5 := ((R2.next b3).only hO (by omega)).next bm
  have C5 := belowNext (below_set (belowNext C2 b3) (b := b1) (by omega) (k * 3) (.string s)) bm
  have O5 := (rn_own (s := s) ou hkn).next bm
  have hs5 : w.heap.size + 2 ≤ ((w3.setCell ⟨b1, k * 3, none⟩ (.string s)).alloc (Obj.cells #[Value.slice (some ⟨b1, 0, none⟩) n u2, Value.slice u3 m u4] 27)).heap.size := Nat.le_trans (by omega) bm.size
  simp only [hsz] at T5
  clear b3 bn bm A2 R2 C2 e0 e1 e2 ou hR hO hsz
  rw [Nat.add_zero] at cs
  go_upto_region 6 with (fail)
  clear t0 q0 cs
  generalize hW : (w3.setCell ⟨b1, k * 3, none⟩ (.string s)).alloc (Obj.cells #[Value.slice (some ⟨b1, 0, none⟩) n u2, Value.slice u3 m u4] 27) = W5 at *
  clear hW
  have t0 := T5.b0
  have t1 := T5.b1
  go_wp2_with fail
  refine (sIsNetwork_any _ _ n (rnN N k s) m P 0 W5.heap.size O5.net (Nat.le_refl _) (fun i hi => by unfold rnN; split; exact hs; exact HN.out i hi)).mono ?_
  rintro e w6 ⟨rfl, b6⟩
  have T6 := T5.next b6
  have R6 := R5.next b6
  have C6 := belowNext C5 b6
  have O6 := O5.next b6
  have hs6 := Nat.le_trans hs5 b6.size
  clear b6 T5 R5 C5 O5 t0 t1 hs5
  have t0 := T6.b0
  have t1 := T6.b1
  have f0 := R6.b0
  have f1 := R6.b1
  have k0 := R6.free 0
  have k1 := R6.free 1
  by_cases hv : netB n (rnN N k s) m P = true
  · have hr : rnC n N m P (k : Int) s = 0 := by rw [HR.out, if_pos hv]
    have H := Lib.hid (fun q => show rnK n N m P (k : Int) s q = q by unfold rnK; rw [if_pos hr])
    have hO := ((Only.refl (w.heap.size + 1) w6).setCell 0 (.slice (some ⟨b1, 0, none⟩) n u2)).setCell 1 (.slice u3 m u4)
    have C7 := Lib.hid (below_set (below_set C6 (b := w.heap.size + 1) (by omega) 0 (.slice (some ⟨b1, 0, none⟩) n u2)) (b := w.heap.size + 1) (by omega) 1 (.slice u3 m u4))
    have O7 := Lib.hid (O6.upd (Upd.of_only hO) (.inr (by omega)) (.inr (by omega)))
    have HRR := Lib.hid hr
    clear hr C6 O6 hO T6 R6
    go_wp2_with fail
    refine bodyPost_ret (v := .tuple #[.agg #[.slice (some ⟨b1, 0, none⟩) n u2, .slice u3 m u4], .int .i64 0]) (by simp [results, Try.results31, go_sem, f0, f1]) rfl ?_
    rw [H.out n, H.out m, HRR.out]
    exact ⟨_, b1, b2, rfl, O7.out, by omega, by omega, C7.out⟩
  · have hv' : netB n (rnN N k s) m P = false := by simpa using hv
    have hr : rnC n N m P (k : Int) s = 5 := by rw [HR.out, if_neg hv]
    have H := Lib.hid (fun q => show rnK n N m P (k : Int) s q = 0 by unfold rnK; rw [hr]; rfl)
    have C7 := Lib.hid (below_set (below_set C6 (b := w.heap.size + 1) (by omega) 0 (.slice none 0 0)) (b := w.heap.size + 1) (by omega) 1 (.slice none 0 0))
    have HRR := Lib.hid hr
    clear hr hv C6 O6 T6 R6
    go_wp2_with fail
    refine bodyPost_ret (v := .tuple #[.agg #[.slice none 0 0, .slice none 0 0], .int .i64 5]) (by simp [results, Try.results31, go_sem, f0, f1]) rfl (ni_err (H.out n) (H.out m) HRR.out.symm rfl C7.out)

theorem agreeRenameNode (n : Nat) (N : Nat → Nod) (m : Nat) (P : Nat → Pip) (x : Int) (s : ByteArray) (hN : ∀ i, i < n → (N i).s.size ≤ 9223372036854775807) (hn : n ≤ 2000000) (hm : m ≤ 2000000) (hs : s.size ≤ 9223372036854775807) :
    ∃ rn rN rm rP rc, rn ≤ 2000000 ∧ rm ≤ 2000000 ∧ (∀ w v, NetAt w v n N m P 0 w.heap.size → Calls Try.prog 30 #[v, .int .i64 x, .string s] w (NIPost w rn rN rm rP rc)) ∧ (∀ w v, NetAt w v n N m P 0 w.heap.size → Calls Try.prog 31 #[v, .int .i64 x, .string s] w (NIPost w rn rN rm rP rc)) :=
  ⟨rnK n N m P x s n, rnN N x.toNat s, rnK n N m P x s m, P, rnC n N m P x s, by unfold rnK; split <;> omega, by unfold rnK; split <;> omega, fun w v h => renameI_any w v n N m P 0 _ h (Nat.le_refl _) hN hn hm x s hs, fun w v h => renameS_any w v n N m P 0 _ h (Nat.le_refl _) hN hn hm x s hs⟩
end Go.Proofs.Ytdmcggnhnkaoeaa.mem
