/-
  Chapter 12: areLevels and l12Levels, slices.Equal, keepBounds and l12Small. Conditions: as each states.
-/
import Derived.Test.YtdbgcbkmcbgdiaaRows
import Derived.Test.YtdbgcbkmcbgdiaaLoe
import Derived.Test.YtdbgcbkmcbgdiaaLfm
import Derived.Test.YtdbgcbkmcbgdiaaPrf
import Derived.Deep.RegionHeld3
namespace Go.Proofs.Ytdbgcbkmcbgdiaa.mem
open Go.RowKit
set_option linter.unusedVariables false

def alB (n L : Nat) (l : Nat → Int) : Bool := decide (L = n) && irB (-1000000000000000000) 1000000000000000000 l L
theorem alB_iff {n L : Nat} {l : Nat → Int} : alB n L l = true ↔ L = n ∧ ∀ k, k < L → -1000000000000000000 ≤ l k ∧ l k ≤ 1000000000000000000 := by
  unfold alB
  rw [Bool.and_eq_true, decide_eq_true_iff, irB_iff]
  constructor
  · rintro ⟨h1, h2⟩
    exact ⟨h1, fun k hk => inR_iff.1 (h2 k hk)⟩
  · rintro ⟨h1, h2⟩
    exact ⟨h1, fun k hk => inR_iff.2 (h2 k hk)⟩
set_option maxRecDepth 100000 in
set_option maxHeartbeats 8000000 in
theorem areLevels_any (w : World) (p0 p1 : Option Addr) (n m c0 c1 : Nat) (va : Value) (L : Nat) (l : Nat → Int) (la ha : Nat) (hv : Sl w va L l la ha) (hha : ha ≤ w.heap.size) (hL9 : L ≤ 9223372036854775807) (hn9 : n ≤ 9223372036854775807) :
    Calls Try.prog 44 #[.agg #[.slice p0 n c0, .slice p1 m c1], va] w fun e w' => e = .returned (.bool (alB n L l)) ∧ Below w.heap.size w w' := by
  obtain ⟨pa, ca, rfl⟩ := hv.sh
  have A0 := boxed w (.slice p0 n c0) (.slice p1 m c1) 36
  have B0 := below_new w (.cells #[.slice p0 n c0, .slice p1 m c1] 36)
  have HS := Lib.hid (hv.below B0 hha)
  have e0 := A0.b0
  by_cases hLn : L = n
  · have hq : ((L : Int) == (n : Int)) = true := by subst hLn; simp
    have HR := Lib.hid (show irB (-1000000000000000000) 1000000000000000000 l L = alB n L l by unfold alB; rw [decide_eq_true hLn, Bool.true_and])
    clear hLn hv
    go_enter Try.func44, Try.ntmps44
    go_wp2_with (go_at_call 54; refine (areInRange_any _ _ _ _ L l la ha HS.out hL9).mono ?_; rintro e w' ⟨rfl, rfl⟩; rw [HR.out])
    go_ret
    exact ⟨rfl, B0⟩
  · have hq : ((L : Int) == (n : Int)) = false := by simp; omega
    have HR := Lib.hid (show alB n L l = false by unfold alB; rw [decide_eq_false hLn, Bool.false_and])
    clear hLn hv
    go_enter Try.func44, Try.ntmps44
    go_wp2_with fail
    go_ret
    exact ⟨ret_b HR.out.symm, B0⟩
theorem l01BigC_any (x : Int) (w : World) : Calls Try.prog 50 #[.int .i64 x] w fun e w' => e = .returned (.bool (inR x (-1000000000000000000) 1000000000000000000)) ∧ w = w' := by
  go_enter Try.func50, Try.ntmps50
  go_wp2_with (go_at_call 22; refine (l01In_any _ _ _ _).mono ?_; rintro e w' ⟨rfl, rfl⟩)
  go_ret
  exact ⟨rfl, rfl⟩
set_option maxRecDepth 100000 in
set_option maxHeartbeats 8000000 in
theorem l12Levels_any (w : World) (p0 p1 : Option Addr) (n m c0 c1 : Nat) (va : Value) (L : Nat) (l : Nat → Int) (la ha : Nat) (hv : Sl w va L l la ha) (hha : ha ≤ w.heap.size) (hL9 : L ≤ 9223372036854775807) (hn9 : n ≤ 9223372036854775807) :
    Calls Try.prog 39 #[.agg #[.slice p0 n c0, .slice p1 m c1], va] w fun e w' => e = .returned (.bool (alB n L l)) ∧ Below w.heap.size w w' := by
  have A0 := boxed w (.slice p0 n c0) (.slice p1 m c1) 36
  have B0 := Lib.hid (below_new w (.cells #[.slice p0 n c0, .slice p1 m c1] 36))
  obtain ⟨pa, ca, rfl, hc⟩ := hv.below B0.out hha
  have HC := Lib.hid hc
  have e0 := A0.b0
  clear hc A0 hv
  go_enter Try.func39, Try.ntmps39
  go_wp2_with fail
  generalize hw1 : w.alloc (.cells #[.slice p0 n c0, .slice p1 m c1] 36) = w1 at *
  clear hw1
  go_loopw [5] (fun iv wr => ∃ k : Nat, iv = .int .i64 k ∧ k ≤ L ∧ irB (-1000000000000000000) 1000000000000000000 l k = true ∧ wr = w1) (fun iv _ => L - (intOf iv).toNat)
  case atStart => exact ⟨0, rfl, Nat.zero_le _, rfl, rfl⟩
  case round =>
    obtain ⟨k, rfl, hk, hir, rfl⟩ := hrel
    have HI := Lib.hid hir
    clear hir
    have k0 : (0 : Int) ≤ (k : Int) := Int.natCast_nonneg _
    by_cases hlt : k < L
    · have k1 : (k : Int) < (L : Int) := by omega
      rcases HC.out with e | ⟨b, o, rfl, _, _, hx⟩
      · omega
      have y0 := hx k hlt
      clear hx
      cases hq : inR (l k) (-1000000000000000000) 1000000000000000000
      · have HR := Lib.hid (show alB n L l = false by unfold alB; rw [irB_no hlt hq, Bool.and_false])
        go_wp2_with (go_at_call 50; refine (l01BigC_any _ _).mono ?_; rintro e w' ⟨rfl, rfl⟩; rw [hq])
        go_ret
        exact ⟨ret_b HR.out.symm, B0.out⟩
      · have HR := Lib.hid (show irB (-1000000000000000000) 1000000000000000000 l (k + 1) = true by unfold irB; rw [HI.out, hq]; rfl)
        go_wp2_with (go_at_call 50; refine (l01BigC_any _ _).mono ?_; rintro e w' ⟨rfl, rfl⟩; rw [hq])
        go_roundw
        case rel => exact ⟨k + 1, by go_num, hlt, HR.out, (by first | rfl | trivial)⟩
        case measure => simp [intOf]; omega
    · have hkn : k = L := by omega
      have HI2 := Lib.hid (show irB (-1000000000000000000) 1000000000000000000 l L = true by rw [← hkn]; exact HI.out)
      have k1 : ¬ ((k : Int) < (L : Int)) := by omega
      have HR := Lib.hid (show ((L : Int) == (n : Int)) = alB n L l by
        unfold alB
        rw [HI2.out, Bool.and_true]
        by_cases e : L = n
        · rw [decide_eq_true e]; subst e; simp
        · rw [decide_eq_false e]; simp; omega)
      clear hkn
      go_wp2_with fail
      go_ret
      exact ⟨ret_b HR.out, B0.out⟩
def eqLB (K : Nat) (d : Nat → Int) (L : Nat) (e : Nat → Int) : Bool := decide (K = L) && smB d e K
theorem smB_iff {d e : Nat → Int} {n : Nat} : smB d e n = true ↔ ∀ k, k < n → d k = e k := by
  unfold smB
  rw [List.all_eq_true]
  constructor
  · intro h k hk
    simpa using h k (List.mem_range.2 hk)
  · intro h k hk
    simpa using h k (List.mem_range.1 hk)
theorem smB_comm (d e : Nat → Int) (n : Nat) : smB d e n = smB e d n := by
  rw [Bool.eq_iff_iff, smB_iff, smB_iff]
  exact ⟨fun h k hk => (h k hk).symm, fun h k hk => (h k hk).symm⟩
theorem smB_refl (d : Nat → Int) (n : Nat) : smB d d n = true := smB_iff.2 (fun _ _ => rfl)
set_option maxRecDepth 100000 in
set_option maxHeartbeats 8000000 in
theorem equal64_any (w : World) (va vb : Value) (K : Nat) (d : Nat → Int) (la ha : Nat) (hv : Sl w va K d la ha) (L : Nat) (e : Nat → Int) (lb hb : Nat) (hu : Sl w vb L e lb hb) (hK : K ≤ 9223372036854775807) (hL : L ≤ 9223372036854775807) :
    Calls Try.prog 36 #[va, vb] w fun e' w' => e' = .returned (.bool (eqLB K d L e)) ∧ Below w.heap.size w w' := by
  by_cases hKL : K = L
  rotate_left 1
  · obtain ⟨pa, ca, rfl, _⟩ := hv
    obtain ⟨pb, cb, rfl, _⟩ := hu
    have hb0 : ((K : Int) != (L : Int)) = true := bne_iff_ne.2 (fun e => hKL (Int.ofNat.inj e))
    have HR := Lib.hid (show eqLB K d L e = false by unfold eqLB; rw [decide_eq_false hKL, Bool.false_and])
    clear hKL
    go_enter Try.func36, Try.ntmps36
    go_wp2_with fail
    go_ret
    exact ⟨ret_b HR.out.symm, Below.refl _ _⟩
  subst hKL
  have HE := Lib.hid (show eqLB K d K e = smB d e K by unfold eqLB; rw [decide_eq_true rfl, Bool.true_and])
  obtain ⟨pa, ca, rfl, hva⟩ := hv
  obtain ⟨pb, cb, rfl, hvb⟩ := hu
  have HVA := Lib.hid hva
  have HVB := Lib.hid hvb
  have hb0 : ((K : Int) != (K : Int)) = false := by simp
  clear hva hvb
  go_enter Try.func36, Try.ntmps36
  go_wp2_with fail
  go_loopw [13] (fun iv wr => ∃ k z : Nat, iv = .int .i64 k ∧ k ≤ K ∧ smB d e k = true ∧ wr = w.drewN z) (fun iv _ => K - (intOf iv).toNat)
  case atStart => exact ⟨0, 0, rfl, Nat.zero_le _, rfl, rfl⟩
  case round =>
    obtain ⟨k, z, rfl, hk, hb', hw⟩ := hrel
    have HF := Lib.hid hb'
    have HWR := Lib.hid hw
    clear hb'
    have k0 : (0 : Int) ≤ (k : Int) := Int.natCast_nonneg _
    by_cases hlt : k < K
    · have k1 : (k : Int) < (K : Int) := by omega
      obtain ⟨ba, oa, rfl, _, _, hx⟩ : ∃ b o, pa = some ⟨b, o, none⟩ ∧ la ≤ b ∧ b < ha ∧ ∀ k, k < K → w.cell? ⟨b, o + k, none⟩ = some (.int .i64 (d k)) := by
        rcases HVA.out with e | e
        · omega
        · exact e
      obtain ⟨bb, ob, rfl, _, _, hz⟩ : ∃ b o, pb = some ⟨b, o, none⟩ ∧ lb ≤ b ∧ b < hb ∧ ∀ k, k < K → w.cell? ⟨b, o + k, none⟩ = some (.int .i64 (e k)) := by
        rcases HVB.out with e | e
        · omega
        · exact e
      have y0 : wr.cell? ⟨ba, oa + k, none⟩ = some (.int .i64 (d k)) := by rw [hw]; exact hx k hlt
      have y1 : wr.cell? ⟨bb, ob + k, none⟩ = some (.int .i64 (e k)) := by rw [hw]; exact hz k hlt
      clear hx hz hw
      cases hq : (d k == e k)
      · have HR := Lib.hid (smB_no hlt hq)
        have hq2 : (d k != e k) = true := by unfold bne; rw [hq]; rfl
        clear hq
        go_wp2_with fail
        go_quiet (fail)
        go_wp2_with fail
        go_ret
        exact ⟨ret_b (by rw [HE.out, HR.out]), by rw [HWR.out, World.drewN_drewN]; exact below_drNN (Below.refl _ _) _⟩
      · have HR := Lib.hid (show smB d e (k + 1) = true by rw [smB_succ, HF.out, hq]; rfl)
        have hq2 : (d k != e k) = false := by unfold bne; rw [hq]; rfl
        clear hq
        go_wp2_with fail
        go_quiet (fail)
        go_wp2_with fail
        go_roundw
        case rel => exact ⟨k + 1, z + nq, by go_num, hlt, HR.out, by rw [HWR.out]; exact (World.drewN_drewN _ _ _)⟩
        case measure => simp [intOf]; omega
    · have hkn : K = k := by omega
      have HR := Lib.hid (show smB d e K = true by rw [hkn]; exact HF.out)
      have k1 : ¬ ((k : Int) < (K : Int)) := by omega
      clear hkn hw
      go_wp2_with fail
      go_ret
      exact ⟨ret_b (by rw [HE.out, HR.out]), by rw [HWR.out]; exact below_drNN (Below.refl _ _) _⟩
set_option maxRecDepth 100000 in
set_option maxHeartbeats 8000000 in
theorem sameL_any (w : World) (va vb : Value) (K : Nat) (d : Nat → Int) (la ha : Nat) (hv : Sl w va K d la ha) (L : Nat) (e : Nat → Int) (lb hb : Nat) (hu : Sl w vb L e lb hb) (hK : K ≤ 9223372036854775807) (hL : L ≤ 9223372036854775807) :
    Calls Try.prog 35 #[va, vb] w fun e' w' => e' = .returned (.bool (eqLB K d L e)) ∧ Below w.heap.size w w' := by
  by_cases hKL : K = L
  rotate_left 1
  · obtain ⟨pa, ca, rfl, _⟩ := hv
    obtain ⟨pb, cb, rfl, _⟩ := hu
    have hb0 : ((K : Int) != (L : Int)) = true := bne_iff_ne.2 (fun e => hKL (Int.ofNat.inj e))
    have HR := Lib.hid (show eqLB K d L e = false by unfold eqLB; rw [decide_eq_false hKL, Bool.false_and])
    clear hKL
    go_enter Try.func35, Try.ntmps35
    go_wp2_with fail
    go_ret
    exact ⟨ret_b HR.out.symm, Below.refl _ _⟩
  subst hKL
  have HE := Lib.hid (show eqLB K d K e = smB d e K by unfold eqLB; rw [decide_eq_true rfl, Bool.true_and])
  obtain ⟨pa, ca, rfl, hva⟩ := hv
  obtain ⟨pb, cb, rfl, hvb⟩ := hu
  have HVA := Lib.hid hva
  have HVB := Lib.hid hvb
  have hb0 : ((K : Int) != (K : Int)) = false := by simp
  clear hva hvb
  go_enter Try.func35, Try.ntmps35
  go_wp2_with fail
  go_loopw [5] (fun iv wr => ∃ k z : Nat, iv = .int .i64 k ∧ k ≤ K ∧ smB d e k = true ∧ wr = w.drewN z) (fun iv _ => K - (intOf iv).toNat)
  case atStart => exact ⟨0, 0, rfl, Nat.zero_le _, rfl, rfl⟩
  case round =>
    obtain ⟨k, z, rfl, hk, hb', hw⟩ := hrel
    have HF := Lib.hid hb'
    have HWR := Lib.hid hw
    clear hb'
    have k0 : (0 : Int) ≤ (k : Int) := Int.natCast_nonneg _
    by_cases hlt : k < K
    · have k1 : (k : Int) < (K : Int) := by omega
      obtain ⟨ba, oa, rfl, _, _, hx⟩ : ∃ b o, pa = some ⟨b, o, none⟩ ∧ la ≤ b ∧ b < ha ∧ ∀ k, k < K → w.cell? ⟨b, o + k, none⟩ = some (.int .i64 (d k)) := by
        rcases HVA.out with e | e
        · omega
        · exact e
      obtain ⟨bb, ob, rfl, _, _, hz⟩ : ∃ b o, pb = some ⟨b, o, none⟩ ∧ lb ≤ b ∧ b < hb ∧ ∀ k, k < K → w.cell? ⟨b, o + k, none⟩ = some (.int .i64 (e k)) := by
        rcases HVB.out with e | e
        · omega
        · exact e
      have y0 : wr.cell? ⟨ba, oa + k, none⟩ = some (.int .i64 (d k)) := by rw [hw]; exact hx k hlt
      have y1 : wr.cell? ⟨bb, ob + k, none⟩ = some (.int .i64 (e k)) := by rw [hw]; exact hz k hlt
      clear hx hz hw
      cases hq : (d k == e k)
      · have HR := Lib.hid (smB_no hlt hq)
        have hq2 : (d k != e k) = true := by unfold bne; rw [hq]; rfl
        clear hq
        go_wp2_with fail
        go_quiet (fail)
        go_wp2_with fail
        go_ret
        exact ⟨ret_b (by rw [HE.out, HR.out]), by rw [HWR.out, World.drewN_drewN]; exact below_drNN (Below.refl _ _) _⟩
      · have HR := Lib.hid (show smB d e (k + 1) = true by rw [smB_succ, HF.out, hq]; rfl)
        have hq2 : (d k != e k) = false := by unfold bne; rw [hq]; rfl
        clear hq
        go_wp2_with fail
        go_quiet (fail)
        go_wp2_with fail
        go_roundw
        case rel => exact ⟨k + 1, z + nq, by go_num, hlt, HR.out, by rw [HWR.out]; exact (World.drewN_drewN _ _ _)⟩
        case measure => simp [intOf]; omega
    · have hkn : K = k := by omega
      have HR := Lib.hid (show smB d e K = true by rw [hkn]; exact HF.out)
      have k1 : ¬ ((k : Int) < (K : Int)) := by omega
      clear hkn hw
      go_wp2_with fail
      go_ret
      exact ⟨ret_b (by rw [HE.out, HR.out]), by rw [HWR.out]; exact below_drNN (Below.refl _ _) _⟩
noncomputable def kbB (n m : Nat) (P : Nat → Pip) (x : Nat → Int) : Nat → Bool
  | 0 => true
  | k + 1 => kbB n m P x k && decide (3 * ((rsS P x (cyc P (fE n P m) (fD n P m) (chS n P m k)) m).natAbs : Int) ≤ bdS P x (cyc P (fE n P m) (fD n P m) (chS n P m k)) m)
theorem kbB_no {n m : Nat} {P : Nat → Pip} {x : Nat → Int} {j : Nat} (h : ¬ 3 * ((rsS P x (cyc P (fE n P m) (fD n P m) (chS n P m j)) m).natAbs : Int) ≤ bdS P x (cyc P (fE n P m) (fD n P m) (chS n P m j)) m) : ∀ {k : Nat}, j < k → kbB n m P x k = false
  | 0, hk => by omega
  | k + 1, hk => by
    unfold kbB
    by_cases e : j = k
    · subst e; rw [decide_eq_false h, Bool.and_false]
    · rw [kbB_no h (by omega : j < k), Bool.false_and]
theorem kbB_all {n m : Nat} {P : Nat → Pip} {x : Nat → Int} : ∀ {k : Nat}, (∀ j, j < k → 3 * ((rsS P x (cyc P (fE n P m) (fD n P m) (chS n P m j)) m).natAbs : Int) ≤ bdS P x (cyc P (fE n P m) (fD n P m) (chS n P m j)) m) → kbB n m P x k = true
  | 0, _ => rfl
  | k + 1, h => by
    unfold kbB
    rw [kbB_all (fun j hj => h j (by omega)), decide_eq_true (h k (by omega))]
    rfl
theorem kbB_pad {n m : Nat} {P : Nat → Pip} {d : Nat → Int} : ∀ k, kbB n m P (pad m d) k = kbB n m P d k
  | 0 => rfl
  | k + 1 => by
    unfold kbB
    rw [kbB_pad k, rsS_congr (fun a ha => pad_at ha) (fun a _ => rfl), bdS_congr (fun a ha => pad_at ha) (fun a _ => rfl)]
end Go.Proofs.Ytdbgcbkmcbgdiaa.mem
