/-
  Chapter 9's program: flows of drops, codes, sums. Conditions: as each states.
-/
import Derived.Test.YtpgindeoiibgpaaRows
import Derived.Test.YtpgindeoiibgpaaNum
import Derived.Test.YtpgindeoiibgpaaSum
import Derived.Test.YtpgindeoiibgpaaRsl
import Derived.Test.YtpgindeoiibgpaaRsm
import Derived.WalkKit
import Derived.ProofKit
import Derived.Lib.Hide
import Derived.Deep.QuietTactic
import Derived.BigQuiet
import Derived.Deep.RegionHeld3
import Derived.Laws.EntriesVeiled
import Derived.OwnWalk
namespace Go.Proofs.Ytpgindeoiibgpaa.rst
open Go.RowKit Go.Proofs.Ytpgindeoiibgpaa.num Go.Proofs.Ytpgindeoiibgpaa.share Go.Proofs.Ytpgindeoiibgpaa.mem
set_option linter.unusedVariables false

theorem ret_t {k l : IntKind} {a b c d : Int} (h : a = b) (g : c = d) : Ending.returned (.tuple #[.int k a, .int l c]) = .returned (.tuple #[.int k b, .int l d]) := by rw [h, g]
theorem ret_vt {l : IntKind} {v : Value} {c d : Int} (g : c = d) : Ending.returned (.tuple #[v, .int l c]) = .returned (.tuple #[v, .int l d]) := by rw [g]

theorem flowThrough_any (k x : Int) (w : World) (hk : 1 ≤ k ∧ k ≤ 1000) (h0 : 0 ≤ x) (h1 : x ≤ 1000000000000000000) :
    Calls Try.prog 49 #[.int .i64 k, .int .i64 x] w fun e w' => e = .returned (.int .i64 (flw k x)) ∧ w = w' := by
  have hq := quo_bd hk.1 h0 h1
  have ht : x.tdiv k = x / k := Int.tdiv_eq_ediv_of_nonneg h0
  go_enter Try.func49, Try.ntmps49
  go_wp2_with (go_at_call 58; refine (RootOf_yes _ _ (by omega) (by omega)).mono ?_; rintro e w' ⟨rfl, rfl⟩)
  go_ret
  exact ⟨rfl, rfl⟩
theorem l09Flow_any (k x : Int) (w : World) (hk : 1 ≤ k ∧ k ≤ 1000) (h0 : 0 ≤ x) (h1 : x ≤ 1000000000000000000) :
    Calls Try.prog 47 #[.int .i64 k, .int .i64 x] w fun e w' => e = .returned (.int .i64 (flw k x)) ∧ w = w' := by
  have hq := quo_bd hk.1 h0 h1
  have ht : x.tdiv k = x / k := Int.tdiv_eq_ediv_of_nonneg h0
  go_enter Try.func47, Try.ntmps47
  go_wp2_with (go_at_call 56; refine (l01Root_any _ _ (by omega) (by omega)).mono ?_; rintro e w' ⟨rfl, rfl⟩)
  go_ret
  exact ⟨rfl, rfl⟩

/-- the code of a list of resistances -/
def codR (n : Nat) (d : Nat → Int) : Int := if n = 0 ∨ 8 < n then 3 else if irB 1 1000 d n = true then 0 else 2
theorem codR_facts {n : Nat} {d : Nat → Int} (h : codR n d = 0) : 0 < n ∧ n ≤ 8 ∧ Ress d n := by
  unfold codR at h
  split at h
  · omega
  · split at h
    · rename_i h1 h2
      exact ⟨by omega, by omega, fun j hj => inR_iff.1 (irB_iff.1 h2 j hj)⟩
    · omega
theorem areResistances_any (w : World) (v : Value) (n : Nat) (d : Nat → Int) (lo hi : Nat) (h : Sl w v n d lo hi) (hn : n ≤ 9223372036854775807) :
    Calls Try.prog 48 #[v] w fun e w' => e = .returned (.bool (irB 1 1000 d n)) ∧ w = w' := by
  have H := Lib.hid h
  obtain ⟨p, cap, rfl, hc⟩ := h
  clear hc
  go_enter Try.func48, Try.ntmps48
  go_wp2_with (go_at_call 57; refine (areInRange_any _ _ _ _ n d _ _ H.out hn).mono ?_; rintro e w' ⟨rfl, rfl⟩)
  go_ret
  exact ⟨rfl, rfl⟩
theorem checkR_any (w : World) (v : Value) (n : Nat) (d : Nat → Int) (lo hi : Nat) (h : Sl w v n d lo hi) (hn : n ≤ 9223372036854775807) :
    Calls Try.prog 38 #[v] w fun e w' => e = .returned (.int .i64 (codR n d)) ∧ w = w' := by
  have H := Lib.hid h
  obtain ⟨p, cap, rfl, hc⟩ := h
  clear hc
  by_cases h0 : n = 0
  · have HCD := Lib.hid (show codR n d = 3 by unfold codR; rw [if_pos (.inl h0)])
    have hb : ((n : Int) == 0) = true := by rw [beq_iff_eq]; omega
    clear h0
    go_enter Try.func38, Try.ntmps38
    go_wp2_with fail
    go_ret
    exact ⟨ret_i (by rw [HCD.out]), rfl⟩
  have hb : ((n : Int) == 0) = false := by rw [beq_eq_false_iff_ne]; omega
  by_cases h8 : (8 : Int) < n
  · have HCD := Lib.hid (show codR n d = 3 by unfold codR; rw [if_pos (.inr (by omega))])
    go_enter Try.func38, Try.ntmps38
    go_wp2_with fail
    go_ret
    exact ⟨ret_i (by rw [HCD.out]), rfl⟩
  cases hd : irB 1 1000 d n
  · have HD := Lib.hid hd
    have HCD := Lib.hid (show codR n d = 2 by unfold codR; rw [if_neg (by omega), if_neg (by rw [hd]; simp)])
    clear hd
    go_enter Try.func38, Try.ntmps38
    go_wp2_with (go_at_call 48; refine (areResistances_any _ _ n d _ _ H.out hn).mono ?_; rintro e w' ⟨rfl, rfl⟩; rw [HD.out])
    go_ret
    exact ⟨ret_i (by rw [HCD.out]), rfl⟩
  · have HD := Lib.hid hd
    have HCD := Lib.hid (show codR n d = 0 by unfold codR; rw [if_neg (by omega), if_pos hd])
    clear hd
    go_enter Try.func38, Try.ntmps38
    go_wp2_with (go_at_call 48; refine (areResistances_any _ _ n d _ _ H.out hn).mono ?_; rintro e w' ⟨rfl, rfl⟩; rw [HD.out])
    go_ret
    exact ⟨ret_i (by rw [HCD.out]), rfl⟩

/-- the sum of resistances -/
def serV (n : Nat) (d : Nat → Int) : Int := if codR n d = 0 then tot d n else 0
theorem ress_sums {n : Nat} {d : Nat → Int} (h : Ress d n) (hn : n ≤ 8) : Sums d n := sums_of (fun k hk => by have := h k hk; omega) (by omega)
theorem fls_sums {n : Nat} {d : Nat → Int} {x : Int} (h : Ress d n) (hn : n ≤ 8) (h0 : 0 ≤ x) (h1 : x ≤ 1000000000000000000) : Sums (fls d x) n := sums_of (fls_bd h h0 h1) (by omega)
theorem SeriesOf_any (w : World) (v : Value) (n : Nat) (d : Nat → Int) (lo hi : Nat) (h : Sl w v n d lo hi) (hn : n ≤ 9223372036854775807) :
    Calls Try.prog 27 #[v] w fun e w' => e = .returned (.tuple #[.int .i64 (serV n d), .int .i64 (codR n d)]) ∧ w = w' := by
  have H := Lib.hid h
  obtain ⟨p, cap, rfl, hc⟩ := h
  clear hc
  unfold serV
  generalize hc : codR n d = c
  have HC := Lib.hid hc
  by_cases h0 : c = 0
  · obtain ⟨n0, n8, hR⟩ := codR_facts (hc.trans h0)
    have HS := Lib.hid (ress_sums hR n8)
    subst h0
    clear hc hR
    go_enter Try.func27, Try.ntmps27
    go_wp2_with (first | (go_at_call 38; refine (checkR_any _ _ n d _ _ H.out hn).mono ?_; rintro e w' ⟨rfl, rfl⟩; rw [HC.out]) | (go_at_call 42; refine (sum_any _ _ n d _ _ H.out HS.out (by omega)).mono ?_; rintro e w' ⟨rfl, rfl⟩))
    go_ret2
    exact ⟨rfl, rfl⟩
  · have hb : (c != 0) = true := by simpa using h0
    rw [if_neg h0]
    clear hc h0
    go_enter Try.func27, Try.ntmps27
    go_wp2_with (go_at_call 38; refine (checkR_any _ _ n d _ _ H.out hn).mono ?_; rintro e w' ⟨rfl, rfl⟩; rw [HC.out])
    go_ret2
    exact ⟨rfl, rfl⟩
def flC (k x : Int) : Int := if (inR k 1 1000 && inR x 0 1000000000000000000) = true then 0 else 2
def flV (k x : Int) : Int := if (inR k 1 1000 && inR x 0 1000000000000000000) = true then flw k x else 0
set_option maxHeartbeats 4000000 in
theorem flowsThrough_any (w : World) (v : Value) (n : Nat) (d : Nat → Int) (lo hi : Nat) (x : Int) (h : Sl w v n d lo hi) (hn : n ≤ 2000000) (hhi : hi ≤ w.heap.size) (hR : Ress d n) (h0 : 0 ≤ x) (h1 : x ≤ 1000000000000000000) :
    Calls Try.prog 43 #[v, .int .i64 x] w (CopyPost w n (fls d x)) := by
  obtain ⟨p, cap, rfl, hc⟩ := h
  have hmk := fun W => make_int64 W n hn
  have HC := Lib.hid hc
  have HR := Lib.hid hR
  clear hc hR
  go_enter Try.func43, Try.ntmps43
  go_wp2_with fail
  generalize hW : w.alloc (Obj.cells (zeros n) 2) = W1
  have f1 : Row W1 w.heap.size n (fun _ => 0) := by rw [← hW]; exact row_made w n _
  have f2 : Below w.heap.size w W1 := by rw [← hW]; exact (Below.refl _ _).alloc (Nat.le_refl _) _
  have f4 : W1.heap.size = w.heap.size + 1 := by rw [← hW]; simp
  have F1 := Lib.hid f1
  have F2 := Lib.hid f2
  have F4 := Lib.hid f4
  clear f1 f2 f4 hW hmk
  generalize hO : w.heap.size = ob at *
  have HOB := Lib.hid hO
  clear hO
  go_loopw [13] (fun i wr => ∃ k : Nat, i = .int .i64 k ∧ k ≤ n ∧ Row wr ob n (fun j => if j < k then fls d x j else 0) ∧ Only ob W1 wr) (fun i _ => n - (intOf i).toNat)
  case atStart => exact ⟨0, rfl, Nat.zero_le _, F1.out.congr (fun k hk => by simp), Only.refl _ _⟩
  case round =>
    obtain ⟨k, rfl, hk, hrow, honly⟩ := hrel
    have HW := Lib.hid hrow
    have HO := Lib.hid honly
    by_cases hlt : k < n
    · rcases HC.out with h0 | ⟨b, o, rfl, g1, g2, g3⟩
      · omega
      have fr := hrow.free k hlt
      have ck := hrow.cell k hlt
      have hne : b ≠ ob := by omega
      have cs : wr.cell? ⟨b, o + k, none⟩ = some (.int .i64 (d k)) :=
        ((honly.cell (a := ⟨b, o + k, none⟩) hne).trans (F2.out.cell (p := ⟨b, o + k, none⟩) (by show b < ob; omega))).trans (g3 k hlt)
      have hkn : (k : Int) < (n : Int) := by omega
      have hdk := HR.out k hlt
      clear hrow honly g3
      go_wp2_with (go_at_call 49; refine (flowThrough_any _ _ _ (by omega) (by omega) (by omega)).mono ?_; rintro e w' ⟨rfl, rfl⟩)
      go_roundw
      case rel =>
        have hs := (HW.out.set k (flw (d k) x) hlt).congr (d' := fun j => if j < k + 1 then fls d x j else 0) (fun j hj => by
          unfold upd
          by_cases e : j = k
          · rw [if_pos e, if_pos (by omega), e]; rfl
          · rw [if_neg e]
            show (if j < k then fls d x j else 0) = _
            by_cases e2 : j < k
            · rw [if_pos e2, if_pos (by omega)]
            · rw [if_neg e2, if_neg (by omega)])
        exact ⟨k + 1, by go_num, hlt, hs, HO.out.setCell _ _⟩
      case measure => simp [intOf]; omega
    · have hkn : ¬ ((k : Int) < (n : Int)) := by omega
      clear hrow honly
      go_wp2_with fail
      go_ret
      refine ⟨ret_sl HOB.out.symm, ?_, ?_, ?_⟩
      · rw [HOB.out]; exact HW.out.congr (fun j hj => if_pos (by omega))
      · rw [HOB.out]; exact F2.out.trans (HO.out.below (Nat.le_refl _))
      · rw [← HO.out.size, F4.out, HOB.out]
end Go.Proofs.Ytpgindeoiibgpaa.rst
