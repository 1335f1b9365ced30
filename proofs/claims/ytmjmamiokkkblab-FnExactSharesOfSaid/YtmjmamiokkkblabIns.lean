/-
  The contract of the library's insertion sort over a row of indices that stand in their places. Conditions: the range lies within the row.
-/
import Derived.Test.YtmjmamiokkkblabRows
import Derived.Test.YtmjmamiokkkblabSortMath
import Derived.Test.YtmjmamiokkkblabCmp
import Derived.WalkKit
import Derived.ProofKit
import Derived.Lib.Hide
import Derived.RegionTactic
import Derived.BigRegion
import Derived.Deep.QuietTactic
import Derived.BigQuiet
namespace Go.Proofs.Ytmjmamiokkkblab.sort
open Go.RowKit Go.Proofs.Ytmjmamiokkkblab.mem
set_option linter.unusedVariables false

/-- the comparison as a value: the closure over the captured variable -/
abbrev less (cb : Nat) : Value := .func (.func 27) #[] #[.pointer (some ⟨cb, 0, none⟩)]
theorem less_int (w : World) (cb rb N cap : Nat) (rem : Nat → Int) (x y : Int) (h : Rems w cb rb N cap rem) (hx : 0 ≤ x ∧ x < N) (hy : 0 ≤ y ∧ y < N) (hN : N ≤ 1000000) :
    Calls Try.prog 27 #[.int .i64 x, .int .i64 y, .pointer (some ⟨cb, 0, none⟩)] w fun e w' => e = .returned (.int .i64 (cmpV (rem y.toNat) (rem x.toNat))) ∧ ∃ n, w' = w.drewN n := by
  obtain ⟨i, rfl⟩ := Int.eq_ofNat_of_zero_le hx.1
  obtain ⟨j, rfl⟩ := Int.eq_ofNat_of_zero_le hy.1
  exact less_any w cb rb N cap rem i j h (by omega) (by omega) hN
theorem cmp_yes {rem : Nat → Int} {x y : Int} (h : y < x) (g : cmpV (rem y.toNat) (rem x.toNat) < 0) : lt rem x y := by
  unfold cmpV at g; unfold lt
  split at g
  · omega
  · split at g <;> omega
theorem cmp_no {rem : Nat → Int} {x y : Int} (h : y < x) (g : ¬ cmpV (rem y.toNat) (rem x.toNat) < 0) : lt rem y x := by
  unfold cmpV at g; unfold lt
  split at g
  · omega
  · split at g <;> omega

structure SortPost (w : World) (blk n : Nat) (rem d : Nat → Int) (a b : Nat) (e : Ending) (w' : World) : Prop where
  done : ∃ c, e = .returned (.tuple #[]) ∧ Row w' blk n c ∧ Only blk w w' ∧ Sorted rem c a b ∧ Same c d a b

def InsOut (w : World) (blk n : Nat) (rem d : Nat → Int) (a b : Nat) (i : Value) (wr : World) : Prop :=
  ∃ (k : Nat) (c : Nat → Int), i = .int .i64 k ∧ a + 1 ≤ k ∧ (k ≤ b ∨ k = a + 1) ∧ Row wr blk n c ∧ Only blk w wr ∧ Sorted rem c a k ∧ Same c d a b ∧ (a < b → Vals c a k a k) ∧ ∀ q, k ≤ q → q < b → c q = d q
def InsIn (w : World) (blk n : Nat) (rem d : Nat → Int) (a b k : Nat) (j : Value) (wr : World) : Prop :=
  ∃ (q : Nat) (c : Nat → Int), j = .int .i64 q ∧ a ≤ q ∧ q ≤ k ∧ Row wr blk n c ∧ Only blk w wr ∧ Ins rem c a k q ∧ Same c d a b ∧ Vals c a (k + 1) a (k + 1) ∧ ∀ q, k + 1 ≤ q → q < b → c q = d q

set_option maxHeartbeats 1000000 in
theorem insertion_any (w : World) (blk n cap cb rb N capr : Nat) (rem d : Nat → Int) (a b : Nat) (hr : Row w blk n d) (hm : Rems w cb rb N capr rem) (n1 : cb ≠ blk) (n2 : rb ≠ blk) (h1 : a ≤ b) (h2 : b ≤ n) (hn : n ≤ 1000) (hN : N = n)
    (hd : ∀ k, a ≤ k → k < b → d k = (k : Int)) :
    Calls Try.prog 31 #[.slice (some ⟨blk, 0, none⟩) n cap, .int .i64 a, .int .i64 b, less cb] w (SortPost w blk n rem d a b) := by
  have HR := Lib.hid hr
  have HM := Lib.hid hm
  have HD := Lib.hid hd
  have HN := Lib.hid hN
  clear hr hm hd hN
  go_enter Try.func31, Try.ntmps31
  go_wp2_with fail
  go_loopw [8] (fun i wr => InsOut w blk n rem d a b i wr) (fun i _ => b - (intOf i).toNat)
  case atStart =>
    refine ⟨a + 1, d, by go_num, Nat.le_refl _, .inr rfl, HR.out, Only.refl _ _, fun p q h1 h2 h3 => by omega, Same.refl _ _ _, fun hab k h1 h2 => ?_, fun _ _ _ => rfl⟩
    obtain rfl : k = a := by omega
    have := HD.out k (Nat.le_refl _) hab
    omega
  case round =>
    obtain ⟨k, c, rfl, k1, k2, hrow, honly, hs, hsame, hv, hrest⟩ := hrel
    have HW := Lib.hid hrow
    have HO := Lib.hid honly
    have HS := Lib.hid hs
    have HSM := Lib.hid hsame
    have HV := Lib.hid hv
    have HT := Lib.hid hrest
    clear hrow honly hs hsame hv hrest
    by_cases hlt : k < b
    · have hck : c k = (k : Int) := (HT.out k (Nat.le_refl _) hlt).trans (HD.out k (by omega) hlt)
      have HCK := Lib.hid hck
      clear hck
      go_wp2_with fail
      go_loopw [9] (fun j wq => InsIn w blk n rem d a b k j wq) (fun j _ => (intOf j).toNat)
      case atStart =>
        refine ⟨k, c, rfl, by omega, Nat.le_refl _, HW.out, HO.out, Ins.start HS.out (HV.out (by omega)) HCK.out, HSM.out, fun j h1 h2 => ?_, fun q h1 h2 => HT.out q (by omega) h2⟩
        by_cases e : j = k
        · rw [e, HCK.out]; omega
        · have := HV.out (by omega) j h1 (by omega)
          omega
      case round =>
        obtain ⟨q, c, rfl, q1, q2, hrow, honly, hi, hsame, hv, hrest⟩ := hrel
        have HW := Lib.hid hrow
        have HO := Lib.hid honly
        have HI := Lib.hid hi
        have HSM := Lib.hid hsame
        have HV := Lib.hid hv
        have HT := Lib.hid hrest
        have HMW := Lib.hid (HM.out.only HO.out n1 n2)
        by_cases hq : a < q
        · have cq := hrow.cell q (by omega)
          have cp := hrow.cell (q - 1) (by omega)
          have fq := hrow.free q (by omega)
          have fp := hrow.free (q - 1) (by omega)
          have vq := hv q (by omega) (by omega)
          have vp := hv (q - 1) (by omega) (by omega)
          have hne : q ≠ q - 1 := by omega
          have hlk : c (q - 1) < c q := by rw [HI.out.at_]; exact HI.out.val (q - 1) (by omega) (by omega) (by omega)
          have hqq : decide (a < q) = true := by simpa using hq
          have hx0 : 0 ≤ c q ∧ c q < N := by have := HN.out; omega
          have hy0 : 0 ≤ c (q - 1) ∧ c (q - 1) < N := by have := HN.out; omega
          clear hrow honly hi hsame hv hrest
          by_cases hc : cmpV (rem (c (q - 1)).toNat) (rem (c q).toNat) < 0
          · have HL := Lib.hid (cmp_yes hlk hc)
            go_wp2_with fail
            go_quiet ((go_at_call 27; exact Calls.quiet_of (less_int _ cb rb N capr rem _ _ (HMW.out.drewN _) hx0 hy0 (by have := HN.out; omega))))
            go_wp2_with fail
            go_region
            go_wp2
            go_roundw
            case rel =>
              have hs := (((HW.out.drewN nq).set q (c (q - 1)) (by omega)).set (q - 1) (c q) (by omega)).drew
              rw [swap_upd _ _ _ hne] at hs
              have hl := HL.out
              rw [HI.out.at_] at hl
              refine ⟨q - 1, _, by congr 1; omega, by omega, by omega, hs, (((HO.out.drewN nq).setCell _ _).setCell _ _).drew, HI.out.step hq q2 hl, (Same.swap c q (q - 1) a b ⟨by omega, by omega⟩ ⟨by omega, by omega⟩).trans HSM.out, (Same.swap c q (q - 1) a (k + 1) ⟨by omega, by omega⟩ ⟨by omega, by omega⟩).vals HV.out, fun j h1 h2 => ?_⟩
              unfold swap
              rw [if_neg (by omega), if_neg (by omega)]
              exact HT.out j h1 h2
            case measure => simp [intOf]; omega
          · have HL := Lib.hid (cmp_no hlk hc)
            go_wp2_with fail
            go_quiet ((go_at_call 27; exact Calls.quiet_of (less_int _ cb rb N capr rem _ _ (HMW.out.drewN _) hx0 hy0 (by have := HN.out; omega))))
            go_wp2_with fail
            go_roundw
            case rel =>
              have hl := HL.out
              rw [HI.out.at_] at hl
              exact ⟨k + 1, c, by go_num, by omega, .inl (by omega), HW.out.drewN _, HO.out.drewN _, HI.out.done q1 q2 (.inr hl), HSM.out, fun _ => HV.out, HT.out⟩
            case measure => simp [intOf]; omega
        · have hqq : decide (a < q) = false := by simpa using hq
          clear hrow honly hi hsame hv hrest
          go_wp2_with fail
          go_quiet (fail)
          go_wp2_with fail
          go_roundw
          case rel => exact ⟨k + 1, c, by go_num, by omega, .inl (by omega), HW.out.drewN _, HO.out.drewN _, HI.out.done q1 q2 (.inl (by omega)), HSM.out, fun _ => HV.out, HT.out⟩
          case measure => simp [intOf]; omega
    · go_wp2_with fail
      go_end0
      exact ⟨c, rfl, HW.out, HO.out, fun p q h1 h2 h3 => HS.out p q h1 h2 (by omega), HSM.out⟩
end Go.Proofs.Ytmjmamiokkkblab.sort
