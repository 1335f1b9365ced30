/-
  The contract of the program's byRemainder: the indices of the remainders, the greatest remainder first, and of equal ones the smaller index first. Conditions: at most 64 remainders, which lie in memory as a row.
-/
import Derived.Test.YtmjmamiokkkblabRows
import Derived.Test.YtmjmamiokkkblabStab
import Derived.Test.YtmjmamiokkkblabMake
import Derived.WalkKit
import Derived.ProofKit
import Derived.Lib.Hide
namespace Go.Proofs.Ytmjmamiokkkblab.sort
open Go.RowKit Go.Proofs.Ytmjmamiokkkblab.mem
set_option linter.unusedVariables false

set_option maxHeartbeats 1000000 in
theorem sortStable_any (w : World) (blk n cap cb rb N capr : Nat) (rem d : Nat → Int) (hr : Row w blk n d) (hm : Rems w cb rb N capr rem) (n1 : cb ≠ blk) (n2 : rb ≠ blk) (hn : n ≤ 64) (hN : N = n) (hd : ∀ k, k < n → d k = (k : Int)) :
    Calls Try.prog 26 #[.slice (some ⟨blk, 0, none⟩) n cap, less cb] w (SortPost w blk n rem d 0 n) := by
  have H := Lib.hid (stable_any w blk n cap cb rb N capr rem d hr hm n1 n2 hn hN hd)
  clear hr hm hN hd
  go_enter Try.func26, Try.ntmps26
  go_wp2_with fail
  refine H.out.mono ?_
  rintro e w2 ⟨c, rfl, r2, o2, s2, m2⟩
  have R2 := Lib.hid r2
  have O2 := Lib.hid o2
  have S2 := Lib.hid s2
  have M2 := Lib.hid m2
  clear r2 o2 s2 m2
  go_wp2_with fail
  go_end0
  exact ⟨c, rfl, R2.out, O2.out, S2.out, M2.out⟩

/-- the row of indices that byRemainder hands back -/
structure ByPost (w : World) (n : Nat) (rem : Nat → Int) (e : Ending) (w' : World) : Prop where
  ok : ∃ (ob : Nat) (c : Nat → Int), e = .returned (.slice (some ⟨ob, 0, none⟩) n n) ∧ w.heap.size ≤ ob ∧ ob < w'.heap.size ∧ Row w' ob n c ∧ Below w.heap.size w w' ∧ Sorted rem c 0 n ∧ Same c (fun k => (k : Int)) 0 n

set_option maxHeartbeats 1000000 in
theorem byRem_any (w : World) (rb n capr : Nat) (rem : Nat → Int) (hr : Row w rb n rem) (hb : rb < w.heap.size) (hn : n ≤ 64) :
    Calls Try.prog 20 #[.slice (some ⟨rb, 0, none⟩) n capr] w (ByPost w n rem) := by
  have HR := Lib.hid hr
  have hmk := fun W => make_int W n (by omega)
  clear hr
  go_enter Try.func20, Try.ntmps20
  go_wp2_with fail
  generalize hW : (w.alloc (Obj.cells #[Value.slice (some ⟨rb, 0, none⟩) n capr] 24)).alloc (Obj.cells (zeros n) 3) = W1
  have f1 : Row W1 (w.heap.size + 1) n (fun _ => 0) := by
    have := row_made (w.alloc (Obj.cells #[Value.slice (some ⟨rb, 0, none⟩) n capr] 24)) n 3
    rw [hW] at this
    simpa using this
  have f2 : Below w.heap.size w W1 := by
    rw [← hW]
    exact ((Below.refl _ _).alloc (Nat.le_refl _) _).alloc (by simp) _
  have f3 : Rems W1 w.heap.size rb n capr rem := by
    refine ⟨?_, HR.out.below f2 hb⟩
    have h1 : W1.heap[w.heap.size]? = some (.cells #[Value.slice (some ⟨rb, 0, none⟩) n capr] 24) := by
      rw [← hW, Below.heap_alloc _ _ _ (by simp)]
      exact heap_alloc_new w _
    simp [World.cell?, h1]
  have f4 : W1.heap.size = w.heap.size + 2 := by rw [← hW]; simp
  have F1 := Lib.hid f1
  have F2 := Lib.hid f2
  have F3 := Lib.hid f3
  have F4 := Lib.hid f4
  clear f1 f2 f3 f4 hW hmk
  generalize hO : w.heap.size + 1 = ob at *
  have HOB := Lib.hid hO
  have hob1 : w.heap.size < ob := by omega
  have hob2 : w.heap.size ≠ ob := by omega
  have hob3 : rb ≠ ob := by omega
  clear hO
  go_loopw [10] (fun i wr => ∃ k : Nat, i = .int .i64 k ∧ k ≤ n ∧ Row wr ob n (fun j => if j < k then (j : Int) else 0) ∧ Only ob W1 wr) (fun i _ => n - (intOf i).toNat)
  case atStart => exact ⟨0, rfl, Nat.zero_le _, F1.out.congr (fun k hk => by simp), Only.refl _ _⟩
  case round =>
    obtain ⟨k, rfl, hk, hrow, honly⟩ := hrel
    have HW := Lib.hid hrow
    have HO := Lib.hid honly
    by_cases hlt : k < n
    · have fr := hrow.free k hlt
      have ck := hrow.cell k hlt
      clear hrow honly
      go_wp2_with fail
      go_roundw
      case rel =>
        have hs := (HW.out.set k (k : Int) hlt).congr (d' := fun j => if j < k + 1 then (j : Int) else 0) (fun j hj => by
          unfold upd
          by_cases e : j = k
          · rw [if_pos e, if_pos (by omega), e]
          · rw [if_neg e]
            show (if j < k then (j : Int) else 0) = _
            by_cases e2 : j < k
            · rw [if_pos e2, if_pos (by omega)]
            · rw [if_neg e2, if_neg (by omega)])
        exact ⟨k + 1, by go_num, hlt, hs, HO.out.setCell _ _⟩
      case measure => simp [intOf]; omega
    · clear hrow honly
      go_wp2_with fail
      refine (sortStable_any wr ob n n w.heap.size rb n capr rem _ (HW.out.congr (d' := fun j => (j : Int)) (fun j hj => if_pos (by omega))) (F3.out.only HO.out hob2 hob3) hob2 hob3 hn rfl (fun _ _ => rfl)).mono ?_
      rintro e w2 ⟨c, rfl, r2, o2, s2, m2⟩
      have R2 := Lib.hid r2
      have O2 := Lib.hid (HO.out.trans o2)
      have S2 := Lib.hid s2
      have M2 := Lib.hid m2
      clear r2 o2 s2 m2
      go_wp2_with fail
      go_ret
      exact ⟨ob, c, rfl, by omega, by rw [← O2.out.size, F4.out]; have := HOB.out; omega, R2.out, F2.out.trans (O2.out.below (by omega)), S2.out, M2.out⟩
end Go.Proofs.Ytmjmamiokkkblab.sort
