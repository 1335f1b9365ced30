/-
  slices.Repeat of one number, at 1 to 24 times. Conditions: as each states.
-/
import Derived.Test.YtkgekaedpdgmdaaRows
import Derived.Test.YtkgekaedpdgmdaaCs
import Derived.Test.YtkgekaedpdgmdaaMake
import Derived.WalkKit
import Derived.ProofKit
import Derived.Outline
import Derived.OwnWalk
import Derived.Lib.Hide
import Derived.Laws.CopyOwn
import Derived.Deep.Cut
import Derived.Deep.RegionLaw
namespace Go.Proofs.Ytkgekaedpdgmdaa.mem
open Go.RowKit
set_option linter.unusedVariables false

set_option maxHeartbeats 4000000 in
theorem mul64_small (n : Nat) (h1 : 1 ≤ n) (h2 : n ≤ 24) (w : World) : Calls Try.prog 138 #[.int .u64 1, .int .u64 n] w fun e w' => e = .returned (.tuple #[.int .u64 0, .int .u64 n]) ∧ w' = w := by
  rcases (by omega : n = 1 ∨ n = 2 ∨ n = 3 ∨ n = 4 ∨ n = 5 ∨ n = 6 ∨ n = 7 ∨ n = 8 ∨ n = 9 ∨ n = 10 ∨ n = 11 ∨ n = 12 ∨ n = 13 ∨ n = 14 ∨ n = 15 ∨ n = 16 ∨ n = 17 ∨ n = 18 ∨ n = 19 ∨ n = 20 ∨ n = 21 ∨ n = 22 ∨ n = 23 ∨ n = 24) with rfl | rfl | rfl | rfl | rfl | rfl | rfl | rfl | rfl | rfl | rfl | rfl | rfl | rfl | rfl | rfl | rfl | rfl | rfl | rfl | rfl | rfl | rfl | rfl
  all_goals
    go_enter Try.func138, Try.ntmps138
    go_wp2
    go_ret2
    exact ⟨rfl, rfl⟩
set_option maxHeartbeats 4000000 in
theorem mul_small (n : Nat) (h1 : 1 ≤ n) (h2 : n ≤ 24) (w : World) : Calls Try.prog 135 #[.int .u64 1, .int .u64 n] w fun e w' => e = .returned (.tuple #[.int .u64 0, .int .u64 n]) ∧ w' = w := by
  go_enter Try.func135, Try.ntmps135
  go_wp2_with (go_at_call 138; refine (mul64_small n h1 h2 _).mono ?_; rintro e w2 ⟨rfl, rfl⟩)
  go_ret2
  exact ⟨rfl, rfl⟩

def rowv (k n : Nat) : List Value := List.replicate k (.int .i64 (-1)) ++ List.replicate (n - k) (.int .i64 0)
theorem rowv_len {k n : Nat} (h : k ≤ n) : (rowv k n).length = n := by simp [rowv]; omega
theorem rowv_get {k n j : Nat} (h : k ≤ n) (hj : j < n) : (rowv k n)[j]? = some (.int .i64 (if j < k then -1 else 0)) := by
  unfold rowv
  rcases Nat.lt_or_ge j k with hk | hk
  · rw [List.getElem?_append_left (by simpa using hk), List.getElem?_replicate, if_pos hk, if_pos hk]
  · rw [List.getElem?_append_right (by simpa using hk), List.getElem?_replicate, List.length_replicate, if_pos (by omega), if_neg (by omega)]
theorem rowv_splice {k m n : Nat} (h : k + m ≤ n) : splice (rowv k n) k (List.replicate m (.int .i64 (-1))) = rowv (k + m) n := by
  refine List.ext_getElem? fun j => ?_
  unfold splice
  rcases Nat.lt_or_ge j n with hj | hj
  · rw [rowv_get h hj]
    rcases Nat.lt_or_ge j k with hk | hk
    · rw [List.getElem?_append_left (by simp [rowv_len (by omega : k ≤ n)]; omega), List.getElem?_take, if_pos hk, rowv_get (by omega) hj, if_pos hk, if_pos (by omega)]
    · rw [List.getElem?_append_right (by simp [rowv_len (by omega : k ≤ n)]; omega)]
      have e : (List.take k (rowv k n)).length = k := by simp [rowv_len (by omega : k ≤ n)]; omega
      rw [e]
      rcases Nat.lt_or_ge j (k + m) with hm | hm
      · rw [List.getElem?_append_left (by simp; omega), List.getElem?_replicate, if_pos (by omega), if_pos hm]
      · rw [List.getElem?_append_right (by simp; omega), List.getElem?_drop, List.length_replicate, rowv_get (by omega) (by omega), if_neg (by omega), if_neg (by omega)]
  · have e := rowv_len (show k ≤ n by omega)
    rw [List.getElem?_eq_none (l := rowv (k + m) n) (by rw [rowv_len h]; exact hj), List.getElem?_eq_none]
    simp [e]
    omega
theorem rowv_one {n : Nat} (h : 1 ≤ n) : splice (zeros n).toList 0 [.int .i64 (-1)] = rowv 1 n := by
  have e : (zeros n).toList = rowv 0 n := by
    refine List.ext_getElem? fun j => ?_
    rcases Nat.lt_or_ge j n with hj | hj
    · rw [rowv_get (Nat.zero_le _) hj, if_neg (by omega), Array.getElem?_toList, zeros_get n j hj]
    · rw [List.getElem?_eq_none (l := rowv 0 n) (by rw [rowv_len (Nat.zero_le _)]; exact hj), List.getElem?_eq_none]
      simpa [zeros, madeCells] using hj
  rw [e]
  exact rowv_splice (k := 0) (m := 1) (by omega)
theorem info_size_int64 : (Try.prog.info? 2).map (·.size) = some 1 := by kernel_rfl

theorem get_lt1 {α : Type} {fs : List α} {i : Nat} {v : α} (h : fs[i]? = some v) : i < fs.length := by
  rcases Nat.lt_or_ge i fs.length with h1 | h1
  · exact h1
  · rw [List.getElem?_eq_none h1] at h
    cases h
set_option maxRecDepth 100000 in
set_option maxHeartbeats 4000000 in
theorem repeat_any (w : World) (g0 n : Nat) (h1 : 1 ≤ n) (h2 : n ≤ 24) (hg0 : g0 < w.heap.size) (hc : w.cell? ⟨g0, 0, none⟩ = some (.int .i64 (-1))) :
    Calls Try.prog 132 #[.slice (some ⟨g0, 0, none⟩) 1 1, .int .i64 n] w fun e w' => e = .returned (.slice (some ⟨w.heap.size, 0, none⟩) n n) ∧ Ob w' w.heap.size n (fun _ => .int .i64 (-1)) ∧ Below w.heap.size w w' := by
  have hmk := make_int64 w n (by omega)
  have n0 : ¬ ((n : Int) < 0) := by omega
  have n1 : IntKind.u64.wrap (n : Int) = (n : Int) := by
    have : ∀ k : Nat, k < 25 → IntKind.u64.wrap (k : Int) = k := by decide
    exact this n (by omega)
  have HG : Hid ((w.alloc (.cells (zeros n) 2)).heap[w.heap.size]? = some (.cells (zeros n).toList.toArray 2 (0, 0))) := Lib.hid (by simpa using heap_alloc_new w (.cells (zeros n) 2))
  have HS : Hid (∀ (j : Nat) (v : Value), ([Value.int .i64 (-1)] : List Value)[j]? = some v → (w.alloc (.cells (zeros n) 2)).cell? ((⟨g0, 0, none⟩ : Addr).add j) = some v) := Lib.hid (by
    intro j v hj
    have := get_lt1 hj
    simp only [List.length_cons, List.length_nil] at this
    obtain rfl : j = 0 := by omega
    simp only [List.getElem?_cons_zero, Option.some.injEq] at hj
    rw [← hj, ← hc]
    exact World.cell?_of_block (Below.heap_alloc _ _ _ hg0))
  have HB := Lib.hid (below_new w (.cells (zeros n) 2))
  have HF : 0 + ([Value.int .i64 (-1)] : List Value).length ≤ (zeros n).toList.length := by simp [zeros, madeCells]; omega
  have HN : ([Value.int .i64 (-1)] : List Value).length = Nat.min 1 n := by simp [Nat.min_def]; omega
  have H1 : ∀ v ∈ ([Value.int .i64 (-1)] : List Value), v.oneCell' = true := by simp [Value.oneCell']
  go_enter Try.func132, Try.ntmps132
  go_upto_region 7 with (go_at_call 135; refine (mul_small n h1 h2 _).mono ?_; rintro e w2 ⟨rfl, rfl⟩)
  apply wp_region_lit
  iterate 6 go_step
  refine wpList_copy_splice rfl (.tmp 31) (.tmp 32) 26 26 rfl 2 Try.underlying26 info_size_int64 _ _ _ _ _ _ rfl rfl w2.heap.size 0 (zeros n).toList 2 HG.out [.int .i64 (-1)] HN (fun _ => ⟨rfl, _, rfl, HS.out⟩) HF H1 w2.heap.size w2 HB.out (Nat.le_refl _) ?_
  intro w4 HG4 HB4
  rw [rowv_one h1] at HG4
  have HB5 := Lib.hid HB4
  clear HG HS HB HF HN H1 HB4 hmk hc
  generalize hb : w2.heap.size = b0 at *
  go_wp2
  go_loopw [8] (fun i wr => ∃ k : Nat, i = .int .i64 k ∧ 1 ≤ k ∧ k ≤ n ∧ wr.heap[b0]? = some (.cells (rowv k n).toArray 2 (0, 0)) ∧ Below b0 w2 wr) (fun i _ => n - (intOf i).toNat)
  case atStart => exact ⟨1, rfl, Nat.le_refl _, h1, HG4.out, HB5.out⟩
  case round =>
    obtain ⟨k, rfl, hk1, hk, hg, hbel⟩ := hrel
    by_cases hlt : k < n
    · have j0 : (k : Int) < (n : Int) := by omega
      have HGk := Lib.hid hg
      have HBk := Lib.hid hbel
      clear hg hbel
      obtain ⟨c, hcm⟩ : ∃ c, c = Nat.min k (n - k) := ⟨_, rfl⟩
      have hc1 : c ≤ n - k := by rw [hcm]; exact Nat.min_le_right _ _
      have hc2 : c ≤ k := by rw [hcm]; exact Nat.min_le_left _ _
      have hc3 : 1 ≤ c := by rw [hcm]; exact Nat.le_min.2 ⟨hk1, by omega⟩
      have HN := Lib.hid (show (List.replicate c (Value.int .i64 (-1))).length = Nat.min k (n - k) by rw [List.length_replicate]; exact hcm)
      have HF := Lib.hid (show k + (List.replicate c (Value.int .i64 (-1))).length ≤ (rowv k n).length by rw [List.length_replicate, rowv_len hk]; omega)
      have H1 := Lib.hid (show ∀ v ∈ List.replicate c (Value.int .i64 (-1)), v.oneCell' = true by intro v hv; rw [(List.mem_replicate.1 hv).2]; rfl)
      have HS := Lib.hid (show ∀ (j : Nat) (v : Value), (List.replicate c (Value.int .i64 (-1)))[j]? = some v → wr.cell? ((⟨b0, 0, none⟩ : Addr).add j) = some v by
        intro j v hj
        have hl := get_lt1 hj
        rw [List.length_replicate] at hl
        rw [List.getElem?_replicate, if_pos hl, Option.some.injEq] at hj
        rw [← hj]
        have e := rowv_get (k := k) (n := n) hk (show j < n by omega)
        rw [if_pos (by omega)] at e
        have e1 : ((⟨b0, 0, none⟩ : Addr).add j) = ⟨b0, j, none⟩ := by
          unfold Addr.add
          split
          · next h => rw [h]
          · simp
        rw [e1]
        simpa [World.cell?, HGk.out] using e)
      clear hcm
      have hnk : ¬ (n = k) := by omega
      go_wp2
      go_region_law (refine step_copy_splice rfl (.tmp 41) (.tmp 44) 26 26 rfl 2 Try.underlying26 info_size_int64 (some ⟨b0, k, none⟩) (some ⟨b0, 0, none⟩) (n - k) (n - k) k n (by simp [Act.eval, Act.put]) (by simp [Act.eval, Act.put]) b0 k (rowv k n) 2 HGk.out (List.replicate c (Value.int .i64 (-1))) HN.out (fun _ => ⟨rfl, _, rfl, HS.out⟩) HF.out H1.out b0 w2 ⟨HBk.out.os, HBk.out.tape, HBk.out.output, HBk.out.size, HBk.out.block⟩ (Nat.le_refl _) ?_; intro w5 HG5 HB5')
      rw [rowv_splice (by omega)] at HG5
      have hwr : IntKind.i64.wrap ((k : Int) + (c : Int)) = (k : Int) + c := IntWalk.i64_in _ (by omega)
      go_wp2
      refine ⟨⟨_, _, _, _, _, _, _, _, _, _, _, _, _, _, ?rel, rfl⟩, ?measure⟩
      case rel => exact ⟨k + c, by rw [hwr]; simp, by omega, by omega, HG5.out, HB5'⟩
      case measure =>
        show n - (intOf (.int .i64 (IntKind.i64.wrap ((k : Int) + (c : Int))))).toNat < n - (intOf (.int .i64 (k : Int))).toNat
        rw [hwr]
        simp only [intOf]
        omega
    · obtain rfl : k = n := by omega
      have j0 : ¬ ((k : Int) < (k : Int)) := by omega
      have HGk := Lib.hid hg
      have HBk := Lib.hid hbel
      clear hg hbel
      go_wp2
      go_ret
      refine ⟨rfl, ⟨(rowv k k).toArray, _, HGk.out, by rw [List.size_toArray, rowv_len (Nat.le_refl _)], fun j hj => ?_⟩, by rw [hb] at *; exact HBk.out⟩
      have e := rowv_get (k := k) (n := k) (Nat.le_refl _) hj
      rw [if_pos hj] at e
      simpa using e
end Go.Proofs.Ytkgekaedpdgmdaa.mem
