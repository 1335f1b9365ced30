/-
  slices.Delete of one pipe. Conditions: as each states.
-/
import Derived.Test.YtpgcieefipjjfaaRows
import Derived.Test.YtpgcieefipjjfaaAppS
import Derived.Test.YtpgcieefipjjfaaNetX
import Derived.WalkKit
import Derived.ProofKit
import Derived.Outline
import Derived.OwnWalk
import Derived.Lib.Hide
import Derived.Laws.IdiomCopy
import Derived.Deep.RegionLaw
namespace Go.Proofs.Ytpgcieefipjjfaa.mem
open Go.RowKit
set_option linter.unusedVariables false

theorem only_sets {b : Nat} : ∀ (vs : List Value) (o : Nat) {w0 w : World}, Only b w0 w → Only b w0 (w.setCells b o vs)
  | [], _, _, _, h => h
  | v :: r, o, _, _, h => only_sets r (o + 1) (h.setCell o v)
theorem Ob.sets {b N : Nat} : ∀ (vs : List Value) (o : Nat) (w : World) (d : Nat → Value), Ob w b N d → o + vs.length ≤ N → ∃ d', Ob (w.setCells b o vs) b N d'
  | [], _, _, d, h, _ => ⟨d, h⟩
  | v :: r, o, w, d, h, hl => by
    simp only [List.length_cons] at hl
    exact Ob.sets r (o + 1) _ _ (h.set o v (by omega)) (by omega)
theorem Rw.sets {w : World} {b n z : Nat} {c : Nat → Nat → Value} (h : Rw w b n z c) (o : Nat) (vs : List Value) (n' : Nat) (c' : Nat → Nat → Value) (hn : n' ≤ n) (hl : o + vs.length ≤ n * z)
    (hv : ∀ i j, i < n' → j < z → (if o ≤ i * z + j ∧ i * z + j < o + vs.length then vs[i * z + j - o]? else some (c i j)) = some (c' i j)) : Rw (w.setCells b o vs) b n' z c' := by
  obtain ⟨M, d, hM, h1, hd⟩ := h.ex
  obtain ⟨d', h2⟩ := Ob.sets vs o w d h1 (by omega)
  refine ⟨M, d', Nat.le_trans (Nat.mul_le_mul_right z hn) hM, h2, fun i j hi hj => ?_⟩
  have hij := ij_lt (z := z) (show i < n from by omega) hj
  have e := h2.cell (i * z + j) (by omega)
  have g := hv i j hi hj
  split at g
  · rename_i hr
    have := World.cell?_setCells_in b vs o w (fun t ht => by rw [h1.cell (o + t) (by omega)]; rfl) (i * z + j - o) (by omega)
    rw [show o + (i * z + j - o) = i * z + j by omega, e] at this
    rw [List.getElem?_eq_getElem (by omega)] at g
    injection this with t1
    injection g with t2
    rw [t1, t2]
  · rename_i hr
    rw [World.cell?_setCells_out b vs o w _ (fun _ _ => by show i * z + j < o ∨ o + vs.length ≤ i * z + j; omega), h1.cell _ (by omega), hd i j (by omega) hj] at e
    injection e with t1
    injection g with t2
    rw [← t1, t2]

def wpP (P : Nat → Pip) (k : Nat) : Nat → Pip := fun i => if i < k then P i else P (i + 1)
theorem run_clear_pipe (W : World) (ty : TypeId) (b o c : Nat) (hc : ∀ j, j < 5 → (W.cell? ⟨b, o + j, none⟩).isSome = true) (hf : ∀ j, j < 5 → W.frozen? ⟨b, o + j, none⟩ = false) :
    (Builtin.clear_ #[31] ty #[.slice (some ⟨b, o, none⟩) 1 c]).run Try.prog W = .ok (.tuple #[]) (W.setCells b o (List.replicate 5 (.int .i64 0))) := by
  have hz : (zeroValue 117).run Try.prog W = .ok (.agg #[.int .i64 0, .int .i64 0, .int .i64 0, .int .i64 0, .int .i64 0]) W := by kernel_rfl
  have hst := run_storeCells_cells (P := Try.prog) b o (List.replicate 5 (.int .i64 0)) 0 W (by simpa using hc) (by simpa using hf) (by intro v hv; rw [List.eq_of_mem_replicate hv]; rfl)
  simp only [Nat.add_zero] at hst
  have hzc : (Builtin.zeroCells (Value.agg #[.int .i64 0, .int .i64 0, .int .i64 0, .int .i64 0, .int .i64 0]).cells 1).toList = List.replicate 5 (.int .i64 0) := by kernel_rfl
  obtain ⟨L, hL⟩ : ∃ L, L = List.replicate 5 (Value.int .i64 0) := ⟨_, rfl⟩
  rw [← hL] at hst hzc ⊢
  clear hL
  simp [Builtin.clear_, run_underlying Try.underlying31, hz, hzc, hst]

set_option maxRecDepth 100000 in
set_option maxHeartbeats 2000000 in
theorem del_any (w : World) (b cap m k : Nat) (P : Nat → Pip) (hR : Rw w b m 5 (pipC P)) (hk : k < m) (hcap : m ≤ cap) (h9 : cap ≤ 9223372036854775807) :
    Calls Try.prog 135 #[.slice (some ⟨b, 0, none⟩) m cap, .int .i64 k, .int .i64 (k + 1)] w fun e w' => e = .returned (.slice (some ⟨b, 0, none⟩) (m - 1) cap) ∧ Upd (· = b) w w' ∧ Rw w' b (m - 1) 5 (pipC (wpP P k)) := by
  obtain ⟨i0, hi0, hz0, hz1, hz2⟩ := info_parts info_make_pipe
  obtain ⟨news, hnews⟩ : ∃ news, news = flatL (fun i j => pipC P (k + 1 + i) j) (m - (k + 1)) 5 := ⟨_, rfl⟩
  have hlen : news.length = (m - (k + 1)) * 5 := by rw [hnews, flatL_len]
  have hAt : At w.drew b ((k + 1) * 5) (m - (k + 1)) 5 (fun i j => pipC P (k + 1 + i) j) := ⟨fun i j hi hj => by
    have := hR.cell (k + 1 + i) j (by omega) hj
    rw [show (k + 1) * 5 + i * 5 + j = (k + 1 + i) * 5 + j by omega]
    exact this⟩
  obtain ⟨A, hA, hsrc⟩ : ∃ A : Addr, (if cap = k + 1 then (some (⟨b, 0, none⟩ : Addr)) else some ⟨b, (k + 1) * 5, none⟩) = some A ∧ Hid (∀ t u, news[t]? = some u → w.drew.cell? (A.add t) = some u) := by
    by_cases h : cap = k + 1
    · refine ⟨⟨b, 0, none⟩, by simp [h], fun t u hu => ?_⟩
      have h0 : news.length = 0 := by rw [hlen]; omega
      rw [List.length_eq_zero_iff.1 h0] at hu
      simp at hu
    · exact ⟨⟨b, (k + 1) * 5, none⟩, by simp [h], fun t u hu => flatL_cell hAt t u (hnews ▸ hu)⟩
  have s1 : Hid (news.length = (m - (k + 1)) * 5) := hlen
  have s2 : Hid (∀ u ∈ news, u.oneCell' = true) := by
    intro u hu
    rw [hnews] at hu
    unfold flatL at hu
    obtain ⟨x, _, rfl⟩ := List.mem_map.1 hu
    show (pipC P (k + 1 + x / 5) (x % 5)).oneCell' = true
    unfold pipC
    split <;> rfl
  have s3 : Hid (∀ t, t < news.length → (w.drew.cell? ⟨b, 0 + k * 5 + t, none⟩).isSome = true ∧ w.drew.frozen? ⟨b, 0 + k * 5 + t, none⟩ = false) := by
    intro t ht
    rw [hlen] at ht
    have := hR.cell (k + t / 5) (t % 5) (by omega) (by omega)
    rw [show (k + t / 5) * 5 + t % 5 = 0 + k * 5 + t by omega] at this
    exact ⟨by show (w.cell? _).isSome = true; rw [this]; rfl, hR.free _⟩
  have hget : ∀ i j, k ≤ i → i < m - 1 → j < 5 → news[i * 5 + j - (0 + k * 5)]? = some (pipC P (i + 1) j) := by
    intro i j h1 h2 h3
    rw [hnews, show i * 5 + j - (0 + k * 5) = (i - k) * 5 + j by omega, flatL_get (by omega) h3, show k + 1 + (i - k) = i + 1 by omega]
  obtain ⟨W1, hW1⟩ : ∃ W1, W1 = w.drew.setCells b (0 + k * 5) news := ⟨_, rfl⟩
  have hR0 : Rw w.drew b m 5 (pipC P) := hR.keep rfl
  have hR1 : Rw W1 b m 5 (fun i j => if i < m - 1 then pipC (wpP P k) i j else pipC P i j) := by
    rw [hW1]
    refine hR0.sets _ _ _ _ (Nat.le_refl _) (by rw [hlen]; omega) fun i j hi hj => ?_
    rw [hlen]
    by_cases h1 : i < k
    · rw [if_neg (by omega), if_pos (by omega)]
      unfold pipC wpP
      simp only [if_pos h1]
    · by_cases h2 : i < m - 1
      · rw [if_pos (by omega), if_pos h2, hget i j (by omega) h2 hj]
        unfold pipC wpP
        simp only [if_neg h1]
      · rw [if_neg (by omega), if_neg h2]
  have hcl : ∀ ty c, (Builtin.clear_ #[31] ty #[.slice (some ⟨b, (m - 1) * 5, none⟩) 1 c]).run Try.prog W1 = .ok (.tuple #[]) (W1.setCells b ((m - 1) * 5) (List.replicate 5 (.int .i64 0))) :=
    fun ty c => run_clear_pipe W1 ty b _ c (fun j hj => by rw [hR1.cell (m - 1) j (by omega) hj]; rfl) (fun j _ => hR1.free _)
  have hR2 := Lib.hid (show Rw (W1.setCells b ((m - 1) * 5) (List.replicate 5 (.int .i64 0))) b (m - 1) 5 (pipC (wpP P k)) from hR1.sets _ _ _ _ (by omega) (by simp; omega) fun i j hi hj => by
    rw [if_neg (by simp; omega), if_pos hi])
  have hU := Lib.hid (show Upd (· = b) w (W1.setCells b ((m - 1) * 5) (List.replicate 5 (.int .i64 0))) from Upd.of_only (only_sets _ _ (by rw [hW1]; exact only_sets _ _ ⟨rfl, rfl, rfl, rfl, fun _ _ => rfl⟩)))
  have hW : Hid (W1 = w.drew.setCells b (0 + k * 5) news) := hW1
  have hkc : k ≤ cap := by omega
  have hkc1 : k + 1 ≤ cap := by omega
  have hm9 : m ≤ 9223372036854775807 := by omega
  have hi1 : (0 : Int) ≤ (k : Int) + 1 := by omega
  have hi2 : (k : Int) + 1 ≤ m := by omega
  have hcl' : ∀ ty c, (Builtin.clear_ #[31] ty #[.slice (some ⟨b, (k + (m - (k + 1))) * 5, none⟩) (m - (k + (m - (k + 1)))) c]).run Try.prog W1 = .ok (.tuple #[]) (W1.setCells b ((m - 1) * 5) (List.replicate 5 (.int .i64 0))) := by
    intro ty c
    rw [show k + (m - (k + 1)) = m - 1 by omega, show m - (m - 1) = 1 by omega]
    exact hcl ty c
  have hend : Hid (k + (m - (k + 1)) = m - 1) := Lib.hid (by omega)
  clear hW1 hR1 hR0 hR hget hnews hlen hAt hcl
  go_enter Try.func135, Try.ntmps135
  go_wp2_with fail
  go_region_law (refine step_append_room rfl (.tmp 22) (.tmp 25) 31 rfl 117 i0 5 Try.underlying31 hi0 hz1 b 0 k cap (by simp [Act.eval, Act.put]) A (m - (k + 1)) (cap - (k + 1)) news (by simp [Act.eval, Act.put]) s1.out hsrc.out s2.out (by omega) s3.out ?_; rw [← hW.out])
  go_wp2_with fail
  go_ret
  exact ⟨by rw [hend.out]; rfl, hU.out, hR2.out⟩
end Go.Proofs.Ytpgcieefipjjfaa.mem
