/-
  Appending pipes to an own row of pipes. Condition: at most two million elements.
-/
import Derived.Test.YtpgcieefipjjfaaRows
import Derived.Test.YtpgcieefipjjfaaNetOw
import Derived.Test.YtpgcieefipjjfaaDel
import Derived.WalkKit
import Derived.ProofKit
import Derived.Laws.AppendOwn
namespace Go.Proofs.Ytpgcieefipjjfaa.mem
open Go.RowKit
set_option linter.unusedVariables false

theorem flatL_pip {P : Nat → Pip} {n : Nat} {f : Nat → Nat} : ∀ u ∈ flatL (fun i j => pipC P (f i) j) n 5, u.oneCell' = true := by
  intro u hu
  unfold flatL at hu
  obtain ⟨x, _, rfl⟩ := List.mem_map.1 hu
  show (pipC P (f (x / 5)) (x % 5)).oneCell' = true
  unfold pipC
  split <;> rfl
/-- an own row of pipes with room -/
structure Row5 (w : World) (g cap n : Nat) (xs : List Value) : Prop where
  own : w.ownsRow 0 117 5 (.slice (some ⟨g, 0, none⟩) n cap) n xs
theorem Row5.lt {w : World} {g cap n : Nat} {xs : List Value} (h : Row5 w g cap n xs) : g < w.heap.size := (h.own.lt g rfl).2
theorem Row5.keep {w w' : World} {g cap n : Nat} {xs : List Value} (h : Row5 w g cap n xs) (e : w'.heap[g]? = w.heap[g]?) : Row5 w' g cap n xs := by
  refine ⟨h.own.1, ?_⟩
  rcases h.own.2 with ⟨h1, _⟩ | ⟨g', cap', cur, h1, h2, h3, h4⟩
  · cases h1
  · injection h1 with h1 _ h5
    injection h1 with h1
    injection h1 with h1
    subst h1 h5
    exact .inr ⟨_, _, cur, rfl, h2, by rw [e]; exact h3, h4⟩
theorem Row5.next {w w' : World} {g cap n : Nat} {xs : List Value} (h : Row5 w g cap n xs) (b : Below w.heap.size w w') : Row5 w' g cap n xs := h.keep (b.block g h.lt)
theorem Row5.ownS {w : World} {g cap n : Nat} {xs : List Value} {c : Nat → Nat → Value} (h : Row5 w g cap n xs) (hc : ∀ i j, i < n → j < 5 → xs[i * 5 + j]? = some (c i j)) : OwnS w (.slice (some ⟨g, 0, none⟩) n cap) n 5 c g := by
  rcases h.own.2 with ⟨h1, _⟩ | ⟨g', cap', cur, h1, h2, h3, h4, h5, h6, h7⟩
  · cases h1
  · injection h1 with h1 _ h8
    injection h1 with h1
    injection h1 with h1
    subst h1 h8
    refine Rw.own ⟨cur.size, fun k => (cur[k]?).getD default, by rw [h6]; exact Nat.mul_le_mul_right 5 h4, ⟨cur, _, h3, rfl, fun k hk => by rw [Array.getElem?_eq_getElem (by omega)]; rfl⟩, fun i j hi hj => ?_⟩ h4 h5
    have := hc i j hi hj
    have hij := ij_lt (z := 5) hi hj
    rw [← h7, List.getElem?_take, if_pos hij, Array.getElem?_toList] at this
    show (cur[i * 5 + j]?).getD default = c i j
    rw [this]
    rfl
theorem row5_nil (w : World) : Row5 (w.alloc (.cells #[] 117)) w.heap.size 0 0 [] :=
  ⟨by simp, .inr ⟨w.heap.size, 0, #[], rfl, Nat.zero_le _, heap_alloc_new w _, Nat.le_refl _, by unfold maxLen; omega, by simp, by simp⟩⟩
theorem appP (W : World) (g cap k : Nat) (xs : List Value) (hown : Row5 W g cap k xs) (a : Addr) (j cp : Nat) (news : List Value) (hl : news.length = j * 5) (hnews : ∀ t u, news[t]? = some u → W.cell? (a.add t) = some u) (h1 : ∀ u ∈ news, u.oneCell' = true) (hk : k + j ≤ 2000000) :
    ∃ g' cap' w', Sem.run Try.prog (Builtin.append_ #[31, 31] 31 #[.slice (some ⟨g, 0, none⟩) k cap, .slice (some a) j cp]) W = .ok (.slice (some ⟨g', 0, none⟩) (k + j) cap') w' ∧
      Row5 w' g' cap' (k + j) (xs ++ news) ∧ Upd (· = g) W w' ∧ (g' = g ∨ W.heap.size ≤ g') := by
  obtain ⟨i0, hi0, hz0, hz1, hz2⟩ := info_parts info_make_pipe
  obtain ⟨v', w', hr, ho, hgr, hnone⟩ := run_append_own (P := Try.prog) W 0 31 31 117 i0 _ 5 40 Try.underlying31 hi0 hz0 hz1 hz2 (by kernel_rfl) (by omega) _ k xs hown.own a j cp news hl hnews h1 (by unfold maxLen; omega) (by omega) (Nat.zero_le _)
  have hU : Upd (· = g) W w' := ⟨hgr.os, hgr.tape, hgr.output, hgr.size, fun x hx hne => hgr.block x hx (by simp [Value.ownBlock]; exact hne)⟩
  rcases hown.own.2 with ⟨h2, _⟩ | ⟨g', cap', cur, h2, _, h3, h4, h5, h6, h7⟩
  · cases h2
  injection h2 with h2 _ h8
  injection h2 with h2
  injection h2 with h2
  subst h2 h8
  by_cases hroom : k + j ≤ cap
  · have hR := run_append_room (P := Try.prog) W 31 31 117 i0 Try.underlying31 hi0 g k cap cur h3 a j cp news (by rw [hz1]; exact hl) hnews h1 hroom (by rw [hz1, hl, h6]; omega)
    rw [hr] at hR
    injection hR with e1 e2
    subst e1
    exact ⟨g, cap, w', hr, ⟨ho⟩, hU, .inl rfl⟩
  · have hG := run_append_grow (P := Try.prog) W 31 31 117 i0 _ Try.underlying31 hi0 hz0 ⟨g, 0, none⟩ k cap xs (by rw [hz1]; exact hown.own.1) (hown.own.cells rfl) a j cp news (by rw [hz1]; exact hl) hnews (by omega) (by omega)
      (growslice_fits (by omega) (by rw [hz2]; have : (k + j) * 40 ≤ 2000000 * 40 := Nat.mul_le_mul_right 40 hk; omega))
    rw [hr] at hG
    injection hG with e1 e2
    subst e1
    exact ⟨_, _, w', hr, ⟨ho⟩, hU, .inr (Nat.le_refl _)⟩
end Go.Proofs.Ytpgcieefipjjfaa.mem
