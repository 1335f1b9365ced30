/-
  append of many numbers to one's own slice of numbers. Conditions: as each states.
-/
import Derived.Test.YtdbgcbkmcbgdiaaDoorRows
import Derived.Test.YtdbgcbkmcbgdiaaDoorOwn
namespace Go.Proofs.YtdbgcbkmcbgdiaaDoor.mem
open Go.RowKit
set_option linter.unusedVariables false

def catD (d : Nat → Int) (n : Nat) (e : Nat → Int) : Nat → Int := fun k => if k < n then d k else e (k - n)
/-- what an append of numbers leaves -/
structure Apm (W w' : World) (v' : Value) (n : Nat) (d : Nat → Int) (m : Nat) (e : Nat → Int) (g g' : Nat) : Prop where
  own : Own w' v' (n + m) (catD d n e) g'
  how : (g' = g ∧ Only g W w') ∨ (g' = W.heap.size ∧ Below W.heap.size W w' ∧ w'.heap.size = W.heap.size + 1)
theorem Apm.below {W w' : World} {v' : Value} {n : Nat} {d : Nat → Int} {m : Nat} {e : Nat → Int} {g g' B : Nat} (h : Apm W w' v' n d m e g g') (hB : B ≤ g) (hg : g ≤ W.heap.size) : Below B W w' ∧ B ≤ g' := by
  rcases h.how with ⟨rfl, h⟩ | ⟨rfl, h, _⟩
  · exact ⟨h.below hB, hB⟩
  · exact ⟨h.mono (by omega), by omega⟩
theorem Apm.other {W w' : World} {v' : Value} {n : Nat} {d : Nat → Int} {m : Nat} {e : Nat → Int} {g g' c : Nat} (h : Apm W w' v' n d m e g g') (hc : c ≠ g) (hl : c < W.heap.size) : w'.heap[c]? = W.heap[c]? ∧ c ≠ g' := by
  rcases h.how with ⟨rfl, h⟩ | ⟨rfl, h, _⟩
  · exact ⟨h.block c hc, hc⟩
  · exact ⟨h.block c hl, by omega⟩
def intL (m : Nat) (e : Nat → Int) : List Value := (List.range m).map fun k => .int .i64 (e k)
theorem intL_len (m : Nat) (e : Nat → Int) : (intL m e).length = m := by simp [intL]
theorem intL_get {m k : Nat} (e : Nat → Int) (h : k < m) : (intL m e)[k]? = some (.int .i64 (e k)) := by simp [intL, h]
theorem apm_run (W : World) (v : Value) (n : Nat) (d : Nat → Int) (g : Nat) (b o m c : Nat) (e : Nat → Int) (h : Own W v n d g) (hx : ∀ k, k < m → W.cell? ⟨b, o + k, none⟩ = some (.int .i64 (e k))) (hn : n + m ≤ 1000000) :
    ∃ v' w' g', Sem.run Tryd.prog (Builtin.append_ #[26, 26] 26 #[v, .slice (some ⟨b, o, none⟩) m c]) W = .ok v' w' ∧ Apm W w' v' n d m e g g' := by
  obtain ⟨cap, cur, rfl, h1, h2, h3, h4, h5⟩ := h.ex
  obtain ⟨i0, hi, hz0, hz1, hz2⟩ := info_parts info_make_int64
  have hnews : ∀ j u, (intL m e)[j]? = some u → W.cell? ((⟨b, o, none⟩ : Addr).add j) = some u := by
    intro j u hu
    have hj : j < m := by
      rcases Nat.lt_or_ge j m with g | g
      · exact g
      · rw [List.getElem?_eq_none (by rw [intL_len]; omega)] at hu; cases hu
    obtain rfl : Value.int .i64 (e j) = u := by
      have h9 := intL_get e hj
      rw [hu] at h9
      exact (Option.some.inj h9).symm
    have hadd : (⟨b, o, none⟩ : Addr).add j = ⟨b, o + j, none⟩ := by unfold Addr.add; split <;> simp_all
    rw [hadd]
    exact hx j hj
  have h1c : ∀ u ∈ intL m e, u.oneCell' = true := by
    intro u hu
    obtain ⟨k, _, rfl⟩ := List.mem_map.1 hu
    rfl
  have hlen := intL_len m e
  by_cases hroom : n + m ≤ cap
  · have hr := run_append_room (P := Tryd.prog) W 26 26 2 i0 Tryd.underlying26 hi g n cap cur h1 ⟨b, o, none⟩ m c (intL m e) (by rw [hz1, hlen]; omega) hnews h1c hroom (by rw [hz1, h4]; omega)
    rw [hz1] at hr
    refine ⟨_, _, g, hr, ⟨⟨cap, _, rfl, setRow_heap W g cur _ _ _ h1, hroom, h3, ?_, fun k hk => ?_⟩, .inl ⟨rfl, ⟨rfl, rfl, rfl, by simp, fun k hk => setRow_other W g k _ hk⟩⟩⟩⟩
    · simp only [List.size_toArray, List.length_append, List.length_take, List.length_drop, Array.length_toList, hlen]
      omega
    · have hl : (cur.toList.take (n * 1)).length = n := by rw [List.length_take, Array.length_toList]; omega
      simp only [List.getElem?_toArray, List.append_assoc]
      unfold catD
      by_cases hk2 : k < n
      · rw [if_pos hk2, List.getElem?_append_left (by omega), List.getElem?_take_of_lt (by omega), Array.getElem?_toList]
        exact h5 k (by omega)
      · rw [if_neg hk2, List.getElem?_append_right (by omega), hl, List.getElem?_append_left (by rw [hlen]; omega), intL_get e (by omega)]
  · have holds : ∀ j u, (cur.toList.take n)[j]? = some u → W.cell? ((⟨g, 0, none⟩ : Addr).add j) = some u := by
      intro j u hu
      have hadd : (⟨g, 0, none⟩ : Addr).add j = ⟨g, j, none⟩ := by unfold Addr.add; split <;> simp_all
      rw [hadd]
      simp only [World.cell?, h1]
      rw [List.getElem?_take] at hu
      split at hu
      · simpa using hu
      · cases hu
    have hlt : (cur.toList.take n).length = n := by rw [List.length_take, Array.length_toList]; omega
    have hr := run_append_grow (P := Tryd.prog) W 26 26 2 i0 (.int .i64 0) Tryd.underlying26 hi hz0 ⟨g, 0, none⟩ n cap (cur.toList.take n) (by rw [hz1, hlt]; omega) holds ⟨b, o, none⟩ m c (intL m e) (by rw [hz1, hlen]; omega) hnews (by omega) (by omega) (growslice_fits (by omega) (by rw [hz2]; omega))
    refine ⟨_, _, W.heap.size, hr, ⟨⟨_, _, rfl, heap_alloc_new W.drew _, ?_, ?_, ?_, fun k hk => ?_⟩, .inr ⟨rfl, ?_, ?_⟩⟩⟩
    · exact grownCap_ge W (n + m) cap _
    · exact grownCap_le_maxLen W (n + m) cap _ (by unfold maxLen; omega)
    · have hge := grownCap_ge W (n + m) cap 2
      simp only [Array.size_append, List.size_toArray, size_zeroCells, Value.cells, hlt, hlen, List.length_cons, List.length_nil]
      omega
    · unfold catD
      by_cases hk2 : k < n
      · rw [if_pos hk2, Array.getElem?_append_left (by simp [hlt, hlen]; omega), Array.getElem?_append_left (by simp [hlt]; omega), List.getElem?_toArray, List.getElem?_take_of_lt (by omega), Array.getElem?_toList]
        exact h5 k (by omega)
      · rw [if_neg hk2, Array.getElem?_append_left (by simp [hlt, hlen]; omega), Array.getElem?_append_right (by simp [hlt]; omega), List.getElem?_toArray]
        simp only [List.size_toArray, hlt]
        exact intL_get e (by omega)
    · exact ((Below.refl _ W).drew).alloc (Nat.le_refl _) _
    · show (W.heap.push _).size = _
      simp
end Go.Proofs.YtdbgcbkmcbgdiaaDoor.mem
