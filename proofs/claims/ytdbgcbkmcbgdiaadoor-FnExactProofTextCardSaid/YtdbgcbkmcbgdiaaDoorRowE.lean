/-
  Own rows of structs that grow by one element. Condition: at most two million elements.
-/
import Derived.Test.YtdbgcbkmcbgdiaaDoorRows
import Derived.Test.YtdbgcbkmcbgdiaaDoorAppS
import Derived.Test.YtdbgcbkmcbgdiaaDoorNetX
import Derived.WalkKit
import Derived.ProofKit
import Derived.Laws.AppendOwn
namespace Go.Proofs.YtdbgcbkmcbgdiaaDoor.mem
open Go.RowKit
set_option linter.unusedVariables false

/-- an own row from block B on, of n elements of z cells of type e -/
structure RowE (B : Nat) (e : TypeId) (z : Nat) (w : World) (v : Value) (n : Nat) (c : Nat → Nat → Value) : Prop where
  own : w.ownsRow B e z v n (flatL c n z)
theorem RowE.shape {B : Nat} {e : TypeId} {z : Nat} {w : World} {v : Value} {n : Nat} {c : Nat → Nat → Value} (h : RowE B e z w v n c) : ∃ p cap, v = .slice p n cap := by
  rcases h.own.2 with ⟨h1, h2⟩ | ⟨g, cap, cur, h1, _⟩
  · exact ⟨none, 0, by rw [h1, h2]⟩
  · exact ⟨_, cap, h1⟩
theorem RowE.keep {B : Nat} {e : TypeId} {z : Nat} {w w' : World} {v : Value} {n : Nat} {c : Nat → Nat → Value} {X : Nat → Prop} (h : RowE B e z w v n c) (u : Upd X w w') (hx : ∀ k, v.ownBlock = some k → ¬ X k) : RowE B e z w' v n c := by
  refine ⟨h.own.1, ?_⟩
  rcases h.own.2 with h1 | ⟨g, cap, cur, rfl, h2, h3, h4⟩
  · exact .inl h1
  · exact .inr ⟨g, cap, cur, rfl, h2, by rw [u.block g (Array.getElem?_eq_some_iff.1 h3).1 (hx g rfl)]; exact h3, h4⟩
theorem RowE.next {B : Nat} {e : TypeId} {z : Nat} {w w' : World} {v : Value} {n : Nat} {c : Nat → Nat → Value} (h : RowE B e z w v n c) (b : Below w.heap.size w w') : RowE B e z w' v n c := h.keep (Upd.of_below b (X := fun _ => False)) (fun _ _ hx => hx)
/-- a write to a block below B leaves the row -/
theorem RowE.low {B b : Nat} {e : TypeId} {z : Nat} {w w' : World} {v : Value} {n : Nat} {c : Nat → Nat → Value} (h : RowE B e z w v n c) (u : Upd (· = b) w w') (hb : b < B) : RowE B e z w' v n c := h.keep u (fun k hk hx => by
  have := (h.own.lt k hk).1
  omega)
theorem rows_apart {B B' : Nat} {e e' : TypeId} {z z' : Nat} {w : World} {v v' : Value} {n n' : Nat} {c c' : Nat → Nat → Value} (h : RowE B e z w v n c) (g : RowE B' e' z' w v' n' c') (hne : e ≠ e') : ∀ k, v.ownBlock = some k → ¬ some k = v'.ownBlock := by
  intro k hk hk'
  rcases h.own.2 with ⟨rfl, _⟩ | ⟨q, cap, cur, rfl, _, h3, _⟩
  · simp [Value.ownBlock] at hk
  rcases g.own.2 with ⟨rfl, _⟩ | ⟨q', cap', cur', rfl, _, g3, _⟩
  · simp [Value.ownBlock] at hk'
  simp [Value.ownBlock] at hk hk'
  subst hk hk'
  rw [h3] at g3
  injection g3 with g3
  injection g3 with _ g3
  exact hne g3
theorem RowE.ownS {B : Nat} {e : TypeId} {z : Nat} {w : World} {v : Value} {n : Nat} {c : Nat → Nat → Value} (h : RowE B e z w v n c) : ∃ g, OwnS w v n z c g ∧ (B ≤ g ∨ n = 0) := by
  rcases h.own.2 with ⟨h1, h2⟩ | ⟨g, cap, cur, rfl, h2, h3, h4, h5, h6, h7⟩
  · subst h1 h2
    exact ⟨0, OwnS.none_ _ _ _ _, .inr rfl⟩
  · refine ⟨g, Rw.own ⟨cur.size, fun k => (cur[k]?).getD default, by rw [h6]; exact Nat.mul_le_mul_right z h4, ⟨cur, _, h3, rfl, fun k hk => by rw [Array.getElem?_eq_getElem (by omega)]; rfl⟩, fun i j hi hj => ?_⟩ h4 h5, .inl h2⟩
    have := flatL_get (c := c) hi hj
    have hij := ij_lt (z := z) hi hj
    rw [← h7, List.getElem?_take, if_pos hij, Array.getElem?_toList] at this
    show (cur[i * z + j]?).getD default = c i j
    rw [this]
    rfl
theorem rowE_nil {B : Nat} {e : TypeId} {z : Nat} (w : World) (c : Nat → Nat → Value) (hB : B ≤ w.heap.size) : RowE B e z (w.alloc (.cells #[] e)) (.slice (some ⟨w.heap.size, 0, none⟩) 0 0) 0 c :=
  ⟨by simp [flatL], .inr ⟨w.heap.size, 0, #[], rfl, hB, heap_alloc_new w _, Nat.le_refl _, by unfold maxLen; omega, by simp, by simp [flatL]⟩⟩
theorem flatL_snoc {c c' : Nat → Nat → Value} {n z : Nat} {l : List Value} (hl : l.length = z) (h : ∀ i j, i < n → j < z → c' i j = c i j) (hn : ∀ j, j < z → l[j]? = some (c' n j)) : flatL c' (n + 1) z = flatL c n z ++ l := by
  apply List.ext_getElem?
  intro k
  by_cases hk : k < (n + 1) * z
  · have hz : 0 < z := by
      rcases Nat.eq_zero_or_pos z with e | e
      · subst e; omega
      · exact e
    have hi : k / z < n + 1 := (Nat.div_lt_iff_lt_mul hz).2 hk
    have hj := Nat.mod_lt k hz
    have hkk : k / z * z + k % z = k := by
      have := Nat.div_add_mod k z
      rw [Nat.mul_comm] at this
      omega
    have e1 := flatL_get (c := c') hi hj
    rw [hkk] at e1
    rw [e1]
    by_cases h1 : k / z < n
    · have hlt := ij_lt h1 hj
      rw [hkk] at hlt
      rw [List.getElem?_append_left (by rw [flatL_len]; omega)]
      have e2 := flatL_get (c := c) h1 hj
      rw [hkk] at e2
      rw [e2, h _ _ h1 hj]
    · have e3 : k / z = n := by omega
      rw [List.getElem?_append_right (by rw [flatL_len, ← e3]; omega), flatL_len, show k - n * z = k % z by rw [← e3]; omega, hn _ hj, e3]
  · have hz1 : (n + 1) * z = n * z + z := by rw [Nat.add_mul, Nat.one_mul]
    rw [List.getElem?_eq_none (by rw [flatL_len]; omega), List.getElem?_eq_none (by rw [List.length_append, flatL_len, hl]; omega)]
/-- one element is appended: from a new block of its cells -/
theorem appOne {t e : TypeId} {zv : Value} {z bytes : Nat} (ht : Tryd.prog.underlying t = some (.slice e)) (hinf : (Tryd.prog.info? e).map (fun i => (i.zero, i.size, i.bytes)) = some (some zv, z, bytes)) (hb64 : bytes ≤ 512) (hzs : zv.cells.size = z) (hz : 0 < z)
    (B : Nat) (W : World) (v : Value) (n : Nat) (c c' : Nat → Nat → Value) (h : RowE B e z W v n c) (hB : B ≤ W.heap.size) (l : List Value) (hl : l.length = z) (h1 : ∀ u ∈ l, u.oneCell' = true) (hc : ∀ i j, i < n → j < z → c' i j = c i j) (hn : ∀ j, j < z → l[j]? = some (c' n j)) (hn2 : n ≤ 1000000) :
    ∃ v' w', Sem.run Tryd.prog (Builtin.append_ #[t, t] t #[v, .slice (some ⟨W.heap.size, 0, none⟩) 1 1]) (W.alloc (.cells l.toArray e)) = .ok v' w' ∧ RowE B e z w' v' (n + 1) c' ∧ Upd (fun x => some x = v.ownBlock) W w' := by
  obtain ⟨i0, hi0, hz0, hz1, hz2⟩ := info_parts hinf
  have hA := h.next (below_new W (.cells l.toArray e))
  have hnew := heap_alloc_new W (.cells l.toArray e)
  obtain ⟨v', w', hr, ho, hgr, _⟩ := run_append_own (P := Tryd.prog) (W.alloc (.cells l.toArray e)) B t t e i0 zv z bytes ht hi0 hz0 hz1 hz2 hzs hz v n (flatL c n z) hA.own ⟨W.heap.size, 0, none⟩ 1 1 l (by omega) (fun j u hu => by
      have hadd : (⟨W.heap.size, 0, none⟩ : Addr).add j = ⟨W.heap.size, j, none⟩ := by unfold Addr.add; split <;> simp_all
      rw [hadd]
      simp only [World.cell?, hnew]
      simpa using hu) h1 (by unfold maxLen; omega) (by have : (n + 1) * bytes ≤ 1000001 * 512 := Nat.mul_le_mul (by omega) hb64; omega) (Nat.le_trans hB (by simp))
  refine ⟨v', w', hr, ⟨by rw [flatL_snoc hl hc hn]; exact ho⟩, ?_⟩
  have u0 : Upd (fun x => some x = v.ownBlock) W (W.alloc (.cells l.toArray e)) := Upd.of_below (below_new _ _)
  exact u0.trans ⟨hgr.os, hgr.tape, hgr.output, hgr.size, fun k hk hx => hgr.block k hk (fun e => hx e)⟩
end Go.Proofs.YtdbgcbkmcbgdiaaDoor.mem
