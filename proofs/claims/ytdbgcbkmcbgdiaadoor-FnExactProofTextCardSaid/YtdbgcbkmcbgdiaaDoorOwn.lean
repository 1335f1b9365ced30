/-
  Slices of integers that the call itself makes and appends to: what one append does. Condition: fewer than a million elements.
-/
import Derived.Test.YtdbgcbkmcbgdiaaDoorRows
import Derived.Test.YtdbgcbkmcbgdiaaDoorMem
import Derived.Test.YtdbgcbkmcbgdiaaDoorMake
import Derived.WalkKit
import Derived.ProofKit
import Derived.Laws.AppendOwn
namespace Go.Proofs.YtdbgcbkmcbgdiaaDoor.mem
open Go.RowKit
set_option linter.unusedVariables false

/-- v is a slice of the call's own in block g, with the elements d 0, .., d (n - 1) -/
structure Own (w : World) (v : Value) (n : Nat) (d : Nat → Int) (g : Nat) : Prop where
  ex : ∃ cap cur, v = .slice (some ⟨g, 0, none⟩) n cap ∧ w.heap[g]? = some (.cells cur 2 (0, 0)) ∧ n ≤ cap ∧ cap ≤ maxLen ∧ cur.size = cap ∧ ∀ k, k < n → cur[k]? = some (.int .i64 (d k))
theorem Own.lt {w : World} {v : Value} {n g : Nat} {d : Nat → Int} (h : Own w v n d g) : g < w.heap.size := by
  obtain ⟨_, _, _, h1, _⟩ := h.ex
  exact (Array.getElem?_eq_some_iff.1 h1).1
theorem Own.shape {w : World} {v : Value} {n g : Nat} {d : Nat → Int} (h : Own w v n d g) : ∃ cap, v = .slice (some ⟨g, 0, none⟩) n cap := by
  obtain ⟨c, _, e, _⟩ := h.ex
  exact ⟨c, e⟩
theorem Own.row {w : World} {v : Value} {n g : Nat} {d : Nat → Int} (h : Own w v n d g) : Row w g n d := by
  obtain ⟨cap, cur, _, h1, _, _, _, h2⟩ := h.ex
  refine ⟨fun k hk => ?_, fun k hk => ?_⟩
  · simp only [World.cell?, h1]
    simpa using h2 k hk
  · simp [World.frozen?, h1]
theorem Own.keep {w w' : World} {v : Value} {n g : Nat} {d : Nat → Int} (h : Own w v n d g) (e : w'.heap[g]? = w.heap[g]?) : Own w' v n d g := by
  obtain ⟨cap, cur, h0, h1, h2⟩ := h.ex
  exact ⟨cap, cur, h0, by rw [e]; exact h1, h2⟩
theorem Own.congr {w : World} {v : Value} {n g : Nat} {d e : Nat → Int} (h : Own w v n d g) (he : ∀ k, k < n → d k = e k) : Own w v n e g := by
  obtain ⟨cap, cur, h0, h1, h2, h3, h4, h5⟩ := h.ex
  exact ⟨cap, cur, h0, h1, h2, h3, h4, fun k hk => by rw [← he k hk]; exact h5 k hk⟩
theorem Own.alloc {w : World} {v : Value} {n g : Nat} {d : Nat → Int} (h : Own w v n d g) (o : Obj) : Own (w.alloc o) v n d g := h.keep (Below.heap_alloc _ _ _ h.lt)
theorem Own.nilled (w : World) (d : Nat → Int) : Own (w.alloc (.cells #[] 2)) (.slice (some ⟨w.heap.size, 0, none⟩) 0 0) 0 d w.heap.size :=
  ⟨0, #[], rfl, heap_alloc_new w _, Nat.le_refl _, by unfold maxLen; omega, rfl, fun k hk => by omega⟩

theorem szal (w : World) (o : Obj) : (w.alloc o).heap.size = w.heap.size + 1 := by simp
theorem size_zeroCells (z : Array Value) (n : Nat) : (Builtin.zeroCells z n).size = n * z.size := by simp [Builtin.zeroCells]

/-- what an append of one number leaves -/
structure App (W w' : World) (v' : Value) (n : Nat) (d : Nat → Int) (x : Int) (g g' : Nat) : Prop where
  own : Own w' v' (n + 1) (upd d n x) g'
  how : (g' = g ∧ Only g W w') ∨ (g' = W.heap.size ∧ Below W.heap.size W w' ∧ w'.heap.size = W.heap.size + 1)
theorem App.own' {W w' : World} {v' : Value} {n : Nat} {d : Nat → Int} {g g' : Nat} (h : App W w' v' n d (d n) g g') : Own w' v' (n + 1) d g' :=
  h.own.congr (fun k hk => by unfold upd; split <;> simp_all)
theorem App.below {W w' : World} {v' : Value} {n : Nat} {d : Nat → Int} {x : Int} {g g' B : Nat} (h : App W w' v' n d x g g') (hB : B ≤ g) (hg : g ≤ W.heap.size) : Below B W w' ∧ B ≤ g' := by
  rcases h.how with ⟨rfl, h⟩ | ⟨rfl, h, _⟩
  · exact ⟨h.below hB, hB⟩
  · exact ⟨h.mono (by omega), by omega⟩
theorem App.other {W w' : World} {v' : Value} {n : Nat} {d : Nat → Int} {x : Int} {g g' c : Nat} (h : App W w' v' n d x g g') (hc : c ≠ g) (hl : c < W.heap.size) : w'.heap[c]? = W.heap[c]? ∧ c ≠ g' := by
  rcases h.how with ⟨rfl, h⟩ | ⟨rfl, h, _⟩
  · exact ⟨h.block c hc, hc⟩
  · exact ⟨h.block c hl, by omega⟩

theorem app_run (W : World) (v : Value) (n : Nat) (d : Nat → Int) (g : Nat) (x : Int) (b : Nat) (h : Own W v n d g) (hx : W.cell? ⟨b, 0, none⟩ = some (.int .i64 x)) (hn : n ≤ 1000000) :
    ∃ v' w' g', Sem.run Tryd.prog (Builtin.append_ #[26, 26] 26 #[v, .slice (some ⟨b, 0, none⟩) 1 1]) W = .ok v' w' ∧ App W w' v' n d x g g' := by
  obtain ⟨cap, cur, rfl, h1, h2, h3, h4, h5⟩ := h.ex
  obtain ⟨i0, hi, hz0, hz1, hz2⟩ := info_parts info_make_int64
  have hnews : ∀ j u, [Value.int .i64 x][j]? = some u → W.cell? ((⟨b, 0, none⟩ : Addr).add j) = some u := by
    intro j u hu
    have hj : j = 0 := by
      rcases Nat.eq_zero_or_pos j with e | e
      · exact e
      · rw [List.getElem?_eq_none (by simp; omega)] at hu; cases hu
    subst hj
    simp at hu
    subst hu
    simpa [Addr.add] using hx
  by_cases hroom : n + 1 ≤ cap
  · have hr := run_append_room (P := Tryd.prog) W 26 26 2 i0 Tryd.underlying26 hi g n cap cur h1 ⟨b, 0, none⟩ 1 1 [.int .i64 x] (by rw [hz1]; rfl) hnews (by intro u hu; simp at hu; subst hu; rfl) hroom (by rw [hz1, h4]; simp; omega)
    rw [hz1] at hr
    refine ⟨_, _, g, hr, ⟨⟨cap, _, rfl, setRow_heap W g cur _ _ _ h1, hroom, h3, ?_, fun k hk => ?_⟩, .inl ⟨rfl, ⟨rfl, rfl, rfl, by simp, fun k hk => setRow_other W g k _ hk⟩⟩⟩⟩
    · simp only [List.size_toArray, List.length_append, List.length_take, List.length_drop, Array.length_toList, List.length_cons, List.length_nil]
      omega
    · have hl : (cur.toList.take (n * 1)).length = n := by rw [List.length_take, Array.length_toList]; omega
      simp only [List.getElem?_toArray, List.append_assoc]
      unfold upd
      by_cases e : k = n
      · subst e
        rw [if_pos rfl, List.getElem?_append_right (by omega), hl, Nat.sub_self]
        rfl
      · rw [if_neg e, List.getElem?_append_left (by omega), List.getElem?_take_of_lt (by omega), Array.getElem?_toList]
        exact h5 k (by omega)
  · have holds : ∀ j u, (cur.toList.take n)[j]? = some u → W.cell? ((⟨g, 0, none⟩ : Addr).add j) = some u := by
      intro j u hu
      have hadd : (⟨g, 0, none⟩ : Addr).add j = ⟨g, j, none⟩ := by unfold Addr.add; split <;> simp_all
      rw [hadd]
      simp only [World.cell?, h1]
      rw [List.getElem?_take] at hu
      split at hu
      · simpa using hu
      · cases hu
    have hlt : (cur.toList.take n).length = n := by rw [List.length_take, Array.length_toList]; omega
    have hr := run_append_grow (P := Tryd.prog) W 26 26 2 i0 (.int .i64 0) Tryd.underlying26 hi hz0 ⟨g, 0, none⟩ n cap (cur.toList.take n) (by rw [hz1, hlt]; omega) holds ⟨b, 0, none⟩ 1 1 [.int .i64 x] (by rw [hz1]; rfl) hnews (by omega) (by omega) (growslice_fits (by omega) (by rw [hz2]; omega))
    refine ⟨_, _, W.heap.size, hr, ⟨⟨_, _, rfl, heap_alloc_new W.drew _, ?_, ?_, ?_, fun k hk => ?_⟩, .inr ⟨rfl, ?_, ?_⟩⟩⟩
    · exact grownCap_ge W (n + 1) cap _
    · exact grownCap_le_maxLen W (n + 1) cap _ (by unfold maxLen; omega)
    · have hge := grownCap_ge W (n + 1) cap 2
      simp only [Array.size_append, List.size_toArray, size_zeroCells, Value.cells, hlt, List.length_cons, List.length_nil]
      omega
    · unfold upd
      by_cases e : k = n
      · subst e
        rw [if_pos rfl, Array.getElem?_append_left (by simp [hlt]), Array.getElem?_append_right (by simp [hlt])]
        simp [hlt]
      · rw [if_neg e, Array.getElem?_append_left (by simp [hlt]; omega), Array.getElem?_append_left (by simp [hlt]; omega), List.getElem?_toArray, List.getElem?_take_of_lt (by omega), Array.getElem?_toList]
        exact h5 k (by omega)
    · exact ((Below.refl _ W).drew).alloc (Nat.le_refl _) _
    · show (W.heap.push _).size = _
      simp
/-- at the operation, for the walk: an append whose run is known -/
theorem wpList_app {ops : Array Oper} {rest : List Oper} {o : Oper} {a : Act} {Q : Exit → Act → World → Prop} {w w' : World} {v v' xv : Value} (hr : Sem.run Tryd.prog (Builtin.append_ #[26, 26] 26 #[v, xv]) w = .ok v' w')
    (hgd : o.guard = none) (s x : Operand) (ho : o.op = .call { callee := .builtin .append, args := #[s, x], argTypes := #[26, 26] }) (hty : o.type = 26) (hs : a.eval s = v) (hx : a.eval x = xv)
    (h : wpList Tryd.prog ops Q rest (a.put o.dst v') w') : wpList Tryd.prog ops Q (o :: rest) a w := by
  refine wpList_plain hgd fun K hK => ?_
  unfold Oper.wp execOp
  simp only [ho, hty, resolve, invoke, builtin, Sem.run_bind, Sem.run_pure, Result.andThen_ok, List.map_toArray, List.map_cons, List.map_nil, hs, hx, hr]
  exact hK _ _ h
end Go.Proofs.YtdbgcbkmcbgdiaaDoor.mem
