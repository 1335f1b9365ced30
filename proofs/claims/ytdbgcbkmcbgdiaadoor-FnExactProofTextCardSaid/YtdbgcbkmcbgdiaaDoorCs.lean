/-
  Memory words: a slice of elements of several cells. No condition.
-/
import Derived.Test.YtdbgcbkmcbgdiaaDoorRows
import Derived.Test.YtdbgcbkmcbgdiaaDoorMem
import Derived.WalkKit
import Derived.ProofKit
import Derived.Below
import Derived.Lib.Hide
namespace Go.Proofs.YtdbgcbkmcbgdiaaDoor.mem
open Go.RowKit
set_option linter.unusedVariables false

/-- block b holds from place o on n elements of z cells: cell j of element i is c i j -/
structure At (w : World) (b o n z : Nat) (c : Nat → Nat → Value) : Prop where
  cell : ∀ i j, i < n → j < z → w.cell? ⟨b, o + i * z + j, none⟩ = some (c i j)
theorem At.congrW {w w' : World} {b o n z : Nat} {c : Nat → Nat → Value} (h : At w b o n z c) (e : w'.heap[b]? = w.heap[b]?) : At w' b o n z c :=
  ⟨fun i j hi hj => (World.cell?_of_block e).trans (h.cell i j hi hj)⟩
theorem At.congr {w : World} {b o n z : Nat} {c d : Nat → Nat → Value} (h : At w b o n z c) (e : ∀ i j, i < n → j < z → c i j = d i j) : At w b o n z d :=
  ⟨fun i j hi hj => by rw [← e i j hi hj]; exact h.cell i j hi hj⟩
theorem At.le {w : World} {b o n m z : Nat} {c : Nat → Nat → Value} (h : At w b o n z c) (hm : m ≤ n) : At w b o m z c := ⟨fun i j hi hj => h.cell i j (by omega) hj⟩
theorem At.below {w w' : World} {b o n z B : Nat} {c : Nat → Nat → Value} (h : At w b o n z c) (g : Below B w w') (hb : b < B) : At w' b o n z c := h.congrW (g.block b hb)
theorem At.only {w w' : World} {b o n z g : Nat} {c : Nat → Nat → Value} (h : At w b o n z c) (k : Only g w w') (hb : b ≠ g) : At w' b o n z c := h.congrW (k.block b hb)

/-- v is a slice of n elements of z cells, cell j of element i is c i j; its block, if it has elements, is one from lo on and below hi -/
structure Cs (w : World) (v : Value) (n z : Nat) (c : Nat → Nat → Value) (lo hi : Nat) : Prop where
  ex : ∃ p cap, v = .slice p n cap ∧ n ≤ cap ∧ cap ≤ 9223372036854775807 ∧ (n = 0 ∨ ∃ b o, p = some ⟨b, o, none⟩ ∧ lo ≤ b ∧ b < hi ∧ At w b o n z c)
theorem Cs.below {w w' : World} {v : Value} {n z : Nat} {c : Nat → Nat → Value} {lo hi B : Nat} (h : Cs w v n z c lo hi) (g : Below B w w') (hB : hi ≤ B) : Cs w' v n z c lo hi := by
  obtain ⟨p, cap, rfl, h0, h9, h | ⟨b, o, rfl, h1, h2, h3⟩⟩ := h
  · exact ⟨p, cap, rfl, h0, h9, .inl h⟩
  · exact ⟨_, cap, rfl, h0, h9, .inr ⟨b, o, rfl, h1, h2, h3.below g (by omega)⟩⟩
theorem Cs.only {w w' : World} {v : Value} {n z g : Nat} {c : Nat → Nat → Value} {lo hi : Nat} (h : Cs w v n z c lo hi) (k : Only g w w') (hc : g < lo ∨ hi ≤ g) : Cs w' v n z c lo hi := by
  obtain ⟨p, cap, rfl, h0, h9, h | ⟨b, o, rfl, h1, h2, h3⟩⟩ := h
  · exact ⟨p, cap, rfl, h0, h9, .inl h⟩
  · exact ⟨_, cap, rfl, h0, h9, .inr ⟨b, o, rfl, h1, h2, h3.only k (by omega)⟩⟩
theorem Cs.drewN {w : World} {v : Value} {n z : Nat} {c : Nat → Nat → Value} {lo hi : Nat} (h : Cs w v n z c lo hi) (m : Nat) : Cs (w.drewN m) v n z c lo hi := h.below (B := hi) ⟨rfl, rfl, rfl, Nat.le_refl _, fun _ _ => rfl⟩ (Nat.le_refl _)
theorem Cs.mono {w : World} {v : Value} {n z : Nat} {c : Nat → Nat → Value} {lo hi lo' hi' : Nat} (h : Cs w v n z c lo hi) (h1 : lo' ≤ lo) (h2 : hi ≤ hi') : Cs w v n z c lo' hi' := by
  obtain ⟨p, cap, rfl, h0, h9, h | ⟨b, o, rfl, g1, g2, g3⟩⟩ := h
  · exact ⟨p, cap, rfl, h0, h9, .inl h⟩
  · exact ⟨_, cap, rfl, h0, h9, .inr ⟨b, o, rfl, by omega, by omega, g3⟩⟩
theorem Cs.congr {w : World} {v : Value} {n z : Nat} {c d : Nat → Nat → Value} {lo hi : Nat} (h : Cs w v n z c lo hi) (e : ∀ i j, i < n → j < z → c i j = d i j) : Cs w v n z d lo hi := by
  obtain ⟨p, cap, rfl, h0, h9, h | ⟨b, o, rfl, g1, g2, g3⟩⟩ := h
  · exact ⟨p, cap, rfl, h0, h9, .inl h⟩
  · exact ⟨_, cap, rfl, h0, h9, .inr ⟨b, o, rfl, g1, g2, g3.congr e⟩⟩
theorem Cs.shape {w : World} {v : Value} {n z : Nat} {c : Nat → Nat → Value} {lo hi : Nat} (h : Cs w v n z c lo hi) : ∃ p cap, v = .slice p n cap := by
  obtain ⟨p, cap, rfl, _⟩ := h.ex
  exact ⟨p, cap, rfl⟩
theorem Cs.none_ (w : World) (z : Nat) (c : Nat → Nat → Value) (lo hi : Nat) : Cs w (.slice none 0 0) 0 z c lo hi := ⟨none, 0, rfl, Nat.le_refl _, by omega, .inl rfl⟩

/-- block b is the call's own: N cells, none frozen, cell k is d k -/
structure Ob (w : World) (b N : Nat) (d : Nat → Value) : Prop where
  ex : ∃ cur t, w.heap[b]? = some (.cells cur t (0, 0)) ∧ cur.size = N ∧ ∀ k, k < N → cur[k]? = some (d k)
theorem Ob.lt {w : World} {b N : Nat} {d : Nat → Value} (h : Ob w b N d) : b < w.heap.size := by
  obtain ⟨_, _, h1, _⟩ := h.ex
  exact (Array.getElem?_eq_some_iff.1 h1).1
theorem Ob.cell {w : World} {b N : Nat} {d : Nat → Value} (h : Ob w b N d) (k : Nat) (hk : k < N) : w.cell? ⟨b, k, none⟩ = some (d k) := by
  obtain ⟨cur, t, h1, h2, h3⟩ := h.ex
  simp only [World.cell?, h1]
  simpa using h3 k hk
theorem Ob.free {w : World} {b N : Nat} {d : Nat → Value} (h : Ob w b N d) (k : Nat) : w.frozen? ⟨b, k, none⟩ = false := by
  obtain ⟨cur, t, h1, h2, h3⟩ := h.ex
  simp [World.frozen?, h1]
theorem Ob.keep {w w' : World} {b N : Nat} {d : Nat → Value} (h : Ob w b N d) (e : w'.heap[b]? = w.heap[b]?) : Ob w' b N d := by
  obtain ⟨cur, t, h1, h2, h3⟩ := h.ex
  exact ⟨cur, t, by rw [e]; exact h1, h2, h3⟩
theorem Ob.below {w w' : World} {b N B : Nat} {d : Nat → Value} (h : Ob w b N d) (g : Below B w w') (hb : b < B) : Ob w' b N d := h.keep (g.block b hb)
theorem Ob.only {w w' : World} {b N g : Nat} {d : Nat → Value} (h : Ob w b N d) (k : Only g w w') (hb : b ≠ g) : Ob w' b N d := h.keep (k.block b hb)
theorem Ob.drewN {w : World} {b N : Nat} {d : Nat → Value} (h : Ob w b N d) (m : Nat) : Ob (w.drewN m) b N d := h.keep rfl
theorem Ob.congr {w : World} {b N : Nat} {d e : Nat → Value} (h : Ob w b N d) (he : ∀ k, k < N → d k = e k) : Ob w b N e := by
  obtain ⟨cur, t, h1, h2, h3⟩ := h.ex
  exact ⟨cur, t, h1, h2, fun k hk => by rw [← he k hk]; exact h3 k hk⟩
def updV (d : Nat → Value) (i : Nat) (v : Value) : Nat → Value := fun k => if k = i then v else d k
theorem Ob.set {w : World} {b N : Nat} {d : Nat → Value} (h : Ob w b N d) (i : Nat) (v : Value) (hi : i < N) : Ob (w.setCell ⟨b, i, none⟩ v) b N (updV d i v) := by
  obtain ⟨cur, t, h1, h2, h3⟩ := h.ex
  refine ⟨cur.setIfInBounds i v, t, ?_, by simpa using h2, fun k hk => ?_⟩
  · simp [World.setCell, Array.getElem?_modify, h1]
  · unfold updV
    by_cases e : k = i
    · subst e
      rw [if_pos rfl]
      simp [h2, hi]
    · rw [if_neg e, Array.getElem?_setIfInBounds, if_neg (by omega)]
      exact h3 k hk
theorem Ob.new (w : World) (cur : Array Value) (t : TypeId) (N : Nat) (d : Nat → Value) (h2 : cur.size = N) (h3 : ∀ k, k < N → cur[k]? = some (d k)) : Ob (w.alloc (.cells cur t)) w.heap.size N d :=
  ⟨cur, t, heap_alloc_new w _, h2, h3⟩
theorem Ob.at {w : World} {b N n z : Nat} {d : Nat → Value} {c : Nat → Nat → Value} (h : Ob w b N d) (hN : n * z ≤ N) (e : ∀ i j, i < n → j < z → d (i * z + j) = c i j) : At w b 0 n z c := by
  refine ⟨fun i j hi hj => ?_⟩
  have : (i + 1) * z ≤ n * z := Nat.mul_le_mul_right z (by omega)
  rw [Nat.add_mul, Nat.one_mul] at this
  rw [Nat.zero_add, ← e i j hi hj]
  exact h.cell _ (by omega)
theorem At.cs {w : World} {b o n z cap : Nat} {c : Nat → Nat → Value} (h : At w b o n z c) (hn : n ≤ cap) (h9 : cap ≤ 9223372036854775807) {lo hi : Nat} (h1 : lo ≤ b) (h2 : b < hi) : Cs w (.slice (some ⟨b, o, none⟩) n cap) n z c lo hi :=
  ⟨_, cap, rfl, hn, h9, .inr ⟨b, o, rfl, h1, h2, h⟩⟩

/-- block b is the call's own row: n elements of z cells at its start, cell j of element i is c i j -/
structure Rw (w : World) (b n z : Nat) (c : Nat → Nat → Value) : Prop where
  ex : ∃ M d, n * z ≤ M ∧ Ob w b M d ∧ ∀ i j, i < n → j < z → d (i * z + j) = c i j
theorem ij_lt {i j n z : Nat} (hi : i < n) (hj : j < z) : i * z + j < n * z := by
  have : (i + 1) * z ≤ n * z := Nat.mul_le_mul_right z (by omega)
  rw [Nat.add_mul, Nat.one_mul] at this
  omega
theorem ij_inj {i j k l z : Nat} (hj : j < z) (hl : l < z) (h : i * z + j = k * z + l) : i = k ∧ j = l := by
  have hz : 0 < z := by omega
  have h1 : (i * z + j) / z = i := by rw [Nat.mul_comm, Nat.mul_add_div hz, Nat.div_eq_of_lt hj, Nat.add_zero]
  have h2 : (k * z + l) / z = k := by rw [Nat.mul_comm, Nat.mul_add_div hz, Nat.div_eq_of_lt hl, Nat.add_zero]
  have e : i = k := by rw [← h1, h, h2]
  subst e
  exact ⟨rfl, by omega⟩
theorem Rw.lt {w : World} {b n z : Nat} {c : Nat → Nat → Value} (h : Rw w b n z c) : b < w.heap.size := by
  obtain ⟨M, d, hM, h, _⟩ := h.ex
  exact h.lt
theorem Rw.cell {w : World} {b n z : Nat} {c : Nat → Nat → Value} (h : Rw w b n z c) (i j : Nat) (hi : i < n) (hj : j < z) : w.cell? ⟨b, i * z + j, none⟩ = some (c i j) := by
  obtain ⟨M, d, hM, h, e⟩ := h.ex
  rw [← e i j hi hj]
  exact h.cell _ (Nat.lt_of_lt_of_le (ij_lt hi hj) hM)
theorem Rw.free {w : World} {b n z : Nat} {c : Nat → Nat → Value} (h : Rw w b n z c) (k : Nat) : w.frozen? ⟨b, k, none⟩ = false := by
  obtain ⟨M, d, hM, h, _⟩ := h.ex
  exact h.free k
theorem Rw.keep {w w' : World} {b n z : Nat} {c : Nat → Nat → Value} (h : Rw w b n z c) (e : w'.heap[b]? = w.heap[b]?) : Rw w' b n z c := by
  obtain ⟨M, d, hM, h, g⟩ := h.ex
  exact ⟨M, d, hM, h.keep e, g⟩
theorem Rw.below {w w' : World} {b n z B : Nat} {c : Nat → Nat → Value} (h : Rw w b n z c) (g : Below B w w') (hb : b < B) : Rw w' b n z c := h.keep (g.block b hb)
theorem Rw.only {w w' : World} {b n z g : Nat} {c : Nat → Nat → Value} (h : Rw w b n z c) (k : Only g w w') (hb : b ≠ g) : Rw w' b n z c := h.keep (k.block b hb)
theorem Rw.drewN {w : World} {b n z : Nat} {c : Nat → Nat → Value} (h : Rw w b n z c) (m : Nat) : Rw (w.drewN m) b n z c := h.keep rfl
theorem Rw.congr {w : World} {b n z : Nat} {c c' : Nat → Nat → Value} (h : Rw w b n z c) (e : ∀ i j, i < n → j < z → c i j = c' i j) : Rw w b n z c' := by
  obtain ⟨M, d, hM, h, g⟩ := h.ex
  exact ⟨M, d, hM, h, fun i j hi hj => (g i j hi hj).trans (e i j hi hj)⟩
def updC (c : Nat → Nat → Value) (i j : Nat) (v : Value) : Nat → Nat → Value := fun k l => if k = i ∧ l = j then v else c k l
theorem Rw.set {w : World} {b n z : Nat} {c : Nat → Nat → Value} (h : Rw w b n z c) (i j : Nat) (v : Value) (hi : i < n) (hj : j < z) : Rw (w.setCell ⟨b, i * z + j, none⟩ v) b n z (updC c i j v) := by
  obtain ⟨M, d, hM, h, g⟩ := h.ex
  refine ⟨M, _, hM, h.set (i * z + j) v (Nat.lt_of_lt_of_le (ij_lt hi hj) hM), fun k l hk hl => ?_⟩
  unfold updV updC
  by_cases e : k = i ∧ l = j
  · obtain ⟨rfl, rfl⟩ := e
    simp
  · rw [if_neg e, if_neg, g k l hk hl]
    intro e2
    exact e (ij_inj hl hj e2)
theorem Rw.at {w : World} {b n z : Nat} {c : Nat → Nat → Value} (h : Rw w b n z c) : At w b 0 n z c := ⟨fun i j hi hj => by rw [Nat.zero_add]; exact h.cell i j hi hj⟩
theorem Rw.cs {w : World} {b n z cap : Nat} {c : Nat → Nat → Value} (h : Rw w b n z c) (hn : n ≤ cap) (h9 : cap ≤ 9223372036854775807) {lo hi : Nat} (h1 : lo ≤ b) (h2 : b < hi) : Cs w (.slice (some ⟨b, 0, none⟩) n cap) n z c lo hi := h.at.cs hn h9 h1 h2
theorem Rw.new (w : World) (cur : Array Value) (t : TypeId) (n z : Nat) (c : Nat → Nat → Value) (h2 : n * z ≤ cur.size) (h3 : ∀ i j, i < n → j < z → cur[i * z + j]? = some (c i j)) : Rw (w.alloc (.cells cur t)) w.heap.size n z c := by
  refine ⟨cur.size, fun k => (cur[k]?).getD default, h2, ⟨cur, t, heap_alloc_new w _, rfl, fun k hk => ?_⟩, fun i j hi hj => ?_⟩
  · rw [Array.getElem?_eq_getElem (by omega)]
    rfl
  · show (cur[i * z + j]?).getD default = c i j
    rw [h3 i j hi hj]
    rfl


theorem below_only {B b : Nat} {w0 w w' : World} (h : Below B w0 w) (g : Only b w w') (hb : B ≤ b) : Below B w0 w' := h.trans (g.below hb)
theorem below_dr {B : Nat} {w w' : World} (h : Below B w w') (n : Nat) : Below B w (w'.drewN n) := ⟨h.os, h.tape, h.output, h.size, h.block⟩
theorem below_self (B : Nat) (w : World) (n : Nat) : Below B w (w.drewN n) := ⟨rfl, rfl, rfl, Nat.le_refl _, fun _ _ => rfl⟩
theorem below_alloc {B : Nat} {w w' : World} (h : Below B w w') (hB : B ≤ w'.heap.size) (o : Obj) : Below B w (w'.alloc o) := h.alloc hB o
theorem below_set {B b : Nat} {w w' : World} (h : Below B w w') (hb : B ≤ b) (o : Nat) (v : Value) : Below B w (w'.setCell ⟨b, o, none⟩ v) :=
  h.trans (((Only.refl b w').setCell o v).below hb)
theorem below_new (w : World) (o : Obj) : Below w.heap.size w (w.alloc o) := (Below.refl _ _).alloc (Nat.le_refl _) o

theorem sz_set (w : World) (a : Addr) (v : Value) : (w.setCell a v).heap.size = w.heap.size := by simp [World.setCell]
/-- one more element has been stored: its cells one by one -/
theorem Rw.step3 {w : World} {b n k : Nat} {c d : Nat → Nat → Value} (h : Rw w b n 3 c) (e : ∀ i j, i < k → j < 3 → c i j = d i j) (hk : k < n) :
    ∃ c', Rw (((w.setCell ⟨b, k * 3, none⟩ (d k 0)).setCell ⟨b, k * 3 + 1, none⟩ (d k 1)).setCell ⟨b, k * 3 + 2, none⟩ (d k 2)) b n 3 c' ∧ ∀ i j, i < k + 1 → j < 3 → c' i j = d i j := by
  refine ⟨_, ((h.set k 0 (d k 0) hk (by omega)).set k 1 (d k 1) hk (by omega)).set k 2 (d k 2) hk (by omega), fun i j hi hj => ?_⟩
  unfold updC
  by_cases hik : i = k
  · subst hik
    rcases (by omega : j = 0 ∨ j = 1 ∨ j = 2) with rfl | rfl | rfl <;> simp
  · simp [hik, e i j (by omega) hj]
theorem Rw.step5 {w : World} {b n k : Nat} {c d : Nat → Nat → Value} (h : Rw w b n 5 c) (e : ∀ i j, i < k → j < 5 → c i j = d i j) (hk : k < n) :
    ∃ c', Rw (((((w.setCell ⟨b, k * 5, none⟩ (d k 0)).setCell ⟨b, k * 5 + 1, none⟩ (d k 1)).setCell ⟨b, k * 5 + 2, none⟩ (d k 2)).setCell ⟨b, k * 5 + 3, none⟩ (d k 3)).setCell ⟨b, k * 5 + 4, none⟩ (d k 4)) b n 5 c' ∧ ∀ i j, i < k + 1 → j < 5 → c' i j = d i j := by
  refine ⟨_, ((((h.set k 0 (d k 0) hk (by omega)).set k 1 (d k 1) hk (by omega)).set k 2 (d k 2) hk (by omega)).set k 3 (d k 3) hk (by omega)).set k 4 (d k 4) hk (by omega), fun i j hi hj => ?_⟩
  unfold updC
  by_cases hik : i = k
  · subst hik
    rcases (by omega : j = 0 ∨ j = 1 ∨ j = 2 ∨ j = 3 ∨ j = 4) with rfl | rfl | rfl | rfl | rfl <;> simp
  · simp [hik, e i j (by omega) hj]
theorem below_set3 {B b : Nat} {w w' : World} (h : Below B w w') (hb : B ≤ b) (o0 o1 o2 : Nat) (v0 v1 v2 : Value) : Below B w (((w'.setCell ⟨b, o0, none⟩ v0).setCell ⟨b, o1, none⟩ v1).setCell ⟨b, o2, none⟩ v2) :=
  h.trans (((((Only.refl b w').setCell o0 v0).setCell o1 v1).setCell o2 v2).below hb)
theorem below_set5 {B b : Nat} {w w' : World} (h : Below B w w') (hb : B ≤ b) (o0 o1 o2 o3 o4 : Nat) (v0 v1 v2 v3 v4 : Value) : Below B w (((((w'.setCell ⟨b, o0, none⟩ v0).setCell ⟨b, o1, none⟩ v1).setCell ⟨b, o2, none⟩ v2).setCell ⟨b, o3, none⟩ v3).setCell ⟨b, o4, none⟩ v4) :=
  h.trans (((((((Only.refl b w').setCell o0 v0).setCell o1 v1).setCell o2 v2).setCell o3 v3).setCell o4 v4).below hb)
/-- what X does not name is as it was -/
structure Upd (X : Nat → Prop) (w w' : World) : Prop where
  os : w'.os = w.os
  tape : w'.tape = w.tape
  output : w'.output = w.output
  size : w.heap.size ≤ w'.heap.size
  block : ∀ k, k < w.heap.size → ¬ X k → w'.heap[k]? = w.heap[k]?
theorem Upd.refl (X : Nat → Prop) (w : World) : Upd X w w := ⟨rfl, rfl, rfl, Nat.le_refl _, fun _ _ _ => rfl⟩
theorem Upd.trans {X : Nat → Prop} {w1 w2 w3 : World} (h : Upd X w1 w2) (k : Upd X w2 w3) : Upd X w1 w3 :=
  ⟨k.os.trans h.os, k.tape.trans h.tape, k.output.trans h.output, Nat.le_trans h.size k.size, fun i hi hx => (k.block i (Nat.lt_of_lt_of_le hi h.size) hx).trans (h.block i hi hx)⟩
theorem Upd.of_below {X : Nat → Prop} {w w' : World} (h : Below w.heap.size w w') : Upd X w w' := ⟨h.os, h.tape, h.output, h.size, fun k hk _ => h.block k hk⟩
theorem Upd.mono {X Y : Nat → Prop} {w w' : World} (h : Upd X w w') (hx : ∀ k, k < w.heap.size → X k → Y k) : Upd Y w w' := ⟨h.os, h.tape, h.output, h.size, fun k hk hy => h.block k hk (fun e => hy (hx k hk e))⟩
theorem Upd.of_only {b : Nat} {w w' : World} (h : Only b w w') : Upd (· = b) w w' := ⟨h.os, h.tape, h.output, Nat.le_of_eq h.size, fun k _ hx => h.block k hx⟩
theorem Upd.below {X : Nat → Prop} {B : Nat} {w w' : World} (h : Upd X w w') (hB : B ≤ w.heap.size) (hX : ∀ k, k < w.heap.size → X k → B ≤ k) : Below B w w' :=
  ⟨h.os, h.tape, h.output, h.size, fun k hk => h.block k (by omega) (fun e => by have := hX k (by omega) e; omega)⟩

/-- v is a slice of n elements; if it has elements, they are the own row b -/
structure OwnS (w : World) (v : Value) (n z : Nat) (c : Nat → Nat → Value) (b : Nat) : Prop where
  ex : ∃ p cap, v = .slice p n cap ∧ n ≤ cap ∧ cap ≤ 9223372036854775807 ∧ (n = 0 ∨ p = some ⟨b, 0, none⟩ ∧ Rw w b n z c)
theorem OwnS.keep {w w' : World} {v : Value} {n z b : Nat} {c : Nat → Nat → Value} (h : OwnS w v n z c b) (e : n = 0 ∨ w'.heap[b]? = w.heap[b]?) : OwnS w' v n z c b := by
  obtain ⟨p, cap, h1, h2, h3, h4⟩ := h.ex
  exact ⟨p, cap, h1, h2, h3, by
    rcases h4 with h4 | ⟨h4, h5⟩
    · exact .inl h4
    · rcases e with e | e
      · exact .inl e
      · exact .inr ⟨h4, h5.keep e⟩⟩
theorem OwnS.lt {w : World} {v : Value} {n z b : Nat} {c : Nat → Nat → Value} (h : OwnS w v n z c b) : n = 0 ∨ b < w.heap.size := by
  obtain ⟨p, cap, h1, h2, h3, h4 | ⟨h4, h5⟩⟩ := h.ex
  · exact .inl h4
  · exact .inr h5.lt
theorem OwnS.upd {X : Nat → Prop} {w w' : World} {v : Value} {n z b : Nat} {c : Nat → Nat → Value} (h : OwnS w v n z c b) (g : Upd X w w') (hx : n = 0 ∨ ¬ X b) : OwnS w' v n z c b :=
  h.keep (by
    rcases hx with e | e
    · exact .inl e
    · rcases h.lt with k | k
      · exact .inl k
      · exact .inr (g.block b k e))
theorem OwnS.below {w w' : World} {v : Value} {n z b B : Nat} {c : Nat → Nat → Value} (h : OwnS w v n z c b) (g : Below B w w') (hB : w.heap.size ≤ B) : OwnS w' v n z c b :=
  h.keep (by
    rcases h.lt with k | k
    · exact .inl k
    · exact .inr (g.block b (by omega)))
theorem OwnS.cs {w : World} {v : Value} {n z b : Nat} {c : Nat → Nat → Value} (h : OwnS w v n z c b) {lo hi : Nat} (h1 : lo ≤ b ∨ lo = 0) (h2 : w.heap.size ≤ hi) : Cs w v n z c lo hi := by
  obtain ⟨p, cap, rfl, g2, g3, g4 | ⟨rfl, g5⟩⟩ := h.ex
  · exact ⟨p, cap, rfl, g2, g3, .inl g4⟩
  · exact g5.cs g2 g3 (by omega) (by have := g5.lt; omega)
theorem OwnS.congr {w : World} {v : Value} {n z b : Nat} {c c' : Nat → Nat → Value} (h : OwnS w v n z c b) (e : ∀ i j, i < n → j < z → c i j = c' i j) : OwnS w v n z c' b := by
  obtain ⟨p, cap, h1, h2, h3, h4 | ⟨h4, h5⟩⟩ := h.ex
  · exact ⟨p, cap, h1, h2, h3, .inl h4⟩
  · exact ⟨p, cap, h1, h2, h3, .inr ⟨h4, h5.congr e⟩⟩
theorem OwnS.none_ (w : World) (z : Nat) (c : Nat → Nat → Value) (b : Nat) : OwnS w (.slice none 0 0) 0 z c b := ⟨none, 0, rfl, Nat.le_refl _, by omega, .inl rfl⟩
theorem Rw.own {w : World} {b n z cap : Nat} {c : Nat → Nat → Value} (h : Rw w b n z c) (hn : n ≤ cap) (h9 : cap ≤ 9223372036854775807) : OwnS w (.slice (some ⟨b, 0, none⟩) n cap) n z c b :=
  ⟨_, cap, rfl, hn, h9, .inr ⟨rfl, h⟩⟩
theorem Cs.upd {X : Nat → Prop} {w w' : World} {v : Value} {n z : Nat} {c : Nat → Nat → Value} {lo hi : Nat} (h : Cs w v n z c lo hi) (g : Upd X w w') (hi1 : hi ≤ w.heap.size) (hx : ∀ k, lo ≤ k → k < hi → ¬ X k) : Cs w' v n z c lo hi := by
  obtain ⟨p, cap, rfl, h0, h9, h | ⟨b, o, rfl, h1, h2, h3⟩⟩ := h
  · exact ⟨p, cap, rfl, h0, h9, .inl h⟩
  · exact ⟨_, cap, rfl, h0, h9, .inr ⟨b, o, rfl, h1, h2, h3.congrW (g.block b (by omega) (hx b h1 h2))⟩⟩
end Go.Proofs.YtdbgcbkmcbgdiaaDoor.mem
