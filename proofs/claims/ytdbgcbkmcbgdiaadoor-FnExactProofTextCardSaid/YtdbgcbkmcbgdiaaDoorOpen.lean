/-
  What an argument that is a network, a node reads as. No condition.
-/
import Derived.Test.YtdbgcbkmcbgdiaaDoorRows
import Derived.Test.YtdbgcbkmcbgdiaaDoorNetC
import Derived.WalkKit
import Derived.ProofKit
import Derived.OpenShut
import Derived.ChangeSame
import Derived.Lib.SmallJoins
import Derived.Deep.Slices
import Derived.Deep.Fields
namespace Go.Proofs.YtdbgcbkmcbgdiaaDoor.mem
open Go.Joins Go.ChangeShapes Go.WideShapes Go.ChangeAt Go.RowKit Go.Deep
set_option linter.unusedVariables false

section
variable {H : Type} {enc : TypeId × Value → H} {P : Program} {w : World}
/-- a slice of structs of one-cell fields, cell by cell -/
theorem struct_cells {t e : TypeId} {fs : Array Field} {fuel : Nat} {cs : List Value} {x : DataW H × List MemPlace} (ht : P.underlying t = some (.slice e)) (he : P.underlying e = some (.struct fs))
    (hone : oneCellFields P fs = true) (hC : P.cellsOf e = fs.size) (h : DataW.trod enc P w 0 (fun _ => true) true fuel t cs = some x) :
    cs = [.slice none 0 0] ∨ ∃ a len cap, cs = [.slice (some a) len cap] ∧ len ≤ cap ∧ cap ≤ maxLen ∧
      ∀ i, i < len → ∀ j f, fs[j]? = some f → ∃ v n y, w.cell? (a.add (i * fs.size + j)) = some v ∧ DataW.trod enc P w 0 (fun _ => true) true n f.type [v] = some y := by
  rcases open_slice ht h with h0 | ⟨a, len, cap, m, n, D, Pl, hcs, _, hl, hm, hmm, _, hi⟩
  · exact .inl h0.1
  refine .inr ⟨a, len, cap, hcs, hl, hm, fun i hil j f hj => ?_⟩
  simp only [if_true] at hmm
  obtain ⟨cs', hc, ht'⟩ := hi i (by omega)
  rw [hC] at hc
  obtain ⟨ys, n', _, _, hlen, hyl, hf⟩ := DataW.trod_struct he ht'
  obtain ⟨_, hcl, hat⟩ := World.cells?_some hc
  obtain ⟨ho, hk⟩ := hone_of hone j f hj
  have hjl : j < fs.size := (Array.getElem?_eq_some_iff.1 hj).1
  have h1 := hf j f hj
  rw [ho, hk, show (cs'.drop j).take 1 = [cs'[j]'(by omega)] by rw [List.drop_eq_getElem_cons (by omega)]; rfl] at h1
  refine ⟨cs'[j]'(by omega), n', _, ?_, h1.trans (List.getElem?_eq_getElem (by omega))⟩
  rw [← Go.Deep.add_add, hat j hjl]
  exact List.getElem?_eq_getElem (by omega)
end

theorem plain_of_cell {w : World} {a : Addr} {v : Value} (h : w.cell? (a.add 0) = some v) : a.spot = none := by
  cases hs : a.spot with
  | none => rfl
  | some s =>
    simp only [World.cell?, Addr.add, hs, if_true, Option.isSome_some] at h
    split at h <;> simp_all
theorem add_plain' (b o k : Nat) : (⟨b, o, none⟩ : Addr).add k = ⟨b, o + k, none⟩ := by
  unfold Addr.add
  split <;> simp_all
def rdS (x : Option Value) : ByteArray := match x with
  | some (.string s) => s
  | _ => ⟨#[]⟩
def rdI (x : Option Value) : Int := match x with
  | some (.int _ i) => i
  | _ => 0
section
variable {H : Type} {enc : TypeId × Value → H} {w : World}
theorem open_nodes {cs : List Value} {fuel : Nat} {x : DataW H × List MemPlace} (h : DataW.trod enc Tryd.prog w 0 (fun _ => true) true fuel 22 cs = some x) :
    ∃ v n N, cs = [v] ∧ Cs w v n 3 (nodC N) 0 w.heap.size ∧ ∀ i, i < n → (N i).s.size ≤ 9223372036854775807 := by
  rcases struct_cells Tryd.underlying22 Tryd.underlying69 (by kernel_rfl) (by kernel_rfl) h with rfl | ⟨a, len, cap, rfl, hl, hm, hf⟩
  · exact ⟨_, 0, fun _ => ⟨⟨#[]⟩, 0, 0⟩, rfl, Cs.none_ _ _ _ _ _, fun i hi => by omega⟩
  · have hm' : cap ≤ 9223372036854775807 := by simpa [maxLen] using hm
    rcases Nat.eq_zero_or_pos len with rfl | hpos
    · exact ⟨_, 0, fun _ => ⟨⟨#[]⟩, 0, 0⟩, rfl, ⟨_, cap, rfl, hl, hm', .inl rfl⟩, fun i hi => by omega⟩
    obtain ⟨v0, _, _, h0, _⟩ := hf 0 hpos 0 _ rfl
    have hsp := plain_of_cell h0
    obtain ⟨cb, co, sp⟩ := a
    simp only at hsp
    subst hsp
    have hlt := World.block_lt_of_cell? w _ h0
    have hs : ∀ i, i < len → ∃ s : ByteArray, w.cell? ⟨cb, co + (i * 3 + 0), none⟩ = some (.string s) ∧ s.size ≤ 9223372036854775807 := by
      intro i hi
      obtain ⟨v, n, y, hc, ht⟩ := hf i hi 0 _ rfl
      obtain ⟨s, h1, _, h2⟩ := DataW.trod_string Tryd.underlying9 ht
      simp only [List.cons.injEq, and_true] at h1
      subst h1
      rw [add_plain'] at hc
      exact ⟨s, hc, by simpa [maxLen] using h2⟩
    have hi1 : ∀ i, i < len → ∃ s : Int, w.cell? ⟨cb, co + (i * 3 + 1), none⟩ = some (.int .i64 s) := by
      intro i hi
      obtain ⟨v, n, y, hc, ht⟩ := hf i hi 1 _ rfl
      obtain ⟨s, h1, _, h2⟩ := DataW.trod_int Tryd.underlying2 ht
      simp only [List.cons.injEq, and_true] at h1
      subst h1
      rw [add_plain'] at hc
      exact ⟨s, hc⟩
    have hi2 : ∀ i, i < len → ∃ s : Int, w.cell? ⟨cb, co + (i * 3 + 2), none⟩ = some (.int .i64 s) := by
      intro i hi
      obtain ⟨v, n, y, hc, ht⟩ := hf i hi 2 _ rfl
      obtain ⟨s, h1, _, h2⟩ := DataW.trod_int Tryd.underlying2 ht
      simp only [List.cons.injEq, and_true] at h1
      subst h1
      rw [add_plain'] at hc
      exact ⟨s, hc⟩
    refine ⟨_, len, fun i => ⟨rdS (w.cell? ⟨cb, co + (i * 3 + 0), none⟩), rdI (w.cell? ⟨cb, co + (i * 3 + 1), none⟩), rdI (w.cell? ⟨cb, co + (i * 3 + 2), none⟩)⟩, rfl, ⟨_, cap, rfl, hl, hm', .inr ⟨cb, co, rfl, Nat.zero_le _, hlt, ⟨fun i j hi hj => ?_⟩⟩⟩, fun i hi => ?_⟩
    · obtain ⟨s, e0, _⟩ := hs i hi
      obtain ⟨x1, e1⟩ := hi1 i hi
      obtain ⟨x2, e2⟩ := hi2 i hi
      rw [Nat.add_assoc]
      rcases (by omega : j = 0 ∨ j = 1 ∨ j = 2) with rfl | rfl | rfl
      · rw [e0]; simp only [nodC, e0, rdS]
      · rw [e1]; simp only [nodC, e1, rdI]
      · rw [e2]; simp only [nodC, e2, rdI]
    · obtain ⟨s, e0, h⟩ := hs i hi
      show (rdS (w.cell? ⟨cb, co + (i * 3 + 0), none⟩)).size ≤ _
      rw [e0]
      exact h
theorem open_pipes {cs : List Value} {fuel : Nat} {x : DataW H × List MemPlace} (h : DataW.trod enc Tryd.prog w 0 (fun _ => true) true fuel 23 cs = some x) :
    ∃ v n N, cs = [v] ∧ Cs w v n 5 (pipC N) 0 w.heap.size := by
  rcases struct_cells Tryd.underlying23 Tryd.underlying74 (by kernel_rfl) (by kernel_rfl) h with rfl | ⟨a, len, cap, rfl, hl, hm, hf⟩
  · exact ⟨_, 0, fun _ => ⟨0, 0, 0, 0, 0⟩, rfl, Cs.none_ _ _ _ _ _⟩
  · have hm' : cap ≤ 9223372036854775807 := by simpa [maxLen] using hm
    rcases Nat.eq_zero_or_pos len with rfl | hpos
    · exact ⟨_, 0, fun _ => ⟨0, 0, 0, 0, 0⟩, rfl, ⟨_, cap, rfl, hl, hm', .inl rfl⟩⟩
    obtain ⟨v0, _, _, h0, _⟩ := hf 0 hpos 0 _ rfl
    have hsp := plain_of_cell h0
    obtain ⟨cb, co, sp⟩ := a
    simp only at hsp
    subst hsp
    have hlt := World.block_lt_of_cell? w _ h0
    have hi : ∀ j, j < 5 → ∀ i, i < len → ∃ s : Int, w.cell? ⟨cb, co + (i * 5 + j), none⟩ = some (.int .i64 s) := by
      intro j hj i hi
      rcases (by omega : j = 0 ∨ j = 1 ∨ j = 2 ∨ j = 3 ∨ j = 4) with rfl | rfl | rfl | rfl | rfl
      · obtain ⟨v, n, y, hc, ht⟩ := hf i hi 0 _ rfl
        obtain ⟨s, h1, _, h2⟩ := DataW.trod_int Tryd.underlying2 ht
        simp only [List.cons.injEq, and_true] at h1
        subst h1
        rw [add_plain'] at hc
        exact ⟨s, hc⟩
      · obtain ⟨v, n, y, hc, ht⟩ := hf i hi 1 _ rfl
        obtain ⟨s, h1, _, h2⟩ := DataW.trod_int Tryd.underlying2 ht
        simp only [List.cons.injEq, and_true] at h1
        subst h1
        rw [add_plain'] at hc
        exact ⟨s, hc⟩
      · obtain ⟨v, n, y, hc, ht⟩ := hf i hi 2 _ rfl
        obtain ⟨s, h1, _, h2⟩ := DataW.trod_int Tryd.underlying2 ht
        simp only [List.cons.injEq, and_true] at h1
        subst h1
        rw [add_plain'] at hc
        exact ⟨s, hc⟩
      · obtain ⟨v, n, y, hc, ht⟩ := hf i hi 3 _ rfl
        obtain ⟨s, h1, _, h2⟩ := DataW.trod_int Tryd.underlying2 ht
        simp only [List.cons.injEq, and_true] at h1
        subst h1
        rw [add_plain'] at hc
        exact ⟨s, hc⟩
      · obtain ⟨v, n, y, hc, ht⟩ := hf i hi 4 _ rfl
        obtain ⟨s, h1, _, h2⟩ := DataW.trod_int Tryd.underlying2 ht
        simp only [List.cons.injEq, and_true] at h1
        subst h1
        rw [add_plain'] at hc
        exact ⟨s, hc⟩
    refine ⟨_, len, fun i => ⟨rdI (w.cell? ⟨cb, co + (i * 5 + 0), none⟩), rdI (w.cell? ⟨cb, co + (i * 5 + 1), none⟩), rdI (w.cell? ⟨cb, co + (i * 5 + 2), none⟩), rdI (w.cell? ⟨cb, co + (i * 5 + 3), none⟩), rdI (w.cell? ⟨cb, co + (i * 5 + 4), none⟩)⟩, rfl, ⟨_, cap, rfl, hl, hm', .inr ⟨cb, co, rfl, Nat.zero_le _, hlt, ⟨fun i j hil hj => ?_⟩⟩⟩⟩
    rw [Nat.add_assoc]
    rcases (by omega : j = 0 ∨ j = 1 ∨ j = 2 ∨ j = 3 ∨ j = 4) with rfl | rfl | rfl | rfl | rfl
    all_goals
      obtain ⟨x, e⟩ := hi _ hj i hil
      rw [e]
      simp only [pipC, e, rdI]
def NetArg (W : World) (v : Value) : Prop := ∃ n N m P, NetAt W v n N m P 0 W.heap.size ∧ ∀ i, i < n → (N i).s.size ≤ 9223372036854775807
set_option maxRecDepth 100000 in
theorem open_net {v : Value} {d : DataW H} {p : List MemPlace} {b0 : Nat} (hval : Value.okWide Tryd.prog w .any b0 25 v) (h : DataW.Trod enc Tryd.prog w 0 (fun _ => true) true 25 v d p) : NetArg w v := by
  obtain ⟨v0, v1, y0, y1, n, rfl, _, _, h0, h1⟩ := open_agg2 Tryd.underlying25 (by kernel_rfl) (by kernel_rfl) hval h
  obtain ⟨u0, n, N, e0, c0, hN⟩ := open_nodes h0
  obtain ⟨u1, m, P, e1, c1⟩ := open_pipes h1
  simp only [List.cons.injEq, and_true] at e0 e1
  subst e0 e1
  exact ⟨n, N, m, P, ⟨_, _, rfl, c0, c1⟩, hN⟩
end
end Go.Proofs.YtdbgcbkmcbgdiaaDoor.mem
