/-
  Networks' texts read back: what ReadNetwork and FirstWrongLine answer at a text. Pure. Conditions: as each states.
-/
import Derived.Test.YtbenloeomjdkcaaGreatDoorRows
import Derived.Test.YtbenloeomjdkcaaGreatDoorPyM
import Derived.WalkKit
import Derived.ProofKit
import Derived.Lib.Hide
import Derived.OwnWalk
import Derived.Outline
import Derived.Deep.RegionHeld3
namespace Go.Proofs.YtbenloeomjdkcaaGreatDoor.text
open Go.RowKit Go.Proofs.YtbenloeomjdkcaaGreatDoor.mem
set_option linter.unusedVariables false

theorem dec_le (k u : Nat) (h : u < 10 ^ (k + 1)) : (Lib.decDigits u).length ≤ k + 1 := by
  rw [Lib.decDigits_length]
  exact nDigits_le k u h
theorem nodeL_tight {q : Nod} (h : nodB q = true) : (nodeL q).length ≤ 33 := by
  obtain ⟨h1, h2, h3⟩ := nod_bd h
  unfold nodB at h
  simp only [Bool.and_eq_true, decide_eq_true_eq] at h
  have a := dec_le 8 q.lo.toNat (by omega)
  have b := dec_le 8 q.hi.toNat (by omega)
  have e : q.s.data.toList.length = q.s.size := Array.length_toList
  unfold nodeL
  simp only [numsL, List.length_append, List.length_cons, List.length_nil]
  omega
theorem pipeL_tight {n : Nat} {N : Nat → Nod} {q : Pip} (hN : ∀ i, i < n → nodB (N i) = true) (hq : pipB n q = true) : (pipeL N q).length ≤ 43 := by
  obtain ⟨f, t, e1, e2, f1, t1, k0, v0, l0⟩ := pip_bd hq
  unfold pipB at hq
  simp only [Bool.and_eq_true] at hq
  have hk := inR_iff.1 hq.1.1.2
  have hv := inR_iff.1 hq.1.2
  have hl := inR_iff.1 hq.2
  have a := dec_le 3 q.k.toNat (by omega)
  have b := dec_le 6 q.v.toNat (by omega)
  have c := dec_le 4 q.l.toNat (by omega)
  have n1 := (nod_bd (hN q.f.toNat (by omega))).1
  have n2 := (nod_bd (hN q.t.toNat (by omega))).1
  have x1 : (N q.f.toNat).s.data.toList.length = (N q.f.toNat).s.size := Array.length_toList
  have x2 : (N q.t.toNat).s.data.toList.length = (N q.t.toNat).s.size := Array.length_toList
  unfold pipeL
  simp only [numsL, List.length_append, List.length_cons, List.length_nil]
  omega
theorem nodesT_tight {N : Nat → Nod} {k : Nat} (h : ∀ i, i < k → nodB (N i) = true) : (nodesT N k).length ≤ 34 * k := by
  induction k with
  | zero => exact Nat.le_refl _
  | succ k ih =>
    have h1 := ih (fun i hi => h i (by omega))
    have h2 := nodeL_tight (h k (by omega))
    show (nodesT N k ++ (nodeL (N k) ++ [10])).length ≤ _
    simp only [List.length_append, List.length_cons, List.length_nil]
    omega
theorem pipesT_tight {n : Nat} {N : Nat → Nod} {P : Nat → Pip} {k : Nat} (hN : ∀ i, i < n → nodB (N i) = true) (h : ∀ i, i < k → pipB n (P i) = true) : (pipesT N P k).length ≤ 44 * k := by
  induction k with
  | zero => exact Nat.le_refl _
  | succ k ih =>
    have h1 := ih (fun i hi => h i (by omega))
    have h2 := pipeL_tight hN (h k (by omega))
    show (pipesT N P k ++ (pipeL N (P k) ++ [10])).length ≤ _
    simp only [List.length_append, List.length_cons, List.length_nil]
    omega
/-- a network's text is short enough to be read -/
theorem netT_tight (n : Nat) (N : Nat → Nod) (m : Nat) (P : Nat → Pip) : (netT n N m P).length ≤ 4000 := by
  unfold netT
  split
  · next h =>
    have hs := net_sz h
    obtain ⟨hN, hP⟩ := net_nodes h
    have a := nodesT_tight hN
    have b := pipesT_tight hN hP
    unfold netL
    rw [List.length_append]
    omega
  · exact Nat.zero_le _
theorem netL_ne2 {n : Nat} {N : Nat → Nod} {m : Nat} {P : Nat → Pip} (h : netB n N m P = true) : netL n N m P ≠ [] := by
  intro e
  have h1 := net_sz h
  have h2 := glue_len (lns n N m P)
  rw [← netL_glue, e, lns_len] at h2
  simp at h2
  omega
/-- what ReadNetwork answers at a network's own text -/
theorem ntAns {n : Nat} {N : Nat → Nod} {m : Nat} {P : Nat → Pip} {t : ByteArray} (ht : t.data.toList = netT n N m P) {B : Nat} {e : Ending} {w' : World} (h : RNAns B t e w') :
    (netB n N m P = true ∧ ∃ v b1 b2, e = .returned (.tuple #[v, .bool true]) ∧ NetOwn w' v n N m P b1 b2 ∧ B ≤ b1 ∧ B ≤ b2) ∨ (netB n N m P = false ∧ e = .returned (.tuple #[.agg #[.slice none 0 0, .slice none 0 0], .bool false])) := by
  cases hB : netB n N m P
  · have ht0 : t.data.toList = [] := by rw [ht]; unfold netT; rw [hB]; rfl
    rcases h with ⟨v', n', N', m', P', b1, b2, hb', hl', rfl, ho, h1, h2⟩ | ⟨_, rfl⟩
    · exact absurd (hl'.trans ht0) (netL_ne2 hb')
    · exact .inr ⟨rfl, rfl⟩
  · have ht1 : t.data.toList = netL n N m P := by rw [ht]; unfold netT; rw [hB]; rfl
    rcases h with ⟨v', n', N', m', P', b1, b2, hb', hl', rfl, ho, h1, h2⟩ | ⟨hno, rfl⟩
    · obtain ⟨rfl, rfl, a3, a4⟩ := netL_inj hB hb' (ht1.symm.trans hl'.symm)
      obtain ⟨v0, v1, rfl, g0, g1, g2⟩ := ho.ex
      exact .inl ⟨rfl, _, b1, b2, rfl, ⟨v0, v1, rfl, g0.congr (fun i j hi hj => by unfold nodC; rw [a3 i hi]), g1.congr (fun i j hi hj => by unfold pipC; rw [a4 i hi]), g2⟩, h1, h2⟩
    · exact absurd ht1.symm (hno n N m P hB)
theorem fwAns {n : Nat} {N : Nat → Nod} {m : Nat} {P : Nat → Pip} {t : ByteArray} (ht : t.data.toList = netT n N m P) (hB : netB n N m P = true) {x : Int} (h : FWAns t.data.toList x) : x = -1 := by
  rcases h with ⟨h, _⟩ | ⟨n', N', m', P', ls, rest, _, hc, hs, hno⟩
  · exact h
  · have ht1 : t.data.toList = netL n N m P := by rw [ht]; unfold netT; rw [hB]; rfl
    exact absurd (ht1.symm.trans hs) (no_text hc hno hB)
theorem glue_count : ∀ (ls : List (List UInt8)), (∀ a ∈ ls, (10 : UInt8) ∉ a) → (glue ls).count 10 = ls.length
  | [], _ => rfl
  | a :: A, h => by
    have e1 : glue (a :: A) = a ++ 10 :: glue A := by simp [glue]
    have ih := glue_count A (fun x hx => h x (List.mem_cons_of_mem _ hx))
    have h0 : a.count 10 = 0 := List.count_eq_zero.2 (h a (List.mem_cons_self ..))
    rw [e1, List.count_append, List.count_cons, ih, h0]
    simp
theorem glue_end : ∀ (ls : List (List UInt8)), ls ≠ [] → ∃ i, glue ls = i ++ [10]
  | [], h => absurd rfl h
  | [a], _ => ⟨a, by simp [glue]⟩
  | a :: b :: A, _ => by
    obtain ⟨i, hi⟩ := glue_end (b :: A) (by simp)
    refine ⟨a ++ 10 :: i, ?_⟩
    have e1 : glue (a :: b :: A) = a ++ 10 :: glue (b :: A) := by simp [glue]
    rw [e1, hi]
    simp
/-- before the last byte of the lines fewer newlines have come -/
theorem count_before {ls : List (List UInt8)} (h : ∀ a ∈ ls, (10 : UInt8) ∉ a) (rest : List UInt8) {i : Nat} (hi : i < (glue ls).length) : ((glue ls ++ rest).take i).count 10 < ls.length := by
  have hne : ls ≠ [] := by rintro rfl; simp [glue] at hi
  obtain ⟨j, hj⟩ := glue_end ls hne
  have hc := glue_count ls h
  rw [hj] at hc hi ⊢
  rw [List.count_append] at hc
  simp only [List.length_append, List.length_cons, List.length_nil] at hi
  have e : (j ++ [10] ++ rest).take i = j.take i := by rw [List.append_assoc, List.take_append_of_le_length (by omega)]
  rw [e]
  have hle : (j.take i).count 10 ≤ j.count 10 := (List.take_sublist i j).count_le 10
  simp at hc
  omega
theorem count_at {ls : List (List UInt8)} (h : ∀ a ∈ ls, (10 : UInt8) ∉ a) (rest : List UInt8) : ((glue ls ++ rest).take (glue ls).length).count 10 = ls.length := by
  rw [List.take_left, glue_count ls h]
theorem count_step (L : List UInt8) (i : Nat) (x : UInt8) (h : L[i]? = some x) : (L.take (i + 1)).count 10 = (L.take i).count 10 + if x = 10 then 1 else 0 := by
  rw [List.take_add_one, h, List.count_append]
  congr 1
  by_cases e : x = 10
  · subst e; simp
  · rw [if_neg e]; simp [e]
/-- what ReadNetwork answers at the lines before the first wrong one -/
theorem wlAns {n : Nat} {N : Nat → Nod} {m : Nat} {P : Nat → Pip} {ls : List (List UInt8)} (hc : Chain n N m P ls) {t : ByteArray} (ht : t.data.toList = glue ls) {B : Nat} {e : Ending} {w' : World} (h : RNAns B t e w') :
    ∃ (v : Value) (n' m' : Nat) (p0 p1 : Option Addr) (c0 c1 : Nat), e = .returned (.tuple #[v, .bool (decide (0 < ls.length))]) ∧ v = .agg #[.slice p0 n' c0, .slice p1 m' c1] := by
  by_cases hne : ls = []
  · subst hne
    rcases h with ⟨v', n', N', m', P', b1, b2, hb', hl', rfl, ho, h1, h2⟩ | ⟨_, rfl⟩
    · exact absurd (hl'.trans (ht.trans (by simp [glue]))) (netL_ne2 hb')
    · exact ⟨_, 0, 0, none, none, 0, 0, rfl, rfl⟩
  · have hv := chain_valid hc hne
    have hp : 0 < ls.length := List.length_pos_iff.2 hne
    rcases h with ⟨v', n', N', m', P', b1, b2, hb', hl', rfl, ho, h1, h2⟩ | ⟨hno, rfl⟩
    · obtain ⟨p0, c0, p1, c1, rfl⟩ := ho.shape
      exact ⟨_, _, _, p0, p1, c0, c1, by rw [decide_eq_true hp], rfl⟩
    · exact absurd ((chain_text hc).trans ht.symm) (hno n N m P hv)
theorem noAns {n : Nat} {N : Nat → Nod} {m : Nat} {P : Nat → Pip} {ls : List (List UInt8)} {rest : List UInt8} (hc : Chain n N m P ls) (hno : NoStep n N m P ls rest) {t : ByteArray} (ht : t.data.toList = glue ls ++ rest) {B : Nat} {e : Ending} {w' : World} (h : RNAns B t e w') :
    e = .returned (.tuple #[.agg #[.slice none 0 0, .slice none 0 0], .bool false]) := by
  rcases h with ⟨v', n', N', m', P', b1, b2, hb', hl', rfl, ho, h1, h2⟩ | ⟨_, rfl⟩
  · exact absurd (hl'.trans ht) (no_text hc hno hb')
  · rfl
end Go.Proofs.YtbenloeomjdkcaaGreatDoor.text
