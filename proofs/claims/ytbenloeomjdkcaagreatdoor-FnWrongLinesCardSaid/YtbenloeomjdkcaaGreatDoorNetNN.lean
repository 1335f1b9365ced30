/-
  NodeNamed: the contracts of the program and of the specification. Conditions: as each states.
-/
import Derived.Test.YtbenloeomjdkcaaGreatDoorRows
import Derived.Test.YtbenloeomjdkcaaGreatDoorNetO
import Derived.WalkKit
import Derived.ProofKit
import Derived.Outline
import Derived.OwnWalk
import Derived.Lib.Hide
import Derived.Maps.OwnSet
import Derived.Maps.OwnOps
namespace Go.Proofs.YtbenloeomjdkcaaGreatDoor.mem
open Go.RowKit Go.WideMaps Go.Maps
set_option linter.unusedVariables false

def nnP (N : Nat → Nod) (s : ByteArray) (i : Nat) : Bool := (N i).s.toList == s.toList
def nnF (N : Nat → Nod) (n : Nat) (s : ByteArray) : Option Nat := (List.range n).find? (nnP N s)
noncomputable def nnC (n : Nat) (N : Nat → Nod) (m : Nat) (P : Nat → Pip) (s : ByteArray) : Int := if netB n N m P = true then (if (nnF N n s).isSome = true then 0 else 4) else 1
noncomputable def nnV (n : Nat) (N : Nat → Nod) (m : Nat) (P : Nat → Pip) (s : ByteArray) : Int := if netB n N m P = true then ((nnF N n s).getD 0 : Nat) else 0
theorem nnP_iff {N : Nat → Nod} {s : ByteArray} {i : Nat} : nnP N s i = true ↔ (N i).s = s := by
  unfold nnP
  constructor
  · intro h
    by_cases e : (N i).s = s
    · exact e
    · rw [list_ne e] at h
      cases h
  · exact fun h => list_eq h
theorem nnF_some {N : Nat → Nod} {n i : Nat} {s : ByteArray} (hi : i < n) (h : nnP N s i = true) (hb : ∀ x, x < i → nnP N s x = false) : nnF N n s = some i := by
  unfold nnF
  rw [List.find?_range_eq_some]
  exact ⟨h, by simpa using hi, fun j hj => by rw [hb j hj]; rfl⟩
theorem nnF_none {N : Nat → Nod} {n : Nat} {s : ByteArray} (hb : ∀ x, x < n → nnP N s x = false) : nnF N n s = none := by
  unfold nnF
  rw [List.find?_eq_none]
  intro x hx
  rw [hb x (by simpa using hx)]
  simp
theorem nodes_of {n : Nat} {N : Nat → Nod} {m : Nat} {P : Nat → Pip} (h : netB n N m P = true) : distP N n := by
  unfold netB at h
  simp only [Bool.and_eq_true] at h
  exact (nodesB_iff.1 h.1.2).2
theorem has_nn (N : Nat → Nod) (n : Nat) (s : ByteArray) : Maps.has (CM N n) (nkey s) = (nnF N n s).isSome := by
  rw [Bool.eq_iff_iff, cm_has]
  unfold nnF
  rw [List.find?_isSome]
  constructor
  · rintro ⟨i, hi, e⟩
    exact ⟨i, by simpa using hi, nnP_iff.2 e⟩
  · rintro ⟨i, hi, e⟩
    exact ⟨i, by simpa using hi, nnP_iff.1 e⟩
theorem at_nn {N : Nat → Nod} {n : Nat} {s : ByteArray} (hd : distP N n) {c : Int} (h : (CM N n).atKey (nkey s) (.lit (.int .i64 0)) = .lit (.int .i64 c)) : c = ((nnF N n s).getD 0 : Nat) := by
  cases hf : nnF N n s with
  | none =>
    have hh := has_nn N n s
    rw [hf] at hh
    rw [atKey_of_not_has hh] at h
    cases h
    rfl
  | some i =>
    unfold nnF at hf
    rw [List.find?_range_eq_some] at hf
    obtain ⟨h1, h2, _⟩ := hf
    have e := nnP_iff.1 h1
    have := cm_at N (.lit (.int .i64 0)) n hd i (by simpa using h2)
    rw [e, h] at this
    cases this
    rfl

set_option maxRecDepth 100000 in
set_option maxHeartbeats 2000000 in
theorem nodeNamedI_any (w : World) (v : Value) (n : Nat) (N : Nat → Nod) (m : Nat) (P : Nat → Pip) (lo hi : Nat) (h : NetAt w v n N m P lo hi) (hhi : hi ≤ w.heap.size) (hN : ∀ i, i < n → (N i).s.size ≤ 9223372036854775807) (s : ByteArray) (hs : s.size ≤ 9223372036854775807) :
    Calls Tryz.prog 95 #[v, .string s] w (IIPost w (nnV n N m P s) (nnC n N m P s)) := by
  obtain ⟨v0, v1, rfl, g0, g1⟩ := h.ex
  obtain ⟨p0, c0, rfl⟩ := g0.shape
  obtain ⟨p1, c1, rfl⟩ := g1.shape
  have hn9 : n ≤ 9223372036854775807 := by
    obtain ⟨p, cap, he, q1, q2, _⟩ := g0.ex
    omega
  have hm9 : m ≤ 9223372036854775807 := by
    obtain ⟨p, cap, he, q1, q2, _⟩ := g1.ex
    omega
  have HC0 : Hid (n = 0 ∨ ∃ b o, p0 = some ⟨b, o, none⟩ ∧ lo ≤ b ∧ b < hi ∧ At w b o n 3 (nodC N)) := by
    obtain ⟨p, cap, hv, _, _, hc⟩ := g0.ex
    injection hv with e1 _ e2
    subst e1
    exact Lib.hid hc
  have HC1 : Hid (m = 0 ∨ ∃ b o, p1 = some ⟨b, o, none⟩ ∧ lo ≤ b ∧ b < hi ∧ At w b o m 5 (pipC P)) := by
    obtain ⟨p, cap, hv, _, _, hc⟩ := g1.ex
    injection hv with e1 _ e2
    subst e1
    exact Lib.hid hc
  have HV := Lib.hid h
  have HN := Lib.hid hN
  clear h g0 g1 hN
  have A0 := boxed w (.slice p0 n c0) (.slice p1 m c1) 25
  have C0 : Below w.heap.size w _ := below_new w (Obj.cells #[Value.slice p0 n c0, Value.slice p1 m c1] 25)
  have hs0 : w.heap.size + 1 ≤ (w.alloc (Obj.cells #[Value.slice p0 n c0, Value.slice p1 m c1] 25)).heap.size := by simp
  have HC := Lib.hid (show nnC n N m P s = if netB n N m P = true then (if (nnF N n s).isSome = true then 0 else 4) else 1 from rfl)
  have HW := Lib.hid (show nnV n N m P s = if netB n N m P = true then (((nnF N n s).getD 0 : Nat) : Int) else 0 from rfl)
  cases h1 : netB n N m P
  · have h2 := Lib.hid (show nnC n N m P s = 1 by rw [HC.out, h1]; rfl)
    have h3 := Lib.hid (show nnV n N m P s = 0 by rw [HW.out, h1]; rfl)
    go_enter Tryz.func95, Tryz.ntmps95
    go_wp2_with (first | (go_at_call 30; refine (isNetwork_any _ _ n N m P lo hi (HV.out.below (by assumption : Below w.heap.size w _) hhi) (by omega) HN.out).mono ?_; rintro e w2 ⟨rfl, b2⟩; have A2 := Ob.below (by assumption : Ob _ w.heap.size 2 (bx (.slice p0 n c0) (.slice p1 m c1))) b2 (by omega); have C2 := Below.trans (by assumption : Below w.heap.size w _) (b2.mono (by omega)); have hs2 := Nat.le_trans (by assumption : w.heap.size + 1 ≤ _) b2.size; have e0 := A2.b0; have e1 := A2.b1; have e2 : w.heap.size < w2.heap.size := (by omega); clear b2))
    go_ret2
    exact ⟨ret_2 h3.out.symm h2.out.symm, by assumption⟩
  have hz := net_sz h1
  have HD := Lib.hid (nodes_of h1)
  have HKY := Lib.hid (nkey_ok hs)
  have HNS := Lib.hid (has_nn N n s)
  have G0 : Hid (Cs w (.slice p0 n c0) n 3 (nodC N) lo hi) := by
    obtain ⟨v0, v1, e, g, _⟩ := HV.out.ex
    simp only [Value.agg.injEq, Array.mk.injEq, List.cons.injEq, and_true] at e
    rw [← e.1] at g
    exact Lib.hid g
  go_enter Tryz.func95, Tryz.ntmps95
  go_wp2_with (first | (go_at_call 30; refine (isNetwork_any _ _ n N m P lo hi (HV.out.below (by assumption : Below w.heap.size w _) hhi) (by omega) HN.out).mono ?_; rintro e w2 ⟨rfl, b2⟩; have A2 := Ob.below (by assumption : Ob _ w.heap.size 2 (bx (.slice p0 n c0) (.slice p1 m c1))) b2 (by omega); have C2 := Below.trans (by assumption : Below w.heap.size w _) (b2.mono (by omega)); have hs2 := Nat.le_trans (by assumption : w.heap.size + 1 ≤ _) b2.size; have e0 := A2.b0; have e1 := A2.b1; have e2 : w.heap.size < w2.heap.size := (by omega); clear b2))
  refine (indices_any p0 p1 n c0 m c1 N lo hi _ (G0.out.below C2 hhi) (by omega) (by omega) HN.out).mono ?_
  rintro e w3 ⟨rfl, hm3, b3⟩
  have C3 := C2.trans (b3.mono (by omega))
  have HM := Lib.hid hm3
  clear b3 hm3 C2 A2 e0 e1 e2
  go_wp2_with (at_lookup; refine wpList_lookup_own_ok_int _ rfl _ _ 94 rfl 9 2 .i64 mlaw Tryz.underlying94 Tryz.underlying2 (mzero _) (w2.heap.size + 1) n _ rfl HM.out _ (nkey s) rfl HKY.out ?_)
  intro c hat hwc
  have HAT := Lib.hid (at_nn HD.out hat)
  clear hat hwc
  rw [HNS.out]
  cases h5 : (nnF N n s).isSome
  · have h2 := Lib.hid (show nnC n N m P s = 4 by rw [HC.out, h1, h5]; rfl)
    have h3 := Lib.hid (show nnV n N m P s = 0 by rw [HW.out, h1]; simp only [Option.isSome_eq_false_iff, Option.isNone_iff_eq_none] at h5; rw [h5]; rfl)
    clear h5
    go_wp2_with fail
    go_ret2
    exact ⟨ret_2 h3.out.symm h2.out.symm, C3⟩
  · have h2 := Lib.hid (show nnC n N m P s = 0 by rw [HC.out, h1, h5]; rfl)
    have h3 := Lib.hid (show nnV n N m P s = c by rw [HW.out, h1, HAT.out]; rfl)
    clear h5
    go_wp2_with fail
    go_ret2
    exact ⟨ret_2 h3.out.symm h2.out.symm, C3⟩
end Go.Proofs.YtbenloeomjdkcaaGreatDoor.mem
