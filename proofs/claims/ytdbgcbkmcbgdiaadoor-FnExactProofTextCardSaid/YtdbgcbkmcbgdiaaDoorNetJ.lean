/-
  Validity of networks, in the program: the nodes, the pipes, the whole. Conditions: as each states.
-/
import Derived.Test.YtdbgcbkmcbgdiaaDoorRows
import Derived.Test.YtdbgcbkmcbgdiaaDoorNetI
import Derived.WalkKit
import Derived.ProofKit
import Derived.Outline
import Derived.OwnWalk
import Derived.Lib.Hide
import Derived.Deep.RegionHeld3
import Derived.Deep.RegionHeldLaw
namespace Go.Proofs.YtdbgcbkmcbgdiaaDoor.mem
open Go.RowKit Go.WideMaps Go.Maps
set_option linter.unusedVariables false

theorem nkey_inj {s t : ByteArray} (h : nkey s = nkey t) : s = t := by
  unfold nkey at h
  injection h with h
  obtain ⟨⟨l⟩⟩ := s
  obtain ⟨⟨l'⟩⟩ := t
  simp only at h
  rw [h]
theorem nkey_is (s : ByteArray) : WideAt.IsKeyLit (nkey s) := by unfold nkey WideAt.IsKeyLit; trivial
/-- the names of the first n nodes differ -/
def distP (N : Nat → Nod) (n : Nat) : Prop := ∀ i j, i < j → j < n → (N i).s ≠ (N j).s
theorem cm_tidy (N : Nat → Nod) : ∀ n, Tidy (CM N n)
  | 0 => tidy_empty
  | n + 1 => (cm_tidy N n).put (nkey_is _) _
theorem cm_has (N : Nat → Nod) (s : ByteArray) : ∀ n, has (CM N n) (nkey s) = true ↔ ∃ i, i < n ∧ (N i).s = s
  | 0 => by
    constructor
    · intro h; cases h
    · rintro ⟨i, hi, _⟩; omega
  | n + 1 => by
    unfold CM
    by_cases e : nkey s = nkey (N n).s
    · rw [e, has_put_same (cm_tidy N n).isMap (nkey_is _)]
      exact ⟨fun _ => ⟨n, by omega, (nkey_inj e).symm⟩, fun _ => rfl⟩
    · rw [has_put_other e, cm_has N s n]
      constructor
      · rintro ⟨i, hi, h⟩; exact ⟨i, by omega, h⟩
      · rintro ⟨i, hi, h⟩
        refine ⟨i, ?_, h⟩
        rcases Nat.lt_or_ge i n with g | g
        · exact g
        · obtain rfl : i = n := by omega
          exact absurd (by rw [h]) e
theorem cm_size (N : Nat → Nod) : ∀ n, size (CM N n) ≤ n ∧ (size (CM N n) = n ↔ distP N n)
  | 0 => ⟨Nat.le_refl _, fun _ i j _ h => by omega, fun _ => rfl⟩
  | n + 1 => by
    obtain ⟨h1, h2⟩ := cm_size N n
    have h3 : size (CM N (n + 1)) = _ := size_put (cm_tidy N n) _ (k := nkey (N n).s)
    have h4 := cm_has N (N n).s n
    rw [h3]
    by_cases hh : has (CM N n) (nkey (N n).s) = true
    · rw [if_pos hh]
      refine ⟨by omega, fun e => by omega, fun hd => ?_⟩
      obtain ⟨i, hi, e⟩ := h4.1 hh
      exact absurd e (hd i n hi (by omega))
    · rw [if_neg hh]
      refine ⟨by omega, fun e => ?_, fun hd => ?_⟩
      · have hd := h2.1 (by omega)
        intro i j hij hj
        rcases Nat.lt_or_ge j n with g | g
        · exact hd i j hij g
        · obtain rfl : j = n := by omega
          exact fun e => hh (h4.2 ⟨i, hij, e⟩)
      · have := h2.2 (fun i j hij hj => hd i j hij (by omega))
        omega
theorem cm_at (N : Nat → Nod) (z : DataW Unit) : ∀ n, distP N n → ∀ i, i < n → (CM N n).atKey (nkey (N i).s) z = .lit (.int .i64 i)
  | 0, _, i, hi => by omega
  | n + 1, hd, i, hi => by
    unfold CM
    by_cases e : i = n
    · subst e
      exact atKey_put_same (cm_tidy N i).isMap (nkey_is _) _ _
    · rw [atKey_put_other (fun h => hd i n (by omega) (by omega) (nkey_inj h))]
      exact cm_at N z n (fun i j hij hj => hd i j hij (by omega)) i (by omega)

open Classical in
noncomputable def nodesB (N : Nat → Nod) (n : Nat) : Bool := decide ((∀ i, i < n → nodB (N i) = true) ∧ distP N n)
theorem nodesB_iff {N : Nat → Nod} {n : Nat} : nodesB N n = true ↔ (∀ i, i < n → nodB (N i) = true) ∧ distP N n := by unfold nodesB; simp
theorem nodesB_no {N : Nat → Nod} {n i : Nat} (hi : i < n) (h : nodB (N i) = false) : nodesB N n = false := by
  unfold nodesB
  simp only [decide_eq_false_iff_not]
  rintro ⟨g, _⟩
  rw [g i hi] at h
  cases h
theorem nodesB_size {N : Nat → Nod} {n : Nat} (h : ∀ i, i < n → nodB (N i) = true) : nodesB N n = ((size (CM N n) : Int) == (n : Int)) := by
  rw [Bool.eq_iff_iff, nodesB_iff, beq_iff_eq]
  have := (cm_size N n).2
  constructor
  · rintro ⟨_, g⟩
    exact Int.ofNat_inj.2 (this.2 g)
  · intro e
    exact ⟨h, this.1 (by omega)⟩

set_option maxRecDepth 100000 in
set_option maxHeartbeats 4000000 in
theorem hasValidNodes_any (p0 p1 : Option Addr) (n c0 m c1 : Nat) (N : Nat → Nod) (lo hi : Nat) (w : World) (h : Cs w (.slice p0 n c0) n 3 (nodC N) lo hi) (hn : n ≤ 2000000) (hhi : hi ≤ w.heap.size) (hN : ∀ i, i < n → (N i).s.size ≤ 9223372036854775807) :
    Calls Tryd.prog 52 #[.agg #[.slice p0 n c0, .slice p1 m c1]] w fun e w' => e = .returned (.bool (nodesB N n)) ∧ Below w.heap.size w w' := by
  have G0 := Lib.hid h
  obtain ⟨p, cap, hv, q1, q2, hc⟩ := h
  obtain ⟨rfl, rfl⟩ : p0 = p ∧ c0 = cap := by
    injection hv with e1 _ e2
    exact ⟨e1, e2⟩
  have HC := Lib.hid hc
  have HN := Lib.hid hN
  clear hc hv hN
  go_enter Tryd.func52, Tryd.ntmps52
  go_wp2_with fail
  have A0 := Lib.hid (boxed w (.slice p0 n c0) (.slice p1 m c1) 35)
  have B0 := Lib.hid (below_new w (Obj.cells #[Value.slice p0 n c0, Value.slice p1 m c1] 35))
  have z0 : (w.alloc (Obj.cells #[Value.slice p0 n c0, Value.slice p1 m c1] 35)).heap.size = w.heap.size + 1 := by simp
  generalize hW : w.alloc (Obj.cells #[Value.slice p0 n c0, Value.slice p1 m c1] 35) = W1 at *
  replace z0 := Nat.le_antisymm_iff.1 z0
  clear hW
  go_loopw [8, 4] (fun i _ wr => ∃ k : Nat, i = .int .i64 k ∧ k ≤ n ∧ (∀ x, x < k → nodB (N x) = true) ∧ Below w.heap.size w wr ∧ Below W1.heap.size W1 wr ∧ W1.heap.size ≤ wr.heap.size) (fun i _ _ => n - (intOf i).toNat)
  case atStart => exact ⟨0, rfl, Nat.zero_le _, fun x hx => by omega, B0.out, Below.refl _ _, Nat.le_refl _⟩
  case round =>
    obtain ⟨k, rfl, hk, hall, hbel, hbel1, hsz⟩ := hrel
    have HA := Lib.hid hall
    have HB := Lib.hid hbel
    have HB1 := Lib.hid hbel1
    clear hbel hbel1 hall
    by_cases hlt : k < n
    · rcases HC.out with h0 | ⟨b, o, rfl, g1, g2, g3⟩
      · omega
      have hx0 : wr.cell? ⟨b, o + k * 3, none⟩ = some (.string (N k).s) := (HB.out.cell (p := ⟨b, o + k * 3, none⟩) (by show b < _; omega)).trans (g3.cell k 0 hlt (by omega))
      have hx1 : wr.cell? ⟨b, o + k * 3 + 1, none⟩ = some (.int .i64 (N k).lo) := (HB.out.cell (p := ⟨b, o + k * 3 + 1, none⟩) (by show b < _; omega)).trans (g3.cell k 1 hlt (by omega))
      have hx2 : wr.cell? ⟨b, o + k * 3 + 2, none⟩ = some (.int .i64 (N k).hi) := (HB.out.cell (p := ⟨b, o + k * 3 + 2, none⟩) (by show b < _; omega)).trans (g3.cell k 2 hlt (by omega))
      clear g3
      cases hnb : nodB (N k)
      all_goals
        have HNB := Lib.hid hnb
        have HS := Lib.hid (HN.out k hlt)
        go_wp2_with fail
        refine (isNode_any (N k) _ HS.out).mono ?_
        rintro e w2 ⟨rfl, b2⟩
        have C1 := Lib.hid ((below_alloc HB.out (by omega) _).trans (b2.mono (by simp; omega)))
        have C2 := Lib.hid ((below_alloc HB1.out (by omega) _).trans (b2.mono (by simp; omega)))
        have hs2 := b2.size
        simp at hs2
        clear b2 hx0 hx1 hx2
        go_wp2_with fail
      · go_ret
        exact ⟨ret_b (nodesB_no hlt HNB.out).symm, C1.out⟩
      · go_roundw
        case rel =>
          refine ⟨k + 1, by go_num, hlt, fun x hx => ?_, C1.out, C2.out, by omega⟩
          by_cases e : x = k
          · subst e; exact HNB.out
          · exact HA.out x (by omega)
        case measure => simp [intOf]; omega
    · obtain rfl : k = n := by omega
      have HE := Lib.hid (nodesB_size HA.out)
      have f0 : wr.cell? ⟨w.heap.size, 0, none⟩ = some (.slice p0 k c0) := (A0.out.below HB1.out (by omega)).b0
      have f1 : wr.cell? ⟨w.heap.size, 1, none⟩ = some (.slice p1 m c1) := (A0.out.below HB1.out (by omega)).b1
      have G1 := Lib.hid (G0.out.below HB.out hhi)
      have hsw : w.heap.size < wr.heap.size := by omega
      go_wp2_with fail
      go_region_held_law (fun w' => w'.cell? ⟨w.heap.size, 0, none⟩ = some (.slice p0 k c0) ∧ w'.cell? ⟨w.heap.size, 1, none⟩ = some (.slice p1 m c1)) (first | go_keep | (refine ⟨?_, ?_⟩ <;> (rw [hb2.cell (by simp; omega)]; assumption)))
        (first | (go_at_call 61; refine (indices_any p0 p1 k c0 m c1 N lo hi _ (G1.out.drewN 1) hn (by simp; omega) HN.out).mono ?_; rintro e w2 ⟨rfl, hm2, hb2⟩; have hlen : Sem.run Tryd.prog (Builtin.len_ #[100] 3 #[.map (some (wr.heap.size + 1))]) w2 = .ok (.int .i64 (Maps.size (CM N k))) w2 := hm2.len Tryd.underlying100 3))
      have C1 := Lib.hid (HB.out.trans ((below_dr0 hb2).mono (by omega)))
      clear hb2 hm2 hlen
      go_wp2_with fail
      go_ret
      exact ⟨ret_b HE.out.symm, C1.out⟩
end Go.Proofs.YtdbgcbkmcbgdiaaDoor.mem
