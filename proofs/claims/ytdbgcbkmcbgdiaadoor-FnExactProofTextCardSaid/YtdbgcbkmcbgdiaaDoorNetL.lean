/-
  Validity of networks, in the specification. Conditions: as each states.
-/
import Derived.Test.YtdbgcbkmcbgdiaaDoorRows
import Derived.Test.YtdbgcbkmcbgdiaaDoorNetK
import Derived.WalkKit
import Derived.ProofKit
import Derived.Outline
import Derived.OwnWalk
import Derived.Lib.Hide
import Derived.Deep.QuietTactic
import Derived.BigQuiet
import Derived.Deep.RegionHeld3
namespace Go.Proofs.YtdbgcbkmcbgdiaaDoor.mem
open Go.RowKit
set_option linter.unusedVariables false

theorem nodesB_twin {N : Nat → Nod} {n i j : Nat} (hij : i < j) (hj : j < n) (h : (N i).s = (N j).s) : nodesB N n = false := by
  unfold nodesB
  simp only [decide_eq_false_iff_not]
  rintro ⟨_, g⟩
  exact g i j hij hj h
theorem list_ne {s t : ByteArray} (h : s ≠ t) : (s.toList == t.toList) = false := by
  rw [beq_eq_false_iff_ne, ByteArray.toList_eq, ByteArray.toList_eq]
  intro e
  apply h
  obtain ⟨⟨x⟩⟩ := s
  obtain ⟨⟨y⟩⟩ := t
  simp only at e
  rw [e]
theorem list_eq {s t : ByteArray} (h : s = t) : (s.toList == t.toList) = true := by rw [h]; simp

set_option maxRecDepth 100000 in
set_option maxHeartbeats 8000000 in
theorem sIsNetwork_any (w : World) (v : Value) (n : Nat) (N : Nat → Nod) (m : Nat) (P : Nat → Pip) (lo hi : Nat) (h : NetAt w v n N m P lo hi) (hhi : hi ≤ w.heap.size) (hN : ∀ i, i < n → (N i).s.size ≤ 9223372036854775807) :
    Calls Tryd.prog 39 #[v] w fun e w' => e = .returned (.bool (netB n N m P)) ∧ Below w.heap.size w w' := by
  obtain ⟨v0, v1, rfl, g0, g1⟩ := h.ex
  obtain ⟨p0, c0, rfl⟩ := g0.shape
  obtain ⟨p1, c1, rfl⟩ := g1.shape
  have hn : n ≤ 9223372036854775807 := by
    obtain ⟨p, cap, he, q1, q2, _⟩ := g0.ex
    omega
  have hm : m ≤ 9223372036854775807 := by
    obtain ⟨p, cap, he, q1, q2, _⟩ := g1.ex
    omega
  have HC0 : Hid (n = 0 ∨ ∃ b o, p0 = some ⟨b, o, none⟩ ∧ lo ≤ b ∧ b < hi ∧ At w b o n 3 (nodC N)) := by
    obtain ⟨p, cap, hv, _, _, hc⟩ := g0.ex
    injection hv with e1 _ e2
    subst e1
    exact Lib.hid hc
  have HC1 : Hid (m = 0 ∨ ∃ b o, p1 = some ⟨b, o, none⟩ ∧ lo ≤ b ∧ b < hi ∧ At w b o m 5 (pipC P)) := by
    obtain ⟨p, cap, hv, _, _, hc⟩ := g1.ex
    injection hv with e1 _ e2
    subst e1
    exact Lib.hid hc
  have HN := Lib.hid hN
  have HU := Lib.hid (show netB n N m P = (szB n m && nodesB N n && pipesB n P m) from rfl)
  clear h g0 g1 hN
  cases hsz : szB n m
  · have HX := Lib.hid (show netB n N m P = false by rw [HU.out, hsz]; rfl)
    have hno : ¬ (1 ≤ n ∧ n ≤ 24 ∧ m ≤ 40) := fun h => by rw [szB_iff.2 h] at hsz; cases hsz
    clear hsz
    rcases (by omega : n < 1 ∨ (¬ n < 1 ∧ 24 < n) ∨ (¬ n < 1 ∧ ¬ 24 < n ∧ 40 < m)) with h0 | ⟨h0, h1⟩ | ⟨h0, h1, h2⟩
    all_goals
      clear hno
      go_enter Tryd.func39, Tryd.ntmps39
      go_wp2_with fail
      go_ret
      exact ⟨ret_b HX.out.symm, below_new _ _⟩
  obtain ⟨s1, s2, s3⟩ := szB_iff.1 hsz
  have HSZ := Lib.hid hsz
  clear hsz
  go_enter Tryd.func39, Tryd.ntmps39
  go_wp2_with fail
  have A0 := Lib.hid (boxed w (.slice p0 n c0) (.slice p1 m c1) 35)
  have B0 := Lib.hid (below_new w (Obj.cells #[Value.slice p0 n c0, Value.slice p1 m c1] 35))
  have z0 : (w.alloc (Obj.cells #[Value.slice p0 n c0, Value.slice p1 m c1] 35)).heap.size = w.heap.size + 1 := by simp
  generalize hW : w.alloc (Obj.cells #[Value.slice p0 n c0, Value.slice p1 m c1] 35) = W1 at *
  replace z0 := Nat.le_antisymm_iff.1 z0
  clear hW
  go_loopw [3, 4] (fun i _ wr => ∃ k : Nat, i = .int .i64 k ∧ k ≤ n ∧ (∀ x, x < k → nodB (N x) = true) ∧ distP N k ∧ Below w.heap.size w wr ∧ Below W1.heap.size W1 wr ∧ W1.heap.size ≤ wr.heap.size) (fun i _ _ => n - (intOf i).toNat)
  case atStart => exact ⟨0, rfl, Nat.zero_le _, fun x hx => by omega, fun i j hij hj => by omega, B0.out, Below.refl _ _, Nat.le_refl _⟩
  case round =>
    obtain ⟨k, rfl, hk, hall, hdist, hbel, hbel1, hsz⟩ := hrel
    have HA := Lib.hid hall
    have HD := Lib.hid hdist
    have HB := Lib.hid hbel
    have HB1 := Lib.hid hbel1
    clear hbel hbel1 hall hdist
    obtain ⟨wo, hwo⟩ : ∃ wo : World, wo = wr := ⟨_, rfl⟩
    have f0 := (A0.out.below HB1.out (by omega)).b0
    have f1 := (A0.out.below HB1.out (by omega)).b1
    have hsw : w.heap.size < wr.heap.size := by omega
    by_cases hlt : k < n
    · rcases HC0.out with h0 | ⟨b, o, rfl, g1, g2, g3⟩
      · omega
      have G3 := Lib.hid g3
      clear g3
      have hx : ∀ j, j < 3 → wr.cell? ⟨b, o + k * 3 + j, none⟩ = some (nodC N k j) := fun j hj => (HB.out.cell (p := ⟨b, o + k * 3 + j, none⟩) (by show b < _; omega)).trans (G3.out.cell k j hlt hj)
      have hx0 : wr.cell? ⟨b, o + k * 3, none⟩ = some (.string (N k).s) := hx 0 (by omega)
      have hx1 : wr.cell? ⟨b, o + k * 3 + 1, none⟩ = some (.int .i64 (N k).lo) := hx 1 (by omega)
      have hx2 : wr.cell? ⟨b, o + k * 3 + 2, none⟩ = some (.int .i64 (N k).hi) := hx 2 (by omega)
      clear hx
      cases hnb : nodB (N k)
      all_goals
        have HNB := Lib.hid hnb
        have HS := Lib.hid (HN.out k hlt)
        go_wp2_with fail
        refine (sIsNode_any (N k) _ HS.out).mono ?_
        rintro e w2 ⟨rfl, b2⟩
        have C1 := Lib.hid (HB.out.trans (b2.mono (by omega)))
        have C2 := Lib.hid (HB1.out.trans (b2.mono (by omega)))
        have hs2 := b2.size
        clear b2 hx0 hx1 hx2 f0 f1
        go_wp2_with fail
      · go_ret
        exact ⟨ret_b (by rw [HU.out, HSZ.out, nodesB_no hlt HNB.out]; rfl), C1.out⟩
      · have hs3 : W1.heap.size ≤ w2.heap.size := by omega
        have f0 := (A0.out.below C2.out (by omega)).b0
        have f1 := (A0.out.below C2.out (by omega)).b1
        have hx : ∀ x j, x < n → j < 3 → w2.cell? ⟨b, o + x * 3 + j, none⟩ = some (nodC N x j) := fun x j hx hj => (C1.out.cell (p := ⟨b, o + x * 3 + j, none⟩) (by show b < _; omega)).trans (G3.out.cell x j hx hj)
        have HX := Lib.hid hx
        have hy : w2.cell? ⟨b, o + k * 3, none⟩ = some (.string (N k).s) := hx k 0 hlt (by omega)
        clear hx hsz hs2 hsw hwo
        go_loopw [4] (fun i wi => ∃ j r : Nat, i = .int .i64 j ∧ j ≤ k ∧ (∀ x, x < j → (N x).s ≠ (N k).s) ∧ wi = w2.drewN r) (fun i _ => k - (intOf i).toNat)
        case atStart => exact ⟨0, 0, rfl, Nat.zero_le _, fun x hx => by omega, rfl⟩
        case round =>
          obtain ⟨j, r, rfl, hj, hne, rfl⟩ := hrel
          have HNE := Lib.hid hne
          clear hne
          by_cases hjk : j < k
          · have hy2 : w2.cell? ⟨b, o + j * 3, none⟩ = some (.string (N j).s) := HX.out j 0 (by omega) (by omega)
            have i0 : (0 : Int) ≤ (j : Int) := Int.natCast_nonneg _
            have i1 : (j : Int) < (n : Int) := by omega
            have i2 : (0 : Int) ≤ (k : Int) := Int.natCast_nonneg _
            have i3 : (k : Int) < (n : Int) := by omega
            by_cases he : (N k).s = (N j).s
            · have HE := Lib.hid (nodesB_twin hjk hlt he.symm)
              have hq := list_eq he
              clear he
              go_wp2_with fail
              go_quiet (fail)
              go_wp2_with fail
              go_ret
              exact ⟨ret_b (by rw [HU.out, HSZ.out, HE.out]; rfl), below_dr (below_dr C1.out _) _⟩
            · have HE := Lib.hid he
              have hq := list_ne he
              clear he
              go_wp2_with fail
              go_quiet (fail)
              go_wp2_with fail
              go_roundw
              case rel =>
                refine ⟨j + 1, r + nq, by go_num, hjk, fun x hx => ?_, rfl⟩
                by_cases e : x = j
                · subst e; exact fun e => HE.out e.symm
                · exact HNE.out x (by omega)
              case measure => simp [intOf]; omega
          · obtain rfl : j = k := by omega
            go_wp2_with fail
            go_roundw
            case rel =>
              refine ⟨j + 1, by go_num, hlt, fun x hx => ?_, fun x y hxy hy => ?_, below_dr C1.out _, below_dr C2.out _, hs3⟩
              · by_cases e : x = j
                · subst e; exact HNB.out
                · exact HA.out x (by omega)
              · by_cases e : y = j
                · subst e; exact HNE.out x hxy
                · exact HD.out x y hxy (by omega)
            case measure => simp [intOf]; omega
    · obtain rfl : k = n := by omega
      have HNN := Lib.hid (nodesB_iff.2 ⟨HA.out, HD.out⟩)
      have HNS : Hid (netB k N m P = pipesB k P m) := by
        have e : netB k N m P = pipesB k P m := by rw [HU.out, HSZ.out, HNN.out]; rfl
        exact Lib.hid e
      go_wp2_with fail
      have hs3 := hsz
      clear hsw hwo f0 f1
      obtain ⟨wp, hwp⟩ : ∃ wp : World, wp = wr := ⟨_, rfl⟩
      rw [← hwp] at HB HB1 hs3
      rw [← hwp]
      clear hsz hwp
      go_loopw [5] (fun i wr => ∃ j : Nat, i = .int .i64 j ∧ j ≤ m ∧ (∀ x, x < j → pipB k (P x) = true) ∧ Below w.heap.size w wr ∧ Below W1.heap.size W1 wr ∧ W1.heap.size ≤ wr.heap.size) (fun i _ => m - (intOf i).toNat)
      case atStart => exact ⟨0, rfl, Nat.zero_le _, fun x hx => by omega, HB.out, HB1.out, hs3⟩
      case round =>
        obtain ⟨j, rfl, hj, hall, hbel, hbel1, hsz⟩ := hrel
        have HP := Lib.hid hall
        have CB := Lib.hid hbel
        have CB1 := Lib.hid hbel1
        clear hbel hbel1 hall HB HB1 hs3
        have f0 := (A0.out.below CB1.out (by omega)).b0
        have f1 := (A0.out.below CB1.out (by omega)).b1
        have hsw : w.heap.size < wr.heap.size := by omega
        by_cases hlt : j < m
        · rcases HC1.out with h0 | ⟨b, o, rfl, g1, g2, g3⟩
          · omega
          have G3 := Lib.hid g3
          clear g3
          have hx : ∀ y, y < 5 → wr.cell? ⟨b, o + j * 5 + y, none⟩ = some (pipC P j y) := fun y hy => (CB.out.cell (p := ⟨b, o + j * 5 + y, none⟩) (by show b < _; omega)).trans (G3.out.cell j y hlt hy)
          have hx0 : wr.cell? ⟨b, o + j * 5, none⟩ = some (.int .i64 (P j).f) := hx 0 (by omega)
          have hx1 : wr.cell? ⟨b, o + j * 5 + 1, none⟩ = some (.int .i64 (P j).t) := hx 1 (by omega)
          have hx2 : wr.cell? ⟨b, o + j * 5 + 2, none⟩ = some (.int .i64 (P j).k) := hx 2 (by omega)
          have hx3 : wr.cell? ⟨b, o + j * 5 + 3, none⟩ = some (.int .i64 (P j).v) := hx 3 (by omega)
          have hx4 : wr.cell? ⟨b, o + j * 5 + 4, none⟩ = some (.int .i64 (P j).l) := hx 4 (by omega)
          clear hx
          generalize hp : P j = q at *
          have HQ := Lib.hid hp
          clear hp
          have i0 : (0 : Int) ≤ (j : Int) := Int.natCast_nonneg _
          have i1 : (j : Int) < (m : Int) := by omega
          have hbw : b < wr.heap.size := by omega
          cases hpb : pipB k q
          all_goals
            have HPB := Lib.hid hpb
            go_wp2_with fail
            go_region_held3 (fun w' => w'.cell? ⟨w.heap.size, 0, none⟩ = some (.slice p0 k c0) ∧ w'.cell? ⟨w.heap.size, 1, none⟩ = some (.slice (some ⟨b, o, none⟩) m c1) ∧ w'.cell? ⟨b, o + j * 5, none⟩ = some (.int .i64 q.f) ∧ w'.cell? ⟨b, o + j * 5 + 1, none⟩ = some (.int .i64 q.t) ∧ w'.cell? ⟨b, o + j * 5 + 2, none⟩ = some (.int .i64 q.k) ∧ w'.cell? ⟨b, o + j * 5 + 3, none⟩ = some (.int .i64 q.v) ∧ w'.cell? ⟨b, o + j * 5 + 4, none⟩ = some (.int .i64 q.l)) (first | go_keep | (refine ⟨?_, ?_, ?_, ?_, ?_, ?_, ?_⟩ <;> (rw [hb2.cell (by simp; omega)]; assumption)))
              (first | (go_at_call 48; refine (l02Pipe_any q k _ (by omega) (by omega)).mono ?_; rintro e w2 ⟨rfl, hb2⟩))
            have C1 := Lib.hid (CB.out.trans ((below_dr0 hb2).mono (by omega)))
            have C2 := Lib.hid (CB1.out.trans ((below_dr0 hb2).mono (by omega)))
            have hs2 := hb2.size
            simp only [World.heap_drew] at hs2
            clear hb2 hx0 hx1 hx2 hx3 hx4 f0 f1
            go_wp2_with fail
          · go_ret
            exact ⟨ret_b (by rw [HNS.out, pipesB_no hlt (by rw [HQ.out]; exact HPB.out)]), C1.out⟩
          · go_roundw
            case rel =>
              refine ⟨j + 1, by go_num, hlt, fun x hx => ?_, C1.out, C2.out, by omega⟩
              by_cases e : x = j
              · subst e; rw [HQ.out]; exact HPB.out
              · exact HP.out x (by omega)
            case measure => simp [intOf]; omega
        · go_wp2_with fail
          go_ret
          exact ⟨ret_b (by rw [HNS.out, pipesB_iff.2 (fun x hx => HP.out x (by omega))]), CB.out⟩
end Go.Proofs.YtdbgcbkmcbgdiaaDoor.mem
