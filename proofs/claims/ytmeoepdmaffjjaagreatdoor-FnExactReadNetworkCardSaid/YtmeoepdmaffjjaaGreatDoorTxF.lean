/-
  The text of a network in the model. Condition: the names are of bounded length.
-/
import Derived.Test.YtmeoepdmaffjjaaGreatDoorRows
import Derived.Test.YtmeoepdmaffjjaaGreatDoorTxD
import Derived.Test.YtmeoepdmaffjjaaGreatDoorNetL
import Derived.WalkKit
import Derived.ProofKit
import Derived.Lib.Hide
import Derived.Laws.Concat
import Derived.Deep.RegionHeld3
import Derived.OwnWalk
namespace Go.Proofs.YtmeoepdmaffjjaaGreatDoor.text
open Go.RowKit Go.Proofs.YtmeoepdmaffjjaaGreatDoor.mem
set_option linter.unusedVariables false
set_option maxRecDepth 100000

def nodesT (N : Nat → Nod) : Nat → List UInt8
  | 0 => []
  | k + 1 => nodesT N k ++ (nodeL (N k) ++ [10])
def pipesT (N : Nat → Nod) (P : Nat → Pip) : Nat → List UInt8
  | 0 => []
  | k + 1 => pipesT N P k ++ (pipeL N (P k) ++ [10])
def netL (n : Nat) (N : Nat → Nod) (m : Nat) (P : Nat → Pip) : List UInt8 := nodesT N n ++ pipesT N P m
noncomputable def netT (n : Nat) (N : Nat → Nod) (m : Nat) (P : Nat → Pip) : List UInt8 := if netB n N m P = true then netL n N m P else []
theorem nodesT_len {N : Nat → Nod} {k : Nat} (h : ∀ i, i < k → nodB (N i) = true) : (nodesT N k).length ≤ 61 * k := by
  induction k with
  | zero => exact Nat.le_refl _
  | succ k ih =>
    have h1 := ih (fun i hi => h i (by omega))
    have h2 := nodeL_len (h k (by omega))
    show (nodesT N k ++ (nodeL (N k) ++ [10])).length ≤ _
    simp only [List.length_append, List.length_cons, List.length_nil]
    omega
theorem pip_len {n : Nat} {N : Nat → Nod} {q : Pip} (hN : ∀ i, i < n → nodB (N i) = true) (hq : pipB n q = true) : (pipeL N q).length ≤ 100 := by
  obtain ⟨q1, q2, q3, q4, q5⟩ := pip_all hq
  exact pipeL_len (nod_bd (hN q.f.toNat (by omega))).1 (nod_bd (hN q.t.toNat (by omega))).1 (three q3 q4 q5)
theorem pipesT_len {n : Nat} {N : Nat → Nod} {P : Nat → Pip} {k : Nat} (hN : ∀ i, i < n → nodB (N i) = true) (h : ∀ i, i < k → pipB n (P i) = true) : (pipesT N P k).length ≤ 101 * k := by
  induction k with
  | zero => exact Nat.le_refl _
  | succ k ih =>
    have h1 := ih (fun i hi => h i (by omega))
    have h2 := pip_len hN (h k (by omega))
    show (pipesT N P k ++ (pipeL N (P k) ++ [10])).length ≤ _
    simp only [List.length_append, List.length_cons, List.length_nil]
    omega
theorem catL (a b : List UInt8) : (ByteArray.mk a.toArray ++ ByteArray.mk b.toArray ++ ByteArray.mk #[10]) = ByteArray.mk (a ++ (b ++ [10])).toArray := by
  apply ByteArray.ext
  simp [ByteArray.data_append]
theorem nodeT_yes {q : Nod} (h : nodB q = true) : nodeT q = nodeL q := if_pos h

set_option maxHeartbeats 8000000 in
theorem sNetworkText_any (w : World) (v : Value) (n : Nat) (N : Nat → Nod) (m : Nat) (P : Nat → Pip) (lo hi : Nat) (h : NetAt w v n N m P lo hi) (hhi : hi ≤ w.heap.size) (hN : ∀ i, i < n → (N i).s.size ≤ 9223372036854775807) :
    Calls Tryz.prog 13 #[v] w (StrPost w (netT n N m P)) := by
  obtain ⟨v0, v1, rfl, g0, g1⟩ := h.ex
  obtain ⟨p0, c0, rfl⟩ := g0.shape
  obtain ⟨p1, c1, rfl⟩ := g1.shape
  have H := Lib.hid h
  have HN := Lib.hid hN
  have HC0 : Hid (n = 0 ∨ ∃ b o, p0 = some ⟨b, o, none⟩ ∧ lo ≤ b ∧ b < hi ∧ At w b o n 3 (nodC N)) := by
    obtain ⟨p, cap, hv, _, _, hc⟩ := g0.ex
    injection hv with e1 _ e2
    subst e1
    exact Lib.hid hc
  have HC1 : Hid (m = 0 ∨ ∃ b o, p1 = some ⟨b, o, none⟩ ∧ lo ≤ b ∧ b < hi ∧ At w b o m 5 (pipC P)) := by
    obtain ⟨p, cap, hv, _, _, hc⟩ := g1.ex
    injection hv with e1 _ e2
    subst e1
    exact Lib.hid hc
  clear h hN g0 g1
  have A1 := boxed w (.slice p0 n c0) (.slice p1 m c1) 25
  have C1 := below_new w (.cells #[.slice p0 n c0, .slice p1 m c1] 25)
  have hs1 := C1.size
  go_enter Tryz.func13, Tryz.ntmps13
  go_wp2_with fail
  generalize hW : w.alloc (Obj.cells #[.slice p0 n c0, .slice p1 m c1] 25) = w1 at *
  clear hW
  have hl1 := A1.lt
  refine (sIsNetwork_any w1 _ n N m P lo hi (H.out.below C1 hhi) (by omega) HN.out).mono ?_
  rintro e w2 ⟨rfl, b2⟩
  have A2 := A1.below b2 hl1
  have C2 := Lib.hid (C1.trans (b2.mono hs1))
  have hs2 := Nat.le_trans hs1 b2.size
  have hl2 := A2.lt
  clear A1 C1 b2
  cases hv : netB n N m P
  · have hT : Hid (netT n N m P = []) := Lib.hid (by unfold netT; rw [hv]; rfl)
    go_wp2_with fail
    go_ret
    exact ⟨ret_str (by rw [hT.out]), C2.out⟩
  have hT : Hid (netT n N m P = netL n N m P) := Lib.hid (by unfold netT; rw [hv]; rfl)
  obtain ⟨h1, h2, hn24, hm40⟩ := net_all hv
  have HV := Lib.hid hv
  have HN1 := Lib.hid h1
  have HP1 := Lib.hid h2
  clear h1 h2
  go_wp2_with fail
  clear hv
  go_loopw [4, 3] (fun i out wr => ∃ k : Nat, i = .int .i64 k ∧ out = .string ⟨(nodesT N k).toArray⟩ ∧ k ≤ n ∧ Below w2.heap.size w2 wr) (fun i _ _ => n - (intOf i).toNat)
  case atStart => exact ⟨0, rfl, rfl, Nat.zero_le _, Below.refl _ _⟩
  case round =>
    obtain ⟨k, rfl, rfl, hk, hB⟩ := hrel
    have AR := A2.below hB hl2
    have a0 := AR.b0
    have a1 := AR.b1
    have HB := Lib.hid hB
    have hsr := hB.size
    clear hB AR
    by_cases hlt : k < n
    · have hkI : (k : Int) < n := by omega
      rcases HC0.out with h0 | ⟨b, o, rfl, hlo, hb, g3⟩
      · omega
      have hbw : b < w.heap.size := by omega
      have hC : Below w.heap.size w wr := C2.out.trans (HB.out.mono hs2)
      have y0 : wr.cell? ⟨b, o + k * 3, none⟩ = some (.string (N k).s) := (hC.cell (p := ⟨b, o + k * 3, none⟩) hbw).trans (g3.cell k 0 hlt (by omega))
      have y1 : wr.cell? ⟨b, o + k * 3 + 1, none⟩ = some (.int .i64 (N k).lo) := (hC.cell (p := ⟨b, o + k * 3 + 1, none⟩) hbw).trans (g3.cell k 1 hlt (by omega))
      have y2 : wr.cell? ⟨b, o + k * 3 + 2, none⟩ = some (.int .i64 (N k).hi) := (hC.cell (p := ⟨b, o + k * 3 + 2, none⟩) hbw).trans (g3.cell k 2 hlt (by omega))
      have hl := nodesT_len (N := N) (k := k) (fun i hi => HN1.out i (by omega))
      have hq := nodeT_len (N k)
      clear g3 hC
      go_wp2_with fail
      refine (sNodeLine_any (N k) _ (HN.out k hlt)).mono ?_
      rintro e w3 ⟨rfl, b3⟩
      have HB3 := Lib.hid (HB.out.trans (b3.mono hsr))
      clear b3
      go_wp2_with fail
      go_roundw
      case rel => exact ⟨k + 1, by go_num, by rw [catL, nodeT_yes (HN1.out k hlt)]; rfl, hlt, HB3.out⟩
      case measure => simp [intOf]; omega
    · obtain rfl : k = n := by omega
      obtain ⟨w5, hw5⟩ : ∃ w', w' = wr := ⟨_, rfl⟩
      subst hw5
      have hl := nodesT_len (N := N) (k := k) (fun i hi => HN1.out i (by omega))
      have hl5 : w.heap.size < w5.heap.size := by omega
      have A5 := A2.below HB.out hl2
      have C5 := Lib.hid (C2.out.trans (HB.out.mono hs2))
      have hs5 : w.heap.size ≤ w5.heap.size := by omega
      clear A2 C2 HB HC0
      go_wp2_with fail
      clear a0 a1
      go_loopw [5, 3] (fun i out wr => ∃ j : Nat, i = .int .i64 j ∧ out = .string ⟨(nodesT N k ++ pipesT N P j).toArray⟩ ∧ j ≤ m ∧ Below w5.heap.size w5 wr) (fun i _ _ => m - (intOf i).toNat)
      case atStart => exact ⟨0, rfl, by simp [pipesT], Nat.zero_le _, Below.refl _ _⟩
      case round =>
        obtain ⟨j, rfl, rfl, hj, hB⟩ := hrel
        obtain ⟨w6, hw6⟩ : ∃ w', w' = wr := ⟨_, rfl⟩
        subst hw6
        have AR := A5.below hB hl5
        have a0 := AR.b0
        have a1 := AR.b1
        have hl6 := AR.lt
        have HB := Lib.hid hB
        have hsr := hB.size
        clear hB AR
        by_cases hlt2 : j < m
        · have hjI : (j : Int) < m := by omega
          rcases HC1.out with h0 | ⟨b, o, rfl, hlo, hb, g3⟩
          · omega
          have hbw : b < w.heap.size := by omega
          have hbw2 : b < w6.heap.size := by omega
          have hC : Below w.heap.size w w6 := C5.out.trans (HB.out.mono hs5)
          obtain ⟨f, t, hsrc⟩ := src_of (H.out.below (hC.trans ⟨rfl, rfl, rfl, Nat.le_refl _, fun _ _ => rfl⟩ : Below w.heap.size w w6.drew) hhi) (by show hi ≤ w6.heap.size; omega) HV.out hlt2
          have HS := Lib.hid hsrc
          have y0 : w6.cell? ⟨b, o + j * 5, none⟩ = some (.int .i64 (P j).f) := (hC.cell (p := ⟨b, o + j * 5, none⟩) hbw).trans (g3.cell j 0 hlt2 (by omega))
          have y1 : w6.cell? ⟨b, o + j * 5 + 1, none⟩ = some (.int .i64 (P j).t) := (hC.cell (p := ⟨b, o + j * 5 + 1, none⟩) hbw).trans (g3.cell j 1 hlt2 (by omega))
          have y2 : w6.cell? ⟨b, o + j * 5 + 2, none⟩ = some (.int .i64 (P j).k) := (hC.cell (p := ⟨b, o + j * 5 + 2, none⟩) hbw).trans (g3.cell j 2 hlt2 (by omega))
          have y3 : w6.cell? ⟨b, o + j * 5 + 3, none⟩ = some (.int .i64 (P j).v) := (hC.cell (p := ⟨b, o + j * 5 + 3, none⟩) hbw).trans (g3.cell j 3 hlt2 (by omega))
          have y4 : w6.cell? ⟨b, o + j * 5 + 4, none⟩ = some (.int .i64 (P j).l) := (hC.cell (p := ⟨b, o + j * 5 + 4, none⟩) hbw).trans (g3.cell j 4 hlt2 (by omega))
          have hp := pipesT_len (N := N) (P := P) (k := j) HN1.out (fun i hi => HP1.out i (by omega))
          have hpl := pip_len HN1.out (HP1.out j hlt2)
          have k1 : ¬ 9223372036854775807 < (nodesT N k).length + (pipesT N P j).length + (pipeL N (P j)).length := by omega
          have k2 : ¬ 9223372036854775807 < (nodesT N k).length + (pipesT N P j).length + (pipeL N (P j)).length + 1 := by omega
          clear g3 hC hsrc
          go_wp2_with fail
          have hAny : ∀ X : World, Below w6.heap.size w6 X → (fun w' : World => w'.cell? ⟨w.heap.size, 0, none⟩ = some (.slice p0 k c0) ∧ w'.cell? ⟨w.heap.size, 1, none⟩ = some (.slice (some ⟨b, o, none⟩) m c1) ∧ w'.cell? ⟨b, o + j * 5, none⟩ = some (.int .i64 (P j).f) ∧ w'.cell? ⟨b, o + j * 5 + 1, none⟩ = some (.int .i64 (P j).t) ∧ w'.cell? ⟨b, o + j * 5 + 2, none⟩ = some (.int .i64 (P j).k) ∧ w'.cell? ⟨b, o + j * 5 + 3, none⟩ = some (.int .i64 (P j).v) ∧ w'.cell? ⟨b, o + j * 5 + 4, none⟩ = some (.int .i64 (P j).l)) X := fun X h => ⟨(h.cell (p := ⟨_, 0, none⟩) hl6).trans a0, (h.cell (p := ⟨_, 1, none⟩) hl6).trans a1, (h.cell (p := ⟨b, o + j * 5, none⟩) hbw2).trans y0, (h.cell (p := ⟨b, o + j * 5 + 1, none⟩) hbw2).trans y1, (h.cell (p := ⟨b, o + j * 5 + 2, none⟩) hbw2).trans y2, (h.cell (p := ⟨b, o + j * 5 + 3, none⟩) hbw2).trans y3, (h.cell (p := ⟨b, o + j * 5 + 4, none⟩) hbw2).trans y4⟩
          have K0 : Below w6.heap.size w6 w6.drew := ⟨rfl, rfl, rfl, Nat.le_refl _, fun _ _ => rfl⟩
          go_region_held3 (fun w' : World => w'.cell? ⟨w.heap.size, 0, none⟩ = some (.slice p0 k c0) ∧ w'.cell? ⟨w.heap.size, 1, none⟩ = some (.slice (some ⟨b, o, none⟩) m c1) ∧ w'.cell? ⟨b, o + j * 5, none⟩ = some (.int .i64 (P j).f) ∧ w'.cell? ⟨b, o + j * 5 + 1, none⟩ = some (.int .i64 (P j).t) ∧ w'.cell? ⟨b, o + j * 5 + 2, none⟩ = some (.int .i64 (P j).k) ∧ w'.cell? ⟨b, o + j * 5 + 3, none⟩ = some (.int .i64 (P j).v) ∧ w'.cell? ⟨b, o + j * 5 + 4, none⟩ = some (.int .i64 (P j).l)) (first | exact hAny _ K0 | exact hAny _ KX)
            (first | (go_at_call 34; refine (sPipe_any _ _ k N hi (P j) f t HS.out).mono ?_; rintro e wx ⟨rfl, bx⟩; have KX : Below w6.heap.size w6 wx := K0.trans (bx.mono (Nat.le_refl _))))
          have HB7 := Lib.hid (HB.out.trans (KX.mono hsr))
          go_wp2_with fail
          go_roundw
          case rel => exact ⟨j + 1, by go_num, by rw [catL, List.append_assoc]; rfl, hlt2, HB7.out⟩
          case measure => simp [intOf]; omega
        · obtain rfl : j = m := by omega
          go_wp2_with fail
          go_ret
          exact ⟨ret_str (by rw [hT.out]; rfl), C5.out.trans (HB.out.mono hs5)⟩
end Go.Proofs.YtmeoepdmaffjjaaGreatDoor.text
