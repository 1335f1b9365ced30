/-
  The model's ReadNodeLine: it answers with the one valid node whose line the string is, if there is one. Condition: the string has at most 2^20 bytes.
-/
import Derived.Test.YtmeoepdmaffjjaaGreatDoorRows
import Derived.Test.YtmeoepdmaffjjaaGreatDoorSr
import Derived.Test.YtmeoepdmaffjjaaGreatDoorDig
import Derived.WalkKit
import Derived.ProofKit
import Derived.Lib.Hide
import Derived.Deep.RegionHeld3
import Derived.OwnWalk
namespace Go.Proofs.YtmeoepdmaffjjaaGreatDoor.text
open Go.RowKit Go.Proofs.YtmeoepdmaffjjaaGreatDoor.mem
set_option linter.unusedVariables false
set_option maxRecDepth 100000

def nodeVS (q : Nod) : Value := .agg #[.string q.s, .int .i64 q.lo, .int .i64 q.hi]
def SNAns (s : ByteArray) (e : Ending) : Prop :=
  (∃ q, nodB q = true ∧ nodeL q = s.data.toList ∧ e = .returned (.tuple #[nodeVS q, .bool true])) ∨ ((∀ q, nodB q = true → nodeL q ≠ s.data.toList) ∧ e = .returned (.tuple #[nodeVS ⟨⟨#[]⟩, 0, 0⟩, .bool false]))
set_option maxHeartbeats 4000000 in
theorem sReadNodeLine_any (w : World) (s : ByteArray) (hs : s.size ≤ 1048576) :
    Calls Tryz.prog 36 #[.string s] w fun e w' => SNAns s e ∧ Below w.heap.size w w' := by
  have R1 := boxedN w ⟨⟨#[]⟩, 0, 0⟩ 54
  have C1 := below_new w (.cells #[.string ⟨#[]⟩, .int .i64 0, .int .i64 0] 54)
  have hz1 : (w.alloc (.cells #[.string ⟨#[]⟩, .int .i64 0, .int .i64 0] 54)).heap.size = w.heap.size + 1 := by simp
  go_enter Tryz.func36, Tryz.ntmps36
  go_wp2_with fail
  generalize hW : w.alloc (Obj.cells #[.string ⟨#[]⟩, .int .i64 0, .int .i64 0] 54) = w1 at *
  clear hW
  replace hz1 := Nat.le_antisymm_iff.1 hz1
  refine (split_any w1 s hs).mono ?_
  rintro e w2 ⟨v, bs, rfl, W2, hbs, b2⟩
  have hl1 := R1.lt
  have R2 := R1.below b2 hl1
  have C2 := C1.trans (b2.mono C1.size)
  have hs2 := b2.size
  -- storing into the result
  have fin : ∀ (X : World) (v0 v1 v2 : Value), Below w.heap.size w X → Below w.heap.size w (((X.setCell ⟨w.heap.size, 0, none⟩ v0).setCell ⟨w.heap.size, 1, none⟩ v1).setCell ⟨w.heap.size, 2, none⟩ v2) := fun X v0 v1 v2 u => by
    have hO := (((Only.refl w.heap.size X).setCell 0 v0).setCell 1 v1).setCell 2 v2
    exact u.trans (hO.below (Nat.le_refl _))
  have FIN := Lib.hid fin
  have HBS := Lib.hid hbs
  have HC2 := Lib.hid C2
  have hlen : ∀ q, nodB q = true → nodeL q = s.data.toList → ∃ y1 y2, bs = [⟨wNode.toArray⟩, q.s, y1, y2] ∧ y1.data.toList = Lib.decDigits q.lo.toNat ∧ y2.data.toList = Lib.decDigits q.hi.toNat := fun q hq e => by
    have h := HBS.out
    have h3 : 3 ≤ s.data.toList.length := by
      rw [← e, nodeL_cat]
      simp [wNode] <;> omega
    obtain ⟨k, hk⟩ : ∃ k, s.data.toList.length = k + 3 := ⟨s.data.toList.length - 3, by omega⟩
    rw [hk, ← e, sp_node hq k] at h
    rcases bs with _ | ⟨x0, _ | ⟨x1, _ | ⟨x2, _ | ⟨x3, _ | ⟨x4, r⟩⟩⟩⟩⟩
    all_goals simp at h
    obtain ⟨a0, a1, a2, a3⟩ := h
    refine ⟨x2, x3, ?_, a2, a3⟩
    have e0 : x0 = ⟨wNode.toArray⟩ := by
      obtain ⟨⟨l⟩⟩ := x0
      simp only at a0
      rw [a0]
    rw [e0, ByteArray.ext a1]
  have HLEN := Lib.hid hlen
  clear hbs b2 R1 C1 fin hlen C2
  obtain ⟨pv, cv, rfl⟩ := RowE.shape W2
  by_cases h4 : bs.length = 4
  rotate_left 1
  · have hne : ((bs.length : Int) != 4) = true := by simp; omega
    have r0 := R2.cell 0 (by omega)
    have r1 := R2.cell 1 (by omega)
    have r2 := R2.cell 2 (by omega)
    have f0 := R2.free 0
    have f1 := R2.free 1
    have f2 := R2.free 2
    have HF := Lib.hid (FIN.out w2 (.string ⟨#[]⟩) (.int .i64 0) (.int .i64 0) HC2.out)
    have hno : Hid (∀ q, nodB q = true → nodeL q ≠ s.data.toList) := Lib.hid (fun q hq e => by
      obtain ⟨y1, y2, h, _⟩ := HLEN.out q hq e
      rw [h] at h4
      exact h4 rfl)
    clear h4 W2 R2
    go_wp2_with fail
    refine bodyPost_ret (v := .tuple #[.agg #[.string ⟨#[]⟩, .int .i64 0, .int .i64 0], .bool false]) (by simp [results, Tryz.results36, go_sem, r0, r1, r2]) rfl ⟨.inr ⟨hno.out, rfl⟩, HF.out⟩
  rcases bs with _ | ⟨x0, _ | ⟨x1, _ | ⟨x2, _ | ⟨x3, _ | ⟨x4, r⟩⟩⟩⟩⟩
  all_goals first | (exfalso; simp only [List.length_cons, List.length_nil] at h4; omega) | skip
  obtain ⟨gw, cw, he, hgw, hcw, hcells⟩ := words_cells W2 (by simp)
  injection he with e1 _ e3
  subst e1 e3
  have c1 : w2.cell? ⟨gw, 1, none⟩ = some (.string x1) := hcells 1 x1 rfl
  have D2 : Wd w2 (.slice (some ⟨gw, 2, none⟩) 2 (cv - 2)) [x2, x3] := ⟨_, _, rfl, .inr ⟨gw, 2, rfl, hgw, fun i y hy => by
    have := hcells (i + 2) y (by simpa using hy)
    rw [show 0 + (i + 2) = 2 + i by omega] at this
    exact this⟩⟩
  have hxs : ∀ y ∈ [x0, x1, x2, x3], y.size ≤ 1048576 := fun y hy => by
    have h1 : y.data.toList ∈ sp s.data.toList.length s.data.toList := by rw [← HBS.out]; exact List.mem_map_of_mem hy
    have h2 := sp_size _ _ _ h1
    have e1 : y.data.toList.length = y.size := Array.length_toList
    have e2 : s.data.toList.length = s.size := Array.length_toList
    omega
  have HXS := Lib.hid hxs
  simp only [List.length_cons, List.length_nil] at hcw
  have hcv2 : ¬ cv = 2 := by omega
  have hcv4 : (2 : Int) ≤ cv := by omega
  clear h4 W2 hcells hxs
  have hl2 := R2.lt
  go_wp2_with fail
  refine (numbers_any w2 _ [x2, x3] D2 (by simp) (fun y hy => by have := HXS.out y (List.mem_cons_of_mem _ (List.mem_cons_of_mem _ hy)); omega)).mono ?_
  rintro e w3 ⟨(⟨rfl, j, y, hj, hno⟩ | ⟨vn, gn, d, rfl, O3, hgn, hd⟩), b3⟩
  · have R3 := R2.below b3 hl2
    have r0 := R3.cell 0 (by omega)
    have r1 := R3.cell 1 (by omega)
    have r2 := R3.cell 2 (by omega)
    have f0 := R3.free 0
    have f1 := R3.free 1
    have f2 := R3.free 2
    have HF := Lib.hid (FIN.out w3 (.string ⟨#[]⟩) (.int .i64 0) (.int .i64 0) (HC2.out.trans (b3.mono HC2.out.size)))
    have hnq : Hid (∀ q, nodB q = true → nodeL q ≠ s.data.toList) := Lib.hid (fun q hq e => by
      obtain ⟨y1, y2, h, e1, e2⟩ := HLEN.out q hq e
      simp only [List.cons.injEq, and_true] at h
      obtain ⟨_, _, rfl, rfl⟩ := h
      obtain ⟨_, a2, a3⟩ := nod_bd hq
      rcases j with _ | _ | j
      · simp at hj
        subst hj
        exact hno q.lo.toNat (by omega) e1.symm
      · simp at hj
        subst hj
        exact hno q.hi.toNat (by omega) e2.symm
      · simp at hj)
    clear R2 D2 b3 hno hj
    go_wp2_with fail
    refine bodyPost_ret (v := .tuple #[.agg #[.string ⟨#[]⟩, .int .i64 0, .int .i64 0], .bool false]) (by simp [results, Tryz.results36, go_sem, r0, r1, r2]) rfl ⟨.inr ⟨hnq.out, rfl⟩, HF.out⟩
  obtain ⟨m0, hd0, hm0, he0⟩ := hd 0 x2 rfl
  obtain ⟨m1, hd1, hm1, he1⟩ := hd 1 x3 rfl
  obtain ⟨cn, rfl⟩ := O3.shape
  have y0 : w3.cell? ⟨gn, 0, none⟩ = some (.int .i64 m0) := by rw [← hd0]; exact O3.row.cell 0 (by simp)
  have y1 : w3.cell? ⟨gn, 1, none⟩ = some (.int .i64 m1) := by rw [← hd1]; exact O3.row.cell 1 (by simp)
  have y2 : w3.cell? ⟨gw, 1, none⟩ = some (.string x1) := (b3.cell (p := ⟨gw, 1, none⟩) hgw).trans c1
  have R3 := R2.below b3 hl2
  have HC3 := Lib.hid (HC2.out.trans (b3.mono HC2.out.size))
  have HE0 := Lib.hid he0
  have HE1 := Lib.hid he1
  have hgnl := O3.lt
  have hgwl : gw < w3.heap.size := Nat.lt_of_lt_of_le hgw b3.size
  have hl3 := R3.lt
  have hx1z := HXS.out x1 (by simp)
  clear R2 D2 b3 hd hd0 hd1 he0 he1 c1 O3
  go_wp2_with fail
  have hAny : ∀ X : World, Below w3.heap.size w3 X → (fun w' : World => w'.cell? ⟨gn, 0, none⟩ = some (.int .i64 (m0 : Int)) ∧ w'.cell? ⟨gn, 1, none⟩ = some (.int .i64 (m1 : Int)) ∧ w'.cell? ⟨gw, 1, none⟩ = some (.string x1)) X := fun X h => ⟨(h.cell (p := ⟨gn, 0, none⟩) hgnl).trans y0, (h.cell (p := ⟨gn, 1, none⟩) hgnl).trans y1, (h.cell (p := ⟨gw, 1, none⟩) hgwl).trans y2⟩
  have K0 : Below w3.heap.size w3 w3.drew := ⟨rfl, rfl, rfl, Nat.le_refl _, fun _ _ => rfl⟩
  have KZ : Below w3.heap.size w3 (w3.alloc (.cells #[.string ⟨#[]⟩, .int .i64 0, .int .i64 0] 54)).drew := (below_new w3 _).trans ⟨rfl, rfl, rfl, Nat.le_refl _, fun _ _ => rfl⟩
  have KV : Below w3.heap.size w3 (w3.alloc (.cells #[.string x1, .int .i64 (m0 : Int), .int .i64 (m1 : Int)] 54)).drew := (below_new w3 _).trans ⟨rfl, rfl, rfl, Nat.le_refl _, fun _ _ => rfl⟩
  go_region_held3 (fun w' : World => w'.cell? ⟨gn, 0, none⟩ = some (.int .i64 (m0 : Int)) ∧ w'.cell? ⟨gn, 1, none⟩ = some (.int .i64 (m1 : Int)) ∧ w'.cell? ⟨gw, 1, none⟩ = some (.string x1)) (first | exact hAny _ K0 | exact hAny _ KZ | exact hAny _ KV) (fail)
  have V4 : Ob (w3.alloc (.cells #[.string x1, .int .i64 (m0 : Int), .int .i64 (m1 : Int)] 54)).drew w3.heap.size 3 _ := (boxedN w3 ⟨x1, m0, m1⟩ 54).keep rfl
  have R4 := R3.below KV hl3
  have C4 := Lib.hid (HC3.out.trans (KV.mono HC3.out.size))
  generalize hW : (w3.alloc (Obj.cells #[.string x1, .int .i64 (m0 : Int), .int .i64 (m1 : Int)] 54)).drew = w4 at *
  clear hW hAny K0 KZ R3
  have hs4 := KV.size
  have hsne : s.data.toList ≠ [] := fun e => by
    have h := HBS.out
    rw [e] at h
    simp [sp] at h
  have t0 : (s.toList == []) = false := by rw [beq_eq_false_iff_ne, Go.ByteArray.toList_eq]; exact hsne
  have q0 : w4.cell? ⟨w3.heap.size, 0, none⟩ = some (.string x1) := V4.cell 0 (by omega)
  have q1 : w4.cell? ⟨w3.heap.size, 1, none⟩ = some (.int .i64 (m0 : Int)) := V4.cell 1 (by omega)
  have q2 : w4.cell? ⟨w3.heap.size, 2, none⟩ = some (.int .i64 (m1 : Int)) := V4.cell 2 (by omega)
  have hl4 := V4.lt
  have hr4 := R4.lt
  have HNE := Lib.hid hsne
  clear hsne KV
  go_wp2_with fail
  refine (sNodeLine_any ⟨x1, m0, m1⟩ w4 (by show x1.size ≤ _; omega)).mono ?_
  rintro e w5 ⟨rfl, b5⟩
  have V5 := V4.below b5 hl4
  have R5 := R4.below b5 hr4
  have HC5 := Lib.hid (C4.out.trans (b5.mono C4.out.size))
  have r0 := R5.cell 0 (by omega)
  have r1 := R5.cell 1 (by omega)
  have r2 := R5.cell 2 (by omega)
  have f0 := R5.free 0
  have f1 := R5.free 1
  have f2 := R5.free 2
  have p0 : w5.cell? ⟨w3.heap.size, 0, none⟩ = some (.string x1) := V5.cell 0 (by omega)
  have p1 : w5.cell? ⟨w3.heap.size, 1, none⟩ = some (.int .i64 (m0 : Int)) := V5.cell 1 (by omega)
  have p2 : w5.cell? ⟨w3.heap.size, 2, none⟩ = some (.int .i64 (m1 : Int)) := V5.cell 2 (by omega)
  clear b5 V4 R4 V5 R5 q0 q1 q2 t0
  by_cases he : nodeT ⟨x1, m0, m1⟩ = s.data.toList
  · have he2 : (nodeT ⟨x1, m0, m1⟩ == s.toList) = true := by rw [beq_iff_eq, Go.ByteArray.toList_eq]; exact he
    have hv : Hid (nodB ⟨x1, m0, m1⟩ = true ∧ nodeL ⟨x1, m0, m1⟩ = s.data.toList) := Lib.hid (by
      cases hb : nodB ⟨x1, m0, m1⟩
      · unfold nodeT at he
        rw [hb] at he
        exact absurd he.symm HNE.out
      · unfold nodeT at he
        rw [if_pos hb] at he
        exact ⟨rfl, he⟩)
    have HF := Lib.hid (FIN.out w5 (.string x1) (.int .i64 m0) (.int .i64 m1) HC5.out)
    clear he
    go_wp2_with fail
    refine bodyPost_ret (v := .tuple #[.agg #[.string x1, .int .i64 m0, .int .i64 m1], .bool true]) (by simp [results, Tryz.results36, go_sem, r0, r1, r2]) rfl ⟨.inl ⟨⟨x1, m0, m1⟩, hv.out.1, hv.out.2, rfl⟩, HF.out⟩
  · have he2 : (nodeT ⟨x1, m0, m1⟩ == s.toList) = false := by rw [beq_eq_false_iff_ne, Go.ByteArray.toList_eq]; exact he
    have hno : Hid (∀ q, nodB q = true → nodeL q ≠ s.data.toList) := Lib.hid (fun q hq e => by
      obtain ⟨y1, y2, h, e1, e2⟩ := HLEN.out q hq e
      simp only [List.cons.injEq, and_true] at h
      obtain ⟨_, rfl, rfl, rfl⟩ := h
      obtain ⟨_, a2, a3⟩ := nod_bd hq
      have k0 := dec_inj (HE0.out.trans e1)
      have k1 := dec_inj (HE1.out.trans e2)
      obtain ⟨qs, qlo, qhi⟩ := q
      simp only at k0 k1 a2 a3
      have g0 : (m0 : Int) = qlo := by omega
      have g1 : (m1 : Int) = qhi := by omega
      apply he
      simp only
      rw [g0, g1, nodeT, if_pos hq]
      exact e)
    have HF := Lib.hid (FIN.out w5 (.string ⟨#[]⟩) (.int .i64 0) (.int .i64 0) HC5.out)
    clear he p0 p1 p2
    go_wp2_with fail
    refine bodyPost_ret (v := .tuple #[.agg #[.string ⟨#[]⟩, .int .i64 0, .int .i64 0], .bool false]) (by simp [results, Tryz.results36, go_sem, r0, r1, r2]) rfl ⟨.inr ⟨hno.out, rfl⟩, HF.out⟩
end Go.Proofs.YtmeoepdmaffjjaaGreatDoor.text
