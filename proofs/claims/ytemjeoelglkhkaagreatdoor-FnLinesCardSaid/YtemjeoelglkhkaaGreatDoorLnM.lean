/-
  Several texts in one: TxE, DrI, DrJ, DrK, LnW.
-/
import Derived.Test.YtemjeoelglkhkaaGreatDoorRows
import Derived.Test.YtemjeoelglkhkaaGreatDoorTxD
import Derived.Test.YtemjeoelglkhkaaGreatDoorDrG
import Derived.Test.YtemjeoelglkhkaaGreatDoorTxA
import Derived.Test.YtemjeoelglkhkaaGreatDoorDamage
import Derived.WalkKit
import Derived.ProofKit
import Derived.Lib.Hide
import Derived.OwnWalk
import Derived.Outline
import Derived.Deep.RegionHeld3
import Derived.Test.YtemjeoelglkhkaaGreatDoorLaw
import Derived.Test.YtemjeoelglkhkaaGreatDoorCode
import Derived.Test.YtemjeoelglkhkaaGreatDoorPf
import Derived.Test.YtemjeoelglkhkaaGreatDoorSs
import Derived.Test.YtemjeoelglkhkaaGreatDoorNetV
namespace Go.Proofs.YtemjeoelglkhkaaGreatDoor.text
open Go.RowKit Go.Proofs.YtemjeoelglkhkaaGreatDoor.mem
set_option linter.unusedVariables false
theorem agreePipeLine (n : Nat) (N : Nat → Nod) (m : Nat) (P : Nat → Pip) (x : Int) (hN : ∀ i, i < n → (N i).s.size ≤ 9223372036854775807) (hn : n ≤ 2000000) (hm : m ≤ 2000000) :
    ∃ rt rc, (∀ w v, NetAt w v n N m P 0 w.heap.size → Pow w → Calls Tryz.prog 18 #[v, .int .i64 x] w (TxPost w rt rc)) ∧ (∀ w v, NetAt w v n N m P 0 w.heap.size → Calls Tryz.prog 19 #[v, .int .i64 x] w (TxPost w rt rc)) :=
  ⟨_, _, fun w v h hp => pipeLineI_any w v n N m P 0 _ h (Nat.le_refl _) hN x hp, fun w v h => pipeLineS_any w v n N m P 0 _ h (Nat.le_refl _) hN x⟩
end Go.Proofs.YtemjeoelglkhkaaGreatDoor.text

namespace Go.Proofs.YtemjeoelglkhkaaGreatDoor.draw
open Go.RowKit
set_option linter.unusedVariables false

def NodDrawn (w : World) (e : Ending) (w' : World) : Prop :=
  ∃ q : mem.Nod, e = .returned (.agg #[.string q.s, .int .i64 q.lo, .int .i64 q.hi]) ∧ q.s.size ≤ 9223372036854775807 ∧ Below w.heap.size w w'
set_option maxRecDepth 100000 in
set_option maxHeartbeats 4000000 in
theorem isNodeDraw (w : World) (cv : Value) (len : Nat) (hc : CodeAt w cv len w.heap.size) : Calls Tryz.prog 36 #[cv] w (NodDrawn w) := by
  have HC := Lib.hid hc
  have R1 := text.boxedN w ⟨⟨#[]⟩, 0, 0⟩ 34
  have C1 := mem.below_new w (.cells #[.string ⟨#[]⟩, .int .i64 0, .int .i64 0] 34)
  have hsz : (w.alloc (.cells #[.string ⟨#[]⟩, .int .i64 0, .int .i64 0] 34)).heap.size = w.heap.size + 1 := by simp
  go_enter Tryz.func36, Tryz.ntmps36
  go_wp2_with fail
  generalize hW : w.alloc (.cells #[.string ⟨#[]⟩, .int .i64 0, .int .i64 0] 34) = Wa at *
  clear hW hc
  replace hsz := Nat.le_antisymm_iff.1 hsz
  refine (from_any Wa cv len (by have := codeAt_below HC.out C1; rcases this with h | ⟨cb, co, cap, h1, h2, h3⟩; exact .inl h; exact .inr ⟨cb, co, cap, h1, by omega, h3⟩)).mono ?_
  rintro e w1 ⟨s1, rfl, hS1, B1, z1⟩
  obtain ⟨b, hbe⟩ : ∃ b, b = Wa.heap.size := ⟨_, rfl⟩
  rw [← hbe] at hS1 z1 ⊢
  replace hbe := Nat.le_antisymm_iff.1 hbe
  replace z1 := Nat.le_antisymm_iff.1 z1
  have C2 := mem.belowNext C1 B1
  have R2 := R1.next B1
  clear B1 C1 R1
  go_wp2_with fail
  refine (any_ok w1 b w.heap.size cv len 0 s1 hS1 (codeAt_below HC.out C2) (by omega)).mono ?_
  rintro e w2 ⟨v, n, m, N, P, b1, b2, i2, s2, rfl, hn, hm, hnm, hO, l1, l2, hS2, U2⟩
  obtain ⟨p0, c0, p1, c1, rfl⟩ := hO.shape
  have C3 := Lib.hid ((C2.trans (U2.below (by omega) (by rintro x _ rfl; omega))).trans ((mem.below_new w2 (.cells #[.slice p0 n c0, .slice p1 m c1] 25)).mono (by have := U2.size; omega)))
  have R3 := (R2.keep (U2.block w.heap.size (by omega) (by omega))).next (mem.below_new w2 (.cells #[.slice p0 n c0, .slice p1 m c1] 25))
  have T3 := mem.boxed w2 (.slice p0 n c0) (.slice p1 m c1) 25
  have O3 := Lib.hid (hO.next (mem.below_new w2 (.cells #[.slice p0 n c0, .slice p1 m c1] 25)))
  have S3 := src_alloc hS2 (src_lt hS2) (.cells #[.slice p0 n c0, .slice p1 m c1] 25)
  have hb2 := src_lt hS2
  have hbT : b ≠ w2.heap.size := by omega
  have hbR : b ≠ w.heap.size := by omega
  have hTR : w2.heap.size ≠ w.heap.size := by omega
  have hl1 : b < b1 := by omega
  have hl2 : b < b2 := by omega
  clear C2 R2 hO hS2 hS1
  have hU := U2.size
  clear U2
  have t0 := T3.b0
  have t1 := T3.b1
  have r0 := R3.cell 0 (by omega)
  have r1 := R3.cell 1 (by omega)
  have r2 := R3.cell 2 (by omega)
  have f0 := R3.free 0
  have f1 := R3.free 1
  have f2 := R3.free 2
  have fin : ∀ (X : World) (v0 v1 v2 : Value), Below w.heap.size w X → Below w.heap.size w (((X.setCell ⟨w.heap.size, 0, none⟩ v0).setCell ⟨w.heap.size, 1, none⟩ v1).setCell ⟨w.heap.size, 2, none⟩ v2) := fun X v0 v1 v2 u => by
    have hO := (((mem.Only.refl w.heap.size X).setCell 0 v0).setCell 1 v1).setCell 2 v2
    exact u.trans (hO.below (Nat.le_refl _))
  have FIN := Lib.hid fin
  clear fin
  by_cases hn0 : n = 0
  · subst hn0
    have HF := Lib.hid (FIN.out _ (.string ⟨#[]⟩) (.int .i64 0) (.int .i64 0) C3.out)
    go_wp2_with fail
    refine bodyPost_ret (v := .agg #[.string ⟨#[]⟩, .int .i64 0, .int .i64 0]) (by simp [results, Tryz.results36, go_sem, r0, r1, r2]) rfl ⟨⟨⟨#[]⟩, 0, 0⟩, rfl, by show (0 : Nat) ≤ _; omega, HF.out⟩
  · have hne : ((n : Int) == 0) = false := by simp; omega
    have hnI : ¬ ((n : Int) = 0) := by omega
    go_wp2_with fail
    generalize hW : w2.alloc (.cells #[.slice p0 n c0, .slice p1 m c1] 25) = W3 at *
    clear hW
    obtain ⟨k, hk⟩ : ∃ k, k = len % n := ⟨_, rfl⟩
    have hkn : k < n := by rw [hk]; exact Nat.mod_lt _ (by omega)
    have hkI : (k : Int) < n := by omega
    have hrem : (len : Int).tmod (n : Int) = (k : Int) := by rw [Int.tmod_eq_emod_of_nonneg (by omega), hk]; omega
    obtain ⟨pc, cc, hcv⟩ : ∃ p c, cv = .slice p len c := by
      rcases HC.out with ⟨p, c, h1, h2⟩ | ⟨cb, co, c, h1, _⟩
      · exact ⟨p, c, by rw [h1, h2]⟩
      · exact ⟨_, c, h1⟩
    subst hcv
    obtain ⟨z0, z1, he, g0, g1, hd⟩ := O3.out.ex
    simp only [Value.agg.injEq, Array.mk.injEq, List.cons.injEq, and_true] at he
    obtain ⟨rfl, rfl⟩ := he
    obtain ⟨pn, cn, hv, h1, h2, h3⟩ := g0.ex
    injection hv with e1 _ e3
    subst e1 e3
    rcases h3 with h3 | ⟨rfl, hR⟩
    · omega
    have y0 : W3.cell? ⟨b1, k * 3, none⟩ = some (.string (N k).s) := hR.cell k 0 hkn (by omega)
    have y1 : W3.cell? ⟨b1, k * 3 + 1, none⟩ = some (.int .i64 (N k).lo) := hR.cell k 1 hkn (by omega)
    have y2 : W3.cell? ⟨b1, k * 3 + 2, none⟩ = some (.int .i64 (N k).hi) := hR.cell k 2 hkn (by omega)
    have hb1l := hR.lt
    have HK := Lib.hid hk
    have HF := Lib.hid (FIN.out W3.drew (.string (N k).s) (.int .i64 (N k).lo) (.int .i64 (N k).hi) (mem.below_dw C3.out))
    have hO := (((mem.Only.refl w.heap.size W3.drew).setCell 0 (.string (N k).s)).setCell 1 (.int .i64 (N k).lo)).setCell 2 (.int .i64 (N k).hi)
    have S0 : (fun w' : World => w'.cell? ⟨w2.heap.size, 0, none⟩ = some (.slice (some ⟨b1, 0, none⟩) n c0) ∧ w'.cell? ⟨w2.heap.size, 1, none⟩ = some (.slice p1 m c1) ∧ w'.cell? ⟨b1, k * 3, none⟩ = some (.string (N k).s) ∧ w'.cell? ⟨b1, k * 3 + 1, none⟩ = some (.int .i64 (N k).lo) ∧ w'.cell? ⟨b1, k * 3 + 2, none⟩ = some (.int .i64 (N k).hi)) W3.drew := ⟨t0, t1, y0, y1, y2⟩
    have S1 : (fun w' : World => w'.cell? ⟨w2.heap.size, 0, none⟩ = some (.slice (some ⟨b1, 0, none⟩) n c0) ∧ w'.cell? ⟨w2.heap.size, 1, none⟩ = some (.slice p1 m c1) ∧ w'.cell? ⟨b1, k * 3, none⟩ = some (.string (N k).s) ∧ w'.cell? ⟨b1, k * 3 + 1, none⟩ = some (.int .i64 (N k).lo) ∧ w'.cell? ⟨b1, k * 3 + 2, none⟩ = some (.int .i64 (N k).hi)) (((W3.drew.setCell ⟨w.heap.size, 0, none⟩ (.string (N k).s)).setCell ⟨w.heap.size, 1, none⟩ (.int .i64 (N k).lo)).setCell ⟨w.heap.size, 2, none⟩ (.int .i64 (N k).hi)) := ⟨(hO.cell (a := ⟨w2.heap.size, 0, none⟩) hTR).trans t0, (hO.cell (a := ⟨w2.heap.size, 1, none⟩) hTR).trans t1, (hO.cell (a := ⟨b1, k * 3, none⟩) (by show b1 ≠ w.heap.size; omega)).trans y0, (hO.cell (a := ⟨b1, k * 3 + 1, none⟩) (by show b1 ≠ w.heap.size; omega)).trans y1, (hO.cell (a := ⟨b1, k * 3 + 2, none⟩) (by show b1 ≠ w.heap.size; omega)).trans y2⟩
    clear hR g0 g1 hO hk
    go_region_held3 (fun w' : World => w'.cell? ⟨w2.heap.size, 0, none⟩ = some (.slice (some ⟨b1, 0, none⟩) n c0) ∧ w'.cell? ⟨w2.heap.size, 1, none⟩ = some (.slice p1 m c1) ∧ w'.cell? ⟨b1, k * 3, none⟩ = some (.string (N k).s) ∧ w'.cell? ⟨b1, k * 3 + 1, none⟩ = some (.int .i64 (N k).lo) ∧ w'.cell? ⟨b1, k * 3 + 2, none⟩ = some (.int .i64 (N k).hi)) (first | exact S0 | exact S1) (fail)
    go_wp2_with fail
    refine bodyPost_ret (v := .agg #[.string (N k).s, .int .i64 (N k).lo, .int .i64 (N k).hi]) (by simp [results, Tryz.results36, go_sem, r0, r1, r2]) rfl ⟨N k, rfl, hnm k hkn, HF.out⟩
end Go.Proofs.YtemjeoelglkhkaaGreatDoor.draw

namespace Go.Proofs.YtemjeoelglkhkaaGreatDoor.draw
open Go.RowKit
set_option linter.unusedVariables false

theorem code_up {w w' : World} {cv : Value} {len : Nat} (h : CodeAt w cv len w.heap.size) (b : Below w.heap.size w w') : CodeAt w' cv len w'.heap.size := by
  have hs := b.size
  rcases codeAt_below h b with h | ⟨cb, co, cap, h1, h2, h3⟩
  · exact .inl h
  · exact .inr ⟨cb, co, cap, h1, by omega, h3⟩
set_option maxRecDepth 100000 in
set_option maxHeartbeats 4000000 in
theorem nodeLineDraw (w : World) (cv : Value) (len : Nat) (hc : CodeAt w cv len w.heap.size) : Calls Tryz.prog 12 #[cv] w (NodDrawn w) := by
  have R1 := text.boxedN w ⟨⟨#[]⟩, 0, 0⟩ 34
  have C1 := mem.below_new w (.cells #[.string ⟨#[]⟩, .int .i64 0, .int .i64 0] 34)
  have HC := Lib.hid (code_up hc C1)
  have hsz : (w.alloc (.cells #[.string ⟨#[]⟩, .int .i64 0, .int .i64 0] 34)).heap.size = w.heap.size + 1 := by simp
  go_enter Tryz.func12, Tryz.ntmps12
  go_wp2_with fail
  generalize hW : w.alloc (.cells #[.string ⟨#[]⟩, .int .i64 0, .int .i64 0] 34) = Wa at *
  clear hW hc
  replace hsz := Nat.le_antisymm_iff.1 hsz
  refine (isNodeDraw Wa cv len HC.out).mono ?_
  rintro e w1 ⟨q, rfl, hq, B1⟩
  have C2 := mem.belowNext C1 B1
  have R2 := R1.next B1
  have hs1 := B1.size
  clear B1 C1 R1
  have f0 := R2.free 0
  have f1 := R2.free 1
  have f2 := R2.free 2
  have r0 := R2.cell 0 (by omega)
  have r1 := R2.cell 1 (by omega)
  have r2 := R2.cell 2 (by omega)
  have hO := (((mem.Only.refl w.heap.size w1).setCell 0 (.string q.s)).setCell 1 (.int .i64 q.lo)).setCell 2 (.int .i64 q.hi)
  have HF := Lib.hid (C2.trans (hO.below (Nat.le_refl _)))
  clear hO
  go_wp2_with fail
  refine bodyPost_ret (v := .agg #[.string q.s, .int .i64 q.lo, .int .i64 q.hi]) (by simp [results, Tryz.results12, go_sem, r0, r1, r2]) rfl ⟨q, rfl, hq, HF.out⟩

set_option maxRecDepth 100000 in
set_option maxHeartbeats 4000000 in
theorem pipeLineDraw (w : World) (cv : Value) (len : Nat) (hc : CodeAt w cv len w.heap.size) : Calls Tryz.prog 17 #[cv] w (NetIdxPost w) := by
  have R1 := mem.boxed w (.slice none 0 0) (.slice none 0 0) 25
  have C1 := mem.below_new w (.cells #[.slice none 0 0, .slice none 0 0] 25)
  have HC := Lib.hid (code_up hc C1)
  have hsz : (w.alloc (.cells #[.slice none 0 0, .slice none 0 0] 25)).heap.size = w.heap.size + 1 := by simp
  go_enter Tryz.func17, Tryz.ntmps17
  go_wp2_with fail
  generalize hW : w.alloc (.cells #[.slice none 0 0, .slice none 0 0] 25) = Wa at *
  clear hW hc
  replace hsz := Nat.le_antisymm_iff.1 hsz
  refine (turnDraw any_ok Wa cv len HC.out).mono ?_
  rintro e w1 ⟨v, n, m, N, P, b1, b2, x, rfl, hn, hm, hnm, hO, l1, l2, x0, x1, B1⟩
  obtain ⟨p0, c0, p1, c1, rfl⟩ := hO.shape
  have C2 := mem.belowNext C1 B1
  have R2 := R1.next B1
  have hs1 := B1.size
  clear B1 C1 R1
  have f0 := R2.free 0
  have f1 := R2.free 1
  have r0 := R2.b0
  have r1 := R2.b1
  have hQ := ((mem.Only.refl w.heap.size w1).setCell 0 (.slice p0 n c0)).setCell 1 (.slice p1 m c1)
  have HF := Lib.hid (C2.trans (hQ.below (Nat.le_refl _)))
  have HO := Lib.hid (hO.upd (mem.Upd.of_only hQ) (.inr (by omega)) (.inr (by omega)))
  clear hQ hO
  go_wp2_with fail
  refine bodyPost_ret (v := .tuple #[.agg #[.slice p0 n c0, .slice p1 m c1], .int .i64 x]) (by simp [results, Tryz.results17, go_sem, r0, r1]) rfl ⟨_, n, m, N, P, b1, b2, x, rfl, hn, hm, hnm, HO.out, by omega, by omega, x0, x1, HF.out⟩

end Go.Proofs.YtemjeoelglkhkaaGreatDoor.draw

namespace Go.Proofs.YtemjeoelglkhkaaGreatDoor.draw
open Go.RowKit
set_option linter.unusedVariables false

def StrDrawn (w : World) (e : Ending) (w' : World) : Prop := ∃ u : ByteArray, e = .returned (.string u) ∧ u.size ≤ 1000 ∧ Below w.heap.size w w'
theorem nodeT_len (q : mem.Nod) : (text.nodeT q).length ≤ 60 := by
  unfold text.nodeT
  split
  · exact text.nodeL_len (by assumption)
  · exact Nat.zero_le _
set_option maxRecDepth 100000 in
set_option maxHeartbeats 4000000 in
theorem readNodeLineDraw (w : World) (cv : Value) (len : Nat) (hc : CodeAt w cv len w.heap.size) : Calls Tryz.prog 20 #[cv] w (StrDrawn w) := by
  have HC := Lib.hid hc
  clear hc
  go_enter Tryz.func20, Tryz.ntmps20
  go_wp2_with fail
  refine (isNodeDraw w cv len HC.out).mono ?_
  rintro e w1 ⟨q, rfl, hq, b1⟩
  have B1 := Lib.hid b1
  clear b1
  go_wp2_with fail
  refine (text.sNodeLine_any q w1 hq).mono ?_
  rintro e w2 ⟨rfl, b2⟩
  have B2 := Lib.hid (mem.belowNext B1.out b2)
  clear b2
  obtain ⟨t, ht⟩ : ∃ t : ByteArray, t = ⟨(text.nodeT q).toArray⟩ := ⟨_, rfl⟩
  have hts : t.size ≤ 60 := by
    have := nodeT_len q
    subst ht
    show (text.nodeT q).toArray.size ≤ 60
    simpa using this
  rw [← ht]
  clear ht
  go_wp2_with fail
  have c2 := code_up HC.out B2.out
  refine (from_any w2 cv len c2).mono ?_
  rintro e w3 ⟨s3, rfl, S3, b3, z3⟩
  have B3 := Lib.hid (mem.belowNext B2.out b3)
  have C3 := Lib.hid (codeAt_below c2 b3)
  replace z3 := Nat.le_antisymm_iff.1 z3
  clear b3 c2
  obtain ⟨b, hb⟩ : ∃ b, b = w2.heap.size := ⟨_, rfl⟩
  have hBb := B2.out.size
  rw [← hb] at S3 C3 z3 hBb ⊢
  clear hb
  go_wp2_with fail
  refine (next_any w3 b b cv len 0 s3 3 S3 C3.out (Nat.le_refl _) (by omega)).mono ?_
  rintro e w4 ⟨v4, i4, s4, rfl, v0, hv, S4, o4⟩
  have B4 := Lib.hid (B3.out.trans (only_below o4 (by omega)))
  have C4 := Lib.hid (codeAt_below C3.out (only_below o4 (Nat.le_refl _)))
  clear hv o4 S3
  by_cases h0 : v4 = 0
  · subst h0
    go_wp2_with fail
    refine (damage_any w4 b b cv len i4 s4 t 60 hts (by omega) S4 C4.out (Nat.le_refl _)).mono ?_
    rintro e w5 ⟨x, i5, s5, rfl, hx, S5, b5⟩
    have B5 := Lib.hid (B4.out.trans (b5.mono (by omega)))
    clear b5
    go_wp2_with fail
    go_ret
    exact ⟨x, rfl, by omega, B5.out⟩
  · go_wp2_with fail
    go_ret
    exact ⟨t, rfl, by omega, B4.out⟩
end Go.Proofs.YtemjeoelglkhkaaGreatDoor.draw

namespace Go.Proofs.YtemjeoelglkhkaaGreatDoor.lines
open Go.RowKit Go.Proofs.YtemjeoelglkhkaaGreatDoor.mem Go.Proofs.YtemjeoelglkhkaaGreatDoor.text
set_option linter.unusedVariables false

/-- the answer at a node's own line -/
theorem own_line {q : Nod} {t : ByteArray} {e : Ending} (ht : t = ⟨(nodeT q).toArray⟩) (h : NLAns t e) : ∃ q' : Nod, e = .returned (.tuple #[.agg #[.string q'.s, .int .i64 q'.lo, .int .i64 q'.hi], .bool (nodB q)]) ∧ (nodB q = true → q = q' ∧ t.toList.isEmpty = false) ∧ (nodB q = false → t = ⟨#[]⟩) := by
  have hl : t.data.toList = nodeT q := by subst ht; simp
  cases hq : nodB q with
  | false =>
    have h0 : nodeT q = [] := by unfold nodeT; simp [hq]
    have ht0 : t = ⟨#[]⟩ := by subst ht; rw [h0]
    rcases h with ⟨r, hr, hr2, rfl⟩ | ⟨_, rfl⟩
    · rw [hl, h0] at hr2
      unfold nodeL at hr2
      simp at hr2
    · exact ⟨zeroN, rfl, nofun, fun _ => ht0⟩
  | true =>
    have h0 : nodeT q = nodeL q := by unfold nodeT; simp [hq]
    rcases h with ⟨r, hr, hr2, rfl⟩ | ⟨hno, rfl⟩
    · refine ⟨r, rfl, fun _ => ⟨(node_uniq hr hq (by rw [hr2, hl, h0])).symm, ?_⟩, nofun⟩
      rw [Go.ByteArray.toList_eq, hl, h0]
      unfold nodeL
      simp
    · exact absurd (by rw [hl, h0]) (hno q hq)

theorem one_ans {s : ByteArray} {e : Ending} (h : NLAns s e) : ∃ (q : Nod) (f : Bool), e = .returned (.tuple #[.agg #[.string q.s, .int .i64 q.lo, .int .i64 q.hi], .bool f]) ∧ ∀ e', NLAns s e' → e' = .returned (.tuple #[.agg #[.string q.s, .int .i64 q.lo, .int .i64 q.hi], .bool f]) := by
  rcases h with ⟨q, hq, hl, rfl⟩ | ⟨hno, rfl⟩
  · refine ⟨q, true, rfl, ?_⟩
    rintro e' (⟨q', hq', hl', rfl⟩ | ⟨hno, rfl⟩)
    · rw [node_uniq hq' hq (hl'.trans hl.symm)]
      rfl
    · exact absurd hl (hno q hq)
  · refine ⟨⟨⟨#[]⟩, 0, 0⟩, false, rfl, ?_⟩
    rintro e' (⟨q', hq', hl', rfl⟩ | ⟨_, rfl⟩)
    · exact absurd hl' (hno q' hq')
    · rfl

set_option maxHeartbeats 4000000 in
set_option maxRecDepth 100000 in
theorem walk (v : Value) (w : World) (hc : draw.CodeArg w v) (hE : Env w) :
    Calls Tryz.prog 4 #[v] w fun e w' => e = .returned (.bool true) ∧ Below w.heap.size w w' := by
  have HE := Lib.hid hE
  clear hE
  obtain ⟨p, len, cap, rfl, hlen, hcode⟩ := hc
  by_cases h4 : (4096 : Int) < len
  · go_enter Tryz.func4, Tryz.ntmps4
    go_wp2_with (go_at_call 11; refine (draw.big_any _ _ _ _).mono ?_; rintro e w' ⟨rfl, rfl⟩)
    go_ret
    exact ⟨rfl, Below.refl _ _⟩
  have HC := Lib.hid (hcode (by omega))
  clear hcode
  go_enter Tryz.func4, Tryz.ntmps4
  go_wp2_with (go_at_call 11; refine (draw.big_any _ _ _ _).mono ?_; rintro e w' ⟨rfl, rfl⟩)
  refine (draw.nodeLineDraw w _ len HC.out).mono ?_
  rintro e w1 ⟨q, rfl, hq, b1⟩
  have B1 := Lib.hid b1
  clear b1
  have X1 := boxedN w1 q 34
  have bb := below_new w1 (.cells #[.string q.s, .int .i64 q.lo, .int .i64 q.hi] 34)
  go_wp2_with fail
  generalize hW : w1.alloc (Obj.cells #[.string q.s, .int .i64 q.lo, .int .i64 q.hi] 34) = w2 at *
  clear hW
  have B2 := Lib.hid (B1.out.trans (bb.mono B1.out.size))
  have lX := X1.lt
  clear bb
  refine (nodeLine_any q w2 hq (env_below HE.out B2.out).pow).mono ?_
  rintro e w3 ⟨rfl, bb⟩
  have X3 := X1.below bb lX
  have B3 := Lib.hid (B2.out.trans (bb.mono B2.out.size))
  have hs3 := bb.size
  clear bb X1
  obtain ⟨t, ht⟩ : ∃ t : ByteArray, t = ⟨(nodeT q).toArray⟩ := ⟨_, rfl⟩
  have hts : t.size ≤ 60 := by
    have := draw.nodeT_len q
    subst ht
    show (nodeT q).toArray.size ≤ 60
    simpa using this
  have HT := Lib.hid ht
  rw [← ht]
  clear ht
  go_wp2_with fail
  refine (readNodeLine_any w3 t (env_below HE.out B3.out) (by omega)).mono ?_
  rintro e w4 ⟨hans, bb⟩
  obtain ⟨q', rfl, htrue, hfalse⟩ := own_line HT.out hans
  have HTR := Lib.hid htrue
  have HFA := Lib.hid hfalse
  clear hans htrue hfalse
  have X4 := X3.below bb (by omega)
  have B4 := Lib.hid (B3.out.trans (bb.mono B3.out.size))
  have hs4 := bb.size
  clear bb X3
  have bb := below_new w4 (.cells #[.string q'.s, .int .i64 q'.lo, .int .i64 q'.hi] 34)
  have Y5 := boxedN w4 q' 34
  have X5 := X4.below bb (by omega)
  have B5 := Lib.hid (B4.out.trans (bb.mono B4.out.size))
  have hs5 := bb.size
  clear bb
  have c0 := X4.cell 0 (by omega)
  have c1 := X4.cell 1 (by omega)
  have c2 := X4.cell 2 (by omega)
  have d0 := X5.cell 0 (by omega)
  have d1 := X5.cell 1 (by omega)
  have d2 := X5.cell 2 (by omega)
  go_wp2_with fail
  generalize hW : w4.alloc (Obj.cells #[.string q'.s, .int .i64 q'.lo, .int .i64 q'.hi] 34) = w5 at *
  clear hW
  refine (sNodeLine_any q w5 hq).mono ?_
  rintro e w6 ⟨rfl, bb⟩
  rw [← HT.out]
  have X6 := X5.below bb (by omega)
  have Y6 := Y5.below bb (by have := Y5.lt; omega)
  have B6 := Lib.hid (B5.out.trans (bb.mono B5.out.size))
  have hs6 := bb.size
  clear bb X5 Y5 X4 c0 c1 c2 d0 d1 d2
  have c0 := X6.cell 0 (by omega)
  have c1 := X6.cell 1 (by omega)
  have c2 := X6.cell 2 (by omega)
  have d0 := Y6.cell 0 (by omega)
  have d1 := Y6.cell 1 (by omega)
  have d2 := Y6.cell 2 (by omega)
  cases hB : nodB q
  case' false => obtain rfl := HFA.out hB
  case' true => obtain ⟨rfl, hne⟩ := HTR.out hB
  all_goals (
    clear HFA HTR
    go_wp2_with fail
    refine (isNode_any q w6 hq).mono ?_
    rintro e w7 ⟨rfl, bb⟩
    have B7 := Lib.hid (B6.out.trans (bb.mono B6.out.size))
    clear bb X6 Y6 c0 c1 c2 d0 d1 d2
    go_wp2_with fail
    refine (draw.pipeLineDraw w7 _ len (draw.code_up HC.out B7.out)).mono ?_
    rintro e w8 ⟨v, n, m, N, P, g1, g2, x, rfl, hn, hm, hnm, hO, l1, l2, x0, x1, bb⟩
    obtain ⟨p0, k0, p1, k1, rfl⟩ := hO.shape
    obtain ⟨rt, rc, FI, FS⟩ := agreePipeLine n N m P x hnm (by omega) (by omega)
    have HFI := Lib.hid FI
    have HFS := Lib.hid FS
    have B8 := Lib.hid (B7.out.trans (bb.mono B7.out.size))
    clear bb FI FS
    have bb := below_new w8 (.cells #[.slice p0 n k0, .slice p1 m k1] 25)
    have T9 := boxed w8 (.slice p0 n k0) (.slice p1 m k1) 25
    have O9 := Lib.hid (hO.next bb)
    have B9 := Lib.hid (B8.out.trans (bb.mono B8.out.size))
    have lT := T9.lt
    clear bb hO
    go_wp2_with fail
    generalize hW : w8.alloc (Obj.cells #[.slice p0 n k0, .slice p1 m k1] 25) = w9 at *
    clear hW
    refine (HFI.out w9 _ O9.out.net (env_below HE.out B9.out).pow).mono ?_
    rintro e w10 ⟨rfl, bb⟩
    have T10 := T9.below bb lT
    have O10 := Lib.hid (O9.out.next bb)
    have B10 := Lib.hid (B9.out.trans (bb.mono B9.out.size))
    have t0 := T10.b0
    have t1 := T10.b1
    clear bb T9 O9
    go_wp2_with fail
    refine (HFS.out w10 _ O10.out.net).mono ?_
    rintro e w11 ⟨rfl, bb⟩
    have B11 := Lib.hid (B10.out.trans (bb.mono B10.out.size))
    clear bb O10 T10 t0 t1
    go_wp2_with fail
    refine (draw.readNodeLineDraw w11 _ len (draw.code_up HC.out B11.out)).mono ?_
    rintro e w12 ⟨u, rfl, hu, bb⟩
    have B12 := Lib.hid (B11.out.trans (bb.mono B11.out.size))
    clear bb
    go_wp2_with fail
    refine (readNodeLine_any w12 u (env_below HE.out B12.out) (by omega)).mono ?_
    rintro e w13 ⟨hans, bb⟩
    obtain ⟨r, f, rfl, hone⟩ := one_ans hans
    have HONE := Lib.hid hone
    have B13 := Lib.hid (B12.out.trans (bb.mono B12.out.size))
    clear bb hans hone
    have bb := below_new w13 (.cells #[.string r.s, .int .i64 r.lo, .int .i64 r.hi] 34)
    have Z14 := boxedN w13 r 34
    have B14 := Lib.hid (B13.out.trans (bb.mono B13.out.size))
    have lZ := Z14.lt
    clear bb
    go_wp2_with fail
    generalize hW : w13.alloc (Obj.cells #[.string r.s, .int .i64 r.lo, .int .i64 r.hi] 34) = w14 at *
    clear hW
    refine (sReadNodeLine_any w14 u (by omega)).mono ?_
    rintro e w15 ⟨hans, bb⟩
    obtain rfl := HONE.out e hans
    have Z15 := Z14.below bb lZ
    have B15 := Lib.hid (B14.out.trans (bb.mono B14.out.size))
    have hs15 := bb.size
    clear bb hans Z14
    have bb := below_new w15 (.cells #[.string r.s, .int .i64 r.lo, .int .i64 r.hi] 34)
    have Z16 := Z15.below bb (by omega)
    have B16 := Lib.hid (B15.out.trans (bb.mono B15.out.size))
    clear bb
    have c0 := Z15.cell 0 (by omega)
    have c1 := Z15.cell 1 (by omega)
    have c2 := Z15.cell 2 (by omega)
    have d0 := Z16.cell 0 (by omega)
    have d1 := Z16.cell 1 (by omega)
    have d2 := Z16.cell 2 (by omega)
    clear Z15 Z16
    go_wp2_with fail
    go_ret
    exact ⟨rfl, B16.out⟩)
end Go.Proofs.YtemjeoelglkhkaaGreatDoor.lines
