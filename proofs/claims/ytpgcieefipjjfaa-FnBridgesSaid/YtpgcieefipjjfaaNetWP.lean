/-
  WithoutPipe: the contract of the program. Conditions: as each states.
-/
import Derived.Test.YtpgcieefipjjfaaRows
import Derived.Test.YtpgcieefipjjfaaNetTP
import Derived.Test.YtpgcieefipjjfaaDel
import Derived.WalkKit
import Derived.ProofKit
import Derived.Outline
import Derived.OwnWalk
import Derived.Lib.Hide
import Derived.Deep.Cut
namespace Go.Proofs.Ytpgcieefipjjfaa.mem
open Go.RowKit
set_option linter.unusedVariables false

/-- a network of the call's own comes back -/
def NOPost (w : World) (n : Nat) (N : Nat → Nod) (m : Nat) (P : Nat → Pip) (e : Ending) (w' : World) : Prop :=
  ∃ u b1 b2, e = .returned u ∧ NetOwn w' u n N m P b1 b2 ∧ w.heap.size ≤ b1 ∧ w.heap.size ≤ b2 ∧ Below w.heap.size w w'
theorem no_okD {w w3 w' : World} {u0 : Value} {n m m' b1 b2 r : Nat} {N : Nat → Nod} {P P' : Nat → Pip} {e : Ending} {cap : Nat} (hm : m' = m - 1)
    (he : e = .returned (.agg #[u0, .slice (some ⟨b2, 0, none⟩) (m - 1) cap])) (h : NetOwn w3 (.agg #[u0, .slice (some ⟨b2, 0, none⟩) m cap]) n N m P b1 b2) (hu : Upd (fun x => x = b2 ∨ x = r) w3 w') (hr : b1 ≠ r)
    (hR : Rw w' b2 (m - 1) 5 (pipC P')) (hb1 : w.heap.size ≤ b1) (hb2 : w.heap.size ≤ b2) (hb : Below w.heap.size w w') (hm0 : 0 < m) : NOPost w n N m' P' e w' := by
  subst hm
  obtain ⟨z0, z1, he', g0, g1, hd⟩ := h.ex
  simp only [Value.agg.injEq, Array.mk.injEq, List.cons.injEq, and_true] at he'
  obtain ⟨rfl, rfl⟩ := he'
  obtain ⟨p, q, hv, h1, h2, _⟩ := g1.ex
  injection hv with _ _ e3
  subst e3
  exact ⟨_, b1, b2, he, ⟨_, _, rfl, g0.upd hu (by rcases hd with hd | hd | hd; exact .inl hd; omega; exact .inr (by rintro (hx | hx); exact hd hx; exact hr hx)), hR.own (by omega) h2, by omega⟩, hb1, hb2, hb⟩
theorem ni_okD {w w3 w' : World} {u0 : Value} {n m n' m' b1 b2 r : Nat} {N : Nat → Nod} {P P' : Nat → Pip} {c : Int} {e : Ending} {cap : Nat} (hn : n' = n) (hm : m' = m - 1) (hc : c = 0)
    (he : e = .returned (.tuple #[.agg #[u0, .slice (some ⟨b2, 0, none⟩) (m - 1) cap], .int .i64 0])) (h : NetOwn w3 (.agg #[u0, .slice (some ⟨b2, 0, none⟩) m cap]) n N m P b1 b2) (hu : Upd (fun x => x = b2 ∨ x = r) w3 w') (hr : b1 ≠ r)
    (hR : Rw w' b2 (m - 1) 5 (pipC P')) (hb1 : w.heap.size ≤ b1) (hb2 : w.heap.size ≤ b2) (hb : Below w.heap.size w w') (hm0 : 0 < m) : NIPost w n' N m' P' c e w' := by
  subst hn hm hc
  obtain ⟨z0, z1, he', g0, g1, hd⟩ := h.ex
  simp only [Value.agg.injEq, Array.mk.injEq, List.cons.injEq, and_true] at he'
  obtain ⟨rfl, rfl⟩ := he'
  obtain ⟨p, q, hv, h1, h2, _⟩ := g1.ex
  injection hv with _ _ e3
  subst e3
  exact ⟨_, b1, b2, he, ⟨_, _, rfl, g0.upd hu (by rcases hd with hd | hd | hd; exact .inl hd; omega; exact .inr (by rintro (hx | hx); exact hd hx; exact hr hx)), hR.own (by omega) h2, by omega⟩, hb1, hb2, hb⟩

set_option maxRecDepth 100000 in
set_option maxHeartbeats 4000000 in
theorem withoutPipe_any (w : World) (v : Value) (n : Nat) (N : Nat → Nod) (m : Nat) (P : Nat → Pip) (lo hi : Nat) (h : NetAt w v n N m P lo hi) (hhi : hi ≤ w.heap.size) (hN : ∀ i, i < n → (N i).s.size ≤ 9223372036854775807) (hn2 : n ≤ 2000000) (hm2 : m ≤ 2000000) (k : Nat) (hkm : k < m) :
    Calls Try.prog 89 #[v, .int .i64 (k : Nat)] w (NOPost w n N (m - 1) (wpP P k)) := by
  obtain ⟨v0, v1, rfl, g0, g1⟩ := h.ex
  obtain ⟨p0, c0, rfl⟩ := g0.shape
  obtain ⟨p1, c1, rfl⟩ := g1.shape
  have hn9 : n ≤ 9223372036854775807 := by omega
  have hm9 : m ≤ 9223372036854775807 := by omega
  have HC1 : Hid (m = 0 ∨ ∃ b o, p1 = some ⟨b, o, none⟩ ∧ lo ≤ b ∧ b < hi ∧ At w b o m 5 (pipC P)) := by
    obtain ⟨p, cap, hv, _, _, hc⟩ := g1.ex
    injection hv with e1 _ e2
    subst e1
    exact Lib.hid hc
  have HV := Lib.hid h
  have HN := Lib.hid hN
  clear h g0 g1 hN
  go_enter Try.func89, Try.ntmps89
  go_wp2_with fail
  have A1 := (boxed w (.slice p0 n c0) (.slice p1 m c1) 33).keep (Below.heap_alloc (w.alloc (Obj.cells #[Value.slice p0 n c0, Value.slice p1 m c1] 33)) (Obj.cells #[Value.slice none 0 0, Value.slice none 0 0] 33) _ (by simp))
  have R1 := boxed (w.alloc (Obj.cells #[Value.slice p0 n c0, Value.slice p1 m c1] 33)) (.slice none 0 0) (.slice none 0 0) 33
  rw [show (w.alloc (Obj.cells #[Value.slice p0 n c0, Value.slice p1 m c1] 33)).heap.size = w.heap.size + 1 by simp] at R1
  have C1 := bel2 w (Obj.cells #[Value.slice p0 n c0, Value.slice p1 m c1] 33) (Obj.cells #[Value.slice none 0 0, Value.slice none 0 0] 33)
  have hs1 : w.heap.size + 2 ≤ ((w.alloc (Obj.cells #[Value.slice p0 n c0, Value.slice p1 m c1] 33)).alloc (Obj.cells #[Value.slice none 0 0, Value.slice none 0 0] 33)).heap.size := by simp
  obtain ⟨w2, hw2⟩ : ∃ w2, w2 = ((w.alloc (Obj.cells #[Value.slice p0 n c0, Value.slice p1 m c1] 33)).alloc (Obj.cells #[Value.slice none 0 0, Value.slice none 0 0] 33)) := ⟨_, rfl⟩
  rw [← hw2] at A1 R1 C1 hs1 ⊢
  clear hw2
  have A2 := A1
  have R2 := R1
  have C2 := C1
  have hs2 := hs1
  clear A1 R1 C1 hs1
  have e0 := A2.b0
  have e1 := A2.b1
  have e2 : w.heap.size < w2.heap.size := by omega
  rcases HC1.out with h0 | ⟨b, o, rfl, hlo, hb, g3⟩
  · omega
  clear g3
  refine (copied_any _ _ n N m P lo hi (HV.out.below C2 hhi) (by omega) HN.out hn2 hm2).mono ?_
  rintro e w3 ⟨u, b1, b2, rfl, ou, l1, l2, b3⟩
  obtain ⟨u1, u2, u3, u4, rfl⟩ := ou.shape
  have A3 := A2.next b3
  have R3 := R2.next b3
  have C3 := belowNext C2 b3
  have hs3 := Nat.le_trans hs2 b3.size
  clear b3 A2 R2 C2 e0 e1 e2
  have e0 := A3.b0
  have e1 := A3.b1
  have e2 := A3.lt
  obtain ⟨rfl, hR, hcap, h9⟩ : u3 = some ⟨b2, 0, none⟩ ∧ Rw w3 b2 m 5 (pipC P) ∧ m ≤ u4 ∧ u4 ≤ 9223372036854775807 := by
    obtain ⟨z0, z1, he, _, h2, _⟩ := ou.ex
    simp only [Value.agg.injEq, Array.mk.injEq, List.cons.injEq, and_true] at he
    obtain ⟨p, cap, hv, h4, h5, h3⟩ := h2.ex
    rw [← he.2] at hv
    injection hv with f1 _ f3
    subst f1 f3
    rcases h3 with h3 | ⟨h3, h6⟩
    · omega
    · exact ⟨h3, h6, h4, h5⟩
  have hlt := hR.lt
  have hb2 : w.heap.size + 2 ≤ b2 := by omega
  have W4 := below_new w3 (Obj.cells #[Value.slice u1 n u2, Value.slice (some ⟨b2, 0, none⟩) m u4] 33)
  have T4 := boxed w3 (.slice u1 n u2) (.slice (some ⟨b2, 0, none⟩) m u4) 33
  have hi1 : (0 : Int) ≤ (k : Int) + 1 := by omega
  have hi2 : (k : Int) + 1 ≤ 9223372036854775807 := by omega
  have OU := Lib.hid ou
  have HR := Lib.hid (hR.below W4 hlt)
  have H1 := Lib.hid (And.intro A3 (And.intro R3 (And.intro C3 W4)))
  have HT4 := Lib.hid T4
  clear ou hR A3 R3 C3 W4 T4
  go_wp2_with fail
  refine (del_any _ b2 u4 m k P HR.out hkm hcap h9).mono ?_
  rintro e w5 ⟨rfl, U5, R5⟩
  have T5 := HT4.out.next_upd U5 (by omega)
  have F5 := (H1.out.2.1.next H1.out.2.2.2).next_upd U5 (by omega)
  have C5 := belowNextUpd (belowNext H1.out.2.2.1 H1.out.2.2.2) U5 (by rintro x rfl; omega)
  have U35 := (Upd.of_below H1.out.2.2.2 (X := (· = b2))).trans U5
  have t0 := T5.b0
  have t1 := T5.b1
  have tk := T5.free 1
  have HU := Lib.hid U35
  have HF := Lib.hid F5
  have HC5 := Lib.hid C5
  have HR5 := Lib.hid R5
  have HT5 := Lib.hid T5
  clear U5 R5 T5 F5 C5 U35 e0 e1 e2 HC1
  go_upto_region 3 with (fail)
  have V6 : Only w3.heap.size w5 (w5.setCell ⟨w3.heap.size, 1, none⟩ (.slice (some ⟨b2, 0, none⟩) (m - 1) u4)) := (Only.refl _ _).setCell _ _
  have T6 := HT5.out.set 1 (.slice (some ⟨b2, 0, none⟩) (m - 1) u4) (by omega)
  clear t0 t1 tk
  generalize hW : w5.setCell ⟨w3.heap.size, 1, none⟩ (.slice (some ⟨b2, 0, none⟩) (m - 1) u4) = W6 at *
  clear hW
  have F6 := HF.out.only V6 (by omega)
  have C6 := below_only HC5.out V6 (by omega)
  have R6 := HR5.out.only V6 (by omega)
  have t0 : W6.cell? ⟨w3.heap.size, 0, none⟩ = some (.slice u1 n u2) := T6.cell 0 (by omega)
  have t1 : W6.cell? ⟨w3.heap.size, 1, none⟩ = some (.slice (some ⟨b2, 0, none⟩) (m - 1) u4) := T6.cell 1 (by omega)
  have f0 := F6.b0
  have f1 := F6.b1
  have k0 := F6.free 0
  have k1 := F6.free 1
  have U6 : Upd (fun x => x = b2 ∨ x = w3.heap.size) w3 W6 := (HU.out.mono (fun x _ e => .inl e)).trans ((Upd.of_only V6).mono (fun x _ e => .inr e))
  have U7 := Lib.hid ((U6.mono (fun x hx e => by rcases e with e | e; exact .inl e; omega) : Upd (fun x => x = b2 ∨ x = w.heap.size + 1) w3 W6).trans ((Upd.of_only (((Only.refl (w.heap.size + 1) W6).setCell 0 (.slice u1 n u2)).setCell 1 (.slice (some ⟨b2, 0, none⟩) (m - 1) u4))).mono (fun x _ e => .inr e)))
  have R7 := Lib.hid (R6.only (((Only.refl (w.heap.size + 1) W6).setCell 0 (.slice u1 n u2)).setCell 1 (.slice (some ⟨b2, 0, none⟩) (m - 1) u4)) (by omega))
  have C7 := Lib.hid (below_set (below_set C6 (b := w.heap.size + 1) (by omega) 0 (.slice u1 n u2)) (b := w.heap.size + 1) (by omega) 1 (.slice (some ⟨b2, 0, none⟩) (m - 1) u4))
  clear U6 R6 T6 F6 C6 V6
  go_wp2_with fail
  refine bodyPost_ret (v := .agg #[.slice u1 n u2, .slice (some ⟨b2, 0, none⟩) (m - 1) u4]) (by simp [results, Try.results89, go_sem, f0, f1]) rfl (no_okD rfl rfl OU.out U7.out (by omega) R7.out (by omega) (by omega) C7.out (by omega))
end Go.Proofs.Ytpgcieefipjjfaa.mem
