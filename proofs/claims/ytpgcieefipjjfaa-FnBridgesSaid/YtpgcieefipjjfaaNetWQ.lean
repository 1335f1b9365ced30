/-
  WithoutPipe: the contract of the specification. Conditions: as each states.
-/
import Derived.Test.YtpgcieefipjjfaaRows
import Derived.Test.YtpgcieefipjjfaaNetWP
import Derived.Test.YtpgcieefipjjfaaAppP
import Derived.WalkKit
import Derived.ProofKit
import Derived.Outline
import Derived.OwnWalk
import Derived.Lib.Hide
import Derived.Deep.RegionHeld3
import Derived.Deep.RegionHeldLaw
import Derived.IntWalk
namespace Go.Proofs.Ytpgcieefipjjfaa.mem
open Go.RowKit
set_option linter.unusedVariables false

theorem step_appP {ops : Array Oper} {o : Oper} {a : Act} {w : World} {K : Act → World → Prop} {Q : Exit → Act → World → Prop} {E : Prop} (hg : o.guard = none) (s x : Operand)
    (hop : o.op = Op.call { callee := Callee.builtin Builtin.append, args := #[s, x], argTypes := #[31, 31] }) (hty : o.type = 31) (g cap k : Nat) (hs : a.eval s = .slice (some ⟨g, 0, none⟩) k cap) (A : Addr) (j cp : Nat) (hx : a.eval x = .slice (some A) j cp)
    (xs news : List Value) (hown : Row5 w g cap k xs) (hl : news.length = j * 5) (hnews : ∀ t u, news[t]? = some u → w.cell? (A.add t) = some u) (h1 : ∀ u ∈ news, u.oneCell' = true) (hk : k + j ≤ 2000000)
    (hK : ∀ g' cap' w', Row5 w' g' cap' (k + j) (xs ++ news) → Upd (· = g) w w' → (g' = g ∨ w.heap.size ≤ g') → K (a.put o.dst (.slice (some ⟨g', 0, none⟩) (k + j) cap')) w') : if Region.wanted o (yielded ops a.tmps) = true then Oper.wp Try.prog o a w K Q else E := by
  obtain ⟨g', cap', w', hr, ho, hu, hg'⟩ := appP w g cap k xs hown A j cp news hl hnews h1 hk
  exact step_appT hr hg s x hop hty hs hx (hK _ _ _ ho hu hg')
theorem kal {B : Nat} {w w' : World} (h : Below B w w') (hB : B ≤ w.heap.size) (o : Obj) : Below B w (w'.alloc o) := h.alloc (Nat.le_trans hB h.size) o
theorem kN {B : Nat} {w w' w'' : World} (h : Below B w w') (g : Below w'.heap.size w' w'') (hB : B ≤ w.heap.size) : Below B w w'' := h.trans (g.mono (Nat.le_trans hB h.size))
theorem kP {B g : Nat} {w w' w'' : World} (h : Below B w w') (u : Upd (· = g) w' w'') (hB : B ≤ w.heap.size) (hg : B ≤ g) : Below B w w'' := h.trans (u.below (Nat.le_trans hB h.size) (fun x _ e => e ▸ hg))
theorem ne_new {B g ga : Nat} {w Y : World} (hg : g < w.heap.size) (h : Below B w Y) (la : Y.heap.size ≤ ga) : ¬ ga = g := by
  have := h.size
  omega
theorem hd1 {n m g gp ga : Nat} {wa : World} (h : n = 0 ∨ ga < wa.heap.size) (hg : ¬ ga = g) (hgp : gp = g ∨ wa.heap.size ≤ gp) : n = 0 ∨ m = 0 ∨ ga ≠ gp := by omega
theorem hd2 {n m gp ga : Nat} {wb Y : World} (h : gp < wb.heap.size) (hY : wb.heap.size ≤ Y.heap.size) (la : Y.heap.size ≤ ga) : n = 0 ∨ m = 0 ∨ ga ≠ gp := by omega
theorem own_K {B b : Nat} {w w' : World} {v0 v1 : Value} (A : Ob w b 2 (bx v0 v1)) (hb : b < B) (h : Below B w w') : w'.cell? ⟨b, 0, none⟩ = some v0 ∧ w'.cell? ⟨b, 1, none⟩ = some v1 := ⟨(A.below h hb).b0, (A.below h hb).b1⟩
theorem src_at {w X : World} {b x : Nat} {news : List Value} (h : ∀ t u, news[t]? = some u → w.cell? ((⟨b, x, none⟩ : Addr).add t) = some u) (hb : b < w.heap.size) (g : Below w.heap.size w X) : ∀ t u, news[t]? = some u → X.cell? ((⟨b, x, none⟩ : Addr).add t) = some u :=
  fun t u hu => (g.cell (by rw [Addr.add_lit]; exact hb)).trans (h t u hu)
theorem gpB {B gp r : Nat} {w X : World} (h : gp = r ∨ X.heap.size ≤ gp) (hr : B ≤ r) (hX : Below B w X) (hB : B ≤ w.heap.size) : B ≤ gp := by
  have := hX.size
  omega
theorem ni_okW {w W3 X : World} {pa : Option Addr} {ca n q gp cp ga n' m' : Nat} {N : Nat → Nod} {P' : Nat → Pip} {c : Int} {e : Ending} {u0 u1 : Value} (hn : n' = n) (hm : m' = q) (hc : c = 0)
    (he : e = .returned (.tuple #[.agg #[.slice pa n ca, .slice (some ⟨gp, 0, none⟩) q cp], .int .i64 0])) (NX : OwnS X (.slice pa n ca) n 3 (nodC N) ga) (OX : OwnS X (.slice (some ⟨gp, 0, none⟩) q cp) q 5 (pipC P') gp) (hd : n = 0 ∨ q = 0 ∨ ga ≠ gp)
    (hB : w.heap.size + 2 ≤ W3.heap.size) (hga : W3.heap.size ≤ ga) (hgp : w.heap.size + 2 ≤ gp) (hw : Below w.heap.size w W3) (hX : Below (w.heap.size + 2) W3 X) :
    NIPost w n' N m' P' c e ((X.setCell ⟨w.heap.size + 1, 0, none⟩ u0).setCell ⟨w.heap.size + 1, 1, none⟩ u1) := by
  subst hn hm hc
  exact ⟨_, ga, gp, he, ⟨_, _, rfl, NX.set2 (by omega), OX.set2 (by omega), hd⟩, by omega, by omega, below_set (below_set (hw.trans (hX.mono (by omega))) (by omega) _ _) (by omega) _ _⟩
theorem without_cells {P : Nat → Pip} {k m : Nat} (hk : k < m) : ∀ i j, i < k + (m - (k + 1)) → j < 5 → (flatL (pipC P) k 5 ++ flatL (fun i j => pipC P (k + 1 + i) j) (m - (k + 1)) 5)[i * 5 + j]? = some (pipC (wpP P k) i j) := by
  intro i j hi hj
  by_cases h : i < k
  · rw [List.getElem?_append_left (by rw [flatL_len]; omega), flatL_get h hj]
    unfold pipC wpP
    simp only [if_pos h]
  · rw [List.getElem?_append_right (by rw [flatL_len]; omega), flatL_len, show i * 5 + j - k * 5 = (i - k) * 5 + j by omega, flatL_get (by omega) hj]
    show some (pipC P (k + 1 + (i - k)) j) = _
    rw [show k + 1 + (i - k) = i + 1 by omega]
    unfold pipC wpP
    simp only [if_neg h]

set_option maxRecDepth 100000 in
set_option maxHeartbeats 4000000 in
theorem withoutS_any (w : World) (v : Value) (n : Nat) (N : Nat → Nod) (m : Nat) (P : Nat → Pip) (lo hi : Nat) (h : NetAt w v n N m P lo hi) (hhi : hi ≤ w.heap.size) (hN : ∀ i, i < n → (N i).s.size ≤ 9223372036854775807) (hn2 : n ≤ 2000000) (hm2 : m ≤ 2000000) (x : Int) :
    Calls Try.prog 90 #[v, .int .i64 x] w (NIPost w (tpN n N m P x n) N (tpN n N m P x (m - 1)) (wpP P x.toNat) (tpC n N m P x)) := by
  obtain ⟨v0, v1, rfl, g0, g1⟩ := h.ex
  obtain ⟨p0, c0, rfl⟩ := g0.shape
  obtain ⟨p1, c1, rfl⟩ := g1.shape
  have hn9 : n ≤ 9223372036854775807 := by omega
  have hm9 : m ≤ 9223372036854775807 := by omega
  have HC0 := Lib.hid g0
  have HC1 : Hid (m = 0 ∨ ∃ b o, p1 = some ⟨b, o, none⟩ ∧ lo ≤ b ∧ b < hi ∧ At w b o m 5 (pipC P)) := by
    obtain ⟨p, cap, hv, _, _, hc⟩ := g1.ex
    injection hv with e1 _ e2
    subst e1
    exact Lib.hid hc
  have HM : Hid (m ≤ c1) := by
    obtain ⟨p, cap, hv, hq, _, _⟩ := g1.ex
    injection hv with _ _ e3
    subst e3
    exact Lib.hid hq
  have HV := Lib.hid h
  have HN := Lib.hid hN
  clear h g0 g1 hN
  have HCD := Lib.hid (show tpC n N m P x = codeB (netB n N m P) (inR x 0 (m - 1)) from rfl)
  go_enter Try.func90, Try.ntmps90
  go_wp2_with fail
  have A1 := (boxed w (.slice p0 n c0) (.slice p1 m c1) 33).keep (Below.heap_alloc (w.alloc (Obj.cells #[Value.slice p0 n c0, Value.slice p1 m c1] 33)) (Obj.cells #[Value.slice none 0 0, Value.slice none 0 0] 33) _ (by simp))
  have R1 := boxed (w.alloc (Obj.cells #[Value.slice p0 n c0, Value.slice p1 m c1] 33)) (.slice none 0 0) (.slice none 0 0) 33
  rw [show (w.alloc (Obj.cells #[Value.slice p0 n c0, Value.slice p1 m c1] 33)).heap.size = w.heap.size + 1 by simp] at R1
  have C1 := bel2 w (Obj.cells #[Value.slice p0 n c0, Value.slice p1 m c1] 33) (Obj.cells #[Value.slice none 0 0, Value.slice none 0 0] 33)
  have hs1 : w.heap.size + 2 ≤ ((w.alloc (Obj.cells #[Value.slice p0 n c0, Value.slice p1 m c1] 33)).alloc (Obj.cells #[Value.slice none 0 0, Value.slice none 0 0] 33)).heap.size := by simp
  refine (l02PipeCode_any _ _ n N m P lo hi (HV.out.below C1 hhi) (by omega) HN.out x).mono ?_
  rintro e w2 ⟨rfl, b2⟩
  have A2 := A1.next b2
  have R2 := R1.next b2
  have C2 := belowNext C1 b2
  have hs2 := Nat.le_trans hs1 b2.size
  have e0 := A2.b0
  have e1 := A2.b1
  have e2 : w.heap.size < w2.heap.size := by omega
  clear b2 A1 C1 hs1 R1
  rw [← HCD.out]
  by_cases hc : tpC n N m P x = 0
  rotate_left 1
  · have hcb : (tpC n N m P x != 0) = true := by simp [hc]
    have f0 := R2.b0
    have f1 := R2.b1
    have k0 := R2.free 0
    have k1 := R2.free 1
    have H := Lib.hid (fun k => show tpN n N m P x k = 0 by unfold tpN; rw [if_neg hc])
    have C3 := Lib.hid (below_set (below_set C2 (b := w.heap.size + 1) (by omega) 0 (.slice none 0 0)) (b := w.heap.size + 1) (by omega) 1 (.slice none 0 0))
    clear hc
    go_wp2_with fail
    refine bodyPost_ret (v := .tuple #[.agg #[.slice none 0 0, .slice none 0 0], .int .i64 (tpC n N m P x)]) (by simp [results, Try.results90, go_sem, f0, f1]) rfl (ni_err (H.out n) (H.out (m - 1)) rfl rfl C3.out)
  have hcb : (tpC n N m P x != 0) = false := by simp [hc]
  have HT := Lib.hid (fun k => show tpN n N m P x k = k by unfold tpN; rw [if_pos hc])
  have hz := codeB_zero (HCD.out ▸ hc)
  obtain ⟨k, rfl⟩ := Int.eq_ofNat_of_zero_le (inR_iff.1 hz.2).1
  have hxk := (inR_iff.1 hz.2).2
  have HC := Lib.hid hc
  have hkm : k < m := by omega
  clear hc hz
  rcases HC1.out with h0 | ⟨b, o, rfl, hlo, hb, g3⟩
  · omega
  have hbw : b < w.heap.size := Nat.lt_of_lt_of_le hb hhi
  obtain ⟨x, hA, hsrc⟩ : ∃ x, (if c1 = k + 1 then (some (⟨b, o, none⟩ : Addr)) else some ⟨b, o + (k + 1) * 5, none⟩) = some ⟨b, x, none⟩ ∧ Hid (∀ t u, (flatL (fun i j => pipC P (k + 1 + i) j) (m - (k + 1)) 5)[t]? = some u → w.cell? ((⟨b, x, none⟩ : Addr).add t) = some u) := by
    by_cases h : c1 = k + 1
    · refine ⟨o, by simp [h], fun t u hu => ?_⟩
      have hmc : m ≤ c1 := HM.out
      rw [List.getElem?_eq_none (by rw [flatL_len]; omega)] at hu
      cases hu
    · refine ⟨o + (k + 1) * 5, by simp [h], fun t u hu => ?_⟩
      exact flatL_cell (c := fun i j => pipC P (k + 1 + i) j) ⟨fun i j hi hj => by
        have := g3.cell (k + 1 + i) j (by omega) hj
        rw [show o + (k + 1) * 5 + i * 5 + j = o + (k + 1 + i) * 5 + j by omega]
        exact this⟩ t u hu
  have CE := below_new w2 (Obj.cells #[] 117)
  have hB2 : w.heap.size + 2 ≤ w2.heap.size := by omega
  obtain ⟨r3, cap3, W3, hr, row, U3, hr3⟩ := appP (w2.alloc (Obj.cells #[] 117)) w2.heap.size 0 0 [] (row5_nil w2) ⟨b, o, none⟩ k c1 (flatL (pipC P) k 5) (flatL_len _ _ _) (fun t u hu => by
    rw [show (w2.alloc (Obj.cells #[] 117)).cell? ((⟨b, o, none⟩ : Addr).add t) = w.cell? ((⟨b, o, none⟩ : Addr).add t) from (belowNext C2 CE).cell (by rw [Addr.add_lit]; exact hbw)]
    exact flatL_cell (g3.le (by omega)) t u hu) (flatL_pip (f := fun i => i)) (by omega)
  simp only [Nat.zero_add, List.nil_append] at hr row
  have C3e := kP (B := w.heap.size + 2) (kal (Below.refl _ w2) hB2 (Obj.cells #[] 117)) U3 hB2 hB2
  have hr3B : w.heap.size + 2 ≤ r3 := by simp at hr3; omega
  have HA3 := Lib.hid (A2.below C3e (by omega))
  have HR3 := Lib.hid (R2.below C3e (by omega))
  have HC3 := Lib.hid (C2.trans (C3e.mono (by omega)))
  have hB3 : w.heap.size + 2 ≤ W3.heap.size := Nat.le_trans hB2 C3e.size
  have HRow := Lib.hid row
  have hr3lt := row.lt
  have hkc : k ≤ c1 := Nat.le_trans (Nat.le_of_lt hkm) HM.out
  have hkc1 : k + 1 ≤ c1 := Nat.le_trans hkm HM.out
  clear U3 C3e row A2 R2 C2 CE g3 hr3 HC1
  go_wp2_with (at_builtin; refine wpList_appT hr rfl _ _ rfl rfl rfl rfl ?_)
  clear hr e0 e1 e2
  have e0 := HA3.out.b0
  have e1 := HA3.out.b1
  have s1 := Lib.hid (flatL_len (fun i j => pipC P (k + 1 + i) j) (m - (k + 1)) 5)
  have s2 := Lib.hid (flatL_pip (P := P) (n := m - (k + 1)) (f := fun i => k + 1 + i))
  have hkj : k + (m - (k + 1)) ≤ 2000000 := by omega
  have hwB : w.heap.size ≤ w.heap.size + 2 := by omega
  have hw0 : w.heap.size < w.heap.size + 2 := by omega
  have hw1 : w.heap.size + 1 < w.heap.size + 2 := by omega
  have hne : w.heap.size ≠ w.heap.size + 1 := by omega
  have hcs := Lib.hid (without_cells (P := P) hkm)
  have HQ : Hid (m - 1 = k + (m - (k + 1))) := Lib.hid (by omega)
  have hnds : (32 : Nat) ≤ 64 := by omega
  have hi0 : (0 : Int) ≤ (k : Int) + 1 := by omega
  have hi1 : (k : Int) + 1 ≤ m := by omega
  have Q0 : Below (w.heap.size + 2) W3 W3.drew := below_dw (Below.refl _ _)
  have hi3 : ((k : Int) + 1).toNat = k + 1 := by omega
  have hi2 : IntKind.i64.wrap ((k : Int) + 1) = (k : Int) + 1 := IntWalk.i64_in _ (by omega)
  go_region_held_law (fun w' => w'.cell? ⟨w.heap.size, 0, none⟩ = some (.slice p0 n c0) ∧ w'.cell? ⟨w.heap.size, 1, none⟩ = some (.slice (some ⟨b, o, none⟩) m c1))
    (first | exact ⟨e0, e1⟩ | exact own_K HA3.out hw0 (kal Q0 hB3 _) | exact ⟨((((Only.refl (w.heap.size + 1) _).setCell _ _).setCell _ _).cell (a := ⟨w.heap.size, 0, none⟩) hne).trans (own_K HA3.out hw0 KX).1, ((((Only.refl (w.heap.size + 1) _).setCell _ _).setCell _ _).cell (a := ⟨w.heap.size, 1, none⟩) hne).trans (own_K HA3.out hw0 KX).2⟩ | exact own_K HA3.out hw0 KX | exact own_K HA3.out hw0 KA | exact own_K HA3.out hw0 KB | exact own_K HA3.out hw0 (kal KB hB3 _))
    (first
      | (refine step_appE Try.underlying30 info_make_node hnds rfl (.tmp 21) (.tmp 23) rfl rfl _ rfl p0 n c0 rfl (nodC N) lo hi (HC0.out.below (HC3.out.trans (Below.mono (by first | exact KB | exact kal KB hB3 _ | exact kal Q0 hB3 _) hwB)) hhi) hn2 ?_; intro pa ca wa ga oa ba la; have KA : Below (w.heap.size + 2) W3 wa := (by first | exact kN KB ba hB3 | exact kN (kal KB hB3 _) ba hB3 | exact kN (kal Q0 hB3 _) ba hB3); (first | (have OX := (by first | exact ox.next ba | exact (ox.next (below_new _ _)).next ba : OwnS wa (.slice (some ⟨gp, 0, none⟩) (k + (m - (k + 1))) cp) (k + (m - (k + 1))) 5 (pipC (wpP P k)) gp); have NX := oa; have KX := KA; have hd : n = 0 ∨ k + (m - (k + 1)) = 0 ∨ ga ≠ gp := (by first | exact hd2 rb.lt (Nat.le_refl _) la | exact hd2 rb.lt (below_new _ _).size la); have hga := Nat.le_trans (Below.size KB) (by first | exact la | exact Nat.le_trans (below_new _ _).size la); have FX := HR3.out.below KX hw1; have fx0 := FX.b0; have fx1 := FX.b1; have kx0 := FX.free 0; have kx1 := FX.free 1) | (have RA := ((HRow.out.keep rfl : Row5 W3.drew r3 cap3 k (flatL (pipC P) k 5)).next (below_new _ _)).next ba; have hna := ne_new hr3lt (kal Q0 hB3 _) la; have hga := Nat.le_trans (kal Q0 hB3 _).size la)))
      | (refine step_appP rfl (.tmp 25) (.tmp 30) rfl rfl r3 cap3 k rfl ⟨b, x, none⟩ (m - (k + 1)) (c1 - (k + 1)) rfl (flatL (pipC P) k 5) (flatL (fun i j => pipC P (k + 1 + i) j) (m - (k + 1)) 5) (by first | exact RA | exact (HRow.out.keep rfl : Row5 W3.drew r3 cap3 k (flatL (pipC P) k 5)) | exact (HRow.out.keep rfl : Row5 W3.drew r3 cap3 k (flatL (pipC P) k 5)).next (below_new _ _)) s1.out (src_at hsrc.out hbw (HC3.out.trans (Below.mono (by first | exact KA | exact Q0 | exact kal Q0 hB3 _) hwB))) s2.out hkj ?_; intro gp cp wb rb UP hgp; have KB : Below (w.heap.size + 2) W3 wb := (by first | exact kP KA UP hB3 hr3B | exact kP Q0 UP hB3 hr3B | exact kP (kal Q0 hB3 _) UP hB3 hr3B); have ox := rb.ownS hcs.out; have hgB := gpB hgp hr3B (by first | exact KA | exact Q0 | exact kal Q0 hB3 _) hB3; (first | (have NX := oa.upd UP (.inr hna); have OX := ox; have KX := KB; have hd : n = 0 ∨ k + (m - (k + 1)) = 0 ∨ ga ≠ gp := hd1 oa.lt hna hgp; have FX := HR3.out.below KX hw1; have fx0 := FX.b0; have fx1 := FX.b1; have kx0 := FX.free 0; have kx1 := FX.free 1) | skip)))
  all_goals
    clear hi2 hi3
    go_wp2_with fail
    refine bodyPost_ret (v := .tuple #[.agg #[.slice pa n ca, .slice (some ⟨gp, 0, none⟩) (k + (m - (k + 1))) cp], .int .i64 0]) (by simp [results, Try.results90, go_sem, fx0, fx1]) rfl (ni_okW (HT.out n) ((HT.out (m - 1)).trans HQ.out) HC.out rfl NX OX hd hB3 hga hgB HC3.out KX)
end Go.Proofs.Ytpgcieefipjjfaa.mem
