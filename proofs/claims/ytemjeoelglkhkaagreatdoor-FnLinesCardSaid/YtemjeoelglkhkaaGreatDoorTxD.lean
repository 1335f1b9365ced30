/-
  The line of a pipe of a network, in the model and in the program. Conditions: as each states.
-/
import Derived.Test.YtemjeoelglkhkaaGreatDoorRows
import Derived.Test.YtemjeoelglkhkaaGreatDoorTxC
import Derived.WalkKit
import Derived.ProofKit
import Derived.Lib.Hide
import Derived.Deep.RegionHeld3
import Derived.OwnWalk
namespace Go.Proofs.YtemjeoelglkhkaaGreatDoor.text
open Go.RowKit Go.Proofs.YtemjeoelglkhkaaGreatDoor.mem
set_option linter.unusedVariables false
set_option maxRecDepth 100000

theorem net_all {n : Nat} {N : Nat → Nod} {m : Nat} {P : Nat → Pip} (h : netB n N m P = true) : (∀ i, i < n → nodB (N i) = true) ∧ (∀ k, k < m → pipB n (P k) = true) ∧ n ≤ 24 ∧ m ≤ 40 := by
  unfold netB at h
  simp only [Bool.and_eq_true] at h
  exact ⟨(nodesB_iff.1 h.1.2).1, pipesB_iff.1 h.2, (szB_iff.1 h.1.1).2.1, (szB_iff.1 h.1.1).2.2⟩
theorem pip_all {n : Int} {q : Pip} (h : pipB n q = true) : (0 ≤ q.f ∧ q.f ≤ n - 1) ∧ (0 ≤ q.t ∧ q.t ≤ n - 1) ∧ (0 ≤ q.k ∧ q.k ≤ 1000000000) ∧ (0 ≤ q.v ∧ q.v ≤ 1000000000) ∧ (0 ≤ q.l ∧ q.l ≤ 1000000000) := by
  unfold pipB at h
  simp only [Bool.and_eq_true, inR_iff] at h
  obtain ⟨⟨⟨⟨⟨h1, h2⟩, _⟩, h3⟩, h4⟩, h5⟩ := h
  omega
theorem src_of {w : World} {v : Value} {n : Nat} {N : Nat → Nod} {m : Nat} {P : Nat → Pip} {lo hi k : Nat} (h : NetAt w v n N m P lo hi) (hhi : hi ≤ w.heap.size) (hv : netB n N m P = true) (hk : k < m) : ∃ f t, Src w v n N hi (P k) f t := by
  obtain ⟨h1, h2, _⟩ := net_all hv
  obtain ⟨q1, q2, q3, q4, q5⟩ := pip_all (h2 k hk)
  obtain ⟨f, hf⟩ := Int.eq_ofNat_of_zero_le q1.1
  obtain ⟨t, ht⟩ := Int.eq_ofNat_of_zero_le q2.1
  obtain ⟨v0, v1, rfl, g0, g1⟩ := h.ex
  obtain ⟨p0, c0, rfl, _, _, g0⟩ := g0.ex
  obtain ⟨p1, c1, rfl, _, _, _⟩ := g1.ex
  have hfn : f < n := by omega
  have htn : t < n := by omega
  rcases g0 with g0 | ⟨b, o, rfl, b1, b2, ga⟩
  · omega
  exact ⟨f, t, ⟨b, o, c0, p1, m, c1, rfl, b2, ga.cell f 0 hfn (by omega), ga.cell t 0 htn (by omega)⟩, hhi, hf, ht, hfn, htn, (nod_bd (h1 f hfn)).1, (nod_bd (h1 t htn)).1, q3, q4, q5⟩
noncomputable def plC (n : Nat) (N : Nat → Nod) (m : Nat) (P : Nat → Pip) (x : Int) : Int := codeB (netB n N m P) (inR x 0 (m - 1))
noncomputable def plT (n : Nat) (N : Nat → Nod) (m : Nat) (P : Nat → Pip) (x : Int) : List UInt8 := if plC n N m P x = 0 then pipeL N (P x.toNat) else []
def TxPost (w : World) (l : List UInt8) (c : Int) (e : Ending) (w' : World) : Prop := e = .returned (.tuple #[.string ⟨l.toArray⟩, .int .i64 c]) ∧ Below w.heap.size w w'
theorem code_yes {b r : Bool} (h : codeB b r = 0) : b = true ∧ r = true := by
  unfold codeB at h
  cases b <;> cases r <;> simp at h ⊢

set_option maxHeartbeats 4000000 in
theorem pipeLineS_any (w : World) (v : Value) (n : Nat) (N : Nat → Nod) (m : Nat) (P : Nat → Pip) (lo hi : Nat) (h : NetAt w v n N m P lo hi) (hhi : hi ≤ w.heap.size) (hN : ∀ i, i < n → (N i).s.size ≤ 9223372036854775807) (x : Int) :
    Calls Tryz.prog 19 #[v, .int .i64 x] w (TxPost w (plT n N m P x) (plC n N m P x)) := by
  obtain ⟨v0, v1, rfl, g0, g1⟩ := h.ex
  obtain ⟨p0, c0, rfl⟩ := g0.shape
  obtain ⟨p1, c1, rfl⟩ := g1.shape
  have H := Lib.hid h
  have HN := Lib.hid hN
  have HC1 : Hid (m = 0 ∨ ∃ b o, p1 = some ⟨b, o, none⟩ ∧ lo ≤ b ∧ b < hi ∧ At w b o m 5 (pipC P)) := by
    obtain ⟨p, cap, hv, _, _, hc⟩ := g1.ex
    injection hv with e1 _ e2
    subst e1
    exact Lib.hid hc
  clear h hN g0 g1
  have A1 := boxed w (.slice p0 n c0) (.slice p1 m c1) 25
  have C1 := below_new w (.cells #[.slice p0 n c0, .slice p1 m c1] 25)
  have hs1 := C1.size
  go_enter Tryz.func19, Tryz.ntmps19
  go_wp2_with fail
  generalize hW : w.alloc (Obj.cells #[.slice p0 n c0, .slice p1 m c1] 25) = w1 at *
  clear hW
  have hl1 := A1.lt
  refine (l02PipeCode_any w1 _ n N m P lo hi (H.out.below C1 hhi) (by omega) HN.out x).mono ?_
  rintro e w2 ⟨rfl, b2⟩
  have A2 := A1.below b2 hl1
  have C2 := Lib.hid (C1.trans (b2.mono hs1))
  have hs2 := Nat.le_trans hs1 b2.size
  have hl2 := A2.lt
  clear A1 C1 b2
  obtain ⟨c, hcd⟩ : ∃ c, c = codeB (netB n N m P) (inR x 0 (m - 1)) := ⟨_, rfl⟩
  rw [← hcd]
  have hc : plC n N m P x = c := by rw [hcd]; rfl
  by_cases hz : c = 0
  · subst hz
    obtain ⟨hv, hx⟩ := code_yes hcd.symm
    have hx' := inR_iff.1 hx
    obtain ⟨k, rfl⟩ := Int.eq_ofNat_of_zero_le hx'.1
    have hk : k < m := by omega
    have hkI : (k : Int) < m := by omega
    have hT : Hid (plT n N m P k = pipeL N (P k)) := Lib.hid (by unfold plT; rw [if_pos hc, Int.toNat_natCast])
    have HCD := Lib.hid hc
    rcases HC1.out with h0 | ⟨b, o, rfl, hlo, hb, g3⟩
    · omega
    have hbw : b < w.heap.size := by omega
    have hbw2 : b < w2.heap.size := by omega
    obtain ⟨f, t, hsrc⟩ := src_of (H.out.below (C2.out.trans ⟨rfl, rfl, rfl, Nat.le_refl _, fun _ _ => rfl⟩ : Below w.heap.size w w2.drew) hhi) (by show hi ≤ w2.heap.size; omega) hv hk
    have HS := Lib.hid hsrc
    have y0 : w2.cell? ⟨b, o + k * 5, none⟩ = some (.int .i64 (P k).f) := (C2.out.cell (p := ⟨b, o + k * 5, none⟩) hbw).trans (g3.cell k 0 hk (by omega))
    have y1 : w2.cell? ⟨b, o + k * 5 + 1, none⟩ = some (.int .i64 (P k).t) := (C2.out.cell (p := ⟨b, o + k * 5 + 1, none⟩) hbw).trans (g3.cell k 1 hk (by omega))
    have y2 : w2.cell? ⟨b, o + k * 5 + 2, none⟩ = some (.int .i64 (P k).k) := (C2.out.cell (p := ⟨b, o + k * 5 + 2, none⟩) hbw).trans (g3.cell k 2 hk (by omega))
    have y3 : w2.cell? ⟨b, o + k * 5 + 3, none⟩ = some (.int .i64 (P k).v) := (C2.out.cell (p := ⟨b, o + k * 5 + 3, none⟩) hbw).trans (g3.cell k 3 hk (by omega))
    have y4 : w2.cell? ⟨b, o + k * 5 + 4, none⟩ = some (.int .i64 (P k).l) := (C2.out.cell (p := ⟨b, o + k * 5 + 4, none⟩) hbw).trans (g3.cell k 4 hk (by omega))
    have a0 := A2.b0
    have a1 := A2.b1
    clear g3 hsrc hc hcd
    go_wp2_with fail
    have hAny : ∀ X : World, Below w2.heap.size w2 X → (fun w' : World => w'.cell? ⟨w.heap.size, 0, none⟩ = some (.slice p0 n c0) ∧ w'.cell? ⟨w.heap.size, 1, none⟩ = some (.slice (some ⟨b, o, none⟩) m c1) ∧ w'.cell? ⟨b, o + k * 5, none⟩ = some (.int .i64 (P k).f) ∧ w'.cell? ⟨b, o + k * 5 + 1, none⟩ = some (.int .i64 (P k).t) ∧ w'.cell? ⟨b, o + k * 5 + 2, none⟩ = some (.int .i64 (P k).k) ∧ w'.cell? ⟨b, o + k * 5 + 3, none⟩ = some (.int .i64 (P k).v) ∧ w'.cell? ⟨b, o + k * 5 + 4, none⟩ = some (.int .i64 (P k).l)) X := fun X h => ⟨(h.cell (p := ⟨_, 0, none⟩) hl2).trans a0, (h.cell (p := ⟨_, 1, none⟩) hl2).trans a1, (h.cell (p := ⟨b, o + k * 5, none⟩) hbw2).trans y0, (h.cell (p := ⟨b, o + k * 5 + 1, none⟩) hbw2).trans y1, (h.cell (p := ⟨b, o + k * 5 + 2, none⟩) hbw2).trans y2, (h.cell (p := ⟨b, o + k * 5 + 3, none⟩) hbw2).trans y3, (h.cell (p := ⟨b, o + k * 5 + 4, none⟩) hbw2).trans y4⟩
    have K0 : Below w2.heap.size w2 w2.drew := ⟨rfl, rfl, rfl, Nat.le_refl _, fun _ _ => rfl⟩
    clear A2
    go_region_held3 (fun w' : World => w'.cell? ⟨w.heap.size, 0, none⟩ = some (.slice p0 n c0) ∧ w'.cell? ⟨w.heap.size, 1, none⟩ = some (.slice (some ⟨b, o, none⟩) m c1) ∧ w'.cell? ⟨b, o + k * 5, none⟩ = some (.int .i64 (P k).f) ∧ w'.cell? ⟨b, o + k * 5 + 1, none⟩ = some (.int .i64 (P k).t) ∧ w'.cell? ⟨b, o + k * 5 + 2, none⟩ = some (.int .i64 (P k).k) ∧ w'.cell? ⟨b, o + k * 5 + 3, none⟩ = some (.int .i64 (P k).v) ∧ w'.cell? ⟨b, o + k * 5 + 4, none⟩ = some (.int .i64 (P k).l)) (first | exact hAny _ K0 | exact hAny _ KX)
      (first | (go_at_call 46; refine (sPipe_any _ _ n N hi (P k) f t HS.out).mono ?_; rintro e wx ⟨rfl, bx⟩; have KX : Below w2.heap.size w2 wx := K0.trans (bx.mono (Nat.le_refl _))))
    go_wp2_with fail
    refine bodyPost_ret (v := .tuple #[.string ⟨(pipeL N (P k)).toArray⟩, .int .i64 0]) (by simp [results, Tryz.results19, go_sem]) rfl ⟨by rw [hT.out, HCD.out], C2.out.trans (KX.mono hs2)⟩
  · have hz' : (c != 0) = true := by simpa using hz
    have hT : Hid (plT n N m P x = []) := Lib.hid (by unfold plT; rw [if_neg (by rw [hc]; exact hz)])
    have HCD := Lib.hid hc
    clear hc hcd
    go_wp2_with fail
    refine bodyPost_ret (v := .tuple #[.string ⟨#[]⟩, .int .i64 c]) (by simp [results, Tryz.results19, go_sem]) rfl ⟨by rw [hT.out, HCD.out], C2.out⟩
set_option maxHeartbeats 4000000 in
theorem pipeLineI_any (w : World) (v : Value) (n : Nat) (N : Nat → Nod) (m : Nat) (P : Nat → Pip) (lo hi : Nat) (h : NetAt w v n N m P lo hi) (hhi : hi ≤ w.heap.size) (hN : ∀ i, i < n → (N i).s.size ≤ 9223372036854775807) (x : Int) (hp : Pow w) :
    Calls Tryz.prog 18 #[v, .int .i64 x] w (TxPost w (plT n N m P x) (plC n N m P x)) := by
  obtain ⟨v0, v1, rfl, g0, g1⟩ := h.ex
  obtain ⟨p0, c0, rfl⟩ := g0.shape
  obtain ⟨p1, c1, rfl⟩ := g1.shape
  have H := Lib.hid h
  have HN := Lib.hid hN
  have HC1 : Hid (m = 0 ∨ ∃ b o, p1 = some ⟨b, o, none⟩ ∧ lo ≤ b ∧ b < hi ∧ At w b o m 5 (pipC P)) := by
    obtain ⟨p, cap, hv, _, _, hc⟩ := g1.ex
    injection hv with e1 _ e2
    subst e1
    exact Lib.hid hc
  clear h hN g0 g1
  have HP := Lib.hid hp
  clear hp
  have A1 := boxed w (.slice p0 n c0) (.slice p1 m c1) 25
  have C1 := below_new w (.cells #[.slice p0 n c0, .slice p1 m c1] 25)
  have hs1 := C1.size
  go_enter Tryz.func18, Tryz.ntmps18
  go_wp2_with fail
  generalize hW : w.alloc (Obj.cells #[.slice p0 n c0, .slice p1 m c1] 25) = w1 at *
  clear hW
  have hl1 := A1.lt
  refine (checkPipe_any w1 _ n N m P lo hi (H.out.below C1 hhi) (by omega) HN.out x).mono ?_
  rintro e w2 ⟨rfl, b2⟩
  have A2 := A1.below b2 hl1
  have C2 := Lib.hid (C1.trans (b2.mono hs1))
  have hs2 := Nat.le_trans hs1 b2.size
  have hl2 := A2.lt
  clear A1 C1 b2
  obtain ⟨c, hcd⟩ : ∃ c, c = codeB (netB n N m P) (inR x 0 (m - 1)) := ⟨_, rfl⟩
  rw [← hcd]
  have hc : plC n N m P x = c := by rw [hcd]; rfl
  by_cases hz : c = 0
  · subst hz
    obtain ⟨hv, hx⟩ := code_yes hcd.symm
    have hx' := inR_iff.1 hx
    obtain ⟨k, rfl⟩ := Int.eq_ofNat_of_zero_le hx'.1
    have hk : k < m := by omega
    have hkI : (k : Int) < m := by omega
    have hT : Hid (plT n N m P k = pipeL N (P k)) := Lib.hid (by unfold plT; rw [if_pos hc, Int.toNat_natCast])
    have HCD := Lib.hid hc
    rcases HC1.out with h0 | ⟨b, o, rfl, hlo, hb, g3⟩
    · omega
    have hbw : b < w.heap.size := by omega
    have hbw2 : b < w2.heap.size := by omega
    obtain ⟨f, t, hsrc⟩ := src_of (H.out.below (C2.out.trans ⟨rfl, rfl, rfl, Nat.le_refl _, fun _ _ => rfl⟩ : Below w.heap.size w w2.drew) hhi) (by show hi ≤ w2.heap.size; omega) hv hk
    have HS := Lib.hid hsrc
    have y0 : w2.cell? ⟨b, o + k * 5, none⟩ = some (.int .i64 (P k).f) := (C2.out.cell (p := ⟨b, o + k * 5, none⟩) hbw).trans (g3.cell k 0 hk (by omega))
    have y1 : w2.cell? ⟨b, o + k * 5 + 1, none⟩ = some (.int .i64 (P k).t) := (C2.out.cell (p := ⟨b, o + k * 5 + 1, none⟩) hbw).trans (g3.cell k 1 hk (by omega))
    have y2 : w2.cell? ⟨b, o + k * 5 + 2, none⟩ = some (.int .i64 (P k).k) := (C2.out.cell (p := ⟨b, o + k * 5 + 2, none⟩) hbw).trans (g3.cell k 2 hk (by omega))
    have y3 : w2.cell? ⟨b, o + k * 5 + 3, none⟩ = some (.int .i64 (P k).v) := (C2.out.cell (p := ⟨b, o + k * 5 + 3, none⟩) hbw).trans (g3.cell k 3 hk (by omega))
    have y4 : w2.cell? ⟨b, o + k * 5 + 4, none⟩ = some (.int .i64 (P k).l) := (C2.out.cell (p := ⟨b, o + k * 5 + 4, none⟩) hbw).trans (g3.cell k 4 hk (by omega))
    have a0 := A2.b0
    have a1 := A2.b1
    clear g3 hsrc hc hcd
    go_wp2_with fail
    have hAny : ∀ X : World, Below w2.heap.size w2 X → (fun w' : World => w'.cell? ⟨w.heap.size, 0, none⟩ = some (.slice p0 n c0) ∧ w'.cell? ⟨w.heap.size, 1, none⟩ = some (.slice (some ⟨b, o, none⟩) m c1) ∧ w'.cell? ⟨b, o + k * 5, none⟩ = some (.int .i64 (P k).f) ∧ w'.cell? ⟨b, o + k * 5 + 1, none⟩ = some (.int .i64 (P k).t) ∧ w'.cell? ⟨b, o + k * 5 + 2, none⟩ = some (.int .i64 (P k).k) ∧ w'.cell? ⟨b, o + k * 5 + 3, none⟩ = some (.int .i64 (P k).v) ∧ w'.cell? ⟨b, o + k * 5 + 4, none⟩ = some (.int .i64 (P k).l)) X := fun X h => ⟨(h.cell (p := ⟨_, 0, none⟩) hl2).trans a0, (h.cell (p := ⟨_, 1, none⟩) hl2).trans a1, (h.cell (p := ⟨b, o + k * 5, none⟩) hbw2).trans y0, (h.cell (p := ⟨b, o + k * 5 + 1, none⟩) hbw2).trans y1, (h.cell (p := ⟨b, o + k * 5 + 2, none⟩) hbw2).trans y2, (h.cell (p := ⟨b, o + k * 5 + 3, none⟩) hbw2).trans y3, (h.cell (p := ⟨b, o + k * 5 + 4, none⟩) hbw2).trans y4⟩
    have K0 : Below w2.heap.size w2 w2.drew := ⟨rfl, rfl, rfl, Nat.le_refl _, fun _ _ => rfl⟩
    clear A2
    go_region_held3 (fun w' : World => w'.cell? ⟨w.heap.size, 0, none⟩ = some (.slice p0 n c0) ∧ w'.cell? ⟨w.heap.size, 1, none⟩ = some (.slice (some ⟨b, o, none⟩) m c1) ∧ w'.cell? ⟨b, o + k * 5, none⟩ = some (.int .i64 (P k).f) ∧ w'.cell? ⟨b, o + k * 5 + 1, none⟩ = some (.int .i64 (P k).t) ∧ w'.cell? ⟨b, o + k * 5 + 2, none⟩ = some (.int .i64 (P k).k) ∧ w'.cell? ⟨b, o + k * 5 + 3, none⟩ = some (.int .i64 (P k).v) ∧ w'.cell? ⟨b, o + k * 5 + 4, none⟩ = some (.int .i64 (P k).l)) (first | exact hAny _ K0 | exact hAny _ KX)
      (first | (go_at_call 44; refine (lineOf_any _ _ n N hi (P k) f t HS.out (pow_below HP.out (C2.out.trans ⟨rfl, rfl, rfl, Nat.le_refl _, fun _ _ => rfl⟩))).mono ?_; rintro e wx ⟨rfl, bx⟩; have KX : Below w2.heap.size w2 wx := K0.trans (bx.mono (Nat.le_refl _))))
    go_wp2_with fail
    refine bodyPost_ret (v := .tuple #[.string ⟨(pipeL N (P k)).toArray⟩, .int .i64 0]) (by simp [results, Tryz.results18, go_sem]) rfl ⟨by rw [hT.out, HCD.out], C2.out.trans (KX.mono hs2)⟩
  · have hz' : (c != 0) = true := by simpa using hz
    have hT : Hid (plT n N m P x = []) := Lib.hid (by unfold plT; rw [if_neg (by rw [hc]; exact hz)])
    have HCD := Lib.hid hc
    clear hc hcd
    go_wp2_with fail
    refine bodyPost_ret (v := .tuple #[.string ⟨#[]⟩, .int .i64 c]) (by simp [results, Tryz.results18, go_sem]) rfl ⟨by rw [hT.out, HCD.out], C2.out⟩
end Go.Proofs.YtemjeoelglkhkaaGreatDoor.text
