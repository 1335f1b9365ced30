/-
  Several texts in one: Csw, Csx, Thm, Lfa.
-/
import Derived.Test.YtpgcieefipjjfaaRows
import Derived.Test.YtpgcieefipjjfaaCsM
import Derived.Test.YtpgcieefipjjfaaBaM
import Derived.Test.YtpgcieefipjjfaaBsM
namespace Go.Proofs.Ytpgcieefipjjfaa.mem
open Go.RowKit
set_option linter.unusedVariables false

/-- an own list of K own lists of m numbers, all from block B on, all in blocks of their own -/
structure Bas (w : World) (v : Value) (K m : Nat) (Y : Nat → Nat → Int) (B : Nat) : Prop where
  ex : ∃ (G C : Nat → Nat), RowE B 40 1 w v K (fun i _ => .slice (some ⟨G i, 0, none⟩) m (C i)) ∧ (∀ i, i < K → Own w (.slice (some ⟨G i, 0, none⟩) m (C i)) m (Y i) (G i) ∧ B ≤ G i) ∧ (∀ i j, i < j → j < K → G i < G j)
theorem row_own {B z : Nat} {w : World} {v u : Value} {K n g : Nat} {c : Nat → Nat → Value} {d : Nat → Int} (h : RowE B 40 z w v K c) (o : Own w u n d g) : v.ownBlock ≠ some g := by
  intro hk
  rcases h.own.2 with ⟨rfl, _⟩ | ⟨q, cap, cur, rfl, _, h3, _⟩
  · simp [Value.ownBlock] at hk
  obtain ⟨cap', cur', _, h1, _⟩ := o.ex
  simp [Value.ownBlock] at hk
  subst hk
  rw [h3] at h1
  injection h1 with h1
  injection h1 with _ h1
  exact absurd h1 (by decide)
theorem bas_nil {B m : Nat} {Y : Nat → Nat → Int} (w : World) (hB : B ≤ w.heap.size) : Bas (w.alloc (.cells #[] 40)) (.slice (some ⟨w.heap.size, 0, none⟩) 0 0) 0 m Y B :=
  ⟨fun _ => 0, fun _ => 0, rowE_nil w _ hB, fun i hi => by omega, fun i j _ hj => by omega⟩
theorem Bas.shape {w : World} {v : Value} {K m B : Nat} {Y : Nat → Nat → Int} (h : Bas w v K m Y B) : ∃ p cap, v = .slice p K cap := by
  obtain ⟨G, C, h1, _⟩ := h.ex
  exact h1.shape
theorem Bas.next {w w' : World} {v : Value} {K m B : Nat} {Y : Nat → Nat → Int} (h : Bas w v K m Y B) (b : Below w.heap.size w w') : Bas w' v K m Y B := by
  obtain ⟨G, C, h1, h2, h3⟩ := h.ex
  exact ⟨G, C, h1.next b, fun i hi => ⟨(h2 i hi).1.below b (Nat.le_refl _), (h2 i hi).2⟩, h3⟩
theorem Bas.low {w : World} {v : Value} {K m B B' : Nat} {Y : Nat → Nat → Int} (h : Bas w v K m Y B) (hB : B' ≤ B) : Bas w v K m Y B' := by
  obtain ⟨G, C, h1, h2, h3⟩ := h.ex
  refine ⟨G, C, ⟨h1.own.1, ?_⟩, fun i hi => ⟨(h2 i hi).1, by have := (h2 i hi).2; omega⟩, h3⟩
  rcases h1.own.2 with h | ⟨g, cap, cur, e, hg, h⟩
  · exact .inl h
  · exact .inr ⟨g, cap, cur, e, by omega, h⟩
theorem info_ints : (Try.prog.info? 40).map (fun i => (i.zero, i.size, i.bytes)) = some (some (.slice none 0 0), 1, 24) := by kernel_rfl
/-- one more list behind it -/
theorem Bas.app {w W : World} {v : Value} {K m B : Nat} {Y : Nat → Nat → Int} (h : Bas w v K m Y B) (hB : B ≤ w.heap.size) (b : Below w.heap.size w W) {g c : Nat} (o : Own W (.slice (some ⟨g, 0, none⟩) m c) m (Y K) g) (hg : w.heap.size ≤ g) (hK : K ≤ 1000000) :
    ∃ v' w', Sem.run Try.prog (Builtin.append_ #[27, 27] 27 #[v, .slice (some ⟨W.heap.size, 0, none⟩) 1 1]) (W.alloc (.cells #[.slice (some ⟨g, 0, none⟩) m c] 40)) = .ok v' w' ∧ Bas w' v' (K + 1) m Y B ∧ Below B W w' ∧ (∀ q, v.ownBlock ≠ some q → q < W.heap.size → w'.heap[q]? = W.heap[q]?) := by
  obtain ⟨G, C, h1, h2, h3⟩ := h.ex
  have hBW : B ≤ W.heap.size := Nat.le_trans hB b.size
  have r1 := h1.next b
  obtain ⟨v', w', hr, hrow, u⟩ := appOne (c' := fun i _ => .slice (some ⟨if i = K then g else G i, 0, none⟩) m (if i = K then c else C i)) Try.underlying27 info_ints (by omega) rfl (by omega) B W v K _ r1 hBW [.slice (some ⟨g, 0, none⟩) m c] rfl (by intro q hq; simp at hq; subst hq; rfl)
    (fun i j hi hj => by rw [if_neg (by omega), if_neg (by omega)]) (fun j hj => by obtain rfl : j = 0 := (by omega); (show some _ = _); rw [if_pos rfl, if_pos rfl]) hK
  refine ⟨v', w', hr, ⟨fun i => if i = K then g else G i, fun i => if i = K then c else C i, hrow, fun i hi => ?_, fun i j hij hj => ?_⟩, u.below hBW (fun k _ hk => (r1.own.lt k hk.symm).1), fun q hq hl => u.block q hl (fun e => hq e.symm)⟩
  · dsimp only
    by_cases e : i = K
    · subst e
      rw [if_pos rfl, if_pos rfl]
      exact ⟨o.keep (u.block g o.lt (fun e => row_own r1 o e.symm)), by omega⟩
    · rw [if_neg e, if_neg e]
      obtain ⟨o1, o2⟩ := h2 i (by omega)
      have o3 := o1.below b (Nat.le_refl _)
      exact ⟨o3.keep (u.block _ o3.lt (fun e => row_own r1 o3 e.symm)), o2⟩
  · dsimp only
    have hi : i ≠ K := by omega
    rw [if_neg hi]
    by_cases e : j = K
    · rw [if_pos e]
      have := (h2 i (by omega)).1.lt
      omega
    · rw [if_neg e]
      exact h3 i j hij (by omega)
set_option maxRecDepth 100000 in
set_option maxHeartbeats 8000000 in
theorem l05Basis_any (w : World) (v : Value) (n : Nat) (N : Nat → Nod) (m : Nat) (P : Nat → Pip) (lo hi : Nat) (h : NetAt w v n N m P lo hi) (hhi : hi ≤ w.heap.size) (hN : ∀ i, i < n → (N i).s.size ≤ 9223372036854775807) (hB : netB n N m P = true) :
    Calls Try.prog 60 #[v] w fun e w' => ∃ v2, e = .returned v2 ∧ Bas w' v2 (chN n P m) m (fun i => cyc P (fE n P m) (fD n P m) (chS n P m i)) w.heap.size ∧ Below w.heap.size w w' := by
  have hm40 := (net_sz hB).2.2
  have hcn := chN_le n P m
  have HB := Lib.hid hB
  clear hB
  obtain ⟨p0, c0, p1, c1, rfl, hn9, hm9⟩ := h.parts
  have HV := Lib.hid h
  have HN := Lib.hid hN
  have A0 := boxed w (.slice p0 n c0) (.slice p1 m c1) 33
  have B0 := below_new w (.cells #[.slice p0 n c0, .slice p1 m c1] 33)
  have hs0 : (w.alloc (.cells #[.slice p0 n c0, .slice p1 m c1] 33)).heap.size = w.heap.size + 1 := by simp
  clear h hN
  go_enter Try.func60, Try.ntmps60
  have e0' := A0.b0
  have e1' := A0.b1
  go_wp2_with fail
  refine (l05Chords_any _ _ n N m P lo hi (HV.out.below B0 hhi) (by omega) HN.out HB.out).mono ?_
  rintro e w1 ⟨vc, gc, rfl, oc, hgc, b1⟩
  obtain ⟨cc, rfl⟩ := oc.shape
  have A1 := A0.below b1 (by omega)
  have B1 := B0.trans (b1.mono (by omega))
  have hs1 := b1.size
  have lc := oc.lt
  have b2 := below_new w1 (.cells #[] 40)
  have hs2 : (w1.alloc (.cells #[] 40)).heap.size = w1.heap.size + 1 := by simp
  have HBN := Lib.hid (bas_nil (B := w1.heap.size) (m := m) (Y := fun i => cyc P (fE n P m) (fD n P m) (chS n P m i)) w1 (Nat.le_refl _))
  have HA := Lib.hid (A1.below b2 (by omega))
  have HC := Lib.hid (oc.below b2 (Nat.le_refl _))
  have HBB := Lib.hid (B1.trans (b2.mono (by omega)))
  clear A0 B0 b1 A1 B1 b2 oc e0' e1'
  go_wp2_with fail
  generalize hW : w1.alloc (.cells #[] 40) = w2 at *
  clear hW
  go_loopw [4, 5] (fun ov iv wr => ∃ (k : Nat) (ov' : Value), ov' = ov ∧ iv = .int .i64 k ∧ k ≤ chN n P m ∧ Bas wr ov' k m (fun i => cyc P (fE n P m) (fD n P m) (chS n P m i)) w1.heap.size ∧ Below w1.heap.size w2 wr) (fun _ iv _ => chN n P m - (intOf iv).toNat)
  case atStart => exact ⟨0, _, rfl, rfl, Nat.zero_le _, HBN.out, Below.refl _ _⟩
  case round =>
    obtain ⟨k, ov, rfl, rfl, hk, ho, hb⟩ := hrel
    obtain ⟨po, co, rfl⟩ := ho.shape
    clear HBN
    have HO := Lib.hid ho
    have HL := Lib.hid hb
    have hsz := hb.size
    clear ho hb
    have k0 : (0 : Int) ≤ (k : Int) := Int.natCast_nonneg _
    generalize hQ : Exit.then _ _ = Q
    have HQ := Lib.hid hQ
    clear hQ
    by_cases hlt : k < chN n P m
    · have k1 : (k : Int) < (chN n P m : Int) := by omega
      obtain ⟨hcm, hcp⟩ := chS_at (n := n) (P := P) (m := m) hlt
      have f0 : wr.cell? ⟨w.heap.size, 0, none⟩ = some (.slice p0 n c0) := (HA.out.below HL.out (by omega)).b0
      have f1 : wr.cell? ⟨w.heap.size, 1, none⟩ = some (.slice p1 m c1) := (HA.out.below HL.out (by omega)).b1
      have yc : wr.cell? ⟨gc, k, none⟩ = some (.int .i64 (chS n P m k : Nat)) := (HL.out.cell (p := ⟨gc, k, none⟩) lc).trans (HC.out.row.cell k hlt)
      have hAny : ∀ X : World, Below w1.heap.size wr X → X.cell? ⟨w.heap.size, 0, none⟩ = some (.slice p0 n c0) ∧ X.cell? ⟨w.heap.size, 1, none⟩ = some (.slice p1 m c1) ∧ X.cell? ⟨gc, k, none⟩ = some (.int .i64 (chS n P m k : Nat)) := fun X h => ⟨(h.cell (p := ⟨w.heap.size, 0, none⟩) (by show w.heap.size < _; omega)).trans f0, (h.cell (p := ⟨w.heap.size, 1, none⟩) (by show w.heap.size < _; omega)).trans f1, (h.cell (p := ⟨gc, k, none⟩) lc).trans yc⟩
      have HCP := Lib.hid hcp
      clear hcp
      go_wp2_with fail
      go_region_held3 (fun w' : World => w'.cell? ⟨w.heap.size, 0, none⟩ = some (.slice p0 n c0) ∧ w'.cell? ⟨w.heap.size, 1, none⟩ = some (.slice p1 m c1) ∧ w'.cell? ⟨gc, k, none⟩ = some (.int .i64 (chS n P m k : Nat)))
        (first | exact hAny _ (below_drw (Below.refl _ _)) | exact hAny _ KX | exact hAny _ KY | exact hAny _ KZ)
        (first
          | (go_at_call 99; refine (l05Cycle_any _ _ n N m P lo hi (((HV.out.below HBB.out hhi).below HL.out (by omega)).drew) (show hi ≤ wr.heap.size by omega) HN.out HB.out _ hcm HCP.out).mono ?_; rintro e wX ⟨v5, g5, rfl, o5, hg5, hb5⟩; obtain ⟨c5, rfl⟩ := o5.shape; have hb5' := below_dr0 hb5; have KX : Below w1.heap.size wr wX := hb5'.mono (by omega); obtain ⟨v7, wz, hr7, ba7, bw7, _⟩ := HO.out.app (by omega) hb5' o5 (show wr.heap.size ≤ g5 from hg5) (by omega); have zX := hb5'.size; have KY : Below w1.heap.size wr (wX.alloc (.cells #[.slice (some ⟨g5, 0, none⟩) m c5] 40)) := below_alloc KX (by omega) _; have KZ : Below w1.heap.size wr wz := KX.trans bw7)
          | (refine step_appT hr7 rfl (.tmp 15) (.tmp 22) rfl rfl rfl rfl ?_))
      have HO7 := Lib.hid ba7
      have HL7 := Lib.hid (HL.out.trans KZ)
      clear hAny KX KY KZ ba7 bw7 hr7 hb5 hb5' o5 f0 f1 yc
      go_wp2_with fail
      rw [← HQ.out]
      refine ⟨⟨_, _, _, _, _, _, _, _, _, _, _, _, _, _, _, _, _, ?rel, rfl⟩, ?measure⟩
      case rel => exact ⟨k + 1, v7, rfl, by go_num, hlt, HO7.out, HL7.out⟩
      case measure => simp [intOf]; omega
    · have hkn : chN n P m = k := by omega
      have HOF := Lib.hid (show Bas wr (.slice po k co) (chN n P m) m (fun i => cyc P (fE n P m) (fD n P m) (chS n P m i)) w1.heap.size by rw [hkn]; exact HO.out)
      have k1 : ¬ ((k : Int) < (chN n P m : Int)) := by omega
      clear hkn
      go_wp2_with fail
      rw [← HQ.out]
      go_wp2_with fail
      go_ret
      exact ⟨_, rfl, HOF.out.low (by omega), HBB.out.trans (HL.out.mono (by omega))⟩
end Go.Proofs.Ytpgcieefipjjfaa.mem

namespace Go.Proofs.Ytpgcieefipjjfaa.mem
open Go.RowKit
set_option linter.unusedVariables false

theorem Bas.at_ {w : World} {v : Value} {K m B : Nat} {Y : Nat → Nat → Int} (h : Bas w v K m Y B) : K = 0 ∨ ∃ (q cap : Nat) (G C : Nat → Nat), v = .slice (some ⟨q, 0, none⟩) K cap ∧ q < w.heap.size ∧ ∀ k, k < K → w.cell? ⟨q, k, none⟩ = some (.slice (some ⟨G k, 0, none⟩) m (C k)) ∧ Own w (.slice (some ⟨G k, 0, none⟩) m (C k)) m (Y k) (G k) := by
  obtain ⟨G, C, h1, h2, _⟩ := h.ex
  obtain ⟨q, o, _⟩ := h1.ownS
  obtain ⟨p, cap, e, _, _, h4⟩ := o.ex
  rcases h4 with h4 | ⟨rfl, r⟩
  · exact .inl h4
  · refine .inr ⟨q, cap, G, C, e, r.lt, fun k hk => ⟨?_, (h2 k hk).1⟩⟩
    have := r.cell k 0 hk (by omega)
    rwa [Nat.mul_one, Nat.add_zero] at this
theorem tot_ext {P : Nat → Pip} {E D : Int → Int} {cs : Nat → Nat} {am am' : Nat → Int} (a : Nat) : ∀ k, (∀ j, j < k → am j = am' j) → tot P E D cs am k a = tot P E D cs am' k a
  | 0, _ => rfl
  | k + 1, h => by
    show tot P E D cs am k a + am k * cyc P E D (cs k) a = tot P E D cs am' k a + am' k * cyc P E D (cs k) a
    rw [tot_ext a k (fun j hj => h j (by omega)), h k (by omega)]
theorem flo_bd2 {n : Nat} {N : Nat → Nod} {P : Nat → Pip} {m : Nat} (hN : netB n N m P = true) {am : Nat → Int} (a k : Nat) (hk : k ≤ chN n P m) (ha : ∀ j, j < k → -30000 ≤ am j ∧ am j ≤ 30000) : -90000 * (k : Int) ≤ flo n P m am k a ∧ flo n P m am k a ≤ 90000 * (k : Int) := by
  have h := flo_bd hN (am := fun j => if j < k then am j else 0) (fun j _ => by
    split
    · exact ha j ‹_›
    · omega) a k hk
  unfold flo at h ⊢
  rwa [tot_ext (am' := am) a k (fun j hj => if_pos hj)] at h
set_option maxRecDepth 100000 in
set_option maxHeartbeats 8000000 in
theorem fromChordsS_any (w : World) (v : Value) (n : Nat) (N : Nat → Nod) (m : Nat) (P : Nat → Pip) (lo hi : Nat) (h : NetAt w v n N m P lo hi) (hhi : hi ≤ w.heap.size) (hN : ∀ i, i < n → (N i).s.size ≤ 9223372036854775807) (va : Value) (K : Nat) (d : Nat → Int) (la ha : Nat) (hv : Sl w va K d la ha) (hha : ha ≤ w.heap.size) (hK9 : K ≤ 9223372036854775807) :
    Calls Try.prog 25 #[v, va] w (LIPost w (frN n N m P K d) (frD n P m d) (frC n N m P K d)) := by
  obtain ⟨p0, c0, p1, c1, rfl, hn9, hm9⟩ := h.parts
  have HV := Lib.hid h
  have HN := Lib.hid hN
  have A0 := boxed w (.slice p0 n c0) (.slice p1 m c1) 33
  have B0 := below_new w (.cells #[.slice p0 n c0, .slice p1 m c1] 33)
  have hs0 : (w.alloc (.cells #[.slice p0 n c0, .slice p1 m c1] 33)).heap.size = w.heap.size + 1 := by simp
  clear h hN
  go_enter Try.func25, Try.ntmps25
  have e0' := A0.b0
  have e1' := A0.b1
  go_wp2_with fail
  refine (sIsNetwork_any _ _ n N m P lo hi (HV.out.below B0 hhi) (by omega) HN.out).mono ?_
  rintro e w1 ⟨rfl, b1⟩
  have A1 := A0.below b1 (by omega)
  have B1 := B0.trans (b1.mono (by omega))
  have hs1 := b1.size
  have e0 := A1.b0
  have e1 := A1.b1
  have e2 : w.heap.size < w1.heap.size := by omega
  clear A0 B0 b1 e0' e1'
  cases hB : netB n N m P
  · have H2 := Lib.hid (show frC n N m P K d = 1 by unfold frC; rw [hB]; rfl)
    have H3 := Lib.hid (show frN n N m P K d = 0 by unfold frN; rw [H2.out]; rfl)
    clear hB
    go_wp2_with fail
    go_ret2
    exact li_err H3.out H2.out.symm rfl B1
  · have hm40 := (net_sz hB).2.2
    have hcn := chN_le n P m
    have HB := Lib.hid hB
    have H1 := Lib.hid (hv.below B1 hha)
    obtain ⟨pa, ca, rfl, hva⟩ := hv
    clear hva
    go_wp2_with fail
    refine (l05Basis_any w1 _ n N m P lo hi (HV.out.below B1 hhi) (by omega) HN.out HB.out).mono ?_
    rintro e w2 ⟨vb, rfl, hb2, b2⟩
    obtain ⟨pb, cb, rfl⟩ := hb2.shape
    have A2 := A1.below b2 e2
    have B2 := B1.trans (b2.mono (by omega))
    have hs2 := b2.size
    have H2 := Lib.hid (H1.out.below b2 (by omega))
    have HBA := Lib.hid hb2
    have f0 := A2.b0
    have f1 := A2.b1
    clear e0 e1 A1 b2 H1 hb2
    by_cases hK : K = chN n P m
    · have hb1 : ((K : Int) != (chN n P m : Int)) = false := by simp [hK]
      have HFC := Lib.hid (show frC n N m P K d = (if flB d K = true then (if flB (flo n P m d K) m = true then 0 else 2) else 2) by unfold frC; rw [hB, if_pos rfl, if_pos hK, hK])
      have HFD := Lib.hid (show frD n P m d = flo n P m d K by unfold frD; rw [hK])
      have HKK := Lib.hid hK
      have m1 := make_int64 w2 m (by omega)
      have b3 := below_new w2 (.cells (zeros m) 2)
      have hs3 : (w2.alloc (.cells (zeros m) 2)).heap.size = w2.heap.size + 1 := by simp
      have HO := Lib.hid ((Own.made w2 m (by omega)).congr (e := flo n P m d 0) (fun k hk => rfl))
      have HB3 := Lib.hid b3
      have HBB := Lib.hid (B2.trans (b3.mono (by omega)))
      clear hB hK b3
      go_wp2_with fail
      clear hb1 m1
      obtain ⟨w3, hw3⟩ : ∃ w3, w2.alloc (.cells (zeros m) 2) = w3 := ⟨_, rfl⟩
      rw [hw3] at HO HB3 HBB hs3 ⊢
      clear hw3
      go_loopw [7, 8] (fun ov iv wr => ∃ (k g : Nat) (ov' : Value), ov' = ov ∧ iv = .int .i64 k ∧ k ≤ K ∧ flB d k = true ∧ Own wr ov' m (flo n P m d k) g ∧ w1.heap.size ≤ g ∧ Below w2.heap.size w2 wr) (fun _ iv _ => K - (intOf iv).toNat)
      case atStart => exact ⟨0, w2.heap.size, _, rfl, rfl, Nat.zero_le _, rfl, HO.out, by omega, HB3.out⟩
      case round =>
        obtain ⟨k, g, ov, rfl, rfl, hk, hfb, ho, hg, hb⟩ := hrel
        obtain ⟨co, rfl⟩ := ho.shape
        clear HO HB3
        have HO := Lib.hid ho
        have HL := Lib.hid hb
        have HFB := Lib.hid hfb
        have lg := ho.lt
        have hsz := hb.size
        have g0 : wr.cell? ⟨w.heap.size, 0, none⟩ = some (.slice p0 n c0) := (hb.cell (p := ⟨w.heap.size, 0, none⟩) (by show w.heap.size < _; omega)).trans f0
        have g1 : wr.cell? ⟨w.heap.size, 1, none⟩ = some (.slice p1 m c1) := (hb.cell (p := ⟨w.heap.size, 1, none⟩) (by show w.heap.size < _; omega)).trans f1
        clear ho hb hfb
        have k0 : (0 : Int) ≤ (k : Int) := Int.natCast_nonneg _
        generalize hQ : Exit.then _ _ = Q
        have HQ := Lib.hid hQ
        clear hQ
        by_cases hlt : k < K
        · have k1 : (k : Int) < (K : Int) := by omega
          obtain ⟨q, cap, G, C, ee, hql, hrow⟩ : ∃ (q cap : Nat) (G C : Nat → Nat), Value.slice pb (chN n P m) cb = .slice (some ⟨q, 0, none⟩) (chN n P m) cap ∧ q < w2.heap.size ∧ ∀ k, k < chN n P m → w2.cell? ⟨q, k, none⟩ = some (.slice (some ⟨G k, 0, none⟩) m (C k)) ∧ Own w2 (.slice (some ⟨G k, 0, none⟩) m (C k)) m ((fun i => cyc P (fE n P m) (fD n P m) (chS n P m i)) k) (G k) := by
            rcases HBA.out.at_ with e | e
            · have := HKK.out
              omega
            · exact e
          obtain ⟨rfl, rfl⟩ : pb = some ⟨q, 0, none⟩ ∧ cb = cap := by
            injection ee with h1 _ h3
            exact ⟨h1, h3⟩
          clear ee
          obtain ⟨ba, oa, ea, g3, g4, hx⟩ : ∃ b o, pa = some ⟨b, o, none⟩ ∧ la ≤ b ∧ b < ha ∧ ∀ k, k < K → w2.cell? ⟨b, o + k, none⟩ = some (.int .i64 (d k)) := by
            obtain ⟨pa', ca', e1, hc⟩ := H2.out
            injection e1 with h1 _ _
            subst h1
            rcases hc with e | e
            · omega
            · exact e
          subst ea
          obtain ⟨yr, yo⟩ := hrow k (by rw [← HKK.out]; exact hlt)
          have y1 : wr.cell? ⟨ba, oa + k, none⟩ = some (.int .i64 (d k)) := (HL.out.cell (p := ⟨ba, oa + k, none⟩) (by show ba < w2.heap.size; omega)).trans (hx k hlt)
          have y2 : wr.cell? ⟨q, k, none⟩ = some (.slice (some ⟨G k, 0, none⟩) m (C k)) := (HL.out.cell (p := ⟨q, k, none⟩) hql).trans yr
          have HY := Lib.hid (yo.below HL.out (Nat.le_refl _))
          have lG := HY.out.lt
          clear hx hrow yr yo
          have kc : (k : Int) < (chN n P m : Int) := by rw [← HKK.out]; exact k1
          cases hq : flQ (d k)
          · have H4 := Lib.hid (show frC n N m P K d = 2 by rw [HFC.out, flB_no hlt hq]; rfl)
            have H3 := Lib.hid (show frN n N m P K d = 0 by unfold frN; rw [H4.out]; rfl)
            go_wp2_with (go_at_call 77; refine (l05Flow_any _ _).mono ?_; rintro e w' ⟨rfl, rfl⟩; rw [hq])
            rw [← HQ.out]
            go_wp2_with fail
            go_ret2
            exact li_err H3.out H4.out.symm rfl (B2.trans (HL.out.mono (by omega)))
          · have HR := Lib.hid (show flB d (k + 1) = true by unfold flB; rw [HFB.out, hq]; rfl)
            have hqr := flQ_iff.1 hq
            have HPB := Lib.hid (show ∀ a, a < m → (-4611686018427387904 ≤ flo n P m d k a + d k * (fun i => cyc P (fE n P m) (fD n P m) (chS n P m i)) k a ∧ flo n P m d k a + d k * (fun i => cyc P (fE n P m) (fD n P m) (chS n P m i)) k a ≤ 4611686018427387904) ∧ (-4611686018427387904 ≤ d k * (fun i => cyc P (fE n P m) (fD n P m) (chS n P m i)) k a ∧ d k * (fun i => cyc P (fE n P m) (fD n P m) (chS n P m i)) k a ≤ 4611686018427387904) from fun a _ => by
              have hkc : k < chN n P m := by rw [← HKK.out]; exact hlt
              have h1 := flo_bd2 HB.out (am := d) a k (by omega) (fun j hj => flQ_iff.1 (flB_iff.1 HFB.out j hj))
              have h2 := mul3 hqr ((fo_net HB.out).cyc_rng (chS_at hkc).1 a)
              dsimp only
              omega)
            clear hqr
            have hAny : ∀ X : World, Below wr.heap.size wr X → X.cell? ⟨q, k, none⟩ = some (.slice (some ⟨G k, 0, none⟩) m (C k)) ∧ X.cell? ⟨ba, oa + k, none⟩ = some (.int .i64 (d k)) := fun X h => ⟨(h.cell (p := ⟨q, k, none⟩) (by show q < _; omega)).trans y2, (h.cell (p := ⟨ba, oa + k, none⟩) (by show ba < _; omega)).trans y1⟩
            go_wp2_with (go_at_call 77; refine (l05Flow_any _ _).mono ?_; rintro e w' ⟨rfl, rfl⟩; rw [hq])
            go_region_held3 (fun w' : World => w'.cell? ⟨q, k, none⟩ = some (.slice (some ⟨G k, 0, none⟩) m (C k)) ∧ w'.cell? ⟨ba, oa + k, none⟩ = some (.int .i64 (d k)))
              (first | exact hAny _ (below_drw (Below.refl _ _)) | exact hAny _ KX)
              (first | (go_at_call 78; refine (l05Add_any _ _ _ m (flo n P m d k) ((fun i => cyc P (fE n P m) (fD n P m) (chS n P m i)) k) (d k) g (g + 1) (G k) (G k + 1) (sl_dr HO.out.sl) (show g + 1 ≤ wr.heap.size by omega) (sl_dr HY.out.sl) (show G k + 1 ≤ wr.heap.size by omega) (by omega) (fun a ha => (HPB.out a ha).1) (fun a ha => (HPB.out a ha).2)).mono ?_; rintro e wX ⟨v5, g5, rfl, o5, hg5, hb5⟩; obtain ⟨c5, rfl⟩ := o5.shape; have KX : Below wr.heap.size wr wX := below_dr0 hb5; have hg6 : wr.heap.size ≤ g5 := hg5))
            have HO5 := Lib.hid (o5.congr (e := flo n P m d (k + 1)) (fun a _ => rfl))
            have HL5 := Lib.hid (HL.out.trans (KX.mono (by omega)))
            clear hAny KX o5 hb5 y1 y2 g0 g1
            go_wp2_with fail
            rw [← HQ.out]
            refine ⟨⟨_, _, _, _, _, _, _, _, _, _, _, _, _, _, _, _, _, _, _, _, _, _, _, _, _, _, ?rel, rfl⟩, ?measure⟩
            case rel => exact ⟨k + 1, g5, _, rfl, by go_num, hlt, HR.out, HO5.out, by omega, HL5.out⟩
            case measure => simp [intOf]; omega
        · have hkn : K = k := by omega
          have HO2 := Lib.hid (show Own wr (.slice (some ⟨g, 0, none⟩) m co) m (flo n P m d K) g by rw [hkn]; exact HO.out)
          have HFK := Lib.hid (show flB d K = true by rw [hkn]; exact HFB.out)
          have k1 : ¬ ((k : Int) < (K : Int)) := by omega
          clear hkn HO
          cases hl : flB (flo n P m d K) m
          all_goals
            have HLL := Lib.hid hl
            clear hl
            go_wp2_with fail
            rw [← HQ.out]
            go_wp2_with (go_at_call 70; refine (l05List_any _ p0 p1 n m c0 c1 _ m _ _ _ HO2.out.sl (by omega) hm9 hm9).mono ?_; rintro e w7 ⟨rfl, hb7⟩; rw [show liB m m (flo n P m d K) = flB (flo n P m d K) m from by unfold liB; simp, HLL.out])
            go_ret2
          · have H4 := Lib.hid (show frC n N m P K d = 2 by rw [HFC.out, HFK.out, HLL.out]; rfl)
            exact li_err (show _ = 0 by unfold frN; rw [H4.out]; rfl) H4.out.symm rfl ((B2.trans (HL.out.mono (by omega))).trans (hb7.mono (by omega)))
          · have H4 := Lib.hid (show frC n N m P K d = 0 by rw [HFC.out, HFK.out, HLL.out]; rfl)
            exact li_ok (show m = _ by unfold frN; rw [H4.out]; rfl) (by rw [H4.out]; rfl) ((HO2.out.below hb7 (Nat.le_refl _)).congr (fun a _ => by rw [HFD.out])) (by omega) ((B2.trans (HL.out.mono (by omega))).trans (hb7.mono (by omega)))
    · have hb1 : ((K : Int) != (chN n P m : Int)) = true := by simp; omega
      have H4 := Lib.hid (show frC n N m P K d = 5 by unfold frC; rw [hB, if_pos rfl, if_neg hK])
      have H3 := Lib.hid (show frN n N m P K d = 0 by unfold frN; rw [H4.out]; rfl)
      clear hB hK
      go_wp2_with fail
      go_ret2
      exact li_err H3.out H4.out.symm rfl B2
theorem frN_le (n : Nat) (N : Nat → Nod) (m : Nat) (P : Nat → Pip) (K : Nat) (d : Nat → Int) (hm : m ≤ 2000000) : frN n N m P K d ≤ 2000000 := by
  unfold frN
  split <;> omega
theorem agreeFromChords (n : Nat) (N : Nat → Nod) (m : Nat) (P : Nat → Pip) (K : Nat) (d : Nat → Int) (hN : ∀ i, i < n → (N i).s.size ≤ 9223372036854775807) (_hn : n ≤ 2000000) (hm : m ≤ 2000000) (hK : K ≤ 2000000) :
    ∃ rn rd rc, rn ≤ 2000000 ∧ (∀ w v va, NetAt w v n N m P 0 w.heap.size → Sl w va K d 0 w.heap.size → Calls Try.prog 26 #[v, va] w (LIPost w rn rd rc)) ∧ (∀ w v va, NetAt w v n N m P 0 w.heap.size → Sl w va K d 0 w.heap.size → Calls Try.prog 25 #[v, va] w (LIPost w rn rd rc)) :=
  ⟨frN n N m P K d, frD n P m d, frC n N m P K d, frN_le n N m P K d hm, fun w v va h hv => fromChordsI_any w v n N m P 0 _ h (Nat.le_refl _) hN va K d 0 _ hv (Nat.le_refl _) (by omega), fun w v va h hv => fromChordsS_any w v n N m P 0 _ h (Nat.le_refl _) hN va K d 0 _ hv (Nat.le_refl _) (by omega)⟩
end Go.Proofs.Ytpgcieefipjjfaa.mem

namespace Go.Proofs.Ytpgcieefipjjfaa.mem
open Go.RowKit
set_option linter.unusedVariables false

def tl (s : Nat → Int) : Nat → Int
  | 0 => 0
  | k + 1 => tl s k + s k
theorem tl_add (s t : Nat → Int) : ∀ k, tl (fun i => s i + t i) k = tl s k + tl t k
  | 0 => rfl
  | k + 1 => by unfold tl; rw [tl_add s t k]; omega
theorem tl_zero : ∀ k, tl (fun _ => 0) k = 0
  | 0 => rfl
  | k + 1 => by unfold tl; rw [tl_zero k]; rfl
theorem tl_congr {s t : Nat → Int} : ∀ {k : Nat}, (∀ i, i < k → s i = t i) → tl s k = tl t k
  | 0, _ => rfl
  | k + 1, h => by unfold tl; rw [tl_congr (k := k) (fun i hi => h i (by omega)), h k (by omega)]
theorem tl_one (r : Nat) (c : Int) : ∀ n, tl (fun z => if ((r : Nat) : Int) = ((z : Nat) : Int) then c else 0) n = if r < n then c else 0
  | 0 => by rw [if_neg (by omega)]; rfl
  | n + 1 => by
    unfold tl
    rw [tl_one r c n]
    by_cases e : r = n
    · subst e
      rw [if_neg (by omega), if_pos rfl, if_pos (by omega)]
      omega
    · rw [if_neg (show ¬ ((r : Nat) : Int) = ((n : Nat) : Int) by omega)]
      by_cases g : r < n
      · rw [if_pos g, if_pos (by omega)]; omega
      · rw [if_neg g, if_neg (by omega)]; rfl
theorem tl_csm {R s : Nat → Int} {n : Nat} : ∀ k, (∀ i, i < k → ∃ r : Nat, r < n ∧ R i = ((r : Nat) : Int)) → tl (fun z => csm R s k ((z : Nat) : Int)) n = tl s k
  | 0, _ => tl_zero n
  | k + 1, h => by
    obtain ⟨r, hr, e⟩ := h k (by omega)
    have e1 : (fun z : Nat => csm R s (k + 1) ((z : Nat) : Int)) = fun z => csm R s k ((z : Nat) : Int) + (if ((r : Nat) : Int) = ((z : Nat) : Int) then s k else 0) := by
      funext z
      rw [csm, e]
    rw [e1, tl_add, tl_csm k (fun i hi => h i (by omega)), tl_one, if_pos hr]
    rfl
/-- even supplies add up to 0 -/
theorem even_tl {n : Nat} {N : Nat → Nod} {P : Nat → Pip} {m : Nat} (hN : netB n N m P = true) {s : Nat → Int} (he : evB n P m s = true) : tl s n = 0 := by
  have h1 := tl_csm (R := cmpN n P m) (s := s) (n := n) n (fun i hi => by
    obtain ⟨r, h1, h2⟩ := cmp_nat (P := P) (m := m) hN hi
    exact ⟨r, h1, h2⟩)
  rw [← h1, tl_congr (t := fun _ => 0) (fun z hz => evB_iff.1 he z hz), tl_zero]
theorem thr_abs (s : Nat → Int) : ∀ k, 2 * thr s k = tl (fun i => max (s i) (-(s i))) k + tl s k
  | 0 => rfl
  | k + 1 => by
    have ih := thr_abs s k
    unfold thr tl
    have e : 2 * max (s k) 0 = max (s k) (-(s k)) + s k := by
      rw [Int.max_def, Int.max_def]
      split <;> split <;> omega
    omega
end Go.Proofs.Ytpgcieefipjjfaa.mem

namespace Go.Proofs.Ytpgcieefipjjfaa.mem
open Go.RowKit
set_option linter.unusedVariables false

theorem Sl.next {w w' : World} {v : Value} {n : Nat} {d : Nat → Int} {lo : Nat} (h : Sl w v n d lo w.heap.size) (g : Below w.heap.size w w') : Sl w' v n d lo w'.heap.size := (h.below g (Nat.le_refl _)).mono (Nat.le_refl _) g.size
theorem Sl.zero {w : World} {v : Value} {n : Nat} {d : Nat → Int} {lo hi : Nat} (h : Sl w v n d lo hi) : Sl w v n d 0 hi := h.mono (Nat.zero_le _) (Nat.le_refl _)
theorem tl_bd {d : Nat → Int} : ∀ {k : Nat}, (∀ i, i < k → -30000 ≤ d i ∧ d i ≤ 30000) → 0 ≤ tl (fun i => max (d i) (-(d i))) k ∧ tl (fun i => max (d i) (-(d i))) k ≤ 30000 * (k : Int)
  | 0, _ => by show (0 : Int) ≤ (0 : Int) ∧ (0 : Int) ≤ _; omega
  | k + 1, h => by
    have ih := tl_bd (d := d) (k := k) (fun i hi => h i (by omega))
    have h1 := h k (by omega)
    unfold tl
    rw [Int.max_def]
    split <;> omega
theorem ffC_ok {n : Nat} {N : Nat → Nod} {m : Nat} {P : Nat → Pip} {K : Nat} {d : Nat → Int} (h : ffC n N m P K d = 0) : netB n N m P = true ∧ K = n ∧ flB d K = true ∧ evB n P m d = true ∧ flB (fflN n P m d) m = true := by
  unfold ffC at h
  split at h
  · next hc =>
    obtain ⟨h1, h2, h3⟩ := svC_ok hc
    split at h
    · next he =>
      split at h
      · next hf => exact ⟨h1, h2, h3, he, hf⟩
      · omega
    · omega
  · next hc => exact absurd h hc
theorem flC_is {n : Nat} {N : Nat → Nod} {m : Nat} {P : Nat → Pip} {d : Nat → Int} (hB : netB n N m P = true) (hf : flB d m = true) : flC n N m P m d = 0 := by
  unfold flC
  rw [hB, if_pos rfl, if_pos ⟨rfl, hf⟩]
theorem svC_is {n : Nat} {N : Nat → Nod} {m : Nat} {P : Nat → Pip} {d : Nat → Int} (hB : netB n N m P = true) (hf : flB d n = true) : svC n N m P n d = 0 := by
  unfold svC
  rw [hB, if_pos rfl, if_pos ⟨rfl, hf⟩]
theorem ib_is {n : Nat} {N : Nat → Nod} {m : Nat} {P : Nat → Pip} {d s : Nat → Int} (hB : netB n N m P = true) (hf : flB d m = true) (hs : flB s n = true) (h : ∀ z, z < n → dv P d m ((z : Nat) : Int) = s z) : ibB n N m P m d n s = true := by
  unfold ibB
  rw [flC_is hB hf, svC_is hB hs]
  simp only [decide_true, Bool.true_and]
  rw [List.all_eq_true]
  intro z hz
  simpa using h z (List.mem_range.1 hz)
theorem ci_is {n : Nat} {N : Nat → Nod} {m : Nat} {P : Nat → Pip} {d : Nat → Int} (hB : netB n N m P = true) (hf : flB d m = true) (h : ∀ z : Int, 0 ≤ z → z < n → dv P d m z = 0) : ciB n N m P m d = true := by
  unfold ciB
  rw [flC_is hB hf]
  simp only [decide_true, Bool.true_and]
  exact dv_all.2 h
theorem fflN_chord {n : Nat} {N : Nat → Nod} {P : Nat → Pip} {m : Nat} (hB : netB n N m P = true) (d : Nat → Int) {j : Nat} (hj : j < chN n P m) : fflN n P m d (chS n P m j) = 0 := by
  by_cases g : fflN n P m d (chS n P m j) = 0
  · exact g
  · obtain ⟨z, z0, z1, e⟩ := (fo_net hB).ffl_sup (s := d) (a := chS n P m j) n (Nat.le_refl n) g
    exact absurd e (chP_no hB (chS_at hj).2 z z0 z1)
theorem cyFacts (n : Nat) (N : Nat → Nod) (m : Nat) (P : Nat → Pip) (x : Int) (hN : ∀ i, i < n → (N i).s.size ≤ 9223372036854775807) (hm : m ≤ 1000) :
    ∃ (yn : Nat) (yd : Nat → Int) (yc : Int) (cn : Nat) (cd : Nat → Int) (cc : Int), yn ≤ 1000 ∧ cn ≤ 1000 ∧ (∀ w v, NetAt w v n N m P 0 w.heap.size → Calls Try.prog 41 #[v, .int .i64 x] w (LIPost w yn yd yc)) ∧ (∀ w v, NetAt w v n N m P 0 w.heap.size → Calls Try.prog 42 #[v, .int .i64 x] w (LIPost w yn yd yc)) ∧
      (∀ w v, NetAt w v n N m P 0 w.heap.size → Calls Try.prog 43 #[v] w (LIPost w cn cd cc)) ∧ (∀ w v, NetAt w v n N m P 0 w.heap.size → Calls Try.prog 44 #[v] w (LIPost w cn cd cc)) ∧
      (yc = 0 → ∃ fd' : Nat → Int, (∀ w v va, NetAt w v n N m P 0 w.heap.size → Sl w va yn yd 0 w.heap.size → Calls Try.prog 45 #[v, va] w (LIPost w cn fd' 0)) ∧ (∀ w v va, NetAt w v n N m P 0 w.heap.size → Sl w va yn yd 0 w.heap.size → Calls Try.prog 46 #[v, va] w (LIPost w cn fd' 0)) ∧
        (∀ k, k < cn → fd' k = if cd k = x then 1 else 0) ∧ (∀ w v va, NetAt w v n N m P 0 w.heap.size → Sl w va yn yd 0 w.heap.size → Calls Try.prog 23 #[v, va] w (BPost w true))) := by
  have hcn := chN_le n P m
  refine ⟨cyN n N m P x, cyD n P m x, cyC n N m P x, coN n N m P, fd (chP n P m) m, cmC (netB n N m P), by unfold cyN; split <;> omega, by unfold coN; split <;> omega, fun w v h => cycleOfI_any w v n N m P 0 _ h (Nat.le_refl _) hN x, fun w v h => cycleOfS_any w v n N m P 0 _ h (Nat.le_refl _) hN x, fun w v h => chordsOfI_any w v n N m P 0 _ h (Nat.le_refl _) hN, fun w v h => chordsOfS_any w v n N m P 0 _ h (Nat.le_refl _) hN, fun hc => ?_⟩
  have hz : netB n N m P = true ∧ chB n P m x = true := by
    have h := hc
    unfold cyC at h
    split at h
    · next hB =>
      split at h
      · next h2 => exact ⟨hB, h2⟩
      · omega
    · omega
  obtain ⟨hB, hch⟩ := hz
  obtain ⟨c, rfl, hcm, hcp⟩ := chB_yes hch
  have hyn : cyN n N m P ((c : Nat) : Int) = m := by unfold cyN; rw [if_pos hc]
  have hcoN : coN n N m P = chN n P m := by unfold coN; rw [hB]; rfl
  have hyd : cyD n P m ((c : Nat) : Int) = cyc P (fE n P m) (fD n P m) c := by unfold cyD; rw [Int.toNat_natCast]
  have hff : flB (cyc P (fE n P m) (fD n P m) c) m = true := flB_iff.2 fun k _ => flQ_iff.2 (by have := (fo_net hB).cyc_rng hcm k; omega)
  have h0 := flC_is hB hff
  have hcf : cfN n N m P m (cyc P (fE n P m) (fD n P m) c) = chN n P m := by unfold cfN; rw [h0]; rfl
  rw [hyn, hcoN, hyd]
  refine ⟨fun j => cyc P (fE n P m) (fD n P m) c (chS n P m j), fun w v va h hv => ?_, fun w v va h hv => ?_, fun k hk => ?_, fun w v va h hv => ?_⟩
  · have := chordFlowsI_any w v n N m P 0 _ h (Nat.le_refl _) hN va m _ 0 _ hv (Nat.le_refl _) (by omega)
    rwa [hcf, h0] at this
  · have := chordFlowsS_any w v n N m P 0 _ h (Nat.le_refl _) hN va m _ 0 _ hv (Nat.le_refl _) (by omega)
    rwa [hcf, h0] at this
  · show cyc P (fE n P m) (fD n P m) c (chS n P m k) = _
    rw [(fo_net hB).cyc_chord hcm (chP_no hB (chS_at hk).2), chS_fd]
    unfold one1
    by_cases e : chS n P m k = c
    · rw [if_pos e, if_pos (by omega)]
    · rw [if_neg e, if_neg (by omega)]
  · have := isCirculationI_any w v n N m P 0 _ h (Nat.le_refl _) hN va m _ 0 _ hv (Nat.le_refl _) (by omega)
    rwa [ci_is hB hff (fun z _ _ => (fo_net hB).cyc_dv (fo_r0 hB) (fo_r2 hB) hcm (fo_r1 hB c hcm) z)] at this

theorem ciFacts (n : Nat) (N : Nat → Nod) (m : Nat) (P : Nat → Pip) (K : Nat) (d : Nat → Int) (hN : ∀ i, i < n → (N i).s.size ≤ 9223372036854775807) (hm : m ≤ 1000) (hK : K ≤ 2000000) :
    ∃ cb : Bool, (∀ w v va, NetAt w v n N m P 0 w.heap.size → Sl w va K d 0 w.heap.size → Calls Try.prog 23 #[v, va] w (BPost w cb)) ∧ (∀ w v va, NetAt w v n N m P 0 w.heap.size → Sl w va K d 0 w.heap.size → Calls Try.prog 21 #[v, va] w (BPost w cb)) ∧
      (cb = true → ∃ (an : Nat) (ad rd : Nat → Int), an ≤ 1000 ∧ K ≤ 1000 ∧ (∀ w v va, NetAt w v n N m P 0 w.heap.size → Sl w va K d 0 w.heap.size → Calls Try.prog 45 #[v, va] w (LIPost w an ad 0)) ∧ (∀ w v va, NetAt w v n N m P 0 w.heap.size → Sl w va an ad 0 w.heap.size → Calls Try.prog 26 #[v, va] w (LIPost w K rd 0)) ∧ (∀ k, k < K → rd k = d k)) := by
  refine ⟨ciB n N m P K d, fun w v va h hv => isCirculationI_any w v n N m P 0 _ h (Nat.le_refl _) hN va K d 0 _ hv (Nat.le_refl _) (by omega), fun w v va h hv => isCirculationS_any w v n N m P 0 _ h (Nat.le_refl _) hN va K d 0 _ hv (Nat.le_refl _) (by omega), fun hc => ?_⟩
  unfold ciB at hc
  rw [Bool.and_eq_true, decide_eq_true_eq] at hc
  obtain ⟨h0, hdv⟩ := hc
  obtain ⟨hB, rfl, hf⟩ := flC_ok h0
  have hcn := chN_le n P K
  have hcf : cfN n N K P K d = chN n P K := by unfold cfN; rw [h0]; rfl
  have hci := (circ_iff hB d).2 (dv_all.1 hdv)
  have hfa : flB (fun j => d (chS n P K j)) (chN n P K) = true := flB_iff.2 fun j hj => flB_iff.1 hf _ (chS_at hj).1
  have hfl : flB (flo n P K (fun j => d (chS n P K j)) (chN n P K)) K = true := by rw [flB_congr hci]; exact hf
  have hfr : frC n N K P (chN n P K) (fun j => d (chS n P K j)) = 0 := by
    unfold frC
    rw [hB, if_pos rfl, if_pos rfl, hfa, hfl]
    rfl
  refine ⟨chN n P K, fun j => d (chS n P K j), frD n P K (fun j => d (chS n P K j)), by omega, by omega, fun w v va h hv => ?_, fun w v va h hv => ?_, fun k hk => hci k hk⟩
  · have := chordFlowsI_any w v n N K P 0 _ h (Nat.le_refl _) hN va K d 0 _ hv (Nat.le_refl _) (by omega)
    rwa [hcf, h0] at this
  · have := fromChordsI_any w v n N K P 0 _ h (Nat.le_refl _) hN va _ _ 0 _ hv (Nat.le_refl _) (by omega)
    rwa [hfr, show frN n N K P (chN n P K) (fun j => d (chS n P K j)) = K from by unfold frN; rw [if_pos hfr]] at this

theorem frC_ok {n : Nat} {N : Nat → Nod} {m : Nat} {P : Nat → Pip} {K : Nat} {d : Nat → Int} (h : frC n N m P K d = 0) : netB n N m P = true ∧ K = chN n P m ∧ flB d K = true ∧ flB (flo n P m d (chN n P m)) m = true := by
  unfold frC at h
  split at h
  · next hB =>
    split at h
    · next hK =>
      split at h
      · next hf =>
        split at h
        · next hl => exact ⟨hB, hK, hf, hl⟩
        · omega
      · omega
    · omega
  · omega
theorem adC_ok {n : Nat} {N : Nat → Nod} {m : Nat} {P : Nat → Pip} {K : Nat} {d : Nat → Int} {x y : Int} (h : adC n N m P K d x y = 0) : flC n N m P K d = 0 ∧ chB n P m x = true ∧ flQ y = true ∧ flB (fun k => d k + y * cyD n P m x k) m = true := by
  unfold adC at h
  split at h
  · next h0 =>
    split at h
    · next h1 =>
      split at h
      · next h2 =>
        split at h
        · next h3 => exact ⟨h0, h1, h2, h3⟩
        · omega
      · omega
    · omega
  · next h0 => exact absurd h h0
theorem fcFacts (n : Nat) (N : Nat → Nod) (m : Nat) (P : Nat → Pip) (K : Nat) (d : Nat → Int) (hN : ∀ i, i < n → (N i).s.size ≤ 9223372036854775807) (hm : m ≤ 1000) (hK : K ≤ 2000000) :
    ∃ (rn : Nat) (rd : Nat → Int) (rc : Int), rn ≤ 1000 ∧ (∀ w v va, NetAt w v n N m P 0 w.heap.size → Sl w va K d 0 w.heap.size → Calls Try.prog 26 #[v, va] w (LIPost w rn rd rc)) ∧ (∀ w v va, NetAt w v n N m P 0 w.heap.size → Sl w va K d 0 w.heap.size → Calls Try.prog 25 #[v, va] w (LIPost w rn rd rc)) ∧
      (rc = 0 → ∃ bd : Nat → Int, K ≤ 1000 ∧ (∀ w v va, NetAt w v n N m P 0 w.heap.size → Sl w va rn rd 0 w.heap.size → Calls Try.prog 45 #[v, va] w (LIPost w K bd 0)) ∧ (∀ k, k < K → bd k = d k) ∧ (∀ w v va, NetAt w v n N m P 0 w.heap.size → Sl w va rn rd 0 w.heap.size → Calls Try.prog 23 #[v, va] w (BPost w true))) := by
  refine ⟨frN n N m P K d, frD n P m d, frC n N m P K d, by unfold frN; split <;> omega, fun w v va h hv => fromChordsI_any w v n N m P 0 _ h (Nat.le_refl _) hN va K d 0 _ hv (Nat.le_refl _) (by omega), fun w v va h hv => fromChordsS_any w v n N m P 0 _ h (Nat.le_refl _) hN va K d 0 _ hv (Nat.le_refl _) (by omega), fun hc => ?_⟩
  have hrn : frN n N m P K d = m := by unfold frN; rw [if_pos hc]
  obtain ⟨hB, rfl, hf, hl⟩ := frC_ok hc
  have hcn := chN_le n P m
  have hl' : flB (frD n P m d) m = true := hl
  have h0 := flC_is hB hl'
  have hcf : cfN n N m P m (frD n P m d) = chN n P m := by unfold cfN; rw [h0]; rfl
  rw [hrn]
  refine ⟨fun j => frD n P m d (chS n P m j), by omega, fun w v va h hv => ?_, fun k hk => flo_chord hB hk, fun w v va h hv => ?_⟩
  · have := chordFlowsI_any w v n N m P 0 _ h (Nat.le_refl _) hN va m _ 0 _ hv (Nat.le_refl _) (by omega)
    rwa [hcf, h0] at this
  · have := isCirculationI_any w v n N m P 0 _ h (Nat.le_refl _) hN va m _ 0 _ hv (Nat.le_refl _) (by omega)
    rwa [ci_is hB hl' (fun z _ _ => flo_dv hB d z)] at this
theorem even_of {n : Nat} {N : Nat → Nod} {m : Nat} {P : Nat → Pip} {d s : Nat → Int} (hB : netB n N m P = true) (h : ∀ z, z < n → dv P d m ((z : Nat) : Int) = s z) : evB n P m s = true := by
  rw [evB_iff]
  intro z hz
  rw [csm_congr (t := fun i => dv P d m ((i : Nat) : Int)) (fun i hi => (h i hi).symm)]
  exact csm_dv m (fun a ha => by
    obtain ⟨p1, p2, _⟩ := pip_end (net_pip hB ha)
    refine ⟨p1, p2, ?_⟩
    unfold cmpN
    rw [Int.toNat_of_nonneg p1.1, Int.toNat_of_nonneg p2.1]
    exact fo_r1 hB a ha)
theorem dv_neg (P : Nat → Pip) (x : Nat → Int) (k : Nat) (z : Int) : dv P (fun a => -(x a)) k z = -(dv P x k z) := by
  have e : (fun a => -(x a)) = fun a => (-1) * x a := by funext a; omega
  rw [e, dv_mul]
  omega
theorem baFacts (n : Nat) (N : Nat → Nod) (m : Nat) (P : Nat → Pip) (K : Nat) (d : Nat → Int) (L : Nat) (s : Nat → Int) (hN : ∀ i, i < n → (N i).s.size ≤ 9223372036854775807) (hn : n ≤ 1000) (hm : m ≤ 1000) (hK : K ≤ 2000000) (hL : L ≤ 2000000) :
    ∃ bb : Bool, (∀ w v va vb, NetAt w v n N m P 0 w.heap.size → Sl w va K d 0 w.heap.size → Sl w vb L s 0 w.heap.size → Calls Try.prog 50 #[v, va, vb] w (BPost w bb)) ∧ (∀ w v va vb, NetAt w v n N m P 0 w.heap.size → Sl w va K d 0 w.heap.size → Sl w vb L s 0 w.heap.size → Calls Try.prog 51 #[v, va, vb] w (BPost w bb)) ∧
      (bb = true → ∃ (fn : Nat) (fd' : Nat → Int) (fc : Int) (sd : Nat → Int), fn ≤ 1000 ∧ K ≤ 1000 ∧ L ≤ 1000 ∧ (∀ w v va, NetAt w v n N m P 0 w.heap.size → Sl w va L s 0 w.heap.size → Calls Try.prog 52 #[v, va] w (LIPost w fn fd' fc)) ∧ (∀ w v va, NetAt w v n N m P 0 w.heap.size → Sl w va L s 0 w.heap.size → Calls Try.prog 53 #[v, va] w (LIPost w fn fd' fc)) ∧
        (∀ w v va, NetAt w v n N m P 0 w.heap.size → Sl w va K d 0 w.heap.size → Calls Try.prog 54 #[v, va] w (LIPost w L sd 0)) ∧ (∀ k, k < L → sd k = s k) ∧ (∀ w v va, NetAt w v n N m P 0 w.heap.size → Sl w va L s 0 w.heap.size → Calls Try.prog 55 #[v, va] w (BPost w true)) ∧ (fc ≠ 0 → fc = 2) ∧
        (fc = 0 → (∀ k, k < fn → -30000 ≤ fd' k ∧ fd' k ≤ 30000) ∧ ∃ (xn : Nat) (xd : Nat → Int) (xc : Int), xn ≤ 1000 ∧ (∀ w v va vb, NetAt w v n N m P 0 w.heap.size → Sl w va K d 0 w.heap.size → Sl w vb fn (fun k => -(fd' k)) 0 w.heap.size → Calls Try.prog 56 #[v, va, vb] w (LIPost w xn xd xc)) ∧
          (xc = 0 → ∀ w v va, NetAt w v n N m P 0 w.heap.size → Sl w va xn xd 0 w.heap.size → Calls Try.prog 23 #[v, va] w (BPost w true)))) := by
  refine ⟨ibB n N m P K d L s, fun w v va vb h hv hu => isBalancedI_any w v n N m P 0 _ h (Nat.le_refl _) hN va K d 0 _ hv (Nat.le_refl _) (by omega) vb L s 0 _ hu (Nat.le_refl _) (by omega), fun w v va vb h hv hu => isBalancedS_any w v n N m P 0 _ h (Nat.le_refl _) hN va K d 0 _ hv (Nat.le_refl _) (by omega) vb L s 0 _ hu (Nat.le_refl _) (by omega), fun hb => ?_⟩
  unfold ibB at hb
  rw [Bool.and_eq_true, Bool.and_eq_true, decide_eq_true_eq, decide_eq_true_eq] at hb
  obtain ⟨h0, h1, hall⟩ := hb
  obtain ⟨hB, rfl, hf⟩ := flC_ok h0
  obtain ⟨_, rfl, hs⟩ := svC_ok h1
  have hbal : ∀ z, z < L → dv P d K ((z : Nat) : Int) = s z := fun z hz => by simpa using List.all_eq_true.1 hall z (List.mem_range.2 hz)
  have hev := even_of hB hbal
  have hsu : suC L N K P K d = 0 := by
    unfold suC
    rw [if_pos h0, if_pos (by rw [flB_congr (e := s) hbal]; exact hs)]
  have hie : ieB L N K P L s = true := by unfold ieB; rw [h1, hev]; rfl
  have hfc : ffC L N K P L s = if flB (fflN L P K s) K = true then 0 else 2 := by unfold ffC; rw [if_pos h1, if_pos hev]
  refine ⟨ffN L N K P L s, fflN L P K s, ffC L N K P L s, suD K P d, by unfold ffN; split <;> omega, hm, hn, fun w v va h hv => forestFlowsI_any w v L N K P 0 _ h (Nat.le_refl _) hN va L s 0 _ hv (Nat.le_refl _) (by omega), fun w v va h hv => forestFlowsS_any w v L N K P 0 _ h (Nat.le_refl _) hN va L s 0 _ hv (Nat.le_refl _) (by omega), fun w v va h hv => ?_, hbal, fun w v va h hv => ?_, fun hne => ?_, fun hz => ?_⟩
  · have := suppliesOfI_any w v L N K P 0 _ h (Nat.le_refl _) hN va K d 0 _ hv (Nat.le_refl _) (by omega)
    rwa [hsu, show suN L N K P K d = L from by unfold suN; rw [if_pos hsu]] at this
  · have := isEvenI_any w v L N K P 0 _ h (Nat.le_refl _) hN va L s 0 _ hv (Nat.le_refl _) (by omega)
    rwa [hie] at this
  · rw [hfc] at hne ⊢
    split at hne
    · exact absurd rfl hne
    · next q => rw [if_neg q]
  · have hfn : ffN L N K P L s = K := by unfold ffN; rw [if_pos hz]
    obtain ⟨_, _, _, _, hff⟩ := ffC_ok hz
    rw [hfn]
    have hneg : flB (fun k => -(fflN L P K s k)) K = true := flB_iff.2 fun k hk => flQ_iff.2 (by have := flQ_iff.1 (flB_iff.1 hff k hk); omega)
    refine ⟨fun k hk => flQ_iff.1 (flB_iff.1 hff k hk), afN L N K P K d K (fun k => -(fflN L P K s k)), fun k => d k + -(fflN L P K s k), afC L N K P K d K (fun k => -(fflN L P K s k)), by unfold afN; split <;> omega, fun w v va vb h hv hu => addFlowsI_any w v L N K P 0 _ h (Nat.le_refl _) hN va K d 0 _ hv (Nat.le_refl _) (by omega) vb K _ 0 _ hu (Nat.le_refl _) (by omega), fun hx w v va h hv => ?_⟩
    have han : afN L N K P K d K (fun k => -(fflN L P K s k)) = K := by unfold afN; rw [if_pos hx]
    have hsum : flB (fun k => d k + -(fflN L P K s k)) K = true := by
      unfold afC at hx
      rw [if_pos hB, if_pos ⟨⟨rfl, hf⟩, ⟨rfl, hneg⟩⟩] at hx
      split at hx
      · assumption
      · omega
    rw [han] at hv
    have := isCirculationI_any w v L N K P 0 _ h (Nat.le_refl _) hN va K _ 0 _ hv (Nat.le_refl _) (by omega)
    rwa [ci_is hB hsum (fun z z0 z1 => by
      obtain ⟨y, rfl⟩ := Int.eq_ofNat_of_zero_le z0
      rw [dv_add, dv_neg, hbal y (by omega), fflN_bal hB hev y (by omega)]
      omega)] at this
end Go.Proofs.Ytpgcieefipjjfaa.mem
