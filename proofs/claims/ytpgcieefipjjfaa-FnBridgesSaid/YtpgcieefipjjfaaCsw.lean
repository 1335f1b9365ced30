/-
  The specification's list of cycles. Conditions: as each states.
-/
import Derived.Test.YtpgcieefipjjfaaRows
import Derived.Test.YtpgcieefipjjfaaCsM
namespace Go.Proofs.Ytpgcieefipjjfaa.mem
open Go.RowKit
set_option linter.unusedVariables false

/-- an own list of K own lists of m numbers, all from block B on, all in blocks of their own -/
structure Bas (w : World) (v : Value) (K m : Nat) (Y : Nat → Nat → Int) (B : Nat) : Prop where
  ex : ∃ (G C : Nat → Nat), RowE B 40 1 w v K (fun i _ => .slice (some ⟨G i, 0, none⟩) m (C i)) ∧ (∀ i, i < K → Own w (.slice (some ⟨G i, 0, none⟩) m (C i)) m (Y i) (G i) ∧ B ≤ G i) ∧ (∀ i j, i < j → j < K → G i < G j)
theorem row_own {B z : Nat} {w : World} {v u : Value} {K n g : Nat} {c : Nat → Nat → Value} {d : Nat → Int} (h : RowE B 40 z w v K c) (o : Own w u n d g) : v.ownBlock ≠ some g := by
  intro hk
  rcases h.own.2 with ⟨rfl, _⟩ | ⟨q, cap, cur, rfl, _, h3, _⟩
  · simp [Value.ownBlock] at hk
  obtain ⟨cap', cur', _, h1, _⟩ := o.ex
  simp [Value.ownBlock] at hk
  subst hk
  rw [h3] at h1
  injection h1 with h1
  injection h1 with _ h1
  exact absurd h1 (by decide)
theorem bas_nil {B m : Nat} {Y : Nat → Nat → Int} (w : World) (hB : B ≤ w.heap.size) : Bas (w.alloc (.cells #[] 40)) (.slice (some ⟨w.heap.size, 0, none⟩) 0 0) 0 m Y B :=
  ⟨fun _ => 0, fun _ => 0, rowE_nil w _ hB, fun i hi => by omega, fun i j _ hj => by omega⟩
theorem Bas.shape {w : World} {v : Value} {K m B : Nat} {Y : Nat → Nat → Int} (h : Bas w v K m Y B) : ∃ p cap, v = .slice p K cap := by
  obtain ⟨G, C, h1, _⟩ := h.ex
  exact h1.shape
theorem Bas.next {w w' : World} {v : Value} {K m B : Nat} {Y : Nat → Nat → Int} (h : Bas w v K m Y B) (b : Below w.heap.size w w') : Bas w' v K m Y B := by
  obtain ⟨G, C, h1, h2, h3⟩ := h.ex
  exact ⟨G, C, h1.next b, fun i hi => ⟨(h2 i hi).1.below b (Nat.le_refl _), (h2 i hi).2⟩, h3⟩
theorem Bas.low {w : World} {v : Value} {K m B B' : Nat} {Y : Nat → Nat → Int} (h : Bas w v K m Y B) (hB : B' ≤ B) : Bas w v K m Y B' := by
  obtain ⟨G, C, h1, h2, h3⟩ := h.ex
  refine ⟨G, C, ⟨h1.own.1, ?_⟩, fun i hi => ⟨(h2 i hi).1, by have := (h2 i hi).2; omega⟩, h3⟩
  rcases h1.own.2 with h | ⟨g, cap, cur, e, hg, h⟩
  · exact .inl h
  · exact .inr ⟨g, cap, cur, e, by omega, h⟩
theorem info_ints : (Try.prog.info? 40).map (fun i => (i.zero, i.size, i.bytes)) = some (some (.slice none 0 0), 1, 24) := by kernel_rfl
/-- one more list behind it -/
theorem Bas.app {w W : World} {v : Value} {K m B : Nat} {Y : Nat → Nat → Int} (h : Bas w v K m Y B) (hB : B ≤ w.heap.size) (b : Below w.heap.size w W) {g c : Nat} (o : Own W (.slice (some ⟨g, 0, none⟩) m c) m (Y K) g) (hg : w.heap.size ≤ g) (hK : K ≤ 1000000) :
    ∃ v' w', Sem.run Try.prog (Builtin.append_ #[27, 27] 27 #[v, .slice (some ⟨W.heap.size, 0, none⟩) 1 1]) (W.alloc (.cells #[.slice (some ⟨g, 0, none⟩) m c] 40)) = .ok v' w' ∧ Bas w' v' (K + 1) m Y B ∧ Below B W w' ∧ (∀ q, v.ownBlock ≠ some q → q < W.heap.size → w'.heap[q]? = W.heap[q]?) := by
  obtain ⟨G, C, h1, h2, h3⟩ := h.ex
  have hBW : B ≤ W.heap.size := Nat.le_trans hB b.size
  have r1 := h1.next b
  obtain ⟨v', w', hr, hrow, u⟩ := appOne (c' := fun i _ => .slice (some ⟨if i = K then g else G i, 0, none⟩) m (if i = K then c else C i)) Try.underlying27 info_ints (by omega) rfl (by omega) B W v K _ r1 hBW [.slice (some ⟨g, 0, none⟩) m c] rfl (by intro q hq; simp at hq; subst hq; rfl)
    (fun i j hi hj => by rw [if_neg (by omega), if_neg (by omega)]) (fun j hj => by obtain rfl : j = 0 := (by omega); (show some _ = _); rw [if_pos rfl, if_pos rfl]) hK
  refine ⟨v', w', hr, ⟨fun i => if i = K then g else G i, fun i => if i = K then c else C i, hrow, fun i hi => ?_, fun i j hij hj => ?_⟩, u.below hBW (fun k _ hk => (r1.own.lt k hk.symm).1), fun q hq hl => u.block q hl (fun e => hq e.symm)⟩
  · dsimp only
    by_cases e : i = K
    · subst e
      rw [if_pos rfl, if_pos rfl]
      exact ⟨o.keep (u.block g o.lt (fun e => row_own r1 o e.symm)), by omega⟩
    · rw [if_neg e, if_neg e]
      obtain ⟨o1, o2⟩ := h2 i (by omega)
      have o3 := o1.below b (Nat.le_refl _)
      exact ⟨o3.keep (u.block _ o3.lt (fun e => row_own r1 o3 e.symm)), o2⟩
  · dsimp only
    have hi : i ≠ K := by omega
    rw [if_neg hi]
    by_cases e : j = K
    · rw [if_pos e]
      have := (h2 i (by omega)).1.lt
      omega
    · rw [if_neg e]
      exact h3 i j hij (by omega)
set_option maxRecDepth 100000 in
set_option maxHeartbeats 8000000 in
theorem l05Basis_any (w : World) (v : Value) (n : Nat) (N : Nat → Nod) (m : Nat) (P : Nat → Pip) (lo hi : Nat) (h : NetAt w v n N m P lo hi) (hhi : hi ≤ w.heap.size) (hN : ∀ i, i < n → (N i).s.size ≤ 9223372036854775807) (hB : netB n N m P = true) :
    Calls Try.prog 60 #[v] w fun e w' => ∃ v2, e = .returned v2 ∧ Bas w' v2 (chN n P m) m (fun i => cyc P (fE n P m) (fD n P m) (chS n P m i)) w.heap.size ∧ Below w.heap.size w w' := by
  have hm40 := (net_sz hB).2.2
  have hcn := chN_le n P m
  have HB := Lib.hid hB
  clear hB
  obtain ⟨p0, c0, p1, c1, rfl, hn9, hm9⟩ := h.parts
  have HV := Lib.hid h
  have HN := Lib.hid hN
  have A0 := boxed w (.slice p0 n c0) (.slice p1 m c1) 33
  have B0 := below_new w (.cells #[.slice p0 n c0, .slice p1 m c1] 33)
  have hs0 : (w.alloc (.cells #[.slice p0 n c0, .slice p1 m c1] 33)).heap.size = w.heap.size + 1 := by simp
  clear h hN
  go_enter Try.func60, Try.ntmps60
  have e0' := A0.b0
  have e1' := A0.b1
  go_wp2_with fail
  refine (l05Chords_any _ _ n N m P lo hi (HV.out.below B0 hhi) (by omega) HN.out HB.out).mono ?_
  rintro e w1 ⟨vc, gc, rfl, oc, hgc, b1⟩
  obtain ⟨cc, rfl⟩ := oc.shape
  have A1 := A0.below b1 (by omega)
  have B1 := B0.trans (b1.mono (by omega))
  have hs1 := b1.size
  have lc := oc.lt
  have b2 := below_new w1 (.cells #[] 40)
  have hs2 : (w1.alloc (.cells #[] 40)).heap.size = w1.heap.size + 1 := by simp
  have HBN := Lib.hid (bas_nil (B := w1.heap.size) (m := m) (Y := fun i => cyc P (fE n P m) (fD n P m) (chS n P m i)) w1 (Nat.le_refl _))
  have HA := Lib.hid (A1.below b2 (by omega))
  have HC := Lib.hid (oc.below b2 (Nat.le_refl _))
  have HBB := Lib.hid (B1.trans (b2.mono (by omega)))
  clear A0 B0 b1 A1 B1 b2 oc e0' e1'
  go_wp2_with fail
  generalize hW : w1.alloc (.cells #[] 40) = w2 at *
  clear hW
  go_loopw [4, 5] (fun ov iv wr => ∃ (k : Nat) (ov' : Value), ov' = ov ∧ iv = .int .i64 k ∧ k ≤ chN n P m ∧ Bas wr ov' k m (fun i => cyc P (fE n P m) (fD n P m) (chS n P m i)) w1.heap.size ∧ Below w1.heap.size w2 wr) (fun _ iv _ => chN n P m - (intOf iv).toNat)
  case atStart => exact ⟨0, _, rfl, rfl, Nat.zero_le _, HBN.out, Below.refl _ _⟩
  case round =>
    obtain ⟨k, ov, rfl, rfl, hk, ho, hb⟩ := hrel
    obtain ⟨po, co, rfl⟩ := ho.shape
    clear HBN
    have HO := Lib.hid ho
    have HL := Lib.hid hb
    have hsz := hb.size
    clear ho hb
    have k0 : (0 : Int) ≤ (k : Int) := Int.natCast_nonneg _
    generalize hQ : Exit.then _ _ = Q
    have HQ := Lib.hid hQ
    clear hQ
    by_cases hlt : k < chN n P m
    · have k1 : (k : Int) < (chN n P m : Int) := by omega
      obtain ⟨hcm, hcp⟩ := chS_at (n := n) (P := P) (m := m) hlt
      have f0 : wr.cell? ⟨w.heap.size, 0, none⟩ = some (.slice p0 n c0) := (HA.out.below HL.out (by omega)).b0
      have f1 : wr.cell? ⟨w.heap.size, 1, none⟩ = some (.slice p1 m c1) := (HA.out.below HL.out (by omega)).b1
      have yc : wr.cell? ⟨gc, k, none⟩ = some (.int .i64 (chS n P m k : Nat)) := (HL.out.cell (p := ⟨gc, k, none⟩) lc).trans (HC.out.row.cell k hlt)
      have hAny : ∀ X : World, Below w1.heap.size wr X → X.cell? ⟨w.heap.size, 0, none⟩ = some (.slice p0 n c0) ∧ X.cell? ⟨w.heap.size, 1, none⟩ = some (.slice p1 m c1) ∧ X.cell? ⟨gc, k, none⟩ = some (.int .i64 (chS n P m k : Nat)) := fun X h => ⟨(h.cell (p := ⟨w.heap.size, 0, none⟩) (by show w.heap.size < _; omega)).trans f0, (h.cell (p := ⟨w.heap.size, 1, none⟩) (by show w.heap.size < _; omega)).trans f1, (h.cell (p := ⟨gc, k, none⟩) lc).trans yc⟩
      have HCP := Lib.hid hcp
      clear hcp
      go_wp2_with fail
      go_region_held3 (fun w' : World => w'.cell? ⟨w.heap.size, 0, none⟩ = some (.slice p0 n c0) ∧ w'.cell? ⟨w.heap.size, 1, none⟩ = some (.slice p1 m c1) ∧ w'.cell? ⟨gc, k, none⟩ = some (.int .i64 (chS n P m k : Nat)))
        (first | exact hAny _ (below_drw (Below.refl _ _)) | exact hAny _ KX | exact hAny _ KY | exact hAny _ KZ)
        (first
          | (go_at_call 99; refine (l05Cycle_any _ _ n N m P lo hi (((HV.out.below HBB.out hhi).below HL.out (by omega)).drew) (show hi ≤ wr.heap.size by omega) HN.out HB.out _ hcm HCP.out).mono ?_; rintro e wX ⟨v5, g5, rfl, o5, hg5, hb5⟩; obtain ⟨c5, rfl⟩ := o5.shape; have hb5' := below_dr0 hb5; have KX : Below w1.heap.size wr wX := hb5'.mono (by omega); obtain ⟨v7, wz, hr7, ba7, bw7, _⟩ := HO.out.app (by omega) hb5' o5 (show wr.heap.size ≤ g5 from hg5) (by omega); have zX := hb5'.size; have KY : Below w1.heap.size wr (wX.alloc (.cells #[.slice (some ⟨g5, 0, none⟩) m c5] 40)) := below_alloc KX (by omega) _; have KZ : Below w1.heap.size wr wz := KX.trans bw7)
          | (refine step_appT hr7 rfl (.tmp 15) (.tmp 22) rfl rfl rfl rfl ?_))
      have HO7 := Lib.hid ba7
      have HL7 := Lib.hid (HL.out.trans KZ)
      clear hAny KX KY KZ ba7 bw7 hr7 hb5 hb5' o5 f0 f1 yc
      go_wp2_with fail
      rw [← HQ.out]
      refine ⟨⟨_, _, _, _, _, _, _, _, _, _, _, _, _, _, _, _, _, ?rel, rfl⟩, ?measure⟩
      case rel => exact ⟨k + 1, v7, rfl, by go_num, hlt, HO7.out, HL7.out⟩
      case measure => simp [intOf]; omega
    · have hkn : chN n P m = k := by omega
      have HOF := Lib.hid (show Bas wr (.slice po k co) (chN n P m) m (fun i => cyc P (fE n P m) (fD n P m) (chS n P m i)) w1.heap.size by rw [hkn]; exact HO.out)
      have k1 : ¬ ((k : Int) < (chN n P m : Int)) := by omega
      clear hkn
      go_wp2_with fail
      rw [← HQ.out]
      go_wp2_with fail
      go_ret
      exact ⟨_, rfl, HOF.out.low (by omega), HBB.out.trans (HL.out.mono (by omega))⟩
end Go.Proofs.Ytpgcieefipjjfaa.mem
