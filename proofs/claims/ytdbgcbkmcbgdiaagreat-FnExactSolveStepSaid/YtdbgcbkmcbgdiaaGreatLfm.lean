/-
  Several texts in one: Csw, Csx, Thm, Lfa.
-/
import Derived.Test.YtdbgcbkmcbgdiaaGreatRows
import Derived.Test.YtdbgcbkmcbgdiaaGreatCsM
import Derived.Test.YtdbgcbkmcbgdiaaGreatBaM
import Derived.Test.YtdbgcbkmcbgdiaaGreatBsM
namespace Go.Proofs.YtdbgcbkmcbgdiaaGreat.mem
open Go.RowKit
set_option linter.unusedVariables false

/-- an own list of K own lists of m numbers, all from block B on, all in blocks of their own -/
structure Bas (w : World) (v : Value) (K m : Nat) (Y : Nat → Nat → Int) (B : Nat) : Prop where
  ex : ∃ (G C : Nat → Nat), RowE B 28 1 w v K (fun i _ => .slice (some ⟨G i, 0, none⟩) m (C i)) ∧ (∀ i, i < K → Own w (.slice (some ⟨G i, 0, none⟩) m (C i)) m (Y i) (G i) ∧ B ≤ G i) ∧ (∀ i j, i < j → j < K → G i < G j)
theorem row_own {B z : Nat} {w : World} {v u : Value} {K n g : Nat} {c : Nat → Nat → Value} {d : Nat → Int} (h : RowE B 28 z w v K c) (o : Own w u n d g) : v.ownBlock ≠ some g := by
  intro hk
  rcases h.own.2 with ⟨rfl, _⟩ | ⟨q, cap, cur, rfl, _, h3, _⟩
  · simp [Value.ownBlock] at hk
  obtain ⟨cap', cur', _, h1, _⟩ := o.ex
  simp [Value.ownBlock] at hk
  subst hk
  rw [h3] at h1
  injection h1 with h1
  injection h1 with _ h1
  exact absurd h1 (by decide)
theorem bas_nil {B m : Nat} {Y : Nat → Nat → Int} (w : World) (hB : B ≤ w.heap.size) : Bas (w.alloc (.cells #[] 28)) (.slice (some ⟨w.heap.size, 0, none⟩) 0 0) 0 m Y B :=
  ⟨fun _ => 0, fun _ => 0, rowE_nil w _ hB, fun i hi => by omega, fun i j _ hj => by omega⟩
theorem Bas.shape {w : World} {v : Value} {K m B : Nat} {Y : Nat → Nat → Int} (h : Bas w v K m Y B) : ∃ p cap, v = .slice p K cap := by
  obtain ⟨G, C, h1, _⟩ := h.ex
  exact h1.shape
theorem Bas.next {w w' : World} {v : Value} {K m B : Nat} {Y : Nat → Nat → Int} (h : Bas w v K m Y B) (b : Below w.heap.size w w') : Bas w' v K m Y B := by
  obtain ⟨G, C, h1, h2, h3⟩ := h.ex
  exact ⟨G, C, h1.next b, fun i hi => ⟨(h2 i hi).1.below b (Nat.le_refl _), (h2 i hi).2⟩, h3⟩
theorem Bas.low {w : World} {v : Value} {K m B B' : Nat} {Y : Nat → Nat → Int} (h : Bas w v K m Y B) (hB : B' ≤ B) : Bas w v K m Y B' := by
  obtain ⟨G, C, h1, h2, h3⟩ := h.ex
  refine ⟨G, C, ⟨h1.own.1, ?_⟩, fun i hi => ⟨(h2 i hi).1, by have := (h2 i hi).2; omega⟩, h3⟩
  rcases h1.own.2 with h | ⟨g, cap, cur, e, hg, h⟩
  · exact .inl h
  · exact .inr ⟨g, cap, cur, e, by omega, h⟩
theorem info_ints : (Tryz.prog.info? 28).map (fun i => (i.zero, i.size, i.bytes)) = some (some (.slice none 0 0), 1, 24) := by kernel_rfl
/-- one more list behind it -/
theorem Bas.app {w W : World} {v : Value} {K m B : Nat} {Y : Nat → Nat → Int} (h : Bas w v K m Y B) (hB : B ≤ w.heap.size) (b : Below w.heap.size w W) {g c : Nat} (o : Own W (.slice (some ⟨g, 0, none⟩) m c) m (Y K) g) (hg : w.heap.size ≤ g) (hK : K ≤ 1000000) :
    ∃ v' w', Sem.run Tryz.prog (Builtin.append_ #[127, 127] 127 #[v, .slice (some ⟨W.heap.size, 0, none⟩) 1 1]) (W.alloc (.cells #[.slice (some ⟨g, 0, none⟩) m c] 28)) = .ok v' w' ∧ Bas w' v' (K + 1) m Y B ∧ Below B W w' ∧ (∀ q, v.ownBlock ≠ some q → q < W.heap.size → w'.heap[q]? = W.heap[q]?) := by
  obtain ⟨G, C, h1, h2, h3⟩ := h.ex
  have hBW : B ≤ W.heap.size := Nat.le_trans hB b.size
  have r1 := h1.next b
  obtain ⟨v', w', hr, hrow, u⟩ := appOne (c' := fun i _ => .slice (some ⟨if i = K then g else G i, 0, none⟩) m (if i = K then c else C i)) Tryz.underlying127 info_ints (by omega) rfl (by omega) B W v K _ r1 hBW [.slice (some ⟨g, 0, none⟩) m c] rfl (by intro q hq; simp at hq; subst hq; rfl)
    (fun i j hi hj => by rw [if_neg (by omega), if_neg (by omega)]) (fun j hj => by obtain rfl : j = 0 := (by omega); (show some _ = _); rw [if_pos rfl, if_pos rfl]) hK
  refine ⟨v', w', hr, ⟨fun i => if i = K then g else G i, fun i => if i = K then c else C i, hrow, fun i hi => ?_, fun i j hij hj => ?_⟩, u.below hBW (fun k _ hk => (r1.own.lt k hk.symm).1), fun q hq hl => u.block q hl (fun e => hq e.symm)⟩
  · dsimp only
    by_cases e : i = K
    · subst e
      rw [if_pos rfl, if_pos rfl]
      exact ⟨o.keep (u.block g o.lt (fun e => row_own r1 o e.symm)), by omega⟩
    · rw [if_neg e, if_neg e]
      obtain ⟨o1, o2⟩ := h2 i (by omega)
      have o3 := o1.below b (Nat.le_refl _)
      exact ⟨o3.keep (u.block _ o3.lt (fun e => row_own r1 o3 e.symm)), o2⟩
  · dsimp only
    have hi : i ≠ K := by omega
    rw [if_neg hi]
    by_cases e : j = K
    · rw [if_pos e]
      have := (h2 i (by omega)).1.lt
      omega
    · rw [if_neg e]
      exact h3 i j hij (by omega)
set_option maxRecDepth 100000 in
set_option maxHeartbeats 8000000 in
theorem l05Basis_any (w : World) (v : Value) (n : Nat) (N : Nat → Nod) (m : Nat) (P : Nat → Pip) (lo hi : Nat) (h : NetAt w v n N m P lo hi) (hhi : hi ≤ w.heap.size) (hN : ∀ i, i < n → (N i).s.size ≤ 9223372036854775807) (hB : netB n N m P = true) :
    Calls Tryz.prog 103 #[v] w fun e w' => ∃ v2, e = .returned v2 ∧ Bas w' v2 (chN n P m) m (fun i => cyc P (fE n P m) (fD n P m) (chS n P m i)) w.heap.size ∧ Below w.heap.size w w' := by
  have hm40 := (net_sz hB).2.2
  have hcn := chN_le n P m
  have HB := Lib.hid hB
  clear hB
  obtain ⟨p0, c0, p1, c1, rfl, hn9, hm9⟩ := h.parts
  have HV := Lib.hid h
  have HN := Lib.hid hN
  have A0 := boxed w (.slice p0 n c0) (.slice p1 m c1) 27
  have B0 := below_new w (.cells #[.slice p0 n c0, .slice p1 m c1] 27)
  have hs0 : (w.alloc (.cells #[.slice p0 n c0, .slice p1 m c1] 27)).heap.size = w.heap.size + 1 := by simp
  clear h hN
  go_enter Tryz.func103, Tryz.ntmps103
  have e0' := A0.b0
  have e1' := A0.b1
  go_wp2_with fail
  refine (l05Chords_any _ _ n N m P lo hi (HV.out.below B0 hhi) (by omega) HN.out HB.out).mono ?_
  rintro e w1 ⟨vc, gc, rfl, oc, hgc, b1⟩
  obtain ⟨cc, rfl⟩ := oc.shape
  have A1 := A0.below b1 (by omega)
  have B1 := B0.trans (b1.mono (by omega))
  have hs1 := b1.size
  have lc := oc.lt
  have b2 := below_new w1 (.cells #[] 28)
  have hs2 : (w1.alloc (.cells #[] 28)).heap.size = w1.heap.size + 1 := by simp
  have HBN := Lib.hid (bas_nil (B := w1.heap.size) (m := m) (Y := fun i => cyc P (fE n P m) (fD n P m) (chS n P m i)) w1 (Nat.le_refl _))
  have HA := Lib.hid (A1.below b2 (by omega))
  have HC := Lib.hid (oc.below b2 (Nat.le_refl _))
  have HBB := Lib.hid (B1.trans (b2.mono (by omega)))
  clear A0 B0 b1 A1 B1 b2 oc e0' e1'
  go_wp2_with fail
  generalize hW : w1.alloc (.cells #[] 28) = w2 at *
  clear hW
  go_loopw [4, 5] (fun ov iv wr => ∃ (k : Nat) (ov' : Value), ov' = ov ∧ iv = .int .i64 k ∧ k ≤ chN n P m ∧ Bas wr ov' k m (fun i => cyc P (fE n P m) (fD n P m) (chS n P m i)) w1.heap.size ∧ Below w1.heap.size w2 wr) (fun _ iv _ => chN n P m - (intOf iv).toNat)
  case atStart => exact ⟨0, _, rfl, rfl, Nat.zero_le _, HBN.out, Below.refl _ _⟩
  case round =>
    obtain ⟨k, ov, rfl, rfl, hk, ho, hb⟩ := hrel
    obtain ⟨po, co, rfl⟩ := ho.shape
    clear HBN
    have HO := Lib.hid ho
    have HL := Lib.hid hb
    have hsz := hb.size
    clear ho hb
    have k0 : (0 : Int) ≤ (k : Int) := Int.natCast_nonneg _
    generalize hQ : Exit.then _ _ = Q
    have HQ := Lib.hid hQ
    clear hQ
    by_cases hlt : k < chN n P m
    · have k1 : (k : Int) < (chN n P m : Int) := by omega
      obtain ⟨hcm, hcp⟩ := chS_at (n := n) (P := P) (m := m) hlt
      have f0 : wr.cell? ⟨w.heap.size, 0, none⟩ = some (.slice p0 n c0) := (HA.out.below HL.out (by omega)).b0
      have f1 : wr.cell? ⟨w.heap.size, 1, none⟩ = some (.slice p1 m c1) := (HA.out.below HL.out (by omega)).b1
      have yc : wr.cell? ⟨gc, k, none⟩ = some (.int .i64 (chS n P m k : Nat)) := (HL.out.cell (p := ⟨gc, k, none⟩) lc).trans (HC.out.row.cell k hlt)
      have hAny : ∀ X : World, Below w1.heap.size wr X → X.cell? ⟨w.heap.size, 0, none⟩ = some (.slice p0 n c0) ∧ X.cell? ⟨w.heap.size, 1, none⟩ = some (.slice p1 m c1) ∧ X.cell? ⟨gc, k, none⟩ = some (.int .i64 (chS n P m k : Nat)) := fun X h => ⟨(h.cell (p := ⟨w.heap.size, 0, none⟩) (by show w.heap.size < _; omega)).trans f0, (h.cell (p := ⟨w.heap.size, 1, none⟩) (by show w.heap.size < _; omega)).trans f1, (h.cell (p := ⟨gc, k, none⟩) lc).trans yc⟩
      have HCP := Lib.hid hcp
      clear hcp
      go_wp2_with fail
      go_region_held3 (fun w' : World => w'.cell? ⟨w.heap.size, 0, none⟩ = some (.slice p0 n c0) ∧ w'.cell? ⟨w.heap.size, 1, none⟩ = some (.slice p1 m c1) ∧ w'.cell? ⟨gc, k, none⟩ = some (.int .i64 (chS n P m k : Nat)))
        (first | exact hAny _ (below_drw (Below.refl _ _)) | exact hAny _ KX | exact hAny _ KY | exact hAny _ KZ)
        (first
          | (go_at_call 130; refine (l05Cycle_any _ _ n N m P lo hi (((HV.out.below HBB.out hhi).below HL.out (by omega)).drew) (show hi ≤ wr.heap.size by omega) HN.out HB.out _ hcm HCP.out).mono ?_; rintro e wX ⟨v5, g5, rfl, o5, hg5, hb5⟩; obtain ⟨c5, rfl⟩ := o5.shape; have hb5' := below_dr0 hb5; have KX : Below w1.heap.size wr wX := hb5'.mono (by omega); obtain ⟨v7, wz, hr7, ba7, bw7, _⟩ := HO.out.app (by omega) hb5' o5 (show wr.heap.size ≤ g5 from hg5) (by omega); have zX := hb5'.size; have KY : Below w1.heap.size wr (wX.alloc (.cells #[.slice (some ⟨g5, 0, none⟩) m c5] 28)) := below_alloc KX (by omega) _; have KZ : Below w1.heap.size wr wz := KX.trans bw7)
          | (refine step_appT hr7 rfl (.tmp 15) (.tmp 22) rfl rfl rfl rfl ?_))
      have HO7 := Lib.hid ba7
      have HL7 := Lib.hid (HL.out.trans KZ)
      clear hAny KX KY KZ ba7 bw7 hr7 hb5 hb5' o5 f0 f1 yc
      go_wp2_with fail
      rw [← HQ.out]
      refine ⟨⟨_, _, _, _, _, _, _, _, _, _, _, _, _, _, _, _, _, ?rel, rfl⟩, ?measure⟩
      case rel => exact ⟨k + 1, v7, rfl, by go_num, hlt, HO7.out, HL7.out⟩
      case measure => simp [intOf]; omega
    · have hkn : chN n P m = k := by omega
      have HOF := Lib.hid (show Bas wr (.slice po k co) (chN n P m) m (fun i => cyc P (fE n P m) (fD n P m) (chS n P m i)) w1.heap.size by rw [hkn]; exact HO.out)
      have k1 : ¬ ((k : Int) < (chN n P m : Int)) := by omega
      clear hkn
      go_wp2_with fail
      rw [← HQ.out]
      go_wp2_with fail
      go_ret
      exact ⟨_, rfl, HOF.out.low (by omega), HBB.out.trans (HL.out.mono (by omega))⟩
end Go.Proofs.YtdbgcbkmcbgdiaaGreat.mem

namespace Go.Proofs.YtdbgcbkmcbgdiaaGreat.mem
open Go.RowKit
set_option linter.unusedVariables false

theorem Bas.at_ {w : World} {v : Value} {K m B : Nat} {Y : Nat → Nat → Int} (h : Bas w v K m Y B) : K = 0 ∨ ∃ (q cap : Nat) (G C : Nat → Nat), v = .slice (some ⟨q, 0, none⟩) K cap ∧ q < w.heap.size ∧ ∀ k, k < K → w.cell? ⟨q, k, none⟩ = some (.slice (some ⟨G k, 0, none⟩) m (C k)) ∧ Own w (.slice (some ⟨G k, 0, none⟩) m (C k)) m (Y k) (G k) := by
  obtain ⟨G, C, h1, h2, _⟩ := h.ex
  obtain ⟨q, o, _⟩ := h1.ownS
  obtain ⟨p, cap, e, _, _, h4⟩ := o.ex
  rcases h4 with h4 | ⟨rfl, r⟩
  · exact .inl h4
  · refine .inr ⟨q, cap, G, C, e, r.lt, fun k hk => ⟨?_, (h2 k hk).1⟩⟩
    have := r.cell k 0 hk (by omega)
    rwa [Nat.mul_one, Nat.add_zero] at this
theorem tot_ext {P : Nat → Pip} {E D : Int → Int} {cs : Nat → Nat} {am am' : Nat → Int} (a : Nat) : ∀ k, (∀ j, j < k → am j = am' j) → tot P E D cs am k a = tot P E D cs am' k a
  | 0, _ => rfl
  | k + 1, h => by
    show tot P E D cs am k a + am k * cyc P E D (cs k) a = tot P E D cs am' k a + am' k * cyc P E D (cs k) a
    rw [tot_ext a k (fun j hj => h j (by omega)), h k (by omega)]
theorem flo_bd2 {n : Nat} {N : Nat → Nod} {P : Nat → Pip} {m : Nat} (hN : netB n N m P = true) {am : Nat → Int} (a k : Nat) (hk : k ≤ chN n P m) (ha : ∀ j, j < k → -30000 ≤ am j ∧ am j ≤ 30000) : -90000 * (k : Int) ≤ flo n P m am k a ∧ flo n P m am k a ≤ 90000 * (k : Int) := by
  have h := flo_bd hN (am := fun j => if j < k then am j else 0) (fun j _ => by
    split
    · exact ha j ‹_›
    · omega) a k hk
  unfold flo at h ⊢
  rwa [tot_ext (am' := am) a k (fun j hj => if_pos hj)] at h
theorem frN_le (n : Nat) (N : Nat → Nod) (m : Nat) (P : Nat → Pip) (K : Nat) (d : Nat → Int) (hm : m ≤ 2000000) : frN n N m P K d ≤ 2000000 := by
  unfold frN
  split <;> omega
end Go.Proofs.YtdbgcbkmcbgdiaaGreat.mem

namespace Go.Proofs.YtdbgcbkmcbgdiaaGreat.mem
open Go.RowKit
set_option linter.unusedVariables false

def tl (s : Nat → Int) : Nat → Int
  | 0 => 0
  | k + 1 => tl s k + s k
theorem tl_add (s t : Nat → Int) : ∀ k, tl (fun i => s i + t i) k = tl s k + tl t k
  | 0 => rfl
  | k + 1 => by unfold tl; rw [tl_add s t k]; omega
theorem tl_zero : ∀ k, tl (fun _ => 0) k = 0
  | 0 => rfl
  | k + 1 => by unfold tl; rw [tl_zero k]; rfl
theorem tl_congr {s t : Nat → Int} : ∀ {k : Nat}, (∀ i, i < k → s i = t i) → tl s k = tl t k
  | 0, _ => rfl
  | k + 1, h => by unfold tl; rw [tl_congr (k := k) (fun i hi => h i (by omega)), h k (by omega)]
theorem tl_one (r : Nat) (c : Int) : ∀ n, tl (fun z => if ((r : Nat) : Int) = ((z : Nat) : Int) then c else 0) n = if r < n then c else 0
  | 0 => by rw [if_neg (by omega)]; rfl
  | n + 1 => by
    unfold tl
    rw [tl_one r c n]
    by_cases e : r = n
    · subst e
      rw [if_neg (by omega), if_pos rfl, if_pos (by omega)]
      omega
    · rw [if_neg (show ¬ ((r : Nat) : Int) = ((n : Nat) : Int) by omega)]
      by_cases g : r < n
      · rw [if_pos g, if_pos (by omega)]; omega
      · rw [if_neg g, if_neg (by omega)]; rfl
theorem tl_csm {R s : Nat → Int} {n : Nat} : ∀ k, (∀ i, i < k → ∃ r : Nat, r < n ∧ R i = ((r : Nat) : Int)) → tl (fun z => csm R s k ((z : Nat) : Int)) n = tl s k
  | 0, _ => tl_zero n
  | k + 1, h => by
    obtain ⟨r, hr, e⟩ := h k (by omega)
    have e1 : (fun z : Nat => csm R s (k + 1) ((z : Nat) : Int)) = fun z => csm R s k ((z : Nat) : Int) + (if ((r : Nat) : Int) = ((z : Nat) : Int) then s k else 0) := by
      funext z
      rw [csm, e]
    rw [e1, tl_add, tl_csm k (fun i hi => h i (by omega)), tl_one, if_pos hr]
    rfl
/-- even supplies add up to 0 -/
theorem even_tl {n : Nat} {N : Nat → Nod} {P : Nat → Pip} {m : Nat} (hN : netB n N m P = true) {s : Nat → Int} (he : evB n P m s = true) : tl s n = 0 := by
  have h1 := tl_csm (R := cmpN n P m) (s := s) (n := n) n (fun i hi => by
    obtain ⟨r, h1, h2⟩ := cmp_nat (P := P) (m := m) hN hi
    exact ⟨r, h1, h2⟩)
  rw [← h1, tl_congr (t := fun _ => 0) (fun z hz => evB_iff.1 he z hz), tl_zero]
theorem thr_abs (s : Nat → Int) : ∀ k, 2 * thr s k = tl (fun i => max (s i) (-(s i))) k + tl s k
  | 0 => rfl
  | k + 1 => by
    have ih := thr_abs s k
    unfold thr tl
    have e : 2 * max (s k) 0 = max (s k) (-(s k)) + s k := by
      rw [Int.max_def, Int.max_def]
      split <;> split <;> omega
    omega
end Go.Proofs.YtdbgcbkmcbgdiaaGreat.mem

namespace Go.Proofs.YtdbgcbkmcbgdiaaGreat.mem
open Go.RowKit
set_option linter.unusedVariables false

theorem Sl.next {w w' : World} {v : Value} {n : Nat} {d : Nat → Int} {lo : Nat} (h : Sl w v n d lo w.heap.size) (g : Below w.heap.size w w') : Sl w' v n d lo w'.heap.size := (h.below g (Nat.le_refl _)).mono (Nat.le_refl _) g.size
theorem Sl.zero {w : World} {v : Value} {n : Nat} {d : Nat → Int} {lo hi : Nat} (h : Sl w v n d lo hi) : Sl w v n d 0 hi := h.mono (Nat.zero_le _) (Nat.le_refl _)
theorem tl_bd {d : Nat → Int} : ∀ {k : Nat}, (∀ i, i < k → -30000 ≤ d i ∧ d i ≤ 30000) → 0 ≤ tl (fun i => max (d i) (-(d i))) k ∧ tl (fun i => max (d i) (-(d i))) k ≤ 30000 * (k : Int)
  | 0, _ => by show (0 : Int) ≤ (0 : Int) ∧ (0 : Int) ≤ _; omega
  | k + 1, h => by
    have ih := tl_bd (d := d) (k := k) (fun i hi => h i (by omega))
    have h1 := h k (by omega)
    unfold tl
    rw [Int.max_def]
    split <;> omega
theorem ffC_ok {n : Nat} {N : Nat → Nod} {m : Nat} {P : Nat → Pip} {K : Nat} {d : Nat → Int} (h : ffC n N m P K d = 0) : netB n N m P = true ∧ K = n ∧ flB d K = true ∧ evB n P m d = true ∧ flB (fflN n P m d) m = true := by
  unfold ffC at h
  split at h
  · next hc =>
    obtain ⟨h1, h2, h3⟩ := svC_ok hc
    split at h
    · next he =>
      split at h
      · next hf => exact ⟨h1, h2, h3, he, hf⟩
      · omega
    · omega
  · next hc => exact absurd h hc
theorem flC_is {n : Nat} {N : Nat → Nod} {m : Nat} {P : Nat → Pip} {d : Nat → Int} (hB : netB n N m P = true) (hf : flB d m = true) : flC n N m P m d = 0 := by
  unfold flC
  rw [hB, if_pos rfl, if_pos ⟨rfl, hf⟩]
theorem svC_is {n : Nat} {N : Nat → Nod} {m : Nat} {P : Nat → Pip} {d : Nat → Int} (hB : netB n N m P = true) (hf : flB d n = true) : svC n N m P n d = 0 := by
  unfold svC
  rw [hB, if_pos rfl, if_pos ⟨rfl, hf⟩]
theorem ib_is {n : Nat} {N : Nat → Nod} {m : Nat} {P : Nat → Pip} {d s : Nat → Int} (hB : netB n N m P = true) (hf : flB d m = true) (hs : flB s n = true) (h : ∀ z, z < n → dv P d m ((z : Nat) : Int) = s z) : ibB n N m P m d n s = true := by
  unfold ibB
  rw [flC_is hB hf, svC_is hB hs]
  simp only [decide_true, Bool.true_and]
  rw [List.all_eq_true]
  intro z hz
  simpa using h z (List.mem_range.1 hz)
theorem ci_is {n : Nat} {N : Nat → Nod} {m : Nat} {P : Nat → Pip} {d : Nat → Int} (hB : netB n N m P = true) (hf : flB d m = true) (h : ∀ z : Int, 0 ≤ z → z < n → dv P d m z = 0) : ciB n N m P m d = true := by
  unfold ciB
  rw [flC_is hB hf]
  simp only [decide_true, Bool.true_and]
  exact dv_all.2 h
theorem fflN_chord {n : Nat} {N : Nat → Nod} {P : Nat → Pip} {m : Nat} (hB : netB n N m P = true) (d : Nat → Int) {j : Nat} (hj : j < chN n P m) : fflN n P m d (chS n P m j) = 0 := by
  by_cases g : fflN n P m d (chS n P m j) = 0
  · exact g
  · obtain ⟨z, z0, z1, e⟩ := (fo_net hB).ffl_sup (s := d) (a := chS n P m j) n (Nat.le_refl n) g
    exact absurd e (chP_no hB (chS_at hj).2 z z0 z1)
theorem frC_ok {n : Nat} {N : Nat → Nod} {m : Nat} {P : Nat → Pip} {K : Nat} {d : Nat → Int} (h : frC n N m P K d = 0) : netB n N m P = true ∧ K = chN n P m ∧ flB d K = true ∧ flB (flo n P m d (chN n P m)) m = true := by
  unfold frC at h
  split at h
  · next hB =>
    split at h
    · next hK =>
      split at h
      · next hf =>
        split at h
        · next hl => exact ⟨hB, hK, hf, hl⟩
        · omega
      · omega
    · omega
  · omega
theorem adC_ok {n : Nat} {N : Nat → Nod} {m : Nat} {P : Nat → Pip} {K : Nat} {d : Nat → Int} {x y : Int} (h : adC n N m P K d x y = 0) : flC n N m P K d = 0 ∧ chB n P m x = true ∧ flQ y = true ∧ flB (fun k => d k + y * cyD n P m x k) m = true := by
  unfold adC at h
  split at h
  · next h0 =>
    split at h
    · next h1 =>
      split at h
      · next h2 =>
        split at h
        · next h3 => exact ⟨h0, h1, h2, h3⟩
        · omega
      · omega
    · omega
  · next h0 => exact absurd h h0
theorem even_of {n : Nat} {N : Nat → Nod} {m : Nat} {P : Nat → Pip} {d s : Nat → Int} (hB : netB n N m P = true) (h : ∀ z, z < n → dv P d m ((z : Nat) : Int) = s z) : evB n P m s = true := by
  rw [evB_iff]
  intro z hz
  rw [csm_congr (t := fun i => dv P d m ((i : Nat) : Int)) (fun i hi => (h i hi).symm)]
  exact csm_dv m (fun a ha => by
    obtain ⟨p1, p2, _⟩ := pip_end (net_pip hB ha)
    refine ⟨p1, p2, ?_⟩
    unfold cmpN
    rw [Int.toNat_of_nonneg p1.1, Int.toNat_of_nonneg p2.1]
    exact fo_r1 hB a ha)
theorem dv_neg (P : Nat → Pip) (x : Nat → Int) (k : Nat) (z : Int) : dv P (fun a => -(x a)) k z = -(dv P x k z) := by
  have e : (fun a => -(x a)) = fun a => (-1) * x a := by funext a; omega
  rw [e, dv_mul]
  omega
end Go.Proofs.YtdbgcbkmcbgdiaaGreat.mem
