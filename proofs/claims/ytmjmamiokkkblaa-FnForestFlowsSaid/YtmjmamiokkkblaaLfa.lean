/-
  What the laws of chapters 5 and 6 ask of the functions' answers. Conditions: as each states.
-/
import Derived.Test.YtmjmamiokkkblaaRows
import Derived.Test.YtmjmamiokkkblaaBsM
import Derived.Test.YtmjmamiokkkblaaThm
import Derived.Test.YtmjmamiokkkblaaCsx
namespace Go.Proofs.Ytmjmamiokkkblaa.mem
open Go.RowKit
set_option linter.unusedVariables false

theorem Sl.next {w w' : World} {v : Value} {n : Nat} {d : Nat → Int} {lo : Nat} (h : Sl w v n d lo w.heap.size) (g : Below w.heap.size w w') : Sl w' v n d lo w'.heap.size := (h.below g (Nat.le_refl _)).mono (Nat.le_refl _) g.size
theorem Sl.zero {w : World} {v : Value} {n : Nat} {d : Nat → Int} {lo hi : Nat} (h : Sl w v n d lo hi) : Sl w v n d 0 hi := h.mono (Nat.zero_le _) (Nat.le_refl _)
theorem tl_bd {d : Nat → Int} : ∀ {k : Nat}, (∀ i, i < k → -30000 ≤ d i ∧ d i ≤ 30000) → 0 ≤ tl (fun i => max (d i) (-(d i))) k ∧ tl (fun i => max (d i) (-(d i))) k ≤ 30000 * (k : Int)
  | 0, _ => by show (0 : Int) ≤ (0 : Int) ∧ (0 : Int) ≤ _; omega
  | k + 1, h => by
    have ih := tl_bd (d := d) (k := k) (fun i hi => h i (by omega))
    have h1 := h k (by omega)
    unfold tl
    rw [Int.max_def]
    split <;> omega
theorem thFacts (n : Nat) (N : Nat → Nod) (m : Nat) (P : Nat → Pip) (K : Nat) (d : Nat → Int) (hN : ∀ i, i < n → (N i).s.size ≤ 9223372036854775807) (hK : K ≤ 2000000) :
    ∃ (ra rc : Int) (eb : Bool), (∀ w v va, NetAt w v n N m P 0 w.heap.size → Sl w va K d 0 w.heap.size → Calls Try.prog 13 #[v, va] w (IIPost w ra rc)) ∧ (∀ w v va, NetAt w v n N m P 0 w.heap.size → Sl w va K d 0 w.heap.size → Calls Try.prog 14 #[v, va] w (IIPost w ra rc)) ∧
      (∀ w v va, NetAt w v n N m P 0 w.heap.size → Sl w va K d 0 w.heap.size → Calls Try.prog 15 #[v, va] w (BPost w eb)) ∧
      (rc = 0 → eb = true → 2 * ra = tl (fun i => max (d i) (-(d i))) K ∧ K ≤ 24 ∧ 0 ≤ ra ∧ ra ≤ 720000 ∧ ∀ i, i < K → -30000 ≤ d i ∧ d i ≤ 30000) := by
  refine ⟨thC n N m P K d, svC n N m P K d, ieB n N m P K d, fun w v va h hv => throughputOfI_any w v n N m P 0 _ h (Nat.le_refl _) hN va K d 0 _ hv (Nat.le_refl _) (by omega), fun w v va h hv => throughputOfS_any w v n N m P 0 _ h (Nat.le_refl _) hN va K d 0 _ hv (Nat.le_refl _) (by omega), fun w v va h hv => isEvenS_any w v n N m P 0 _ h (Nat.le_refl _) hN va K d 0 _ hv (Nat.le_refl _) (by omega), fun hc he => ?_⟩
  obtain ⟨hB, rfl, hf⟩ := svC_ok hc
  unfold ieB at he
  rw [Bool.and_eq_true] at he
  have h1 := thr_abs d K
  rw [even_tl hB he.2] at h1
  have h2 : thC K N m P K d = thr d K := by unfold thC; rw [if_pos hc]
  have hfr : ∀ i, i < K → -30000 ≤ d i ∧ d i ≤ 30000 := fun i hi => flQ_iff.1 (flB_iff.1 hf i hi)
  have h3 := thr_bd (s := d) (k := K) hfr
  have h4 := (net_sz hB).2.1
  exact ⟨by rw [h2]; omega, h4, by rw [h2]; exact h3.1, by rw [h2]; omega, hfr⟩

theorem ffC_ok {n : Nat} {N : Nat → Nod} {m : Nat} {P : Nat → Pip} {K : Nat} {d : Nat → Int} (h : ffC n N m P K d = 0) : netB n N m P = true ∧ K = n ∧ flB d K = true ∧ evB n P m d = true ∧ flB (fflN n P m d) m = true := by
  unfold ffC at h
  split at h
  · next hc =>
    obtain ⟨h1, h2, h3⟩ := svC_ok hc
    split at h
    · next he =>
      split at h
      · next hf => exact ⟨h1, h2, h3, he, hf⟩
      · omega
    · omega
  · next hc => exact absurd h hc
theorem flC_is {n : Nat} {N : Nat → Nod} {m : Nat} {P : Nat → Pip} {d : Nat → Int} (hB : netB n N m P = true) (hf : flB d m = true) : flC n N m P m d = 0 := by
  unfold flC
  rw [hB, if_pos rfl, if_pos ⟨rfl, hf⟩]
theorem svC_is {n : Nat} {N : Nat → Nod} {m : Nat} {P : Nat → Pip} {d : Nat → Int} (hB : netB n N m P = true) (hf : flB d n = true) : svC n N m P n d = 0 := by
  unfold svC
  rw [hB, if_pos rfl, if_pos ⟨rfl, hf⟩]
theorem ib_is {n : Nat} {N : Nat → Nod} {m : Nat} {P : Nat → Pip} {d s : Nat → Int} (hB : netB n N m P = true) (hf : flB d m = true) (hs : flB s n = true) (h : ∀ z, z < n → dv P d m ((z : Nat) : Int) = s z) : ibB n N m P m d n s = true := by
  unfold ibB
  rw [flC_is hB hf, svC_is hB hs]
  simp only [decide_true, Bool.true_and]
  rw [List.all_eq_true]
  intro z hz
  simpa using h z (List.mem_range.1 hz)
theorem ci_is {n : Nat} {N : Nat → Nod} {m : Nat} {P : Nat → Pip} {d : Nat → Int} (hB : netB n N m P = true) (hf : flB d m = true) (h : ∀ z : Int, 0 ≤ z → z < n → dv P d m z = 0) : ciB n N m P m d = true := by
  unfold ciB
  rw [flC_is hB hf]
  simp only [decide_true, Bool.true_and]
  exact dv_all.2 h
theorem fflN_chord {n : Nat} {N : Nat → Nod} {P : Nat → Pip} {m : Nat} (hB : netB n N m P = true) (d : Nat → Int) {j : Nat} (hj : j < chN n P m) : fflN n P m d (chS n P m j) = 0 := by
  by_cases g : fflN n P m d (chS n P m j) = 0
  · exact g
  · obtain ⟨z, z0, z1, e⟩ := (fo_net hB).ffl_sup (s := d) (a := chS n P m j) n (Nat.le_refl n) g
    exact absurd e (chP_no hB (chS_at hj).2 z z0 z1)
theorem ffFacts (n : Nat) (N : Nat → Nod) (m : Nat) (P : Nat → Pip) (K : Nat) (d : Nat → Int) (hN : ∀ i, i < n → (N i).s.size ≤ 9223372036854775807) (hm : m ≤ 1000) (hK : K ≤ 2000000) :
    ∃ (rn : Nat) (rd : Nat → Int) (rc : Int) (eb : Bool), rn ≤ 1000 ∧ (∀ w v va, NetAt w v n N m P 0 w.heap.size → Sl w va K d 0 w.heap.size → Calls Try.prog 18 #[v, va] w (LIPost w rn rd rc)) ∧ (∀ w v va, NetAt w v n N m P 0 w.heap.size → Sl w va K d 0 w.heap.size → Calls Try.prog 19 #[v, va] w (LIPost w rn rd rc)) ∧
      (∀ w v va, NetAt w v n N m P 0 w.heap.size → Sl w va K d 0 w.heap.size → Calls Try.prog 21 #[v, va] w (BPost w eb)) ∧ (∀ w v va, NetAt w v n N m P 0 w.heap.size → Sl w va K d 0 w.heap.size → Calls Try.prog 15 #[v, va] w (BPost w eb)) ∧
      (rc = 0 → ∃ (an : Nat) (ad : Nat → Int), an ≤ 1000 ∧ (∀ w v va, NetAt w v n N m P 0 w.heap.size → Sl w va rn rd 0 w.heap.size → Calls Try.prog 22 #[v, va] w (LIPost w an ad 0)) ∧ (∀ w v va, NetAt w v n N m P 0 w.heap.size → Sl w va rn rd 0 w.heap.size → Calls Try.prog 23 #[v, va] w (LIPost w an ad 0)) ∧ (∀ k, k < an → ad k = 0) ∧
        (∀ w v va vb, NetAt w v n N m P 0 w.heap.size → Sl w va rn rd 0 w.heap.size → Sl w vb K d 0 w.heap.size → Calls Try.prog 24 #[v, va, vb] w (BPost w true))) := by
  refine ⟨ffN n N m P K d, fflN n P m d, ffC n N m P K d, ieB n N m P K d, by unfold ffN; split <;> omega, fun w v va h hv => forestFlowsI_any w v n N m P 0 _ h (Nat.le_refl _) hN va K d 0 _ hv (Nat.le_refl _) (by omega), fun w v va h hv => forestFlowsS_any w v n N m P 0 _ h (Nat.le_refl _) hN va K d 0 _ hv (Nat.le_refl _) (by omega), fun w v va h hv => isEvenI_any w v n N m P 0 _ h (Nat.le_refl _) hN va K d 0 _ hv (Nat.le_refl _) (by omega), fun w v va h hv => isEvenS_any w v n N m P 0 _ h (Nat.le_refl _) hN va K d 0 _ hv (Nat.le_refl _) (by omega), fun hc => ?_⟩
  obtain ⟨hB, rfl, hf, he, hff⟩ := ffC_ok hc
  have hrn : ffN K N m P K d = m := by unfold ffN; rw [if_pos hc]
  have h0 := flC_is hB hff
  have hcn := chN_le K P m
  have hcf : cfN K N m P m (fflN K P m d) = chN K P m := by unfold cfN; rw [h0]; rfl
  rw [hrn]
  refine ⟨chN K P m, fun j => fflN K P m d (chS K P m j), by omega, fun w v va h hv => ?_, fun w v va h hv => ?_, fun k hk => fflN_chord hB d hk, fun w v va vb h hv hu => ?_⟩
  · have := chordFlowsI_any w v K N m P 0 _ h (Nat.le_refl _) hN va m _ 0 _ hv (Nat.le_refl _) (by omega)
    rwa [hcf, h0] at this
  · have := chordFlowsS_any w v K N m P 0 _ h (Nat.le_refl _) hN va m _ 0 _ hv (Nat.le_refl _) (by omega)
    rwa [hcf, h0] at this
  · have := isBalancedI_any w v K N m P 0 _ h (Nat.le_refl _) hN va m _ 0 _ hv (Nat.le_refl _) (by omega) vb K d 0 _ hu (Nat.le_refl _) (by omega)
    rwa [ib_is hB hff hf (fun z hz => fflN_bal hB he z hz)] at this

theorem cyFacts (n : Nat) (N : Nat → Nod) (m : Nat) (P : Nat → Pip) (x : Int) (hN : ∀ i, i < n → (N i).s.size ≤ 9223372036854775807) (hm : m ≤ 1000) :
    ∃ (yn : Nat) (yd : Nat → Int) (yc : Int) (cn : Nat) (cd : Nat → Int) (cc : Int), yn ≤ 1000 ∧ cn ≤ 1000 ∧ (∀ w v, NetAt w v n N m P 0 w.heap.size → Calls Try.prog 26 #[v, .int .i64 x] w (LIPost w yn yd yc)) ∧ (∀ w v, NetAt w v n N m P 0 w.heap.size → Calls Try.prog 27 #[v, .int .i64 x] w (LIPost w yn yd yc)) ∧
      (∀ w v, NetAt w v n N m P 0 w.heap.size → Calls Try.prog 28 #[v] w (LIPost w cn cd cc)) ∧ (∀ w v, NetAt w v n N m P 0 w.heap.size → Calls Try.prog 29 #[v] w (LIPost w cn cd cc)) ∧
      (yc = 0 → ∃ fd' : Nat → Int, (∀ w v va, NetAt w v n N m P 0 w.heap.size → Sl w va yn yd 0 w.heap.size → Calls Try.prog 22 #[v, va] w (LIPost w cn fd' 0)) ∧ (∀ w v va, NetAt w v n N m P 0 w.heap.size → Sl w va yn yd 0 w.heap.size → Calls Try.prog 23 #[v, va] w (LIPost w cn fd' 0)) ∧
        (∀ k, k < cn → fd' k = if cd k = x then 1 else 0) ∧ (∀ w v va, NetAt w v n N m P 0 w.heap.size → Sl w va yn yd 0 w.heap.size → Calls Try.prog 30 #[v, va] w (BPost w true))) := by
  have hcn := chN_le n P m
  refine ⟨cyN n N m P x, cyD n P m x, cyC n N m P x, coN n N m P, fd (chP n P m) m, cmC (netB n N m P), by unfold cyN; split <;> omega, by unfold coN; split <;> omega, fun w v h => cycleOfI_any w v n N m P 0 _ h (Nat.le_refl _) hN x, fun w v h => cycleOfS_any w v n N m P 0 _ h (Nat.le_refl _) hN x, fun w v h => chordsOfI_any w v n N m P 0 _ h (Nat.le_refl _) hN, fun w v h => chordsOfS_any w v n N m P 0 _ h (Nat.le_refl _) hN, fun hc => ?_⟩
  have hz : netB n N m P = true ∧ chB n P m x = true := by
    have h := hc
    unfold cyC at h
    split at h
    · next hB =>
      split at h
      · next h2 => exact ⟨hB, h2⟩
      · omega
    · omega
  obtain ⟨hB, hch⟩ := hz
  obtain ⟨c, rfl, hcm, hcp⟩ := chB_yes hch
  have hyn : cyN n N m P ((c : Nat) : Int) = m := by unfold cyN; rw [if_pos hc]
  have hcoN : coN n N m P = chN n P m := by unfold coN; rw [hB]; rfl
  have hyd : cyD n P m ((c : Nat) : Int) = cyc P (fE n P m) (fD n P m) c := by unfold cyD; rw [Int.toNat_natCast]
  have hff : flB (cyc P (fE n P m) (fD n P m) c) m = true := flB_iff.2 fun k _ => flQ_iff.2 (by have := (fo_net hB).cyc_rng hcm k; omega)
  have h0 := flC_is hB hff
  have hcf : cfN n N m P m (cyc P (fE n P m) (fD n P m) c) = chN n P m := by unfold cfN; rw [h0]; rfl
  rw [hyn, hcoN, hyd]
  refine ⟨fun j => cyc P (fE n P m) (fD n P m) c (chS n P m j), fun w v va h hv => ?_, fun w v va h hv => ?_, fun k hk => ?_, fun w v va h hv => ?_⟩
  · have := chordFlowsI_any w v n N m P 0 _ h (Nat.le_refl _) hN va m _ 0 _ hv (Nat.le_refl _) (by omega)
    rwa [hcf, h0] at this
  · have := chordFlowsS_any w v n N m P 0 _ h (Nat.le_refl _) hN va m _ 0 _ hv (Nat.le_refl _) (by omega)
    rwa [hcf, h0] at this
  · show cyc P (fE n P m) (fD n P m) c (chS n P m k) = _
    rw [(fo_net hB).cyc_chord hcm (chP_no hB (chS_at hk).2), chS_fd]
    unfold one1
    by_cases e : chS n P m k = c
    · rw [if_pos e, if_pos (by omega)]
    · rw [if_neg e, if_neg (by omega)]
  · have := isCirculationI_any w v n N m P 0 _ h (Nat.le_refl _) hN va m _ 0 _ hv (Nat.le_refl _) (by omega)
    rwa [ci_is hB hff (fun z _ _ => (fo_net hB).cyc_dv (fo_r0 hB) (fo_r2 hB) hcm (fo_r1 hB c hcm) z)] at this

theorem ciFacts (n : Nat) (N : Nat → Nod) (m : Nat) (P : Nat → Pip) (K : Nat) (d : Nat → Int) (hN : ∀ i, i < n → (N i).s.size ≤ 9223372036854775807) (hm : m ≤ 1000) (hK : K ≤ 2000000) :
    ∃ cb : Bool, (∀ w v va, NetAt w v n N m P 0 w.heap.size → Sl w va K d 0 w.heap.size → Calls Try.prog 30 #[v, va] w (BPost w cb)) ∧ (∀ w v va, NetAt w v n N m P 0 w.heap.size → Sl w va K d 0 w.heap.size → Calls Try.prog 36 #[v, va] w (BPost w cb)) ∧
      (cb = true → ∃ (an : Nat) (ad rd : Nat → Int), an ≤ 1000 ∧ K ≤ 1000 ∧ (∀ w v va, NetAt w v n N m P 0 w.heap.size → Sl w va K d 0 w.heap.size → Calls Try.prog 22 #[v, va] w (LIPost w an ad 0)) ∧ (∀ w v va, NetAt w v n N m P 0 w.heap.size → Sl w va an ad 0 w.heap.size → Calls Try.prog 37 #[v, va] w (LIPost w K rd 0)) ∧ (∀ k, k < K → rd k = d k)) := by
  refine ⟨ciB n N m P K d, fun w v va h hv => isCirculationI_any w v n N m P 0 _ h (Nat.le_refl _) hN va K d 0 _ hv (Nat.le_refl _) (by omega), fun w v va h hv => isCirculationS_any w v n N m P 0 _ h (Nat.le_refl _) hN va K d 0 _ hv (Nat.le_refl _) (by omega), fun hc => ?_⟩
  unfold ciB at hc
  rw [Bool.and_eq_true, decide_eq_true_eq] at hc
  obtain ⟨h0, hdv⟩ := hc
  obtain ⟨hB, rfl, hf⟩ := flC_ok h0
  have hcn := chN_le n P K
  have hcf : cfN n N K P K d = chN n P K := by unfold cfN; rw [h0]; rfl
  have hci := (circ_iff hB d).2 (dv_all.1 hdv)
  have hfa : flB (fun j => d (chS n P K j)) (chN n P K) = true := flB_iff.2 fun j hj => flB_iff.1 hf _ (chS_at hj).1
  have hfl : flB (flo n P K (fun j => d (chS n P K j)) (chN n P K)) K = true := by rw [flB_congr hci]; exact hf
  have hfr : frC n N K P (chN n P K) (fun j => d (chS n P K j)) = 0 := by
    unfold frC
    rw [hB, if_pos rfl, if_pos rfl, hfa, hfl]
    rfl
  refine ⟨chN n P K, fun j => d (chS n P K j), frD n P K (fun j => d (chS n P K j)), by omega, by omega, fun w v va h hv => ?_, fun w v va h hv => ?_, fun k hk => hci k hk⟩
  · have := chordFlowsI_any w v n N K P 0 _ h (Nat.le_refl _) hN va K d 0 _ hv (Nat.le_refl _) (by omega)
    rwa [hcf, h0] at this
  · have := fromChordsI_any w v n N K P 0 _ h (Nat.le_refl _) hN va _ _ 0 _ hv (Nat.le_refl _) (by omega)
    rwa [hfr, show frN n N K P (chN n P K) (fun j => d (chS n P K j)) = K from by unfold frN; rw [if_pos hfr]] at this

theorem frC_ok {n : Nat} {N : Nat → Nod} {m : Nat} {P : Nat → Pip} {K : Nat} {d : Nat → Int} (h : frC n N m P K d = 0) : netB n N m P = true ∧ K = chN n P m ∧ flB d K = true ∧ flB (flo n P m d (chN n P m)) m = true := by
  unfold frC at h
  split at h
  · next hB =>
    split at h
    · next hK =>
      split at h
      · next hf =>
        split at h
        · next hl => exact ⟨hB, hK, hf, hl⟩
        · omega
      · omega
    · omega
  · omega
theorem adC_ok {n : Nat} {N : Nat → Nod} {m : Nat} {P : Nat → Pip} {K : Nat} {d : Nat → Int} {x y : Int} (h : adC n N m P K d x y = 0) : flC n N m P K d = 0 ∧ chB n P m x = true ∧ flQ y = true ∧ flB (fun k => d k + y * cyD n P m x k) m = true := by
  unfold adC at h
  split at h
  · next h0 =>
    split at h
    · next h1 =>
      split at h
      · next h2 =>
        split at h
        · next h3 => exact ⟨h0, h1, h2, h3⟩
        · omega
      · omega
    · omega
  · next h0 => exact absurd h h0
theorem adFacts (n : Nat) (N : Nat → Nod) (m : Nat) (P : Nat → Pip) (K : Nat) (d : Nat → Int) (x y : Int) (hN : ∀ i, i < n → (N i).s.size ≤ 9223372036854775807) (hn : n ≤ 1000) (hm : m ≤ 1000) (hK : K ≤ 2000000) :
    ∃ (xn : Nat) (xd : Nat → Int) (xc : Int), xn ≤ 1000 ∧ (∀ w v va, NetAt w v n N m P 0 w.heap.size → Sl w va K d 0 w.heap.size → Calls Try.prog 32 #[v, va, .int .i64 x, .int .i64 y] w (LIPost w xn xd xc)) ∧ (∀ w v va, NetAt w v n N m P 0 w.heap.size → Sl w va K d 0 w.heap.size → Calls Try.prog 33 #[v, va, .int .i64 x, .int .i64 y] w (LIPost w xn xd xc)) ∧
      (xc = 0 → ∃ (an : Nat) (ad bd rd : Nat → Int) (ac : Int), an ≤ 1000 ∧ K ≤ 1000 ∧ -30000 ≤ y ∧ y ≤ 30000 ∧ (∀ w v va, NetAt w v n N m P 0 w.heap.size → Sl w va K d 0 w.heap.size → Calls Try.prog 34 #[v, va] w (LIPost w an ad ac)) ∧ (∀ w v va, NetAt w v n N m P 0 w.heap.size → Sl w va xn xd 0 w.heap.size → Calls Try.prog 34 #[v, va] w (LIPost w an bd ac)) ∧ (∀ k, k < an → bd k = ad k) ∧
        (∀ w v va, NetAt w v n N m P 0 w.heap.size → Sl w va xn xd 0 w.heap.size → Calls Try.prog 32 #[v, va, .int .i64 x, .int .i64 (-y)] w (LIPost w K rd 0)) ∧ (∀ k, k < K → rd k = d k)) := by
  refine ⟨adN n N m P K d x y, adD n P m d x y, adC n N m P K d x y, by unfold adN; split <;> omega, fun w v va h hv => addCycleI_any w v n N m P 0 _ h (Nat.le_refl _) hN va K d 0 _ hv (Nat.le_refl _) (by omega) x y, fun w v va h hv => addCycleS_any w v n N m P 0 _ h (Nat.le_refl _) hN va K d 0 _ hv (Nat.le_refl _) (by omega) x y, fun hc => ?_⟩
  have hxn : adN n N m P K d x y = m := by unfold adN; rw [if_pos hc]
  obtain ⟨h0, hch, hq, hl⟩ := adC_ok hc
  obtain ⟨hB, rfl, hf⟩ := flC_ok h0
  obtain ⟨c, rfl, hcm, hcp⟩ := chB_yes hch
  have hyd : cyD n P K ((c : Nat) : Int) = cyc P (fE n P K) (fD n P K) c := by unfold cyD; rw [Int.toNat_natCast]
  have hl' : flB (adD n P K d ((c : Nat) : Int) y) K = true := hl
  have h1 := flC_is hB hl'
  have hdv : ∀ z : Int, dv P (adD n P K d ((c : Nat) : Int) y) K z = dv P d K z := fun z => by
    have e : adD n P K d ((c : Nat) : Int) y = fun k => d k + (fun b => y * cyc P (fE n P K) (fD n P K) c b) k := by
      funext k
      unfold adD
      rw [hyd]
    rw [e, dv_add, dv_mul, (fo_net hB).cyc_dv (fo_r0 hB) (fo_r2 hB) hcm (fo_r1 hB c hcm) z, Int.mul_zero, Int.add_zero]
  have hyr := flQ_iff.1 hq
  have hsu : suC n N K P K (adD n P K d ((c : Nat) : Int) y) = suC n N K P K d := by
    unfold suC
    rw [h0, h1, flB_congr (fun z _ => hdv ((z : Nat) : Int))]
  have hsn : suN n N K P K (adD n P K d ((c : Nat) : Int) y) = suN n N K P K d := by unfold suN; rw [hsu]
  have hback : adD n P K (adD n P K d ((c : Nat) : Int) y) ((c : Nat) : Int) (-y) = d := by
    funext k
    unfold adD
    rw [Int.neg_mul]
    omega
  have hac : adC n N K P K (adD n P K d ((c : Nat) : Int) y) ((c : Nat) : Int) (-y) = 0 := by
    have hz : flB (fun k => adD n P K d ((c : Nat) : Int) y k + -y * cyD n P K ((c : Nat) : Int) k) K = true := by
      rw [show (fun k => adD n P K d ((c : Nat) : Int) y k + -y * cyD n P K ((c : Nat) : Int) k) = d from hback]
      exact hf
    unfold adC
    rw [if_pos h1, if_pos hch, if_pos (flQ_iff.2 (by omega)), if_pos hz]
  rw [hxn]
  refine ⟨suN n N K P K d, suD K P d, suD K P (adD n P K d ((c : Nat) : Int) y), d, suC n N K P K d, by unfold suN; split <;> omega, by omega, hyr.1, hyr.2, fun w v va h hv => suppliesOfI_any w v n N K P 0 _ h (Nat.le_refl _) hN va K d 0 _ hv (Nat.le_refl _) (by omega), fun w v va h hv => ?_, fun k _ => hdv _, fun w v va h hv => ?_, fun k _ => rfl⟩
  · have := suppliesOfI_any w v n N K P 0 _ h (Nat.le_refl _) hN va K _ 0 _ hv (Nat.le_refl _) (by omega)
    rwa [hsu, hsn] at this
  · have := addCycleI_any w v n N K P 0 _ h (Nat.le_refl _) hN va K _ 0 _ hv (Nat.le_refl _) (by omega) ((c : Nat) : Int) (-y)
    rwa [hac, hback, show adN n N K P K (adD n P K d ((c : Nat) : Int) y) ((c : Nat) : Int) (-y) = K from by unfold adN; rw [if_pos hac]] at this
theorem fcFacts (n : Nat) (N : Nat → Nod) (m : Nat) (P : Nat → Pip) (K : Nat) (d : Nat → Int) (hN : ∀ i, i < n → (N i).s.size ≤ 9223372036854775807) (hm : m ≤ 1000) (hK : K ≤ 2000000) :
    ∃ (rn : Nat) (rd : Nat → Int) (rc : Int), rn ≤ 1000 ∧ (∀ w v va, NetAt w v n N m P 0 w.heap.size → Sl w va K d 0 w.heap.size → Calls Try.prog 37 #[v, va] w (LIPost w rn rd rc)) ∧ (∀ w v va, NetAt w v n N m P 0 w.heap.size → Sl w va K d 0 w.heap.size → Calls Try.prog 39 #[v, va] w (LIPost w rn rd rc)) ∧
      (rc = 0 → ∃ bd : Nat → Int, K ≤ 1000 ∧ (∀ w v va, NetAt w v n N m P 0 w.heap.size → Sl w va rn rd 0 w.heap.size → Calls Try.prog 22 #[v, va] w (LIPost w K bd 0)) ∧ (∀ k, k < K → bd k = d k) ∧ (∀ w v va, NetAt w v n N m P 0 w.heap.size → Sl w va rn rd 0 w.heap.size → Calls Try.prog 30 #[v, va] w (BPost w true))) := by
  refine ⟨frN n N m P K d, frD n P m d, frC n N m P K d, by unfold frN; split <;> omega, fun w v va h hv => fromChordsI_any w v n N m P 0 _ h (Nat.le_refl _) hN va K d 0 _ hv (Nat.le_refl _) (by omega), fun w v va h hv => fromChordsS_any w v n N m P 0 _ h (Nat.le_refl _) hN va K d 0 _ hv (Nat.le_refl _) (by omega), fun hc => ?_⟩
  have hrn : frN n N m P K d = m := by unfold frN; rw [if_pos hc]
  obtain ⟨hB, rfl, hf, hl⟩ := frC_ok hc
  have hcn := chN_le n P m
  have hl' : flB (frD n P m d) m = true := hl
  have h0 := flC_is hB hl'
  have hcf : cfN n N m P m (frD n P m d) = chN n P m := by unfold cfN; rw [h0]; rfl
  rw [hrn]
  refine ⟨fun j => frD n P m d (chS n P m j), by omega, fun w v va h hv => ?_, fun k hk => flo_chord hB hk, fun w v va h hv => ?_⟩
  · have := chordFlowsI_any w v n N m P 0 _ h (Nat.le_refl _) hN va m _ 0 _ hv (Nat.le_refl _) (by omega)
    rwa [hcf, h0] at this
  · have := isCirculationI_any w v n N m P 0 _ h (Nat.le_refl _) hN va m _ 0 _ hv (Nat.le_refl _) (by omega)
    rwa [ci_is hB hl' (fun z _ _ => flo_dv hB d z)] at this
theorem even_of {n : Nat} {N : Nat → Nod} {m : Nat} {P : Nat → Pip} {d s : Nat → Int} (hB : netB n N m P = true) (h : ∀ z, z < n → dv P d m ((z : Nat) : Int) = s z) : evB n P m s = true := by
  rw [evB_iff]
  intro z hz
  rw [csm_congr (t := fun i => dv P d m ((i : Nat) : Int)) (fun i hi => (h i hi).symm)]
  exact csm_dv m (fun a ha => by
    obtain ⟨p1, p2, _⟩ := pip_end (net_pip hB ha)
    refine ⟨p1, p2, ?_⟩
    unfold cmpN
    rw [Int.toNat_of_nonneg p1.1, Int.toNat_of_nonneg p2.1]
    exact fo_r1 hB a ha)
theorem dv_neg (P : Nat → Pip) (x : Nat → Int) (k : Nat) (z : Int) : dv P (fun a => -(x a)) k z = -(dv P x k z) := by
  have e : (fun a => -(x a)) = fun a => (-1) * x a := by funext a; omega
  rw [e, dv_mul]
  omega
theorem baFacts (n : Nat) (N : Nat → Nod) (m : Nat) (P : Nat → Pip) (K : Nat) (d : Nat → Int) (L : Nat) (s : Nat → Int) (hN : ∀ i, i < n → (N i).s.size ≤ 9223372036854775807) (hn : n ≤ 1000) (hm : m ≤ 1000) (hK : K ≤ 2000000) (hL : L ≤ 2000000) :
    ∃ bb : Bool, (∀ w v va vb, NetAt w v n N m P 0 w.heap.size → Sl w va K d 0 w.heap.size → Sl w vb L s 0 w.heap.size → Calls Try.prog 24 #[v, va, vb] w (BPost w bb)) ∧ (∀ w v va vb, NetAt w v n N m P 0 w.heap.size → Sl w va K d 0 w.heap.size → Sl w vb L s 0 w.heap.size → Calls Try.prog 41 #[v, va, vb] w (BPost w bb)) ∧
      (bb = true → ∃ (fn : Nat) (fd' : Nat → Int) (fc : Int) (sd : Nat → Int), fn ≤ 1000 ∧ K ≤ 1000 ∧ L ≤ 1000 ∧ (∀ w v va, NetAt w v n N m P 0 w.heap.size → Sl w va L s 0 w.heap.size → Calls Try.prog 18 #[v, va] w (LIPost w fn fd' fc)) ∧ (∀ w v va, NetAt w v n N m P 0 w.heap.size → Sl w va L s 0 w.heap.size → Calls Try.prog 19 #[v, va] w (LIPost w fn fd' fc)) ∧
        (∀ w v va, NetAt w v n N m P 0 w.heap.size → Sl w va K d 0 w.heap.size → Calls Try.prog 34 #[v, va] w (LIPost w L sd 0)) ∧ (∀ k, k < L → sd k = s k) ∧ (∀ w v va, NetAt w v n N m P 0 w.heap.size → Sl w va L s 0 w.heap.size → Calls Try.prog 21 #[v, va] w (BPost w true)) ∧ (fc ≠ 0 → fc = 2) ∧
        (fc = 0 → (∀ k, k < fn → -30000 ≤ fd' k ∧ fd' k ≤ 30000) ∧ ∃ (xn : Nat) (xd : Nat → Int) (xc : Int), xn ≤ 1000 ∧ (∀ w v va vb, NetAt w v n N m P 0 w.heap.size → Sl w va K d 0 w.heap.size → Sl w vb fn (fun k => -(fd' k)) 0 w.heap.size → Calls Try.prog 42 #[v, va, vb] w (LIPost w xn xd xc)) ∧
          (xc = 0 → ∀ w v va, NetAt w v n N m P 0 w.heap.size → Sl w va xn xd 0 w.heap.size → Calls Try.prog 30 #[v, va] w (BPost w true)))) := by
  refine ⟨ibB n N m P K d L s, fun w v va vb h hv hu => isBalancedI_any w v n N m P 0 _ h (Nat.le_refl _) hN va K d 0 _ hv (Nat.le_refl _) (by omega) vb L s 0 _ hu (Nat.le_refl _) (by omega), fun w v va vb h hv hu => isBalancedS_any w v n N m P 0 _ h (Nat.le_refl _) hN va K d 0 _ hv (Nat.le_refl _) (by omega) vb L s 0 _ hu (Nat.le_refl _) (by omega), fun hb => ?_⟩
  unfold ibB at hb
  rw [Bool.and_eq_true, Bool.and_eq_true, decide_eq_true_eq, decide_eq_true_eq] at hb
  obtain ⟨h0, h1, hall⟩ := hb
  obtain ⟨hB, rfl, hf⟩ := flC_ok h0
  obtain ⟨_, rfl, hs⟩ := svC_ok h1
  have hbal : ∀ z, z < L → dv P d K ((z : Nat) : Int) = s z := fun z hz => by simpa using List.all_eq_true.1 hall z (List.mem_range.2 hz)
  have hev := even_of hB hbal
  have hsu : suC L N K P K d = 0 := by
    unfold suC
    rw [if_pos h0, if_pos (by rw [flB_congr (e := s) hbal]; exact hs)]
  have hie : ieB L N K P L s = true := by unfold ieB; rw [h1, hev]; rfl
  have hfc : ffC L N K P L s = if flB (fflN L P K s) K = true then 0 else 2 := by unfold ffC; rw [if_pos h1, if_pos hev]
  refine ⟨ffN L N K P L s, fflN L P K s, ffC L N K P L s, suD K P d, by unfold ffN; split <;> omega, hm, hn, fun w v va h hv => forestFlowsI_any w v L N K P 0 _ h (Nat.le_refl _) hN va L s 0 _ hv (Nat.le_refl _) (by omega), fun w v va h hv => forestFlowsS_any w v L N K P 0 _ h (Nat.le_refl _) hN va L s 0 _ hv (Nat.le_refl _) (by omega), fun w v va h hv => ?_, hbal, fun w v va h hv => ?_, fun hne => ?_, fun hz => ?_⟩
  · have := suppliesOfI_any w v L N K P 0 _ h (Nat.le_refl _) hN va K d 0 _ hv (Nat.le_refl _) (by omega)
    rwa [hsu, show suN L N K P K d = L from by unfold suN; rw [if_pos hsu]] at this
  · have := isEvenI_any w v L N K P 0 _ h (Nat.le_refl _) hN va L s 0 _ hv (Nat.le_refl _) (by omega)
    rwa [hie] at this
  · rw [hfc] at hne ⊢
    split at hne
    · exact absurd rfl hne
    · next q => rw [if_neg q]
  · have hfn : ffN L N K P L s = K := by unfold ffN; rw [if_pos hz]
    obtain ⟨_, _, _, _, hff⟩ := ffC_ok hz
    rw [hfn]
    have hneg : flB (fun k => -(fflN L P K s k)) K = true := flB_iff.2 fun k hk => flQ_iff.2 (by have := flQ_iff.1 (flB_iff.1 hff k hk); omega)
    refine ⟨fun k hk => flQ_iff.1 (flB_iff.1 hff k hk), afN L N K P K d K (fun k => -(fflN L P K s k)), fun k => d k + -(fflN L P K s k), afC L N K P K d K (fun k => -(fflN L P K s k)), by unfold afN; split <;> omega, fun w v va vb h hv hu => addFlowsI_any w v L N K P 0 _ h (Nat.le_refl _) hN va K d 0 _ hv (Nat.le_refl _) (by omega) vb K _ 0 _ hu (Nat.le_refl _) (by omega), fun hx w v va h hv => ?_⟩
    have han : afN L N K P K d K (fun k => -(fflN L P K s k)) = K := by unfold afN; rw [if_pos hx]
    have hsum : flB (fun k => d k + -(fflN L P K s k)) K = true := by
      unfold afC at hx
      rw [if_pos hB, if_pos ⟨⟨rfl, hf⟩, ⟨rfl, hneg⟩⟩] at hx
      split at hx
      · assumption
      · omega
    rw [han] at hv
    have := isCirculationI_any w v L N K P 0 _ h (Nat.le_refl _) hN va K _ 0 _ hv (Nat.le_refl _) (by omega)
    rwa [ci_is hB hsum (fun z z0 z1 => by
      obtain ⟨y, rfl⟩ := Int.eq_ofNat_of_zero_le z0
      rw [dv_add, dv_neg, hbal y (by omega), fflN_bal hB hev y (by omega)]
      omega)] at this
end Go.Proofs.Ytmjmamiokkkblaa.mem
