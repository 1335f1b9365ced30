/-
  The spanning forest: the entries of all searches from the roots, each once. Pure. Conditions: as each states.
-/
import Derived.Test.YtkgekaedpdgmdaaRows
import Derived.Test.YtkgekaedpdgmdaaVisB
namespace Go.Proofs.Ytkgekaedpdgmdaa.mem
open Go.RowKit
set_option linter.unusedVariables false

/-- the entries of visits, but the first one's -/
def ens (fs : List Vs) : List Int := (fs.filter (fun v => v.en != -1)).map (·.en)
theorem ens_app (fs : List Vs) (v : Vs) : ens (fs ++ [v]) = if v.en = -1 then ens fs else ens fs ++ [v.en] := by
  unfold ens
  by_cases e : v.en = -1 <;> simp [e]
theorem ens_mem {fs : List Vs} {q : Int} : q ∈ ens fs ↔ ∃ v ∈ fs, v.en = q ∧ q ≠ -1 := by
  unfold ens
  constructor
  · intro h
    obtain ⟨v, hv, rfl⟩ := List.mem_map.1 h
    simp only [List.mem_filter, bne_iff_ne] at hv
    exact ⟨v, hv.1, rfl, hv.2⟩
  · rintro ⟨v, hv, rfl, h⟩
    exact List.mem_map.2 ⟨v, by simp only [List.mem_filter, bne_iff_ne]; exact ⟨hv, h⟩, rfl⟩
theorem Vok.ens_rng {n : Nat} {P : Nat → Pip} {m : Nat} {x : Int} {fs : List Vs} (h : Vok n P m x fs) {q : Int} (hq : q ∈ ens fs) : ∃ (i j : Nat) (v u : Vs) (k : Nat), j < i ∧ fs[i]? = some v ∧ fs[j]? = some u ∧ k < m ∧ v.en = ((k : Nat) : Int) ∧ q = (k : Nat) ∧ endB (P k) u.nd = true ∧ v.nd = othV (P k) u.nd := by
  obtain ⟨v, hv, rfl, hne⟩ := ens_mem.1 hq
  obtain ⟨i, hi, rfl⟩ := List.mem_iff_getElem.1 hv
  have hg : fs[i]? = some fs[i] := List.getElem?_eq_getElem hi
  have h0 : 0 < i := by
    rcases Nat.eq_zero_or_pos i with e | e
    · have hf := h.fst
      rw [← e, hg] at hf
      injection hf with hf
      rw [hf] at hne
      exact absurd rfl hne
    · exact e
  obtain ⟨j, u, k, hj, hu, hk, he, hb, hn, _⟩ := h.par i _ h0 hg
  exact ⟨i, j, fs[i], u, k, hj, hg, hu, hk, he, he, hb, hn⟩
theorem end_two {q : Pip} {a b : Int} {n : Int} (hp : pipB n q = true) (ha : endB q a = true) (hb : endB q b = true) : b = a ∨ b = othV q a := by
  unfold endB at ha hb
  simp only [Bool.or_eq_true, beq_iff_eq] at ha hb
  unfold othV
  split <;> omega
theorem Vok.ens_nodup {n : Nat} {N : Nat → Nod} {P : Nat → Pip} {m : Nat} {x : Int} {fs : List Vs} (hN : netB n N m P = true) (h : Vok n P m x fs) : (ens fs).Pairwise (· ≠ ·) := by
  unfold ens
  rw [List.pairwise_map, List.pairwise_filter, List.pairwise_iff_getElem]
  intro i j hi hj hij hei hej hq
  simp only [bne_iff_ne] at hei hej
  have gi : fs[i]? = some fs[i] := List.getElem?_eq_getElem hi
  have gj : fs[j]? = some fs[j] := List.getElem?_eq_getElem hj
  have i0 : 0 < i := by
    rcases Nat.eq_zero_or_pos i with e | e
    · have hf := h.fst
      rw [← e, gi] at hf
      injection hf with hf
      rw [hf] at hei
      exact absurd rfl hei
    · exact e
  obtain ⟨a, u, k, ha, hu, hk, he, hb, hn, _⟩ := h.par i _ i0 gi
  obtain ⟨b, u', k', hb', hu', hk', he', hbb, hn', _⟩ := h.par j _ (by omega) gj
  have ek : k = k' := by have : ((k : Nat) : Int) = (k' : Nat) := by rw [← he, ← he', hq]
                         omega
  subst ek
  have o1 := oth_oth (net_pip hN hk) hb
  have o2 := oth_oth (net_pip hN hk) hbb
  rw [← hn] at o1
  rw [← hn'] at o2
  rcases end_two (net_pip hN hk) hb o2.2.1 with e | e
  · have := h.inj gj hu e; omega
  · have := h.inj gj gi (e.trans hn.symm); omega
/-- what has been visited holds the other ends of its pipes -/
theorem vrow_has {P : Nat → Pip} {v : Vs} {fs : List Vs} : ∀ (k q : Nat), q < k → endB (P q) v.nd = true → vhas (vrow P v k fs) (othV (P q) v.nd) = true
  | 0, q, h, _ => by omega
  | k + 1, q, h, he => by
    rw [vrow_succ]
    by_cases e : q = k
    · subst e
      unfold vadd
      cases hh : vhas (vrow P v q fs) (othV (P q) v.nd)
      · simp [he, vhas_app]
      · simp [hh]
    · have := vrow_has (P := P) (v := v) (fs := fs) k q (by omega) he
      unfold vadd
      split
      · rw [vhas_app, this]; rfl
      · exact this
theorem vhas_pre {a b : List Vs} {y : Int} (h : a <+: b) (hy : vhas a y = true) : vhas b y = true := by
  obtain ⟨t, rfl⟩ := h
  obtain ⟨v, hv, e⟩ := vhas_iff.1 hy
  exact vhas_iff.2 ⟨v, List.mem_append.2 (.inl hv), e⟩
theorem vup_len {P : Nat → Pip} {m : Nat} {x : Int} : ∀ (i : Nat), i + 1 ≤ (vup P m x i).length ∨ ∀ j, vup P m x (i + j) = vup P m x i
  | 0 => .inl (Nat.le_refl _)
  | i + 1 => by
    rcases Nat.lt_or_ge (i + 1) (vup P m x (i + 1)).length with h | h
    · exact .inl h
    · exact .inr (vup_stay h)
theorem vis_closed {n : Nat} {N : Nat → Nod} {P : Nat → Pip} {m : Nat} {x : Int} (hN : netB n N m P = true) (hx : 0 ≤ x ∧ x ≤ (n : Int) - 1) {y : Int} (hy : vhas (vis n P m x) y = true) {q : Nat} (hq : q < m) (he : endB (P q) y = true) :
    vhas (vis n P m x) (othV (P q) y) = true := by
  obtain ⟨i, v, hv, rfl⟩ := vhas_get hy
  have hl := get_lt hv
  have hl2 := (vis_ok (P := P) (m := m) hN hx).len
  have hi : (vup P m x i)[i]? = some v := by
    rcases Nat.lt_or_ge i (vup P m x i).length with h | h
    · have hp := vup_vis (P := P) (m := m) hN hx (i := i)
      rw [List.getElem?_eq_getElem h] 
      have := pre_get hp (List.getElem?_eq_getElem h)
      rw [hv] at this
      exact this.symm
    · have := vup_end (P := P) (m := m) hN hx h (by omega)
      rw [this] at h
      omega
  have h1 := vup_vis (P := P) (m := m) hN hx (i := i + 1)
  rw [vup_succ hi] at h1
  exact vhas_pre h1 (vrow_has m q hq he)
/-- a node that two searches visit: the one's first node is visited by the other -/
theorem vis_meet {n : Nat} {N : Nat → Nod} {P : Nat → Pip} {m : Nat} {x y : Int} (hN : netB n N m P = true) (hx : 0 ≤ x ∧ x ≤ (n : Int) - 1) (hy : 0 ≤ y ∧ y ≤ (n : Int) - 1) :
    ∀ (i : Nat) (v : Vs), (vis n P m y)[i]? = some v → vhas (vis n P m x) v.nd = true → vhas (vis n P m x) y = true := by
  intro i
  induction i using Nat.strongRecOn with
  | _ i ih =>
    intro v hv hh
    by_cases e : v.nd = y
    · rw [← e]; exact hh
    · obtain ⟨j, u, k, hj, hu, hk, _, he, ho, _⟩ := (vis_ok (P := P) (m := m) hN hy).back hN hv e
      exact ih j hj u hu (by rw [← ho]; exact vis_closed hN hx hh hk he)
theorem cmp_succ (n : Nat) (P : Nat → Pip) (m k : Nat) (y : Int) : cmp n P m (k + 1) y = if cmp n P m k k = -1 ∧ vhas (vis n P m k) y = true then (k : Int) else cmp n P m k y := rfl
theorem vis_self (n : Nat) (P : Nat → Pip) (m : Nat) (x : Int) : vhas (vis n P m x) x = true := by
  have : (vis n P m x)[0]? = some ⟨x, -1, 0⟩ := by
    have h := vup_pre P m x 0 n
    rw [Nat.zero_add] at h
    exact pre_get h rfl
  exact get_vhas this
/-- a root's search visits no later root, and its round was done -/
theorem rts_open {n : Nat} {N : Nat → Nod} {P : Nat → Pip} {m : Nat} (hN : netB n N m P = true) {r : Nat} (hr : r < n) (h : rts n P m r = true) : cmp n P m r r = -1 := by
  by_cases e : cmp n P m r r = -1
  · exact e
  · exfalso
    have h1 := cmp_rng n P m r r
    have hstep : ∀ j, cmp n P m (r + j) r = cmp n P m r r ∨ ∃ q, r < q ∧ cmp n P m (r + j) r = (q : Nat) := by
      intro j
      induction j with
      | zero => exact .inl rfl
      | succ j ih =>
        rw [← Nat.add_assoc, cmp_succ]
        split
        · next hc =>
          right
          refine ⟨r + j, ?_, rfl⟩
          rcases Nat.eq_zero_or_pos j with rfl | hj
          · exact absurd hc.1 e
          · omega
        · exact ih
    unfold rts at h
    simp only [decide_eq_true_eq] at h
    rcases hstep (n - r) with g | ⟨q, hq, g⟩
    · rw [show r + (n - r) = n by omega, h] at g; omega
    · rw [show r + (n - r) = n by omega, h] at g; omega
theorem rts_apart {n : Nat} {N : Nat → Nod} {P : Nat → Pip} {m : Nat} (hN : netB n N m P = true) {r s : Nat} (hs : s < n) (hrs : r < s) (h1 : rts n P m r = true) (h2 : rts n P m s = true) : vhas (vis n P m r) s = false := by
  rw [Bool.eq_false_iff]
  intro hh
  have o1 := rts_open hN (by omega) h1
  have o2 := rts_open hN hs h2
  have : cmp n P m (r + 1) s = r := by
    rw [cmp_take o1, if_pos hh]
  have hstep : ∀ j, cmp n P m (r + 1 + j) s ≠ -1 := by
    intro j
    induction j with
    | zero => show cmp n P m (r + 1) s ≠ -1; omega
    | succ j ih =>
      rw [← Nat.add_assoc, cmp_succ]
      split
      · omega
      · exact ih
  have := hstep (s - (r + 1))
  rw [show r + 1 + (s - (r + 1)) = s by omega] at this
  exact this o2
/-- the forest as the program collects it: root by root -/
def fcol (n : Nat) (P : Nat → Pip) (m : Nat) (rs : List Nat) : List Int := rs.flatMap (fun r => ens (vis n P m (r : Nat)))
theorem fl_lt {p : Nat → Bool} {k i : Nat} (h : i ∈ fl p k) : i < k ∧ p i = true := by
  unfold fl at h
  simp only [List.mem_filter, List.mem_range] at h
  exact h
theorem fl_mem {p : Nat → Bool} {k i : Nat} (h : i < k) (g : p i = true) : i ∈ fl p k := by
  unfold fl
  simp only [List.mem_filter, List.mem_range]
  exact ⟨h, g⟩
theorem fl_sorted (p : Nat → Bool) (k : Nat) : (fl p k).Pairwise (· < ·) := by
  unfold fl
  exact List.Pairwise.filter _ List.pairwise_lt_range
theorem fcol_nodup {n : Nat} {N : Nat → Nod} {P : Nat → Pip} {m : Nat} (hN : netB n N m P = true) : (fcol n P m (fl (rts n P m) n)).Pairwise (· ≠ ·) := by
  unfold fcol
  rw [List.pairwise_flatMap]
  refine ⟨fun r hr => ?_, ?_⟩
  · have := (fl_lt hr).1
    exact (vis_ok (P := P) (m := m) hN (by omega)).ens_nodup hN
  · refine List.Pairwise.imp_of_mem (R := (· < ·)) ?_ (fl_sorted _ _)
    intro r s hr hs hrs a ha b hb e
    subst e
    have h1 := fl_lt hr
    have h2 := fl_lt hs
    obtain ⟨i, j, v, u, k, hj, hv, hu, hk, he, hq, hb1, hn1⟩ := (vis_ok (P := P) (m := m) hN (x := (r : Nat)) (by omega)).ens_rng ha
    obtain ⟨i', j', v', u', k', hj', hv', hu', hk', he', hq', hb2, hn2⟩ := (vis_ok (P := P) (m := m) hN (x := (s : Nat)) (by omega)).ens_rng hb
    have ek : k = k' := by have : ((k : Nat) : Int) = (k' : Nat) := by rw [← hq, ← hq']
                           omega
    subst ek
    have hx : vhas (vis n P m (r : Nat)) u'.nd = true := by
      rcases end_two (net_pip hN hk) hb1 hb2 with e | e
      · rw [e]; exact get_vhas hu
      · rw [e, ← hn1]; exact get_vhas hv
    have := vis_meet hN (by omega) (by omega) j' u' hu' hx
    rw [rts_apart hN h2.1 hrs h1.2 h2.2] at this
    cases this
theorem fcol_rng {n : Nat} {N : Nat → Nod} {P : Nat → Pip} {m : Nat} (hN : netB n N m P = true) {rs : List Nat} (hr : ∀ r ∈ rs, r < n) {q : Int} (hq : q ∈ fcol n P m rs) : ∃ k, k < m ∧ q = ((k : Nat) : Int) := by
  unfold fcol at hq
  obtain ⟨r, hr1, hq⟩ := List.mem_flatMap.1 hq
  have := hr r hr1
  obtain ⟨i, j, v, u, k, hj, hv, hu, hk, he, hq, _⟩ := (vis_ok (P := P) (m := m) hN (x := (r : Nat)) (by omega)).ens_rng hq
  exact ⟨k, hk, hq⟩
/-- two rising lists with the same members are one -/
theorem rising_eq : ∀ (a b : List Int), a.Pairwise (· < ·) → b.Pairwise (· < ·) → (∀ x, x ∈ a ↔ x ∈ b) → a = b
  | [], [], _, _, _ => rfl
  | [], y :: b, _, _, h => absurd ((h y).2 (by simp)) (by simp)
  | x :: a, [], _, _, h => absurd ((h x).1 (by simp)) (by simp)
  | x :: a, y :: b, ha, hb, h => by
    rw [List.pairwise_cons] at ha hb
    have e : x = y := by
      rcases List.mem_cons.1 ((h x).1 (by simp)) with e | e
      · exact e
      · rcases List.mem_cons.1 ((h y).2 (by simp)) with g | g
        · exact g.symm
        · have := hb.1 x e
          have := ha.1 y g
          omega
    subst e
    rw [rising_eq a b ha.2 hb.2 fun z => ?_]
    have := h z
    simp only [List.mem_cons] at this
    constructor
    · intro hz
      have := ha.1 z hz
      rcases (h z).1 (List.mem_cons.2 (.inr hz)) |> List.mem_cons.1 with e | e
      · omega
      · exact e
    · intro hz
      have := hb.1 z hz
      rcases (h z).2 (List.mem_cons.2 (.inr hz)) |> List.mem_cons.1 with e | e
      · omega
      · exact e
theorem rising_of {a : List Int} (h : a.Pairwise (· ≤ ·)) (hn : a.Pairwise (· ≠ ·)) : a.Pairwise (· < ·) := by
  have := h.and hn
  exact this.imp (fun ⟨h1, h2⟩ => by omega)
/-- which pipes are in the forest -/
def inF (n : Nat) (P : Nat → Pip) (m : Nat) (rs : List Nat) (k : Nat) : Bool := (fcol n P m rs).contains ((k : Nat) : Int)
def forest (n : Nat) (P : Nat → Pip) (m : Nat) : List Int := (fl (inF n P m (fl (rts n P m) n)) m).map (fun k => ((k : Nat) : Int))
/-- what the program has collected, sorted, is the forest -/
theorem forest_eq {n : Nat} {N : Nat → Nod} {P : Nat → Pip} {m : Nat} (hN : netB n N m P = true) {l : List Int} (hp : l.Perm (fcol n P m (fl (rts n P m) n))) (hs : l.Pairwise (· ≤ ·)) : l = forest n P m := by
  refine rising_eq _ _ (rising_of hs ?_) ?_ fun x => ?_
  · exact hp.symm.pairwise (fcol_nodup hN) (fun h e => h e.symm)
  · unfold forest
    rw [List.pairwise_map]
    exact (fl_sorted _ _).imp (fun h => by omega)
  · rw [hp.mem_iff]
    unfold forest
    constructor
    · intro hx
      obtain ⟨k, hk, rfl⟩ := fcol_rng hN (fun r hr => (fl_lt hr).1) hx
      exact List.mem_map.2 ⟨k, fl_mem hk (by unfold inF; simpa using hx), rfl⟩
    · intro hx
      obtain ⟨k, hk, rfl⟩ := List.mem_map.1 hx
      have := (fl_lt hk).2
      unfold inF at this
      simpa using this
end Go.Proofs.Ytkgekaedpdgmdaa.mem
