/-
  Lines and the text of a network: what a right line adds to the text. No condition.
-/
import Derived.Test.YtmeoepdmaffjjaaGreatDoorRows
import Derived.Test.YtmeoepdmaffjjaaGreatDoorPh
import Derived.Test.YtmeoepdmaffjjaaGreatDoorTxF
import Derived.Test.YtmeoepdmaffjjaaGreatDoorSpN
namespace Go.Proofs.YtmeoepdmaffjjaaGreatDoor.text
open Go.RowKit Go.Proofs.YtmeoepdmaffjjaaGreatDoor.mem
set_option linter.unusedVariables false

theorem pipeL_cat (N : Nat → Nod) (q : Pip) : pipeL N q = wPipe ++ 32 :: ((N q.f.toNat).s.data.toList ++ 32 :: ((N q.t.toNat).s.data.toList ++ 32 :: (Lib.decDigits q.k.toNat ++ 32 :: (Lib.decDigits q.v.toNat ++ 32 :: Lib.decDigits q.l.toNat)))) := by
  unfold pipeL wPipe
  simp [numsL]
theorem name_of {q : Nod} (h : nodB q = true) : nameB q.s = true := by
  unfold nodB at h
  simp only [Bool.and_eq_true] at h
  exact h.1.1.1
theorem sp_pipe {N : Nat → Nod} {q : Pip} (hf : nodB (N q.f.toNat) = true) (ht : nodB (N q.t.toNat) = true) (k : Nat) : sp (k + 5) (pipeL N q) = [wPipe, (N q.f.toNat).s.data.toList, (N q.t.toNat).s.data.toList, Lib.decDigits q.k.toNat, Lib.decDigits q.v.toNat, Lib.decDigits q.l.toNat] := by
  rw [pipeL_cat, sp_one (by unfold wPipe; decide), sp_one (name_noblank (name_of hf)), sp_one (name_noblank (name_of ht)), sp_one (dec_noblank _), sp_one (dec_noblank _), sp_end (dec_noblank _)]
theorem sp_cat6 {k : Nat} {s a b c d e f : List UInt8} (h : sp k s = [a, b, c, d, e, f]) : s = a ++ 32 :: (b ++ 32 :: (c ++ 32 :: (d ++ 32 :: (e ++ 32 :: f)))) := by
  have := sp_join k s
  rw [h] at this
  rw [← this]
  simp [Lib.join, List.intercalate, List.intersperse]
theorem nodesT_congr {N M : Nat → Nod} : ∀ {k : Nat}, (∀ i, i < k → N i = M i) → nodesT N k = nodesT M k
  | 0, _ => rfl
  | k + 1, h => by
    unfold nodesT
    rw [nodesT_congr (k := k) (fun i hi => h i (by omega)), h k (by omega)]
theorem pipesT_congr {N : Nat → Nod} {P Q : Nat → Pip} : ∀ {k : Nat}, (∀ i, i < k → P i = Q i) → pipesT N P k = pipesT N Q k
  | 0, _ => rfl
  | k + 1, h => by
    unfold pipesT
    rw [pipesT_congr (k := k) (fun i hi => h i (by omega)), h k (by omega)]
theorem nn_facts {n : Nat} {N : Nat → Nod} {m : Nat} {P : Nat → Pip} {x : ByteArray} (h : nnC n N m P x = 0) : netB n N m P = true ∧ ∃ i : Nat, nnV n N m P x = i ∧ i < n ∧ (N i).s = x := by
  unfold nnC at h
  split at h
  · rename_i hb
    split at h
    · rename_i hs
      refine ⟨hb, ?_⟩
      obtain ⟨i, hi⟩ := Option.isSome_iff_exists.1 hs
      refine ⟨i, by unfold nnV; rw [if_pos hb, hi]; rfl, ?_⟩
      unfold nnF at hi
      rw [List.find?_range_eq_some] at hi
      exact ⟨by simpa using hi.2.1, nnP_iff.1 hi.1⟩
    · cases h
  · cases h
theorem net_nodes {n : Nat} {N : Nat → Nod} {m : Nat} {P : Nat → Pip} (h : netB n N m P = true) : (∀ i, i < n → nodB (N i) = true) ∧ ∀ i, i < m → pipB n (P i) = true := by
  unfold netB at h
  simp only [Bool.and_eq_true] at h
  exact ⟨(nodesB_iff.1 h.1.2).1, pipesB_iff.1 h.2⟩
/-- a right line is what the text grows by -/
theorem lineOK_text {n : Nat} {N : Nat → Nod} {m : Nat} {P : Nat → Pip} {ps : List ByteArray} {n' : Nat} {N' : Nat → Nod} {m' : Nat} {P' : Nat → Pip} {s : List UInt8} (h : LineOK n N m P ps n' N' m' P') (hb : netB n' N' m' P' = true) (hps : ps.map (·.data.toList) = sp 6 s) : netL n' N' m' P' = netL n N m P ++ (s ++ [10]) := by
  obtain ⟨hN, hP⟩ := net_nodes hb
  rcases h with ⟨rfl, x0, x1, x2, lo, hi, rfl, n1, n2, rfl, rfl, rfl, rfl⟩ | ⟨x0, x1, x2, x3, x4, kk, vv, ll, rfl, c0, c1, n2, n3, n4, rfl, rfl, rfl, rfl⟩
  · have hq : nodB ⟨x0, lo, hi⟩ = true := by
      have := hN n (by omega)
      unfold addN at this
      simpa using this
    obtain ⟨_, a, b⟩ := nod_bd hq
    have e : s = wNode ++ 32 :: (x0.data.toList ++ 32 :: (x1.data.toList ++ 32 :: x2.data.toList)) := sp_cat4 hps.symm
    have e1 : Lib.decDigits lo.toNat = x1.data.toList := (itoa_nat a.1).symm.trans n1.2
    have e2 : Lib.decDigits hi.toNat = x2.data.toList := (itoa_nat b.1).symm.trans n2.2
    have el : nodeL ⟨x0, lo, hi⟩ = s := by
      rw [nodeL_cat, e]
      show wNode ++ 32 :: (x0.data.toList ++ 32 :: (Lib.decDigits lo.toNat ++ 32 :: Lib.decDigits hi.toNat)) = _
      rw [e1, e2]
    have ea : addN N n ⟨x0, lo, hi⟩ n = ⟨x0, lo, hi⟩ := by unfold addN; simp
    have ec : nodesT (addN N n ⟨x0, lo, hi⟩) n = nodesT N n := nodesT_congr (fun i hi => by unfold addN; rw [if_pos hi])
    unfold netL
    rw [show nodesT (addN N n ⟨x0, lo, hi⟩) (n + 1) = nodesT (addN N n ⟨x0, lo, hi⟩) n ++ (nodeL (addN N n ⟨x0, lo, hi⟩ n) ++ [10]) from rfl, ec, ea, el]
    simp [pipesT]
  · obtain ⟨hb0, i, hi, hin, hi2⟩ := nn_facts c0
    obtain ⟨_, j, hj, hjn, hj2⟩ := nn_facts c1
    rw [hi, hj] at hP ⊢
    have hq : pipB n' ⟨i, j, kk, vv, ll⟩ = true := by
      have := hP m (by omega)
      unfold addP at this
      simpa using this
    unfold pipB at hq
    simp only [Bool.and_eq_true] at hq
    have hk := inR_iff.1 hq.1.1.2
    have hv := inR_iff.1 hq.1.2
    have hl := inR_iff.1 hq.2
    have e : s = wPipe ++ 32 :: (x0.data.toList ++ 32 :: (x1.data.toList ++ 32 :: (x2.data.toList ++ 32 :: (x3.data.toList ++ 32 :: x4.data.toList)))) := sp_cat6 hps.symm
    have e2 : Lib.decDigits kk.toNat = x2.data.toList := (itoa_nat (by omega)).symm.trans n2.2
    have e3 : Lib.decDigits vv.toNat = x3.data.toList := (itoa_nat (by omega)).symm.trans n3.2
    have e4 : Lib.decDigits ll.toNat = x4.data.toList := (itoa_nat (by omega)).symm.trans n4.2
    have el : pipeL N' ⟨i, j, kk, vv, ll⟩ = s := by
      rw [pipeL_cat, e]
      show wPipe ++ 32 :: ((N' (i : Int).toNat).s.data.toList ++ 32 :: ((N' (j : Int).toNat).s.data.toList ++ 32 :: (Lib.decDigits kk.toNat ++ 32 :: (Lib.decDigits vv.toNat ++ 32 :: Lib.decDigits ll.toNat)))) = _
      rw [Int.toNat_natCast, Int.toNat_natCast, hi2, hj2, e2, e3, e4]
    have ea : addP P m ⟨i, j, kk, vv, ll⟩ m = ⟨i, j, kk, vv, ll⟩ := by unfold addP; simp
    have ec : pipesT N' (addP P m ⟨i, j, kk, vv, ll⟩) m = pipesT N' P m := pipesT_congr (fun i hi => by unfold addP; rw [if_pos hi])
    unfold netL
    rw [show pipesT N' (addP P m ⟨i, j, kk, vv, ll⟩) (m + 1) = pipesT N' (addP P m ⟨i, j, kk, vv, ll⟩) m ++ (pipeL N' (addP P m ⟨i, j, kk, vv, ll⟩ m) ++ [10]) from rfl, ec, ea, el]
    simp
theorem dist_eq {n : Nat} {N : Nat → Nod} (hd : distP N n) {i j : Nat} (hi : i < n) (hj : j < n) (h : (N i).s = (N j).s) : i = j := by
  rcases Nat.lt_trichotomy i j with g | g | g
  · exact absurd h (hd i j g hj)
  · exact g
  · exact absurd h.symm (hd j i g hi)
theorem pip_bd {n : Nat} {q : Pip} (h : pipB n q = true) : ∃ f t : Nat, q.f = f ∧ q.t = t ∧ f < n ∧ t < n ∧ 0 ≤ q.k ∧ 0 ≤ q.v ∧ 0 ≤ q.l := by
  unfold pipB at h
  simp only [Bool.and_eq_true] at h
  have h1 := inR_iff.1 h.1.1.1.1.1
  have h2 := inR_iff.1 h.1.1.1.1.2
  have h3 := inR_iff.1 h.1.1.2
  have h4 := inR_iff.1 h.1.2
  have h5 := inR_iff.1 h.2
  exact ⟨q.f.toNat, q.t.toNat, by omega, by omega, by omega, by omega, by omega, by omega, by omega⟩
/-- one pipe has a line -/
theorem pipe_uniq {n : Nat} {N : Nat → Nod} {q r : Pip} (hN : ∀ i, i < n → nodB (N i) = true) (hd : distP N n) (hq : pipB n q = true) (hr : pipB n r = true) (h : pipeL N q = pipeL N r) : q = r := by
  obtain ⟨f, t, e1, e2, f1, t1, k0, v0, l0⟩ := pip_bd hq
  obtain ⟨f', t', e1', e2', f1', t1', k0', v0', l0'⟩ := pip_bd hr
  have s1 := sp_pipe (N := N) (q := q) (hN _ (by omega)) (hN _ (by omega)) 0
  have s2 := sp_pipe (N := N) (q := r) (hN _ (by omega)) (hN _ (by omega)) 0
  rw [h, s2] at s1
  simp only [List.cons.injEq, and_true, true_and] at s1
  obtain ⟨a1, a2, a3, a4, a5⟩ := s1
  have b1 : r.f.toNat = q.f.toNat := dist_eq hd (by omega) (by omega) (by rw [ba_of a1.symm, ba_of (rfl : (N r.f.toNat).s.data.toList = _)])
  have b2 : r.t.toNat = q.t.toNat := dist_eq hd (by omega) (by omega) (by rw [ba_of a2.symm, ba_of (rfl : (N r.t.toNat).s.data.toList = _)])
  have b3 := dec_inj a3
  have b4 := dec_inj a4
  have b5 := dec_inj a5
  obtain ⟨qf, qt, qk, qv, ql⟩ := q
  obtain ⟨rf, rt, rk, rv, rl⟩ := r
  simp only [Pip.mk.injEq] at *
  omega
theorem dec_noline (n : Nat) : (10 : UInt8) ∉ Lib.decDigits n := fun h => by
  have := isDig_iff.1 (dec_dig n _ h)
  revert this
  decide
theorem name_noline {s : ByteArray} (h : nameB s = true) : (10 : UInt8) ∉ s.data.toList := fun e => by
  unfold nameB at h
  simp only [Bool.and_eq_true, List.all_eq_true] at h
  have := chr_iff.1 (h.2 10 e)
  simp at this
theorem nodeL_noline {q : Nod} (h : nodB q = true) : (10 : UInt8) ∉ nodeL q := by
  rw [nodeL_cat]
  have h1 := name_noline (name_of h)
  have h2 := dec_noline q.lo.toNat
  have h3 := dec_noline q.hi.toNat
  unfold wNode
  simp [h1, h2, h3]
theorem pipeL_noline {N : Nat → Nod} {q : Pip} (hf : nodB (N q.f.toNat) = true) (ht : nodB (N q.t.toNat) = true) : (10 : UInt8) ∉ pipeL N q := by
  rw [pipeL_cat]
  have h1 := name_noline (name_of hf)
  have h2 := name_noline (name_of ht)
  have h3 := dec_noline q.k.toNat
  have h4 := dec_noline q.v.toNat
  have h5 := dec_noline q.l.toNat
  unfold wPipe
  simp [h1, h2, h3, h4, h5]
def glue (A : List (List UInt8)) : List UInt8 := A.flatMap (· ++ [10])
theorem glue_inj : ∀ (A B : List (List UInt8)), (∀ a ∈ A, (10 : UInt8) ∉ a) → (∀ b ∈ B, (10 : UInt8) ∉ b) → glue A = glue B → A = B
  | [], [], _, _, _ => rfl
  | [], b :: B, _, _, h => by simp [glue] at h
  | a :: A, [], _, _, h => by simp [glue] at h
  | a :: A, b :: B, hA, hB, h => by
    have e1 : glue (a :: A) = a ++ 10 :: glue A := by simp [glue]
    have e2 : glue (b :: B) = b ++ 10 :: glue B := by simp [glue]
    have c1 := nl.cut_at (a := a) (t := glue A) (hA a (List.mem_cons_self ..))
    have c2 := nl.cut_at (a := b) (t := glue B) (hB b (List.mem_cons_self ..))
    rw [← e1, h, e2] at c1
    have ea : a = b := c1.1.symm.trans c2.1
    have eb : glue A = glue B := c1.2.symm.trans c2.2
    rw [ea, glue_inj A B (fun x hx => hA x (List.mem_cons_of_mem _ hx)) (fun x hx => hB x (List.mem_cons_of_mem _ hx)) eb]
theorem glue_app (A B : List (List UInt8)) : glue (A ++ B) = glue A ++ glue B := by simp [glue]
theorem nodesT_glue (N : Nat → Nod) : ∀ k, nodesT N k = glue ((List.range k).map (fun i => nodeL (N i)))
  | 0 => rfl
  | k + 1 => by
    rw [List.range_succ, List.map_append, glue_app, ← nodesT_glue N k]
    simp [nodesT, glue]
theorem pipesT_glue (N : Nat → Nod) (P : Nat → Pip) : ∀ k, pipesT N P k = glue ((List.range k).map (fun i => pipeL N (P i)))
  | 0 => rfl
  | k + 1 => by
    rw [List.range_succ, List.map_append, glue_app, ← pipesT_glue N P k]
    simp [pipesT, glue]
/-- the lines of a network -/
def lns (n : Nat) (N : Nat → Nod) (m : Nat) (P : Nat → Pip) : List (List UInt8) := (List.range n).map (fun i => nodeL (N i)) ++ (List.range m).map (fun i => pipeL N (P i))
theorem netL_glue (n : Nat) (N : Nat → Nod) (m : Nat) (P : Nat → Pip) : netL n N m P = glue (lns n N m P) := by
  unfold netL lns
  rw [glue_app, nodesT_glue, pipesT_glue]
theorem lns_noline {n : Nat} {N : Nat → Nod} {m : Nat} {P : Nat → Pip} (h : netB n N m P = true) : ∀ a ∈ lns n N m P, (10 : UInt8) ∉ a := by
  obtain ⟨hN, hP⟩ := net_nodes h
  intro a ha
  unfold lns at ha
  simp only [List.mem_append, List.mem_map, List.mem_range] at ha
  rcases ha with ⟨i, hi, rfl⟩ | ⟨i, hi, rfl⟩
  · exact nodeL_noline (hN i hi)
  · obtain ⟨f, t, e1, e2, f1, t1, _⟩ := pip_bd (hP i hi)
    exact pipeL_noline (hN _ (by omega)) (hN _ (by omega))
def isN (l : List UInt8) : Bool := l.head? == some 110
theorem lns_count (n : Nat) (N : Nat → Nod) (m : Nat) (P : Nat → Pip) : (lns n N m P).countP isN = n := by
  unfold lns
  have a : ((List.range n).map (fun i => nodeL (N i))).countP isN = n := by
    rw [List.countP_map, List.countP_eq_length.2]
    · simp
    · intro i _
      show isN (nodeL (N i)) = true
      rw [nodeL_cat]
      rfl
  have b : ((List.range m).map (fun i => pipeL N (P i))).countP isN = 0 := by
    rw [List.countP_map, List.countP_eq_zero]
    intro i _
    show ¬ isN (pipeL N (P i)) = true
    rw [pipeL_cat]
    show ¬ ((some (112 : UInt8)) == some 110) = true
    decide
  rw [List.countP_append, a, b]
  rfl
/-- a text is that of one network -/
theorem netL_inj {n : Nat} {N : Nat → Nod} {m : Nat} {P : Nat → Pip} {n' : Nat} {N' : Nat → Nod} {m' : Nat} {P' : Nat → Pip} (h : netB n N m P = true) (g : netB n' N' m' P' = true) (e : netL n N m P = netL n' N' m' P') : n = n' ∧ m = m' ∧ (∀ i, i < n → N i = N' i) ∧ ∀ i, i < m → P i = P' i := by
  rw [netL_glue, netL_glue] at e
  have e2 := glue_inj _ _ (lns_noline h) (lns_noline g) e
  have c := lns_count n N m P
  rw [e2, lns_count] at c
  subst c
  have l := congrArg List.length e2
  unfold lns at l e2
  simp only [List.length_append, List.length_map, List.length_range] at l
  obtain rfl : m = m' := by omega
  obtain ⟨hN, hP⟩ := net_nodes h
  obtain ⟨gN, gP⟩ := net_nodes g
  obtain ⟨i1, i2⟩ := List.append_inj e2 (by simp)
  have hNN : ∀ i, i < n' → N i = N' i := fun i hi => by
    have := congrArg (·[i]?) i1
    simp [hi] at this
    exact node_uniq (hN i hi) (gN i hi) this
  refine ⟨rfl, rfl, hNN, fun i hi => ?_⟩
  have := congrArg (·[i]?) i2
  simp [hi] at this
  obtain ⟨f, t, e1, e2', f1, t1, _⟩ := pip_bd (hP i hi)
  refine pipe_uniq hN (nodes_of h) (hP i hi) (gP i hi) (this.trans ?_)
  obtain ⟨f', t', e1', e2', f1', t1', _⟩ := pip_bd (gP i hi)
  unfold pipeL
  rw [hNN _ (by omega), hNN _ (by omega)]
end Go.Proofs.YtmeoepdmaffjjaaGreatDoor.text
