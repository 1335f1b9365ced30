/-
  Several texts in one: Pm, Pn, Pq, Pr, Sw, Sx, Sy.
-/
import Derived.Test.YtmeoepdmaffjjaaGreatDoorRows
import Derived.Test.YtmeoepdmaffjjaaGreatDoorPj
import Derived.Test.YtmeoepdmaffjjaaGreatDoorPk
import Derived.WalkKit
import Derived.ProofKit
import Derived.Lib.Hide
import Derived.OwnWalk
import Derived.Test.YtmeoepdmaffjjaaGreatDoorIx
import Derived.Test.YtmeoepdmaffjjaaGreatDoorSr
import Derived.Test.YtmeoepdmaffjjaaGreatDoorPl
import Derived.Test.YtmeoepdmaffjjaaGreatDoorSs
import Derived.Test.YtmeoepdmaffjjaaGreatDoorSqN
import Derived.Deep.RegionHeld3
import Derived.Test.YtmeoepdmaffjjaaGreatDoorTxF
namespace Go.Proofs.YtmeoepdmaffjjaaGreatDoor.text
open Go.RowKit Go.Proofs.YtmeoepdmaffjjaaGreatDoor.mem
set_option linter.unusedVariables false

theorem netB_iff {n : Nat} {N : Nat → Nod} {m : Nat} {P : Nat → Pip} : netB n N m P = true ↔ (1 ≤ n ∧ n ≤ 24 ∧ m ≤ 40) ∧ ((∀ i, i < n → nodB (N i) = true) ∧ distP N n) ∧ ∀ i, i < m → pipB n (P i) = true := by
  unfold netB
  simp only [Bool.and_eq_true]
  rw [szB_iff, nodesB_iff, pipesB_iff, and_assoc]
theorem netB_congr {n : Nat} {N N' : Nat → Nod} {m : Nat} {P P' : Nat → Pip} (h : netB n N m P = true) (hN : ∀ i, i < n → N i = N' i) (hP : ∀ i, i < m → P i = P' i) : netB n N' m P' = true := by
  rw [netB_iff] at h ⊢
  exact ⟨h.1, ⟨fun i hi => by rw [← hN i hi]; exact h.2.1.1 i hi, fun i j hij hj => by rw [← hN i (by omega), ← hN j hj]; exact h.2.1.2 i j hij hj⟩, fun i hi => by rw [← hP i hi]; exact h.2.2 i hi⟩
theorem netB_take {n : Nat} {N : Nat → Nod} {m : Nat} {P : Nat → Pip} (h : netB n N m P = true) (k : Nat) (hk : 1 ≤ k) : netB (min k n) N (min (k - n) m) P = true := by
  rw [netB_iff] at h ⊢
  obtain ⟨⟨h1, h2, h3⟩, ⟨h4, h5⟩, h6⟩ := h
  refine ⟨⟨by omega, by omega, by omega⟩, ⟨fun i hi => h4 i (by omega), fun i j hij hj => h5 i j hij (by omega)⟩, fun i hi => ?_⟩
  by_cases e : n ≤ k
  · rw [Nat.min_eq_right e]
    exact h6 i (by omega)
  · omega
theorem lns_len (n : Nat) (N : Nat → Nod) (m : Nat) (P : Nat → Pip) : (lns n N m P).length = n + m := by
  unfold lns
  simp
theorem lns_node {n : Nat} {N : Nat → Nod} {m : Nat} {P : Nat → Pip} {i : Nat} (hi : i < n) : (lns n N m P)[i]? = some (nodeL (N i)) := by
  unfold lns
  rw [List.getElem?_append_left (by simpa using hi)]
  simp [hi]
theorem lns_pipe {n : Nat} {N : Nat → Nod} {m : Nat} {P : Nat → Pip} {i : Nat} (hi : i < m) : (lns n N m P)[n + i]? = some (pipeL N (P i)) := by
  unfold lns
  rw [List.getElem?_append_right (by simp)]
  simp [hi]
theorem lns_take (n : Nat) (N : Nat → Nod) (m : Nat) (P : Nat → Pip) (k : Nat) : (lns n N m P).take k = lns (min k n) N (min (k - n) m) P := by
  unfold lns
  rw [List.take_append, ← List.map_take, ← List.map_take, List.take_range, List.take_range, List.length_map, List.length_range]
theorem glue_one (a : List UInt8) : glue [a] = a ++ [10] := by simp [glue]
theorem lineOK_lns {n : Nat} {N : Nat → Nod} {m : Nat} {P : Nat → Pip} {ps : List ByteArray} {n' : Nat} {N' : Nat → Nod} {m' : Nat} {P' : Nat → Pip} {s : List UInt8} (h : LineOK n N m P ps n' N' m' P') (hb : netB n' N' m' P' = true) (hps : ps.map (·.data.toList) = sp 6 s) : lns n' N' m' P' = lns n N m P ++ [s] := by
  have hT := lineOK_text h hb hps
  rw [netL_glue, netL_glue] at hT
  obtain ⟨x, hx⟩ : ∃ x, lns n' N' m' P' = lns n N m P ++ [x] := by
    rcases h with ⟨rfl, x0, x1, x2, l0, h0, _, _, _, rfl, rfl, rfl, rfl⟩ | ⟨x0, x1, x2, x3, x4, kk, vv, ll, _, _, _, _, _, _, rfl, rfl, rfl, rfl⟩
    · refine ⟨nodeL ⟨x0, l0, h0⟩, ?_⟩
      unfold lns
      have e : (List.range n).map (fun i => nodeL (addN N n ⟨x0, l0, h0⟩ i)) = (List.range n).map (fun i => nodeL (N i)) := List.map_congr_left (fun i hi => by unfold addN; rw [if_pos (List.mem_range.1 hi)])
      rw [List.range_succ, List.map_append, e]
      simp [addN]
    · refine ⟨pipeL N' ⟨nnV n' N' m P x0, nnV n' N' m P x1, kk, vv, ll⟩, ?_⟩
      unfold lns
      have e : (List.range m).map (fun i => pipeL N' (addP P m ⟨nnV n' N' m P x0, nnV n' N' m P x1, kk, vv, ll⟩ i)) = (List.range m).map (fun i => pipeL N' (P i)) := List.map_congr_left (fun i hi => by unfold addP; rw [if_pos (List.mem_range.1 hi)])
      rw [List.range_succ, List.map_append, e]
      simp [addP]
  rw [hx, glue_app, glue_one] at hT
  rw [hx, List.append_cancel_right (List.append_cancel_left hT)]
theorem chain_lns {n : Nat} {N : Nat → Nod} {m : Nat} {P : Nat → Pip} {ls : List (List UInt8)} (h : Chain n N m P ls) : ls = lns n N m P := by
  induction h with
  | nil => rfl
  | snoc _ hps hl hb ih => rw [lineOK_lns hl hb hps, ← ih]
theorem chain_valid {n : Nat} {N : Nat → Nod} {m : Nat} {P : Nat → Pip} {ls : List (List UInt8)} (h : Chain n N m P ls) (hne : ls ≠ []) : netB n N m P = true := by
  cases h with
  | nil => exact absurd rfl hne
  | snoc _ _ _ hb => exact hb
theorem chain_text {n : Nat} {N : Nat → Nod} {m : Nat} {P : Nat → Pip} {ls : List (List UInt8)} (h : Chain n N m P ls) : netL n N m P = glue ls := by
  rw [netL_glue, ← chain_lns h]
theorem chain_noline {n : Nat} {N : Nat → Nod} {m : Nat} {P : Nat → Pip} {ls : List (List UInt8)} (h : Chain n N m P ls) : ∀ a ∈ ls, (10 : UInt8) ∉ a := by
  intro a ha
  have hne : ls ≠ [] := by rintro rfl; cases ha
  have hb := chain_valid h hne
  rw [chain_lns h] at ha
  exact lns_noline hb a ha
theorem glue_pre : ∀ (B A : List (List UInt8)) (r : List UInt8), (∀ a ∈ A, (10 : UInt8) ∉ a) → (∀ b ∈ B, (10 : UInt8) ∉ b) → glue A = glue B ++ r → ∃ C, A = B ++ C ∧ glue C = r
  | [], A, r, _, _, h => ⟨A, rfl, h⟩
  | b :: B, [], r, _, _, h => by simp [glue] at h
  | b :: B, a :: A, r, hA, hB, h => by
    have e1 : glue (a :: A) = a ++ 10 :: glue A := by simp [glue]
    have e2 : glue (b :: B) ++ r = b ++ 10 :: (glue B ++ r) := by simp [glue]
    have c1 := nl.cut_at (a := a) (t := glue A) (hA a (List.mem_cons_self ..))
    have c2 := nl.cut_at (a := b) (t := glue B ++ r) (hB b (List.mem_cons_self ..))
    rw [← e1, h, e2] at c1
    have ea : a = b := c1.1.symm.trans c2.1
    have eb : glue A = glue B ++ r := c1.2.symm.trans c2.2
    obtain ⟨C, h1, h2⟩ := glue_pre B A r (fun x hx => hA x (List.mem_cons_of_mem _ hx)) (fun x hx => hB x (List.mem_cons_of_mem _ hx)) eb
    exact ⟨C, by rw [ea, h1]; rfl, h2⟩
theorem nn_at {n : Nat} {N : Nat → Nod} {m : Nat} {P : Nat → Pip} (hb : netB n N m P = true) {f : Nat} (hf : f < n) : nnC n N m P (N f).s = 0 ∧ nnV n N m P (N f).s = f := by
  have hd := nodes_of hb
  have h : nnF N n (N f).s = some f := nnF_some hf (nnP_iff.2 rfl) (fun x hx => by
    cases hp : nnP N (N f).s x
    · rfl
    · exact absurd (nnP_iff.1 hp) (hd x f hx hf))
  unfold nnC nnV
  rw [if_pos hb, if_pos hb, h]
  exact ⟨rfl, rfl⟩
theorem node_step {q : Nod} (hq : nodB q = true) (n : Nat) (N : Nat → Nod) (P : Nat → Pip) {ps : List ByteArray} (hps : ps.map (·.data.toList) = sp 6 (nodeL q)) : LineOK n N 0 P ps (n + 1) (addN N n q) 0 P := by
  obtain ⟨_, a, b⟩ := nod_bd hq
  refine .inl ⟨rfl, q.s, ⟨(Lib.decDigits q.lo.toNat).toArray⟩, ⟨(Lib.decDigits q.hi.toNat).toArray⟩, q.lo, q.hi, map_ba _ _ ?_, numOK_dec a.1 (by omega), numOK_dec b.1 (by omega), rfl, rfl, rfl, rfl⟩
  rw [hps, sp_node hq 3]
  rfl
theorem pipe_step {n : Nat} {N : Nat → Nod} {m : Nat} {P : Nat → Pip} (hb : netB n N m P = true) {q : Pip} (hq : pipB n q = true) {ps : List ByteArray} (hps : ps.map (·.data.toList) = sp 6 (pipeL N q)) : LineOK n N m P ps n N (m + 1) (addP P m q) := by
  obtain ⟨f, t, e1, e2, f1, t1, k0, v0, l0⟩ := pip_bd hq
  have hN := (net_nodes hb).1
  unfold pipB at hq
  simp only [Bool.and_eq_true] at hq
  have hk := inR_iff.1 hq.1.1.2
  have hv := inR_iff.1 hq.1.2
  have hl := inR_iff.1 hq.2
  have ef : q.f.toNat = f := by omega
  have et : q.t.toNat = t := by omega
  rw [sp_pipe (hN _ (by omega)) (hN _ (by omega)) 1, ef, et] at hps
  refine .inr ⟨(N f).s, (N t).s, ⟨(Lib.decDigits q.k.toNat).toArray⟩, ⟨(Lib.decDigits q.v.toNat).toArray⟩, ⟨(Lib.decDigits q.l.toNat).toArray⟩, q.k, q.v, q.l, map_ba _ _ (hps.trans rfl), (nn_at hb f1).1, (nn_at hb t1).1, numOK_dec k0 (by omega), numOK_dec v0 (by omega), numOK_dec l0 (by omega), rfl, rfl, rfl, ?_⟩
  rw [(nn_at hb f1).2, (nn_at hb t1).2, ← e1, ← e2]
/-- where a valid network's text begins with a chain's lines and goes on with a line, that line is the chain's next -/
theorem next_line {n : Nat} {N : Nat → Nod} {m : Nat} {P : Nat → Pip} {ls : List (List UInt8)} (hc : Chain n N m P ls) {n' : Nat} {N' : Nat → Nod} {m' : Nat} {P' : Nat → Pip} (hb : netB n' N' m' P' = true) {a t : List UInt8} (ha : (10 : UInt8) ∉ a) (he : netL n' N' m' P' = glue ls ++ (a ++ 10 :: t)) {ps : List ByteArray} (hps : ps.map (·.data.toList) = sp 6 a) : ∃ n1 N1 m1 P1, LineOK n N m P ps n1 N1 m1 P1 ∧ netB n1 N1 m1 P1 = true := by
  have hl := chain_lns hc
  have hlen : ls.length = n + m := by rw [hl, lns_len]
  rw [netL_glue] at he
  obtain ⟨C, h1, h2⟩ := glue_pre ls _ _ (lns_noline hb) (chain_noline hc) he
  obtain ⟨C2, rfl⟩ : ∃ C2, C = a :: C2 := by
    rcases C with _ | ⟨c, C2⟩
    · simp [glue] at h2
    · refine ⟨C2, ?_⟩
      have e1 : glue (c :: C2) = c ++ 10 :: glue C2 := by simp [glue]
      have hcn : (10 : UInt8) ∉ c := lns_noline hb c (by rw [h1]; simp)
      have c1 := nl.cut_at (a := c) (t := glue C2) hcn
      rw [← e1, h2] at c1
      rw [← c1.1, (nl.cut_at ha).1]
  have htake : (lns n' N' m' P').take ls.length = ls := by rw [h1, List.take_left]
  have hat : (lns n' N' m' P')[ls.length]? = some a := by rw [h1]; simp
  have hlt : ls.length < n' + m' := by
    have := congrArg List.length h1
    rw [lns_len] at this
    simp at this
    omega
  obtain ⟨hN', hP'⟩ := net_nodes hb
  have hsz := net_sz hb
  rw [lns_take] at htake
  obtain ⟨en, em, eN, eP⟩ : n = min ls.length n' ∧ m = min (ls.length - n') m' ∧ (∀ i, i < n → N i = N' i) ∧ ∀ i, i < m → P i = P' i := by
    by_cases h0 : ls.length = 0
    · exact ⟨by omega, by omega, fun i hi => by omega, fun i hi => by omega⟩
    · exact netL_inj (chain_valid hc (by rintro rfl; exact h0 rfl)) (netB_take hb _ (by omega)) (by rw [chain_text hc, netL_glue, htake])
  by_cases hk : ls.length < n'
  · obtain rfl : m = 0 := by omega
    have en' : ls.length = n := by omega
    rw [en', lns_node (by omega)] at hat
    injection hat with hat
    subst hat
    refine ⟨_, _, _, _, node_step (hN' n (by omega)) n N P hps, netB_congr (N := N') (P := P') ?_ (fun i hi => ?_) (fun i hi => by omega)⟩
    · have := netB_take hb (n + 1) (by omega)
      rw [show min (n + 1) n' = n + 1 by omega, show min (n + 1 - n') m' = 0 by omega] at this
      exact this
    · unfold addN
      split
      · exact (eN i (by assumption)).symm
      · rw [show i = n by omega]
  · obtain rfl : n = n' := by omega
    have hbn := chain_valid hc (by rintro rfl; simp at hk; omega)
    have em' : ls.length = n + m := hlen
    rw [em', lns_pipe (by omega)] at hat
    injection hat with hat
    have hq := hP' m (by omega)
    obtain ⟨f, t', e1, e2, f1, t1, _⟩ := pip_bd hq
    have hpl : pipeL N (P' m) = a := by
      rw [← hat]
      unfold pipeL
      rw [eN _ (by omega), eN _ (by omega)]
    subst hpl
    refine ⟨_, _, _, _, pipe_step hbn hq hps, netB_congr (N := N') (P := P') ?_ (fun i hi => (eN i hi).symm) (fun i hi => ?_)⟩
    · have := netB_take hb (n + (m + 1)) (by omega)
      rw [show min (n + (m + 1)) n = n by omega, show min (n + (m + 1) - n) m' = m + 1 by omega] at this
      exact this
    · unfold addP
      split
      · exact (eP i (by assumption)).symm
      · rw [show i = m by omega]
/-- a text whose reading stops is that of no valid network -/
theorem no_text {n : Nat} {N : Nat → Nod} {m : Nat} {P : Nat → Pip} {ls : List (List UInt8)} {rest : List UInt8} (hc : Chain n N m P ls) (hno : NoStep n N m P ls rest) {n' : Nat} {N' : Nat → Nod} {m' : Nat} {P' : Nat → Pip} (hb : netB n' N' m' P' = true) : netL n' N' m' P' ≠ glue ls ++ rest := by
  intro he
  rcases hno with ⟨h1, h2⟩ | ⟨a, t, ha, rfl, h⟩
  · rw [netL_glue] at he
    obtain ⟨C, g1, g2⟩ := glue_pre ls _ _ (lns_noline hb) (chain_noline hc) he
    rcases C with _ | ⟨c, C2⟩
    · have : rest = [] := by rw [← g2]; rfl
      rcases h2 with rfl | h2
      · have := congrArg List.length g1
        rw [lns_len] at this
        have hsz := net_sz hb
        simp at this
        omega
      · exact h2 this
    · exact h1 (by rw [← g2]; simp [glue])
  · have hm : ((sp 6 a).map (fun x => (⟨x.toArray⟩ : ByteArray))).map (·.data.toList) = sp 6 a := by
      rw [List.map_map]
      exact (List.map_congr_left (g := id) (fun x _ => by simp)).trans (List.map_id _)
    obtain ⟨n1, N1, m1, P1, q1, q2⟩ := next_line hc hb ha he hm
    rw [h _ hm _ _ _ _ q1] at q2
    cases q2
/-- each beginning of a chain's lines is a valid network's text -/
theorem chain_heads {n : Nat} {N : Nat → Nod} {m : Nat} {P : Nat → Pip} {ls : List (List UInt8)} (hc : Chain n N m P ls) {k : Nat} (h1 : 1 ≤ k) (hk : k ≤ ls.length) : ∃ n' m', netB n' N m' P = true ∧ netL n' N m' P = glue (ls.take k) := by
  have hb := chain_valid hc (by rintro rfl; simp at hk; omega)
  refine ⟨_, _, netB_take hb k h1, ?_⟩
  rw [netL_glue, ← lns_take, ← chain_lns hc]
end Go.Proofs.YtmeoepdmaffjjaaGreatDoor.text

namespace Go.Proofs.YtmeoepdmaffjjaaGreatDoor.text
open Go.RowKit Go.Proofs.YtmeoepdmaffjjaaGreatDoor.mem
set_option linter.unusedVariables false
set_option maxRecDepth 100000

theorem ownS_at {B : Nat} {e : TypeId} {z : Nat} {w : World} {v : Value} {n : Nat} {c : Nat → Nat → Value} (h : RowE B e z w v n c) : ∃ g, OwnS w v n z c g ∧ B ≤ g ∧ (v.ownBlock = some g ∨ n = 0) := by
  obtain ⟨g, h1, h2⟩ := h.ownS
  rcases Nat.eq_zero_or_pos n with h0 | h0
  · subst h0
    obtain ⟨p, cap, e1, e2, e3, _⟩ := h1.ex
    exact ⟨B, ⟨p, cap, e1, e2, e3, .inl rfl⟩, Nat.le_refl _, .inr rfl⟩
  · obtain ⟨p, cap, e1, e2, e3, e4 | ⟨e4, e5⟩⟩ := h1.ex
    · omega
    · exact ⟨g, h1, by omega, .inl (by rw [e1, e4]; rfl)⟩
theorem net_of_rows {B n m cN cP : Nat} {w : World} {pN pP : Option Addr} {N : Nat → Nod} {P : Nat → Pip} (h : RN B w (.slice pN n cN) n (nodC N)) (g : RP B w (.slice pP m cP) m (pipC P)) : ∃ b1 b2, NetOwn w (.agg #[.slice pN n cN, .slice pP m cP]) n N m P b1 b2 ∧ B ≤ b1 ∧ B ≤ b2 := by
  obtain ⟨g1, a1, a2, a3⟩ := ownS_at h
  obtain ⟨g2, c1, c2, c3⟩ := ownS_at g
  refine ⟨g1, g2, ⟨_, _, rfl, a1, c1, ?_⟩, a2, c2⟩
  rcases a3 with a3 | a3
  · rcases c3 with c3 | c3
    · refine .inr (.inr fun e => ?_)
      exact rows_apart h g (by decide) g1 a3 (by rw [c3, e])
    · exact .inr (.inl c3)
  · exact .inl a3
/-- the answer: the network with the text, or none -/
def RNAns (B : Nat) (s : ByteArray) (e : Ending) (w' : World) : Prop :=
  (∃ v n N m P b1 b2, netB n N m P = true ∧ netL n N m P = s.data.toList ∧ e = .returned (.tuple #[v, .bool true]) ∧ NetOwn w' v n N m P b1 b2 ∧ B ≤ b1 ∧ B ≤ b2) ∨
  ((∀ n N m P, netB n N m P = true → netL n N m P ≠ s.data.toList) ∧ e = .returned (.tuple #[.agg #[.slice none 0 0, .slice none 0 0], .bool false]))
set_option maxHeartbeats 4000000 in
theorem readNetwork_any (w : World) (s : ByteArray) (hE : Env w) (hs : s.size ≤ 1048576) :
    Calls Tryz.prog 6 #[.string s] w fun e w' => RNAns w.heap.size s e w' ∧ Below w.heap.size w w' := by
  have hmf : ∀ (fn : Fn) (first cap : Array Value) (w : World), (Instr.makeFunc fn first cap).run Tryz.prog w = .ok (.func fn first cap) w := fun _ _ _ _ => rfl
  have R1 := boxed w (.slice none 0 0) (.slice none 0 0) 25
  have C1 := below_new w (.cells #[.slice none 0 0, .slice none 0 0] 25)
  have hz1 : (w.alloc (.cells #[.slice none 0 0, .slice none 0 0] 25)).heap.size = w.heap.size + 1 := by simp
  have P2 := Ob.new (w.alloc (.cells #[.slice none 0 0, .slice none 0 0] 25)) #[.slice none 0 0, .slice none 0 0, .int .i64 0, .slice none 0 0] 39 4 (parC (.slice none 0 0) (.slice none 0 0) 0 (.slice none 0 0)) rfl (fun k hk => by
    rcases (by omega : k = 0 ∨ k = 1 ∨ k = 2 ∨ k = 3) with rfl | rfl | rfl | rfl <;> rfl)
  have C2 := below_new (w.alloc (.cells #[.slice none 0 0, .slice none 0 0] 25)) (.cells #[.slice none 0 0, .slice none 0 0, .int .i64 0, .slice none 0 0] 39)
  have hz2 : ((w.alloc (.cells #[.slice none 0 0, .slice none 0 0] 25)).alloc (.cells #[.slice none 0 0, .slice none 0 0, .int .i64 0, .slice none 0 0] 39)).heap.size = w.heap.size + 2 := by simp
  have R2 := R1.below C2 (by rw [hz1]; omega)
  have CC := C1.trans (C2.mono (by rw [hz1]; omega))
  rw [hz1] at P2
  have HE := Lib.hid hE
  clear hE
  go_enter Tryz.func6, Tryz.ntmps6
  go_wp2_with fail
  generalize hW : (w.alloc (Obj.cells #[.slice none 0 0, .slice none 0 0] 25)).alloc (Obj.cells #[.slice none 0 0, .slice none 0 0, .int .i64 0, .slice none 0 0] 39) = w2 at *
  clear hW C1 C2 R1 hz1
  replace hz2 := Nat.le_antisymm_iff.1 hz2
  refine (acceptsText_any w w2 (w.heap.size + 1) (.slice none 0 0) s P2 HE.out CC (by omega) hs).mono ?_
  have HCC := Lib.hid CC
  have fin : ∀ (X : World) (v0 v1 : Value), Upd (· = w.heap.size + 1) w2 X → Below w.heap.size w ((X.setCell ⟨w.heap.size, 0, none⟩ v0).setCell ⟨w.heap.size, 1, none⟩ v1) := fun X v0 v1 u => by
    have hO := ((Only.refl w.heap.size X).setCell 0 v0).setCell 1 v1
    exact (HCC.out.trans (u.below (by omega) (by rintro q _ rfl; omega))).trans (hO.below (Nat.le_refl _))
  have FIN := Lib.hid fin
  clear CC P2 fin
  have hl2 := R2.lt
  rintro e w3 (⟨rfl, U3, n, N, m, P, ls, rest, d1, d2, d3, d4⟩ | ⟨n, N, m, P, ls, p1, c1, p2, c2, vW, d0, d1, d2, rfl, O3, N3, P3, U3⟩)
  · have R3 := R2.keep (U3.block w.heap.size hl2 (by omega))
    have r0 := R3.cell 0 (by omega)
    have r1 := R3.cell 1 (by omega)
    have f0 := R3.free 0
    have f1 := R3.free 1
    have HNO := Lib.hid (fun n' N' m' P' hb => (by rw [d2]; exact no_text d1 d4 hb) : ∀ n' N' m' P', netB n' N' m' P' = true → netL n' N' m' P' ≠ s.data.toList)
    have HF := Lib.hid (FIN.out w3 (.slice none 0 0) (.slice none 0 0) U3)
    clear R2 d1 d2 d3 d4 U3
    go_wp2_with fail
    refine bodyPost_ret (v := .tuple #[.agg #[.slice none 0 0, .slice none 0 0], .bool false]) (by simp [results, Tryz.results6, go_sem, r0, r1]) rfl ⟨.inr ⟨HNO.out, rfl⟩, HF.out⟩
  · have R3 := R2.keep (U3.block w.heap.size hl2 (by omega))
    have f0 := R3.free 0
    have f1 := R3.free 1
    have r0 := R3.cell 0 (by omega)
    have r1 := R3.cell 1 (by omega)
    have a0 : w3.cell? ⟨w.heap.size + 1, 0, none⟩ = some (.slice p1 n c1) := O3.cell 0 (by omega)
    have a1 : w3.cell? ⟨w.heap.size + 1, 1, none⟩ = some (.slice p2 m c2) := O3.cell 1 (by omega)
    have g0 := O3.free 0
    have g1 := O3.free 1
    obtain ⟨b1, b2, hN3, hb1, hb2⟩ := net_of_rows N3 P3
    have HV := Lib.hid (chain_valid d1 d0)
    have HT := Lib.hid ((chain_text d1).trans d2.symm)
    have HF := Lib.hid (FIN.out w3 (.slice p1 n c1) (.slice p2 m c2) U3)
    have HN := Lib.hid (hN3.upd (Upd.of_only (((Only.refl w.heap.size w3).setCell 0 (.slice p1 n c1)).setCell 1 (.slice p2 m c2))) (.inr (by omega)) (.inr (by omega)))
    clear R2 d0 d1 d2 U3 hN3 N3 P3
    go_wp2_with fail
    refine bodyPost_ret (v := .tuple #[.agg #[.slice p1 n c1, .slice p2 m c2], .bool true]) (by simp [results, Tryz.results6, go_sem, r0, r1]) rfl ⟨.inl ⟨_, n, N, m, P, b1, b2, HV.out, HT.out, rfl, HN.out, by omega, by omega⟩, HF.out⟩
end Go.Proofs.YtmeoepdmaffjjaaGreatDoor.text

namespace Go.Proofs.YtmeoepdmaffjjaaGreatDoor.text
open Go.RowKit Go.Proofs.YtmeoepdmaffjjaaGreatDoor.mem
set_option linter.unusedVariables false

theorem glue_len : ∀ A : List (List UInt8), A.length ≤ (glue A).length
  | [] => Nat.zero_le _
  | a :: A => by
    have := glue_len A
    simp [glue] at this ⊢
    omega
theorem sp_glue : ∀ (A : List (List UInt8)) (k : Nat), (∀ a ∈ A, (10 : UInt8) ∉ a) → A.length ≤ k → nl.sp k (glue A) = A ++ [[]]
  | [], k, _, _ => nl.sp_end (by simp [glue])
  | a :: A, k, h, hk => by
    obtain ⟨j, rfl⟩ : ∃ j, k = j + 1 := ⟨k - 1, by simp at hk; omega⟩
    have e1 : glue (a :: A) = a ++ 10 :: glue A := by simp [glue]
    rw [e1, nl.sp_one (h a (List.mem_cons_self ..)), sp_glue A j (fun x hx => h x (List.mem_cons_of_mem _ hx)) (by simp at hk; omega)]
    rfl
/-- the lines of a valid network's text -/
theorem text_lines {n : Nat} {N : Nat → Nod} {m : Nat} {P : Nat → Pip} (hb : netB n N m P = true) {s : List UInt8} (he : netL n N m P = s) {bs : List ByteArray} (hbs : bs.map (·.data.toList) = nl.sp s.length s) : bs.map (·.data.toList) = lns n N m P ++ [[]] := by
  rw [hbs, ← he, netL_glue]
  exact sp_glue _ _ (lns_noline hb) (glue_len _)
theorem text_len {n : Nat} {N : Nat → Nod} {m : Nat} {P : Nat → Pip} (hb : netB n N m P = true) {s : List UInt8} (he : netL n N m P = s) {bs : List ByteArray} (hbs : bs.map (·.data.toList) = nl.sp s.length s) : bs.length = n + m + 1 := by
  have := congrArg List.length (text_lines hb he hbs)
  simpa [lns_len] using this
/-- a line of a valid network's text: that of a node, or that of a pipe -/
theorem text_at {n : Nat} {N : Nat → Nod} {m : Nat} {P : Nat → Pip} (hb : netB n N m P = true) {s : List UInt8} (he : netL n N m P = s) {bs : List ByteArray} (hbs : bs.map (·.data.toList) = nl.sp s.length s) {i : Nat} {x : ByteArray} (hi : i + 1 < bs.length) (hx : bs[i]? = some x) :
    (i < n ∧ nodB (N i) = true ∧ nodeL (N i) = x.data.toList ∧ sp x.data.toList.length x.data.toList = [wNode, (N i).s.data.toList, Lib.decDigits (N i).lo.toNat, Lib.decDigits (N i).hi.toNat]) ∨
    (n ≤ i ∧ i - n < m ∧ pipB n (P (i - n)) = true ∧ pipeL N (P (i - n)) = x.data.toList ∧ sp x.data.toList.length x.data.toList = [wPipe, (N (P (i - n)).f.toNat).s.data.toList, (N (P (i - n)).t.toNat).s.data.toList, Lib.decDigits (P (i - n)).k.toNat, Lib.decDigits (P (i - n)).v.toNat, Lib.decDigits (P (i - n)).l.toNat]) := by
  have hl := text_len hb he hbs
  have hm := text_lines hb he hbs
  have hat : (bs.map (·.data.toList))[i]? = some x.data.toList := by rw [List.getElem?_map, hx]; rfl
  rw [hm, List.getElem?_append_left (by rw [lns_len]; omega)] at hat
  obtain ⟨hN, hP⟩ := net_nodes hb
  by_cases hin : i < n
  · rw [lns_node hin] at hat
    injection hat with hat
    refine .inl ⟨hin, hN i hin, hat, ?_⟩
    obtain ⟨k, hk⟩ : ∃ k, x.data.toList.length = k + 3 := ⟨x.data.toList.length - 3, by
      have : 3 ≤ x.data.toList.length := by
        rw [← hat, nodeL_cat]
        simp [wNode] <;> omega
      omega⟩
    rw [hk, ← hat, sp_node (hN i hin) k]
  · obtain ⟨j, rfl⟩ : ∃ j, i = n + j := ⟨i - n, by omega⟩
    have hj : j < m := by omega
    rw [lns_pipe hj] at hat
    injection hat with hat
    have hq := hP j hj
    obtain ⟨f, t, e1, e2, f1, t1, _⟩ := pip_bd hq
    rw [show n + j - n = j by omega]
    refine .inr ⟨by omega, hj, hq, hat, ?_⟩
    obtain ⟨k, hk⟩ : ∃ k, x.data.toList.length = k + 5 := ⟨x.data.toList.length - 5, by
      have : 5 ≤ x.data.toList.length := by
        rw [← hat, pipeL_cat]
        simp [wPipe] <;> omega
      omega⟩
    rw [hk, ← hat, sp_pipe (hN _ (by omega)) (hN _ (by omega)) k]
/-- after i lines, k nodes and j pipes -/
structure Agr (s : List UInt8) (i k j : Nat) (N : Nat → Nod) (P : Nat → Pip) : Prop where
  kj : k ≤ i ∧ j ≤ i
  ag : ∀ n' N' m' P', netB n' N' m' P' = true → netL n' N' m' P' = s → k = min i n' ∧ j = i - n' ∧ (∀ x, x < k → N x = N' x) ∧ ∀ x, x < j → P x = P' x
theorem agr_0 (s : List UInt8) (N : Nat → Nod) (P : Nat → Pip) : Agr s 0 0 0 N P := ⟨⟨Nat.le_refl _, Nat.le_refl _⟩, fun n' N' m' P' _ _ => ⟨by omega, by omega, fun x hx => by omega, fun x hx => by omega⟩⟩
theorem agr_node {s : List UInt8} {i k j : Nat} {N : Nat → Nod} {P : Nat → Pip} (h : Agr s i k j N P) {bs : List ByteArray} (hbs : bs.map (·.data.toList) = nl.sp s.length s) {x : ByteArray} (hi : i + 1 < bs.length) (hx : bs[i]? = some x) {q : Nod} (hq : nodB q = true) (hl : nodeL q = x.data.toList) : Agr s (i + 1) (k + 1) j (addN N k q) P := by
  refine ⟨⟨by have := h.kj; omega, by have := h.kj; omega⟩, fun n' N' m' P' hb he => ?_⟩
  obtain ⟨a1, a2, a3, a4⟩ := h.ag n' N' m' P' hb he
  rcases text_at hb he hbs hi hx with ⟨b1, b2, b3, b4⟩ | ⟨b1, b2, b3, b4, b5⟩
  · refine ⟨by omega, by omega, fun y hy => ?_, a4⟩
    unfold addN
    split
    · exact a3 y (by assumption)
    · rw [show y = i by omega]
      exact node_uniq hq b2 (hl.trans b3.symm)
  · exfalso
    rw [← hl, nodeL_cat, pipeL_cat] at b4
    unfold wNode wPipe at b4
    simp at b4
theorem agr_pipe {s : List UInt8} {i k j : Nat} {N : Nat → Nod} {P : Nat → Pip} (h : Agr s i k j N P) {bs : List ByteArray} (hbs : bs.map (·.data.toList) = nl.sp s.length s) {x : ByteArray} (hi : i + 1 < bs.length) (hx : bs[i]? = some x) {x0 x1 x2 x3 x4 x5 : ByteArray} (hw : [x0, x1, x2, x3, x4, x5].map (·.data.toList) = sp x.data.toList.length x.data.toList) {d : Nat → Int} (hd : ∀ (c : Nat) y, [x3, x4, x5][c]? = some y → IsDec d c y) : Agr s (i + 1) k (j + 1) N (addP P j ⟨ixV N k x1, ixV N k x2, d 0, d 1, d 2⟩) := by
  refine ⟨⟨by have := h.kj; omega, by have := h.kj; omega⟩, fun n' N' m' P' hb he => ?_⟩
  obtain ⟨a1, a2, a3, a4⟩ := h.ag n' N' m' P' hb he
  rcases text_at hb he hbs hi hx with ⟨b1, b2, b3, b4⟩ | ⟨b1, b2, b3, b4, b5⟩
  · rw [b4] at hw
    simp at hw
  · rw [b5] at hw
    simp only [List.map_cons, List.map_nil, List.cons.injEq, and_true] at hw
    obtain ⟨_, w1, w2, w3, w4, w5⟩ := hw
    obtain ⟨m0, d0, _, g0⟩ := hd 0 x3 rfl
    obtain ⟨m1, d1, _, g1⟩ := hd 1 x4 rfl
    obtain ⟨m2, d2, _, g2⟩ := hd 2 x5 rfl
    have h0 := dec_inj (g0.trans w3)
    have h1 := dec_inj (g1.trans w4)
    have h2 := dec_inj (g2.trans w5)
    obtain ⟨f, t, e1, e2, f1, t1, k0, v0, l0⟩ := pip_bd b3
    obtain rfl : k = n' := by omega
    have hdist := nodes_of hb
    have ix : ∀ (y : ByteArray) (c : Nat), c < k → y.data.toList = (N' c).s.data.toList → ixV N k y = c := fun y c hc hy => by
      have ey : y = (N' c).s := ByteArray.ext (by rw [← Array.toList_inj]; exact hy)
      have hf : nnF N k y = some c := nnF_some hc (nnP_iff.2 (by rw [a3 c hc, ey])) (fun z hz => by
        cases hp : nnP N y z
        · rfl
        · exact absurd ((congrArg Nod.s (a3 z (by omega))).symm.trans ((nnP_iff.1 hp).trans ey)) (hdist z c hz hc))
      unfold ixV
      rw [hf]
    refine ⟨by omega, by omega, a3, fun y hy => ?_⟩
    unfold addP
    split
    · exact a4 y (by assumption)
    · rw [show y = i - k by omega]
      rw [ix x1 f f1 (by rw [w1, e1, Int.toNat_natCast]), ix x2 t t1 (by rw [w2, e2, Int.toNat_natCast]), d0, d1, d2, h0, h1, h2]
      generalize P' (i - k) = q at *
      obtain ⟨qf, qt, qk, qv, ql⟩ := q
      simp only [Pip.mk.injEq] at *
      omega
/-- no valid network has the text: a line with another number of words -/
theorem agr_words {s : List UInt8} {i : Nat} {bs : List ByteArray} (hbs : bs.map (·.data.toList) = nl.sp s.length s) {x : ByteArray} (hi : i + 1 < bs.length) (hx : bs[i]? = some x) {ws : List ByteArray} (hw : ws.map (·.data.toList) = sp x.data.toList.length x.data.toList) (h4 : ws.length ≠ 4) (h6 : ws.length ≠ 6) : ∀ n' N' m' P', netB n' N' m' P' = true → netL n' N' m' P' ≠ s := by
  intro n' N' m' P' hb he
  have hl := congrArg List.length hw
  rw [List.length_map] at hl
  rcases text_at hb he hbs hi hx with ⟨b1, b2, b3, b4⟩ | ⟨b1, b2, b3, b4, b5⟩
  · rw [b4] at hl
    exact h4 hl
  · rw [b5] at hl
    exact h6 hl
/-- four words, and no node has the line -/
theorem agr_nonode {s : List UInt8} {i : Nat} {bs : List ByteArray} (hbs : bs.map (·.data.toList) = nl.sp s.length s) {x : ByteArray} (hi : i + 1 < bs.length) (hx : bs[i]? = some x) {ws : List ByteArray} (hw : ws.map (·.data.toList) = sp x.data.toList.length x.data.toList) (h4 : ws.length = 4) (hno : ∀ q, nodB q = true → nodeL q ≠ x.data.toList) : ∀ n' N' m' P', netB n' N' m' P' = true → netL n' N' m' P' ≠ s := by
  intro n' N' m' P' hb he
  have hl := congrArg List.length hw
  rw [List.length_map] at hl
  rcases text_at hb he hbs hi hx with ⟨b1, b2, b3, b4⟩ | ⟨b1, b2, b3, b4, b5⟩
  · exact hno _ b2 b3
  · rw [b5] at hl
    simp at hl
    omega
/-- six words, and one of the last three is no number's -/
theorem agr_nonum {s : List UInt8} {i : Nat} {bs : List ByteArray} (hbs : bs.map (·.data.toList) = nl.sp s.length s) {x : ByteArray} (hi : i + 1 < bs.length) (hx : bs[i]? = some x) {x0 x1 x2 x3 x4 x5 : ByteArray} (hw : [x0, x1, x2, x3, x4, x5].map (·.data.toList) = sp x.data.toList.length x.data.toList) {j : Nat} {y : ByteArray} (hj : [x3, x4, x5][j]? = some y) (hno : ∀ m, m < 1000000000000000000 → Lib.decDigits m ≠ y.data.toList) : ∀ n' N' m' P', netB n' N' m' P' = true → netL n' N' m' P' ≠ s := by
  intro n' N' m' P' hb he
  rcases text_at hb he hbs hi hx with ⟨b1, b2, b3, b4⟩ | ⟨b1, b2, b3, b4, b5⟩
  · rw [b4] at hw
    simp at hw
  · rw [b5] at hw
    simp only [List.map_cons, List.map_nil, List.cons.injEq, and_true] at hw
    obtain ⟨_, w1, w2, w3, w4, w5⟩ := hw
    unfold pipB at b3
    simp only [Bool.and_eq_true] at b3
    have hk := inR_iff.1 b3.1.1.2
    have hv := inR_iff.1 b3.1.2
    have hl := inR_iff.1 b3.2
    rcases j with _ | _ | _ | j
    · simp at hj
      subst hj
      exact hno _ (by omega) w3.symm
    · simp at hj
      subst hj
      exact hno _ (by omega) w4.symm
    · simp at hj
      subst hj
      exact hno _ (by omega) w5.symm
    · simp at hj
end Go.Proofs.YtmeoepdmaffjjaaGreatDoor.text

namespace Go.Proofs.YtmeoepdmaffjjaaGreatDoor.text
open Go.RowKit Go.Proofs.YtmeoepdmaffjjaaGreatDoor.mem
set_option linter.unusedVariables false

theorem sp_glue_app : ∀ (A : List (List UInt8)) (r : List UInt8) (k : Nat), (∀ a ∈ A, (10 : UInt8) ∉ a) → nl.sp (k + A.length) (glue A ++ r) = A ++ nl.sp k r
  | [], r, k, _ => rfl
  | a :: A, r, k, h => by
    have e1 : glue (a :: A) ++ r = a ++ 10 :: (glue A ++ r) := by simp [glue]
    rw [e1, show k + (a :: A).length = (k + A.length) + 1 by simp; omega, nl.sp_one (h a (List.mem_cons_self ..)), sp_glue_app A r k (fun x hx => h x (List.mem_cons_of_mem _ hx))]
    rfl
theorem lines_of (A : List (List UInt8)) (r : List UInt8) (h : ∀ a ∈ A, (10 : UInt8) ∉ a) : nl.sp (glue A ++ r).length (glue A ++ r) = A ++ nl.sp r.length r := by
  have hl := glue_len A
  rw [show (glue A ++ r).length = ((glue A).length - A.length + r.length) + A.length by rw [List.length_append]; omega, sp_glue_app A r _ h, nl.sp_big _ r.length r (by omega) (Nat.le_refl _)]
/-- the first k lines are a valid network's text -/
def okHead (L : List (List UInt8)) (k : Nat) : Prop := ∃ n N m P, netB n N m P = true ∧ netL n N m P = glue (L.take k)
/-- the model's answer -/
def FWS (s : List UInt8) (x : Int) : Prop :=
  (s = [] ∧ x = 0) ∨ (s ≠ [] ∧ ((∃ i : Nat, x = i ∧ i + 1 < (nl.sp s.length s).length ∧ (∀ j, j < i → okHead (nl.sp s.length s) (j + 1)) ∧ ¬ okHead (nl.sp s.length s) (i + 1)) ∨
    ((∀ j, j + 1 < (nl.sp s.length s).length → okHead (nl.sp s.length s) (j + 1)) ∧ (((nl.sp s.length s).getLast? ≠ some [] ∧ x = (nl.sp s.length s).length - 1) ∨ ((nl.sp s.length s).getLast? = some [] ∧ x = -1)))))
theorem ok_of_chain {n : Nat} {N : Nat → Nod} {m : Nat} {P : Nat → Pip} {ls : List (List UInt8)} (hc : Chain n N m P ls) (R : List (List UInt8)) {j : Nat} (hj : j < ls.length) : okHead (ls ++ R) (j + 1) := by
  obtain ⟨n', m', h1, h2⟩ := chain_heads hc (k := j + 1) (by omega) (by omega)
  exact ⟨n', N, m', P, h1, by rw [h2, List.take_append_of_le_length (by omega)]⟩
theorem fw_eq {s : List UInt8} {x y : Int} (h : FWAns s x) (g : FWS s y) : x = y := by
  rcases h with ⟨rfl, n, N, m, P, ls, hne, hc, rfl⟩ | ⟨n, N, m, P, ls, rest, rfl, hc, rfl, hno⟩
  · have hL : nl.sp (glue ls).length (glue ls) = ls ++ [[]] := by
      have := lines_of ls [] (chain_noline hc)
      simpa [nl.sp] using this
    unfold FWS at g
    rw [hL] at g
    rcases g with ⟨h0, _⟩ | ⟨_, ⟨i, rfl, hi, _, hbad⟩ | ⟨_, ⟨hl, _⟩ | ⟨_, rfl⟩⟩⟩
    · exact absurd ((chain_text hc).trans h0) (by
        intro e
        have := glue_len ls
        rw [h0] at this
        simp at this
        exact hne this)
    · exact absurd (ok_of_chain hc [[]] (by simpa using hi)) hbad
    · simp at hl
    · rfl
  · have hL := lines_of ls rest (chain_noline hc)
    unfold FWS at g
    rw [hL] at g
    rcases hno with ⟨h1, h2⟩ | ⟨a, t, ha, rfl, h⟩
    · rw [nl.sp_end h1] at g
      rcases g with ⟨h0, rfl⟩ | ⟨hs0, ⟨i, rfl, hi, _, hbad⟩ | ⟨_, ⟨hl, rfl⟩ | ⟨hl, rfl⟩⟩⟩
      · have := glue_len ls
        rw [List.append_eq_nil_iff] at h0
        rw [h0.1] at this
        simp at this
        simp [this]
      · exact absurd (ok_of_chain hc [rest] (by simpa using hi)) hbad
      · simp
      · exfalso
        simp at hl
        rcases h2 with rfl | h2
        · exact hs0 (by rw [hl]; rfl)
        · exact h2 hl
    · have hbad : ¬ okHead (ls ++ nl.sp (a ++ 10 :: t).length (a ++ 10 :: t)) (ls.length + 1) := by
        rintro ⟨n', N', m', P', hb, he⟩
        have hsp : nl.sp (a ++ 10 :: t).length (a ++ 10 :: t) = a :: nl.sp (a.length + t.length) t := by
          rw [show (a ++ 10 :: t).length = (a.length + t.length) + 1 by simp; omega, nl.sp_one ha]
        rw [hsp] at he
        have e2 : (ls ++ a :: nl.sp (a.length + t.length) t).take (ls.length + 1) = ls ++ [a] := by
          rw [List.take_append, List.take_of_length_le (by omega)]
          simp
        rw [e2, glue_app, glue_one] at he
        exact no_text hc (.inr ⟨a, [], ha, rfl, h⟩) hb he
      have hlen : ls.length + 1 < (ls ++ nl.sp (a ++ 10 :: t).length (a ++ 10 :: t)).length := by
        rw [show (a ++ 10 :: t).length = (a.length + t.length) + 1 by simp; omega, nl.sp_one ha]
        have := List.length_pos_iff.2 (nl.sp_ne (a.length + t.length) t)
        simp
        omega
      rcases g with ⟨h0, rfl⟩ | ⟨hs0, ⟨i, rfl, hi, hok, hb⟩ | ⟨hok, _⟩⟩
      · simp at h0
      · rcases Nat.lt_trichotomy i ls.length with q | q | q
        · exact absurd (ok_of_chain hc _ q) hb
        · rw [q]
        · exact absurd (hok _ q) hbad
      · exact absurd (hok _ hlen) hbad
end Go.Proofs.YtmeoepdmaffjjaaGreatDoor.text

namespace Go.Proofs.YtmeoepdmaffjjaaGreatDoor.text
open Go.RowKit Go.Proofs.YtmeoepdmaffjjaaGreatDoor.mem
set_option linter.unusedVariables false
set_option maxRecDepth 100000

/-- what lies in memory while the text is read -/
structure Rd (w : World) (g B gw : Nat) (bs : List ByteArray) (nv pv : Value) (kn kp : Nat) (N : Nat → Nod) (P : Nat → Pip) (wr : World) : Prop where
  rn : RN B wr nv kn (nodC N)
  rp : RP B wr pv kp (pipC P)
  ra : Ob wr w.heap.size 2 (bx (.slice none 0 0) (.slice none 0 0))
  ro : Ob wr g 2 (bx (.slice none 0 0) (.slice none 0 0))
  wd : ∀ (j : Nat) x, bs[j]? = some x → wr.cell? ⟨gw, j, none⟩ = some (.string x)
  bl : Below w.heap.size w wr
  sz : w.heap.size < B ∧ g < B ∧ gw < B ∧ B ≤ wr.heap.size
theorem Rd.next {w : World} {g B gw : Nat} {bs : List ByteArray} {nv pv : Value} {kn kp : Nat} {N : Nat → Nod} {P : Nat → Pip} {wr w' : World} (h : Rd w g B gw bs nv pv kn kp N P wr) (b : Below wr.heap.size wr w') : Rd w g B gw bs nv pv kn kp N P w' := by
  have hz := h.sz
  have hs := b.size
  exact ⟨RowE.next h.rn b, RowE.next h.rp b, h.ra.below b (by omega), h.ro.below b (by omega), fun j x hx => (b.cell (p := ⟨gw, j, none⟩) (show gw < wr.heap.size by omega)).trans (h.wd j x hx), h.bl.trans (b.mono (by omega)), ⟨hz.1, hz.2.1, hz.2.2.1, by omega⟩⟩
theorem Rd.node {w : World} {g B gw : Nat} {bs : List ByteArray} {nv pv : Value} {kn kp : Nat} {N : Nat → Nod} {P : Nat → Pip} {wr w' : World} (h : Rd w g B gw bs nv pv kn kp N P wr) {v' : Value} {kn' : Nat} {N' : Nat → Nod} (hr : RN B w' v' kn' (nodC N')) (u : Upd (fun x => some x = nv.ownBlock) wr w') : Rd w g B gw bs v' pv kn' kp N' P w' := by
  have hz := h.sz
  have hs := u.size
  have hx : ∀ x, x < B → ¬ some x = nv.ownBlock := fun x hx e => by have := (h.rn.own.lt x e.symm).1; omega
  exact ⟨hr, h.rp.keep u (rows_apart h.rp h.rn (by decide)), h.ra.keep (u.block _ (by omega) (hx _ hz.1)), h.ro.keep (u.block _ (by omega) (hx _ hz.2.1)), fun j x hj => (World.cell?_of_block (u.block gw (by omega) (hx _ hz.2.2.1))).trans (h.wd j x hj), h.bl.trans (u.below (by omega) (fun x _ e => by have := (h.rn.own.lt x e.symm).1; omega)), ⟨hz.1, hz.2.1, hz.2.2.1, by omega⟩⟩
theorem Rd.pipe {w : World} {g B gw : Nat} {bs : List ByteArray} {nv pv : Value} {kn kp : Nat} {N : Nat → Nod} {P : Nat → Pip} {wr w' : World} (h : Rd w g B gw bs nv pv kn kp N P wr) {v' : Value} {kp' : Nat} {P' : Nat → Pip} (hr : RP B w' v' kp' (pipC P')) (u : Upd (fun x => some x = pv.ownBlock) wr w') : Rd w g B gw bs nv v' kn kp' N P' w' := by
  have hz := h.sz
  have hs := u.size
  have hx : ∀ x, x < B → ¬ some x = pv.ownBlock := fun x hx e => by have := (h.rp.own.lt x e.symm).1; omega
  exact ⟨h.rn.keep u (rows_apart h.rn h.rp (by decide)), hr, h.ra.keep (u.block _ (by omega) (hx _ hz.1)), h.ro.keep (u.block _ (by omega) (hx _ hz.2.1)), fun j x hj => (World.cell?_of_block (u.block gw (by omega) (hx _ hz.2.2.1))).trans (h.wd j x hj), h.bl.trans (u.below (by omega) (fun x _ e => by have := (h.rp.own.lt x e.symm).1; omega)), ⟨hz.1, hz.2.1, hz.2.2.1, by omega⟩⟩
theorem Rd.fin {w : World} {g B gw : Nat} {bs : List ByteArray} {nv pv : Value} {kn kp : Nat} {N : Nat → Nod} {P : Nat → Pip} {wr : World} (h : Rd w g B gw bs nv pv kn kp N P wr) (v0 v1 : Value) : Below w.heap.size w ((wr.setCell ⟨w.heap.size, 0, none⟩ v0).setCell ⟨w.heap.size, 1, none⟩ v1) :=
  h.bl.trans ((((Only.refl w.heap.size wr).setCell 0 v0).setCell 1 v1).below (Nat.le_refl _))
theorem rows_new {e : TypeId} {z : Nat} (w : World) (c : Nat → Nat → Value) : RowE w.heap.size e z (w.alloc (.cells #[] e)) (.slice (some ⟨w.heap.size, 0, none⟩) 0 0) 0 c := by
  refine ⟨by simp [flatL], .inr ⟨w.heap.size, 0, _, rfl, Nat.le_refl _, heap_alloc_new w _, Nat.le_refl _, by unfold maxLen; omega, by simp, ?_⟩⟩
  simp [flatL]
theorem rows_mono {B B' : Nat} {e : TypeId} {z : Nat} {w : World} {v : Value} {n : Nat} {c : Nat → Nat → Value} (h : RowE B e z w v n c) (hB : B' ≤ B) : RowE B' e z w v n c := by
  refine ⟨h.own.1, ?_⟩
  rcases h.own.2 with h1 | ⟨g, cap, cur, rfl, h2, h3⟩
  · exact .inl h1
  · exact .inr ⟨g, cap, cur, rfl, Nat.le_trans hB h2, h3⟩
theorem nlsp_len : ∀ (k : Nat) (s : List UInt8), (nl.sp k s).length ≤ s.length + 1
  | 0, s => by simp [nl.sp]
  | k + 1, s => by
    by_cases h : (10 : UInt8) ∈ s
    · obtain ⟨a, t, h1, rfl⟩ := nl.cut_ex h
      have := nlsp_len k t
      rw [nl.sp_one h1]
      simp only [List.length_cons, List.length_append]
      omega
    · rw [nl.sp_end h]
      simp
theorem Rd.r0 {w : World} {g B gw : Nat} {bs : List ByteArray} {nv pv : Value} {kn kp : Nat} {N : Nat → Nod} {P : Nat → Pip} {wr : World} (h : Rd w g B gw bs nv pv kn kp N P wr) : wr.cell? ⟨w.heap.size, 0, none⟩ = some (.slice none 0 0) := h.ra.cell 0 (by omega)
theorem Rd.r1 {w : World} {g B gw : Nat} {bs : List ByteArray} {nv pv : Value} {kn kp : Nat} {N : Nat → Nod} {P : Nat → Pip} {wr : World} (h : Rd w g B gw bs nv pv kn kp N P wr) : wr.cell? ⟨w.heap.size, 1, none⟩ = some (.slice none 0 0) := h.ra.cell 1 (by omega)
theorem Rd.t0 {w : World} {g B gw : Nat} {bs : List ByteArray} {nv pv : Value} {kn kp : Nat} {N : Nat → Nod} {P : Nat → Pip} {wr : World} (h : Rd w g B gw bs nv pv kn kp N P wr) : wr.cell? ⟨g, 0, none⟩ = some (.slice none 0 0) := h.ro.cell 0 (by omega)
theorem Rd.t1 {w : World} {g B gw : Nat} {bs : List ByteArray} {nv pv : Value} {kn kp : Nat} {N : Nat → Nod} {P : Nat → Pip} {wr : World} (h : Rd w g B gw bs nv pv kn kp N P wr) : wr.cell? ⟨g, 1, none⟩ = some (.slice none 0 0) := h.ro.cell 1 (by omega)
theorem appNod2 (B : Nat) (W : World) (v : Value) (n : Nat) (N : Nat → Nod) (q : Nod) (h : RN B W v n (nodC N)) (hB : B ≤ W.heap.size) (hn : n ≤ 2000000) :
    ∃ v' w', Sem.run Tryz.prog (Builtin.append_ #[22, 22] 22 #[v, .slice (some ⟨W.heap.size, 0, none⟩) 1 1]) (W.alloc (.cells #[.string q.s, .int .i64 q.lo, .int .i64 q.hi] 54)) = .ok v' w' ∧ RN B w' v' (n + 1) (nodC (addN N n q)) ∧ Upd (fun x => some x = v.ownBlock) W w' :=
  appOne2 Tryz.underlying22 info_make_node (by omega) rfl (by omega) B W v n _ _ h hB [.string q.s, .int .i64 q.lo, .int .i64 q.hi] rfl (by intro u hu; simp at hu; rcases hu with rfl | rfl | rfl <;> rfl)
    (fun i j hi hj => by rcases (by omega : j = 0 ∨ j = 1 ∨ j = 2) with rfl | rfl | rfl <;> simp [nodC, addN, hi])
    (fun j hj => by rcases (by omega : j = 0 ∨ j = 1 ∨ j = 2) with rfl | rfl | rfl <;> simp [nodC, addN]) hn
theorem appPip2 (B : Nat) (W : World) (v : Value) (n : Nat) (P : Nat → Pip) (q : Pip) (h : RP B W v n (pipC P)) (hB : B ≤ W.heap.size) (hn : n ≤ 2000000) :
    ∃ v' w', Sem.run Tryz.prog (Builtin.append_ #[23, 23] 23 #[v, .slice (some ⟨W.heap.size, 0, none⟩) 1 1]) (W.alloc (.cells #[.int .i64 q.f, .int .i64 q.t, .int .i64 q.k, .int .i64 q.v, .int .i64 q.l] 61)) = .ok v' w' ∧ RP B w' v' (n + 1) (pipC (addP P n q)) ∧ Upd (fun x => some x = v.ownBlock) W w' :=
  appOne2 Tryz.underlying23 info_make_pipe (by omega) rfl (by omega) B W v n _ _ h hB [.int .i64 q.f, .int .i64 q.t, .int .i64 q.k, .int .i64 q.v, .int .i64 q.l] rfl (by intro u hu; simp at hu; rcases hu with rfl | rfl | rfl | rfl | rfl <;> rfl)
    (fun i j hi hj => by rcases (by omega : j = 0 ∨ j = 1 ∨ j = 2 ∨ j = 3 ∨ j = 4) with rfl | rfl | rfl | rfl | rfl <;> simp [pipC, addP, hi])
    (fun j hj => by rcases (by omega : j = 0 ∨ j = 1 ∨ j = 2 ∨ j = 3 ∨ j = 4) with rfl | rfl | rfl | rfl | rfl <;> simp [pipC, addP]) hn
theorem net_rows2 {B n m cN cP a : Nat} {w : World} {pN pP : Option Addr} {N : Nat → Nod} {P : Nat → Pip} (h : RN B w (.slice pN n cN) n (nodC N)) (g : RP B w (.slice pP m cP) m (pipC P)) (ha : a ≤ B) : NetAt w (.agg #[.slice pN n cN, .slice pP m cP]) n N m P a w.heap.size := by
  obtain ⟨g1, s1, h1, _⟩ := ownS_at h
  obtain ⟨g2, s2, h2, _⟩ := ownS_at g
  exact ⟨_, _, rfl, s1.cs (.inl (by omega)) (Nat.le_refl _), s2.cs (.inl (by omega)) (Nat.le_refl _)⟩
def RdAns (a : Nat) (s : List UInt8) (e : Ending) (w' : World) : Prop :=
  (e = .returned (.tuple #[.agg #[.slice none 0 0, .slice none 0 0], .bool false]) ∧ ∀ n' N' m' P', netB n' N' m' P' = true → netL n' N' m' P' ≠ s) ∨
  ∃ v n N m P, e = .returned (.tuple #[v, .bool true]) ∧ NetAt w' v n N m P a w'.heap.size ∧ (∀ i, i < n → (N i).s.size ≤ 9223372036854775807) ∧ ∀ n' N' m' P', netB n' N' m' P' = true → netL n' N' m' P' = s → n = n' ∧ m = m' ∧ (∀ i, i < n → N i = N' i) ∧ ∀ i, i < m → P i = P' i
set_option maxHeartbeats 8000000 in
theorem l03Read_any (w : World) (s : ByteArray) (hs : s.size ≤ 1048576) :
    Calls Tryz.prog 16 #[.string s] w fun e w' => RdAns w.heap.size s.data.toList e w' ∧ Below w.heap.size w w' := by
  have R1 := boxed w (.slice none 0 0) (.slice none 0 0) 25
  have C1 := below_new w (.cells #[.slice none 0 0, .slice none 0 0] 25)
  have hz1 : (w.alloc (.cells #[.slice none 0 0, .slice none 0 0] 25)).heap.size = w.heap.size + 1 := by simp
  go_enter Tryz.func16, Tryz.ntmps16
  go_wp2_with fail
  generalize hW : w.alloc (Obj.cells #[.slice none 0 0, .slice none 0 0] 25) = w1 at *
  clear hW
  replace hz1 := Nat.le_antisymm_iff.1 hz1
  refine (nl.split_any w1 s hs).mono ?_
  rintro e w2 ⟨v, bs, rfl, W2, hbs, b2⟩
  have hl1 := R1.lt
  have hs2 := b2.size
  have hbl : bs.length ≤ 1048577 := by
    have h1 := congrArg List.length hbs
    rw [List.length_map] at h1
    have h2 := nlsp_len s.data.toList.length s.data.toList
    have h3 : s.data.toList.length = s.size := Array.length_toList
    omega
  have hb0 : 0 < bs.length := by
    have h1 := congrArg List.length hbs
    rw [List.length_map] at h1
    have h2 : (nl.sp s.data.toList.length s.data.toList).length ≠ 0 := fun e => nl.sp_ne _ _ (List.length_eq_zero_iff.1 e)
    omega
  have hxs : ∀ y ∈ bs, y.size ≤ 1048576 := fun y hy => by
    have h1 : y.data.toList ∈ nl.sp s.data.toList.length s.data.toList := by rw [← hbs]; exact List.mem_map_of_mem hy
    have h2 := nl.sp_size _ _ _ h1
    have e1 : y.data.toList.length = y.size := Array.length_toList
    have e2 : s.data.toList.length = s.size := Array.length_toList
    omega
  obtain ⟨gw, cw, rfl, hgw, hcw, hcells⟩ := words_cells W2 hb0
  have G3 := boxed w2 (.slice none 0 0) (.slice none 0 0) 25
  have B3 := below_new w2 (.cells #[.slice none 0 0, .slice none 0 0] 25)
  have hz3 : (w2.alloc (.cells #[.slice none 0 0, .slice none 0 0] 25)).heap.size = w2.heap.size + 1 := by simp
  have HXS := Lib.hid hxs
  have HBS := Lib.hid hbs
  clear hxs hbs
  have D0 : ∃ w3, w3 = ((w2.alloc (.cells #[.slice none 0 0, .slice none 0 0] 25)).alloc (.cells #[] 54)).alloc (.cells #[] 61) ∧ Rd w w2.heap.size (w2.heap.size + 1) gw bs (.slice (some ⟨w2.heap.size + 1, 0, none⟩) 0 0) (.slice (some ⟨w2.heap.size + 1 + 1, 0, none⟩) 0 0) 0 0 (fun _ => ⟨⟨#[]⟩, 0, 0⟩) (fun _ => ⟨0, 0, 0, 0, 0⟩) w3 := by
    refine ⟨_, rfl, ?_⟩
    generalize w2.alloc (.cells #[.slice none 0 0, .slice none 0 0] 25) = w3 at *
    have r1 := rows_new (e := 54) (z := 3) w3 (nodC (fun _ => ⟨⟨#[]⟩, 0, 0⟩))
    have b4 := below_new w3 (.cells #[] 54)
    have z4 : (w3.alloc (.cells #[] 54)).heap.size = w3.heap.size + 1 := by simp
    generalize w3.alloc (.cells #[] 54) = w4 at *
    have r2 := rows_new (e := 61) (z := 5) w4 (pipC (fun _ => ⟨0, 0, 0, 0, 0⟩))
    have b5 := below_new w4 (.cells #[] 61)
    have z5 : (w4.alloc (.cells #[] 61)).heap.size = w4.heap.size + 1 := by simp
    generalize w4.alloc (.cells #[] 61) = w5 at *
    rw [z4, hz3] at r2
    rw [hz3] at r1
    have b25 : Below w2.heap.size w2 w5 := (B3.trans (b4.mono (by omega))).trans (b5.mono (by omega))
    refine ⟨RowE.next r1 b5, rows_mono r2 (by omega), (R1.below b2 hl1).below b25 (by omega), (G3.below b4 (by omega)).below b5 (by omega), fun j x hx => ?_, (C1.trans (b2.mono (by omega))).trans (b25.mono (by omega)), by omega, by omega, by omega, by omega⟩
    have := hcells j x hx
    rw [Nat.zero_add] at this
    exact (b25.cell (p := ⟨gw, j, none⟩) hgw).trans this
  clear hcells W2 G3 B3 R1 C1 b2 hl1
  go_wp2_with fail
  obtain ⟨w3, e3, D0⟩ := D0
  rw [← e3]
  clear e3 hz3
  go_loopw [8, 6, 7, 9, 10, 11, 12, 13] (fun i nv pv _ _ _ _ _ wr => ∃ (k : Nat) (nv' pv' : Value) (kn kp : Nat) (N : Nat → Nod) (P : Nat → Pip), i = .int .i64 k ∧ nv' = nv ∧ pv' = pv ∧ k + 1 ≤ bs.length ∧ Rd w w2.heap.size (w2.heap.size + 1) gw bs nv' pv' kn kp N P wr ∧ Agr s.data.toList k kn kp N P ∧ ∀ i, i < kn → (N i).s.size ≤ 9223372036854775807) (fun i _ _ _ _ _ _ _ _ => bs.length - (intOf i).toNat)
  case atStart => exact ⟨0, _, _, 0, 0, _, _, rfl, rfl, rfl, by omega, D0, agr_0 _ _ _, fun i hi => by omega⟩
  case round =>
    obtain ⟨k, nv, pv, kn, kp, N, P, rfl, rfl, rfl, hk, hR, hA, hsz⟩ := hrel
    obtain ⟨pn, cn, rfl⟩ := RowE.shape hR.rn
    obtain ⟨pp, cp, rfl⟩ := RowE.shape hR.rp
    have HR := Lib.hid hR
    have HA := Lib.hid hA
    have HSZ := Lib.hid hsz
    have hz := hR.sz
    have hkj := hA.kj
    clear D0 hR hA hsz
    by_cases hlt : k + 1 < bs.length
    · obtain ⟨x, hx⟩ : ∃ x, bs[k]? = some x := ⟨bs[k], List.getElem?_eq_getElem (by omega)⟩
      have cx : wr.cell? ⟨gw, k, none⟩ = some (.string x) := HR.out.wd k x hx
      have hxz := HXS.out x (List.mem_of_getElem? hx)
      have HX := Lib.hid hx
      have hkI : (k : Int) + 1 < bs.length := by omega
      have hkJ : (k : Int) < bs.length := by omega
      clear hx
      go_wp2_with fail
      refine (split_any wr x hxz).mono ?_
      rintro e w4 ⟨v9, ws, rfl, W4, hws, b4⟩
      have HR4 := Lib.hid (HR.out.next b4)
      have HWS := Lib.hid hws
      have cx4 : w4.cell? ⟨gw, k, none⟩ = some (.string x) := HR4.out.wd k x HX.out
      have hz4 := HR4.out.sz
      clear b4 hws cx
      obtain ⟨p9, c9, rfl⟩ := RowE.shape W4
      by_cases h4 : ws.length = 4
      · have h4b : ((ws.length : Int) == 4) = true := by simp; omega
        have H4 := Lib.hid h4
        clear h4 W4
        go_wp2_with fail
        refine (sReadNodeLine_any w4 x hxz).mono ?_
        rintro e w5 ⟨⟨q, hq, hl, rfl⟩ | ⟨hno, rfl⟩, b5⟩
        · have HR5 := HR4.out.next b5
          have V6 := boxedN w5 q 54
          have HR6 := HR5.next (below_new w5 (.cells #[.string q.s, .int .i64 q.lo, .int .i64 q.hi] 54))
          have z6 : (w5.alloc (.cells #[.string q.s, .int .i64 q.lo, .int .i64 q.hi] 54)).heap.size = w5.heap.size + 1 := by simp
          obtain ⟨v7, w7, hr, hrow, hup⟩ := appNod2 (w2.heap.size + 1) (w5.alloc (.cells #[.string q.s, .int .i64 q.lo, .int .i64 q.hi] 54)) _ kn N q HR6.rn HR6.sz.2.2.2 (by omega)
          rw [z6] at hr
          have q0 := V6.cell 0 (by omega)
          have q1 := V6.cell 1 (by omega)
          have q2 := V6.cell 2 (by omega)
          have HN7 := Lib.hid (HR6.node hrow hup)
          have HAG := Lib.hid (agr_node HA.out HBS.out hlt HX.out hq hl)
          have hq8 := (nod_bd hq).1
          unfold nodeVS
          clear V6 HR5 HR6 hrow hup b5 hq hl z6
          go_wp2_with (at_builtin; refine mem.wpList_appT hr rfl _ _ rfl rfl rfl rfl ?_)
          go_roundw
          case rel => exact ⟨k + 1, v7, _, kn + 1, kp, _, P, by go_num, rfl, rfl, by omega, HN7.out, HAG.out, fun i hi => by
            unfold addN
            split
            · exact HSZ.out i (by assumption)
            · omega⟩
          case measure => simp [intOf]; omega
        · have HNO := Lib.hid (agr_nonode HBS.out hlt HX.out HWS.out H4.out hno)
          have HR6 := (HR4.out.next b5).next (below_new w5 (.cells #[.string ⟨#[]⟩, .int .i64 0, .int .i64 0] 54))
          have HF := Lib.hid (HR6.fin (.slice none 0 0) (.slice none 0 0))
          have f0 := HR6.ra.free 0
          have f1 := HR6.ra.free 1
          have r0 := HR6.r0
          have r1 := HR6.r1
          have t0 := HR6.t0
          have t1 := HR6.t1
          unfold nodeVS
          clear HR6 b5 hno
          go_wp2_with fail
          refine bodyPost_ret (v := .tuple #[.agg #[.slice none 0 0, .slice none 0 0], .bool false]) (by simp [results, Tryz.results16, go_sem, r0, r1]) rfl ⟨.inl ⟨rfl, HNO.out⟩, HF.out⟩
      · have h4b : ((ws.length : Int) == 4) = false := by simp; omega
        by_cases h6 : ws.length = 6
        rotate_left 1
        · have h6b : ((ws.length : Int) != 6) = true := by simp; omega
          have HNO := Lib.hid (agr_words HBS.out hlt HX.out HWS.out h4 h6)
          have HR6 := HR4.out
          have HF := Lib.hid (HR6.fin (.slice none 0 0) (.slice none 0 0))
          have f0 := HR6.ra.free 0
          have f1 := HR6.ra.free 1
          have r0 := HR6.r0
          have r1 := HR6.r1
          have t0 := HR6.t0
          have t1 := HR6.t1
          clear HR6 h4 h6 W4
          go_wp2_with fail
          refine bodyPost_ret (v := .tuple #[.agg #[.slice none 0 0, .slice none 0 0], .bool false]) (by simp [results, Tryz.results16, go_sem, r0, r1]) rfl ⟨.inl ⟨rfl, HNO.out⟩, HF.out⟩
        · rcases ws with _ | ⟨x0, _ | ⟨x1, _ | ⟨x2, _ | ⟨x3, _ | ⟨x4, _ | ⟨x5, _ | ⟨x6, r⟩⟩⟩⟩⟩⟩⟩
          all_goals first | (exfalso; simp only [List.length_cons, List.length_nil] at h6; omega) | skip
          obtain ⟨g9, c10, he, hg9, hc9, hcells9⟩ := words_cells W4 (by simp)
          injection he with e1 _ e3
          subst e1 e3
          have hg9w : wr.heap.size ≤ g9 := (W4.own.lt g9 rfl).1
          have c1 : w4.cell? ⟨g9, 1, none⟩ = some (.string x1) := hcells9 1 x1 rfl
          have c2 : w4.cell? ⟨g9, 2, none⟩ = some (.string x2) := hcells9 2 x2 rfl
          have D4 : Wd w4 (.slice (some ⟨g9, 3, none⟩) 3 (c9 - 3)) [x3, x4, x5] := ⟨_, _, rfl, .inr ⟨g9, 3, rfl, hg9, fun i y hy => by
            have := hcells9 (i + 3) y (by simpa using hy)
            rw [show 0 + (i + 3) = 3 + i by omega] at this
            exact this⟩⟩
          have hxs9 : ∀ y ∈ [x0, x1, x2, x3, x4, x5], y.size ≤ 1048576 := fun y hy => by
            have h1 : y.data.toList ∈ sp x.data.toList.length x.data.toList := by rw [← HWS.out]; exact List.mem_map_of_mem hy
            have h2 := sp_size _ _ _ h1
            have e1 : y.data.toList.length = y.size := Array.length_toList
            have e2 : x.data.toList.length = x.size := Array.length_toList
            omega
          have HXS9 := Lib.hid hxs9
          simp only [List.length_cons, List.length_nil] at hc9
          have hcv3 : ¬ c9 = 3 := by omega
          have hcv6 : (3 : Int) ≤ c9 := by omega
          clear h4 h6 W4 hcells9 hxs9 h4b
          go_wp2_with fail
          refine (numbers_any w4 _ [x3, x4, x5] D4 (by simp) (fun y hy => by have := HXS9.out y (by simp only [List.mem_cons] at hy ⊢; simp only [hy, or_true]); omega)).mono ?_
          rintro e w5 ⟨(⟨rfl, j, y, hj, hno⟩ | ⟨vn, gn, d, rfl, O5, hgn, hd⟩), b5⟩
          · have HNO := Lib.hid (agr_nonum HBS.out hlt HX.out HWS.out hj hno)
            have HR6 := HR4.out.next b5
            have HF := Lib.hid (HR6.fin (.slice none 0 0) (.slice none 0 0))
            have f0 := HR6.ra.free 0
            have f1 := HR6.ra.free 1
            have r0 := HR6.r0
            have r1 := HR6.r1
            have t0 := HR6.t0
            have t1 := HR6.t1
            clear HR6 D4 b5 hj hno
            go_wp2_with fail
            refine bodyPost_ret (v := .tuple #[.agg #[.slice none 0 0, .slice none 0 0], .bool false]) (by simp [results, Tryz.results16, go_sem, r0, r1]) rfl ⟨.inl ⟨rfl, HNO.out⟩, HF.out⟩
          · have HR5 := HR4.out.next b5
            have HRH := Lib.hid HR5
            obtain ⟨cn9, rfl⟩ := O5.shape
            have y0 : w5.cell? ⟨gn, 0, none⟩ = some (.int .i64 (d 0)) := O5.row.cell 0 (by simp)
            have y1 : w5.cell? ⟨gn, 1, none⟩ = some (.int .i64 (d 1)) := O5.row.cell 1 (by simp)
            have y2 : w5.cell? ⟨gn, 2, none⟩ = some (.int .i64 (d 2)) := O5.row.cell 2 (by simp)
            have u1 : w5.cell? ⟨g9, 1, none⟩ = some (.string x1) := (b5.cell (p := ⟨g9, 1, none⟩) hg9).trans c1
            have u2 : w5.cell? ⟨g9, 2, none⟩ = some (.string x2) := (b5.cell (p := ⟨g9, 2, none⟩) hg9).trans c2
            have HAG := Lib.hid (agr_pipe HA.out HBS.out hlt HX.out HWS.out hd)
            have hgl := O5.lt
            have hgl9 : g9 < w5.heap.size := Nat.lt_of_lt_of_le hg9 b5.size
            have hw4 : w4.heap.size ≤ w5.heap.size := b5.size
            have hobl : ∀ z, some z = (Value.slice pp kp cp).ownBlock → z < wr.heap.size := fun z e => (HR.out.rp.own.lt z e.symm).2
            have hAny : ∀ X : World, Upd (fun z => some z = (Value.slice pp kp cp).ownBlock) w5 X → (fun w' : World => w'.cell? ⟨g9, 1, none⟩ = some (.string x1) ∧ w'.cell? ⟨g9, 2, none⟩ = some (.string x2) ∧ w'.cell? ⟨gn, 0, none⟩ = some (.int .i64 (d 0)) ∧ w'.cell? ⟨gn, 1, none⟩ = some (.int .i64 (d 1)) ∧ w'.cell? ⟨gn, 2, none⟩ = some (.int .i64 (d 2))) X := fun X u => by
              have k9 := u.block g9 hgl9 (fun e => by have := hobl _ e; omega)
              have kn := u.block gn hgl (fun e => by have := hobl _ e; omega)
              exact ⟨(World.cell?_of_block k9).trans u1, (World.cell?_of_block k9).trans u2, (World.cell?_of_block kn).trans y0, (World.cell?_of_block kn).trans y1, (World.cell?_of_block kn).trans y2⟩
            obtain ⟨gN, sN, _⟩ := RowE.ownS HR5.rn
            have cN0 : Cs w5 (.slice pn kn cn) kn 3 (nodC N) 0 w5.heap.size := sN.cs (.inr rfl) (Nat.le_refl _)
            have hCS : ∀ X : World, Below w5.heap.size w5 X → Cs X (.slice pn kn cn) kn 3 (nodC N) 0 w5.heap.size := fun X b => cN0.below b (Nat.le_refl _)
            have hRP : ∀ X : World, Below w5.heap.size w5 X → RP (w2.heap.size + 1) X (.slice pp kp cp) kp (pipC P) := fun X b => RowE.next HRH.out.rp b
            have K0 : Below w5.heap.size w5 w5.drew := ⟨rfl, rfl, rfl, Nat.le_refl _, fun _ _ => rfl⟩
            have hz5 := HR5.sz
            clear HR5 O5 D4 b5 sN cN0 c1 c2
            go_wp2_with fail
            go_region_held3 (fun w' : World => w'.cell? ⟨g9, 1, none⟩ = some (.string x1) ∧ w'.cell? ⟨g9, 2, none⟩ = some (.string x2) ∧ w'.cell? ⟨gn, 0, none⟩ = some (.int .i64 (d 0)) ∧ w'.cell? ⟨gn, 1, none⟩ = some (.int .i64 (d 1)) ∧ w'.cell? ⟨gn, 2, none⟩ = some (.int .i64 (d 2)))
              (first | exact hAny _ (Upd.refl _ _) | exact hAny _ U7 | exact hAny _ UA | exact hAny _ (Upd.of_below BL) | exact hAny _ (Upd.of_below K0))
              (first
                | (go_at_call 38; refine (l03Index_any _ _ kn N 0 w5.heap.size (by first | exact hCS _ BL | exact hCS _ K0) (by omega) _).mono ?_; rintro e w6 ⟨rfl, hb1⟩; have BL2 : Below w5.heap.size w5 w6 := (by first | exact BL.trans (hb1.mono BL.size) | exact K0.trans (hb1.mono K0.size)); have BL := BL2; clear BL2 hb1; obtain ⟨v7, w7, hr, hrow, hup⟩ := appPip2 (w2.heap.size + 1) w6 _ kp P ⟨ixV N kn x1, ixV N kn x2, d 0, d 1, d 2⟩ (hRP _ BL) (by have := BL.size; omega) (by omega); have UA := (Upd.of_below BL : Upd (fun z => some z = (Value.slice pp kp cp).ownBlock) w5 w6).trans (Upd.of_below (below_new w6 (.cells #[.int .i64 (ixV N kn x1), .int .i64 (ixV N kn x2), .int .i64 (d 0), .int .i64 (d 1), .int .i64 (d 2)] 61))); have U7 := (Upd.of_below BL : Upd (fun z => some z = (Value.slice pp kp cp).ownBlock) w5 w6).trans hup)
                | (refine step_appT hr rfl (.tmp 62) (.tmp 83) rfl rfl rfl rfl ?_))
            have HN7 := Lib.hid (HRH.out.pipe hrow U7)
            clear hAny hCS hRP K0 BL UA U7 hr hrow hup y0 y1 y2 u1 u2
            go_wp2_with fail
            go_roundw
            case rel => exact ⟨k + 1, _, v7, kn, kp + 1, N, _, by go_num, rfl, rfl, by omega, HN7.out, HAG.out, HSZ.out⟩
            case measure => simp [intOf]; omega
    · have hend : k + 1 = bs.length := by omega
      have hendI : ¬ ((k : Int) + 1 < bs.length) := by omega
      have hO := ((Only.refl w.heap.size wr).setCell 0 (.slice pn kn cn)).setCell 1 (.slice pp kp cp)
      have HNT := Lib.hid (net_rows2 (a := w.heap.size) (RowE.low HR.out.rn (Upd.of_only hO) hz.1) (RowE.low HR.out.rp (Upd.of_only hO) hz.1) (by omega))
      have HF := Lib.hid (HR.out.fin (.slice pn kn cn) (.slice pp kp cp))
      have HAG := Lib.hid (fun n' N' m' P' hb he => by
        have hl := text_len hb he HBS.out
        obtain ⟨a1, a2, a3, a4⟩ := HA.out.ag n' N' m' P' hb he
        exact ⟨by omega, by omega, a3, a4⟩ : ∀ n' N' m' P', netB n' N' m' P' = true → netL n' N' m' P' = s.data.toList → kn = n' ∧ kp = m' ∧ (∀ i, i < kn → N i = N' i) ∧ ∀ i, i < kp → P i = P' i)
      have f0 := HR.out.ra.free 0
      have f1 := HR.out.ra.free 1
      have r0 := HR.out.r0
      have r1 := HR.out.r1
      clear hO
      go_wp2_with fail
      refine bodyPost_ret (v := .tuple #[.agg #[.slice pn kn cn, .slice pp kp cp], .bool true]) (by simp [results, Tryz.results16, go_sem, r0, r1]) rfl ⟨.inr ⟨_, kn, N, kp, P, rfl, HNT.out, HSZ.out, HAG.out⟩, HF.out⟩
end Go.Proofs.YtmeoepdmaffjjaaGreatDoor.text

namespace Go.Proofs.YtmeoepdmaffjjaaGreatDoor.text
open Go.RowKit Go.Proofs.YtmeoepdmaffjjaaGreatDoor.mem
set_option linter.unusedVariables false
set_option maxRecDepth 100000

theorem netL_congr {n : Nat} {N N' : Nat → Nod} {m : Nat} {P P' : Nat → Pip} (hb : netB n N' m P' = true) (hN : ∀ i, i < n → N i = N' i) (hP : ∀ i, i < m → P i = P' i) : netL n N m P = netL n N' m P' := by
  unfold netL
  rw [nodesT_congr hN, pipesT_congr (N := N) hP, pipesT_glue, pipesT_glue]
  congr 2
  refine List.map_congr_left (fun i hi => ?_)
  obtain ⟨f, t, e1, e2, f1, t1, _⟩ := pip_bd ((net_nodes hb).2 i (List.mem_range.1 hi))
  unfold pipeL
  rw [hN _ (by omega), hN _ (by omega)]
theorem netL_ne {n : Nat} {N : Nat → Nod} {m : Nat} {P : Nat → Pip} (hb : netB n N m P = true) : netL n N m P ≠ [] := by
  intro e
  have h1 := glue_len (lns n N m P)
  rw [← netL_glue, e, lns_len] at h1
  have h2 := net_sz hb
  simp at h1
  omega
theorem netAt_only {w w' : World} {v : Value} {n m g : Nat} {N : Nat → Nod} {P : Nat → Pip} {lo hi : Nat} (h : NetAt w v n N m P lo hi) (k : Only g w w') (hg : g < lo) : NetAt w' v n N m P lo hi := by
  obtain ⟨v0, v1, rfl, h0, h1⟩ := h.ex
  exact ⟨v0, v1, rfl, h0.only k (.inl hg), h1.only k (.inl hg)⟩
theorem netAt_wide {w : World} {v : Value} {n m : Nat} {N : Nat → Nod} {P : Nat → Pip} {lo hi hi' : Nat} (h : NetAt w v n N m P lo hi) (h2 : hi ≤ hi') : NetAt w v n N m P 0 hi' := by
  obtain ⟨v0, v1, rfl, h0, h1⟩ := h.ex
  exact ⟨v0, v1, rfl, h0.mono (by omega) h2, h1.mono (by omega) h2⟩
def SRAns (s : List UInt8) (e : Ending) (w' : World) : Prop :=
  (∃ v n N m P, netB n N m P = true ∧ netL n N m P = s ∧ e = .returned (.tuple #[v, .bool true]) ∧ NetAt w' v n N m P 0 w'.heap.size) ∨
  ((∀ n N m P, netB n N m P = true → netL n N m P ≠ s) ∧ e = .returned (.tuple #[.agg #[.slice none 0 0, .slice none 0 0], .bool false]))
set_option maxHeartbeats 8000000 in
theorem sReadNetwork_any (w : World) (s : ByteArray) (hs : s.size ≤ 1048576) :
    Calls Tryz.prog 5 #[.string s] w fun e w' => SRAns s.data.toList e w' ∧ Below w.heap.size w w' := by
  have R1 := boxed w (.slice none 0 0) (.slice none 0 0) 25
  have C1 := below_new w (.cells #[.slice none 0 0, .slice none 0 0] 25)
  have hz1 : (w.alloc (.cells #[.slice none 0 0, .slice none 0 0] 25)).heap.size = w.heap.size + 1 := by simp
  go_enter Tryz.func5, Tryz.ntmps5
  go_wp2_with fail
  generalize hW : w.alloc (Obj.cells #[.slice none 0 0, .slice none 0 0] 25) = w1 at *
  clear hW
  replace hz1 := Nat.le_antisymm_iff.1 hz1
  have hl1 := R1.lt
  have fin : ∀ (X : World) (v0 v1 : Value), Below w.heap.size w X → Below w.heap.size w ((X.setCell ⟨w.heap.size, 0, none⟩ v0).setCell ⟨w.heap.size, 1, none⟩ v1) := fun X v0 v1 u =>
    u.trans ((((Only.refl w.heap.size X).setCell 0 v0).setCell 1 v1).below (Nat.le_refl _))
  have FIN := Lib.hid fin
  have c0 : ∀ {X : World}, Ob X w.heap.size 2 (bx (.slice none 0 0) (.slice none 0 0)) → X.cell? ⟨w.heap.size, 0, none⟩ = some (.slice none 0 0) ∧ X.cell? ⟨w.heap.size, 1, none⟩ = some (.slice none 0 0) := fun h => ⟨h.cell 0 (by omega), h.cell 1 (by omega)⟩
  have CC := Lib.hid C1
  clear fin C1
  refine (l03Read_any w1 s hs).mono ?_
  rintro e w2 ⟨⟨rfl, hno⟩ | ⟨v, n, N, m, P, rfl, hnet, hsz, hag⟩, b2⟩
  · have B3 := below_new w2 (.cells #[.slice none 0 0, .slice none 0 0] 25)
    have R3 := (R1.below b2 hl1).below B3 (by have := b2.size; omega)
    have HF := Lib.hid (FIN.out _ (.slice none 0 0) (.slice none 0 0) ((CC.out.trans (b2.mono (by omega))).trans (B3.mono (by have := b2.size; omega))))
    have HNO := Lib.hid hno
    obtain ⟨r0, r1⟩ := c0 R3
    have f0 := R3.free 0
    have f1 := R3.free 1
    clear R1 R3 B3 b2 hno
    go_wp2_with fail
    refine bodyPost_ret (v := .tuple #[.agg #[.slice none 0 0, .slice none 0 0], .bool false]) (by simp [results, Tryz.results5, go_sem, r0, r1]) rfl ⟨.inr ⟨HNO.out, rfl⟩, HF.out⟩
  · obtain ⟨v0, v1, rfl, g0, g1⟩ := hnet.ex
    obtain ⟨p0, cp0, rfl⟩ := g0.shape
    obtain ⟨p1, cp1, rfl⟩ := g1.shape
    have B3 := below_new w2 (.cells #[.slice p0 n cp0, .slice p1 m cp1] 25)
    have V3 := boxed w2 (.slice p0 n cp0) (.slice p1 m cp1) 25
    have z3 : (w2.alloc (.cells #[.slice p0 n cp0, .slice p1 m cp1] 25)).heap.size = w2.heap.size + 1 := by simp
    have R3 := (R1.below b2 hl1).below B3 (by have := b2.size; omega)
    have q : (w2.alloc (.cells #[.slice p0 n cp0, .slice p1 m cp1] 25)).cell? ⟨w2.heap.size, 0, none⟩ = some (.slice p0 n cp0) ∧ (w2.alloc (.cells #[.slice p0 n cp0, .slice p1 m cp1] 25)).cell? ⟨w2.heap.size, 1, none⟩ = some (.slice p1 m cp1) := ⟨V3.cell 0 (by omega), V3.cell 1 (by omega)⟩
    obtain ⟨q0, q1⟩ := q
    have HN3 := hnet.below B3 (Nat.le_refl _)
    have C3 := (CC.out.trans (b2.mono (by omega))).trans (B3.mono (by have := b2.size; omega))
    have HAG := Lib.hid hag
    have HSZ := Lib.hid hsz
    have hs2 := b2.size
    clear hnet hag hsz g0 g1 R1 b2 B3
    by_cases hemp : s.data.toList = []
    · have t0 : (s.toList == []) = true := by rw [beq_iff_eq, Go.ByteArray.toList_eq]; exact hemp
      have HNO := Lib.hid (fun n' N' m' P' hb he => netL_ne hb (he.trans hemp) : ∀ n' N' m' P', netB n' N' m' P' = true → netL n' N' m' P' ≠ s.data.toList)
      have HF := Lib.hid (FIN.out _ (.slice none 0 0) (.slice none 0 0) C3)
      obtain ⟨r0, r1⟩ := c0 R3
      have f0 := R3.free 0
      have f1 := R3.free 1
      clear V3 R3 HN3 C3 hemp
      go_wp2_with fail
      refine bodyPost_ret (v := .tuple #[.agg #[.slice none 0 0, .slice none 0 0], .bool false]) (by simp [results, Tryz.results5, go_sem, r0, r1]) rfl ⟨.inr ⟨HNO.out, rfl⟩, HF.out⟩
    · have t0 : (s.toList == []) = false := by rw [beq_eq_false_iff_ne, Go.ByteArray.toList_eq]; exact hemp
      have HNE := Lib.hid hemp
      clear hemp
      go_wp2_with fail
      refine (sNetworkText_any _ _ n N m P w1.heap.size w2.heap.size HN3 (by rw [z3]; omega) HSZ.out).mono ?_
      rintro e w4 ⟨rfl, b4⟩
      have hs4 := b4.size
      rw [z3] at hs4
      have V4 := V3.below b4 (by rw [z3]; omega)
      have q : w4.cell? ⟨w2.heap.size, 0, none⟩ = some (.slice p0 n cp0) ∧ w4.cell? ⟨w2.heap.size, 1, none⟩ = some (.slice p1 m cp1) := ⟨V4.cell 0 (by omega), V4.cell 1 (by omega)⟩
      obtain ⟨q2, q3⟩ := q
      have R4 := R3.below b4 (by rw [z3]; omega)
      have HN4 := HN3.below b4 (by rw [z3]; omega)
      have C4 := C3.trans (b4.mono (by rw [z3]; omega))
      obtain ⟨r0, r1⟩ := c0 R4
      have f0 := R4.free 0
      have f1 := R4.free 1
      clear V3 R3 HN3 C3 V4 R4 b4 q0 q1 t0
      by_cases he : netT n N m P = s.data.toList
      · have he2 : (netT n N m P == s.toList) = true := by rw [beq_iff_eq, Go.ByteArray.toList_eq]; exact he
        have hv : netB n N m P = true ∧ netL n N m P = s.data.toList := by
          cases hb : netB n N m P
          · unfold netT at he
            rw [hb] at he
            exact absurd he.symm HNE.out
          · unfold netT at he
            rw [if_pos hb] at he
            exact ⟨rfl, he⟩
        have HV := Lib.hid hv
        have hO := ((Only.refl w.heap.size w4).setCell 0 (.slice p0 n cp0)).setCell 1 (.slice p1 m cp1)
        have HNT := Lib.hid (netAt_wide (netAt_only HN4 hO (by omega)) (Nat.le_trans (show w2.heap.size ≤ w4.heap.size by omega) (Nat.le_of_eq hO.size)))
        have HF := Lib.hid (FIN.out w4 (.slice p0 n cp0) (.slice p1 m cp1) C4)
        clear he hv hO HN4 C4
        go_wp2_with fail
        refine bodyPost_ret (v := .tuple #[.agg #[.slice p0 n cp0, .slice p1 m cp1], .bool true]) (by simp [results, Tryz.results5, go_sem, r0, r1]) rfl ⟨.inl ⟨_, n, N, m, P, HV.out.1, HV.out.2, rfl, HNT.out⟩, HF.out⟩
      · have he2 : (netT n N m P == s.toList) = false := by rw [beq_eq_false_iff_ne, Go.ByteArray.toList_eq]; exact he
        have HNO := Lib.hid (fun n' N' m' P' hb hl => by
          obtain ⟨rfl, rfl, a3, a4⟩ := HAG.out n' N' m' P' hb hl
          apply he
          have hbb := netB_congr hb (fun i hi => (a3 i hi).symm) (fun i hi => (a4 i hi).symm)
          unfold netT
          rw [if_pos hbb, netL_congr hb a3 a4, hl] : ∀ n' N' m' P', netB n' N' m' P' = true → netL n' N' m' P' ≠ s.data.toList)
        have HF := Lib.hid (FIN.out w4 (.slice none 0 0) (.slice none 0 0) C4)
        clear he HN4 C4 q2 q3
        go_wp2_with fail
        refine bodyPost_ret (v := .tuple #[.agg #[.slice none 0 0, .slice none 0 0], .bool false]) (by simp [results, Tryz.results5, go_sem, r0, r1]) rfl ⟨.inr ⟨HNO.out, rfl⟩, HF.out⟩
end Go.Proofs.YtmeoepdmaffjjaaGreatDoor.text

namespace Go.Proofs.YtmeoepdmaffjjaaGreatDoor.text
open Go.RowKit Go.Proofs.YtmeoepdmaffjjaaGreatDoor.mem
set_option linter.unusedVariables false
set_option maxRecDepth 100000

theorem firstWrong_big (w : World) (s : ByteArray) (hs : 4000 < s.size) :
    Calls Tryz.prog 14 #[.string s] w fun e w' => e = .returned (.tuple #[.int .i64 0, .int .i64 3]) ∧ Below w.heap.size w w' := by
  have hsI : (4000 : Int) < s.size := by omega
  go_enter Tryz.func14, Tryz.ntmps14
  go_wp2_with fail
  go_ret2
  exact ⟨rfl, Below.refl _ _⟩
theorem take_pre : ∀ (k : Nat) (s : List UInt8) (i : Nat), i < (nl.sp k s).length → ∃ r, s = glue ((nl.sp k s).take i) ++ r
  | 0, s, i, h => by
    obtain rfl : i = 0 := by
      simp only [nl.sp, List.length_cons, List.length_nil] at h
      omega
    exact ⟨s, by simp [glue]⟩
  | k + 1, s, 0, h => ⟨s, by simp [glue]⟩
  | k + 1, s, i + 1, h => by
    by_cases hm : (10 : UInt8) ∈ s
    · obtain ⟨a, t, ha, rfl⟩ := nl.cut_ex hm
      rw [nl.sp_one ha] at h ⊢
      obtain ⟨r, hr⟩ := take_pre k t i (by simpa using h)
      refine ⟨r, ?_⟩
      have e1 : glue (a :: (nl.sp k t).take i) ++ r = a ++ 10 :: (glue ((nl.sp k t).take i) ++ r) := by simp [glue]
      rw [List.take_succ_cons, e1, ← hr]
    · rw [nl.sp_end hm] at h
      simp at h
end Go.Proofs.YtmeoepdmaffjjaaGreatDoor.text
