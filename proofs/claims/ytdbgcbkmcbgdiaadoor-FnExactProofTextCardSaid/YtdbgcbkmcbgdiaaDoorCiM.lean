/-
  Several texts in one: Cyo, Cir, Cix, Ciy, Ciz, Cja.
-/
import Derived.Test.YtdbgcbkmcbgdiaaDoorRows
import Derived.Test.YtdbgcbkmcbgdiaaDoorArM
import Derived.Great.BuildSlice
import Derived.Test.YtdbgcbkmcbgdiaaDoorRowE
import Derived.Deep.RegionHeld3
import Derived.Deep.MidRow
import Derived.Deep.CutRange
import Derived.Deep.RegionWith
import Derived.Laws.StructEq
namespace Go.Proofs.YtdbgcbkmcbgdiaaDoor.mem
open Go.RowKit
set_option linter.unusedVariables false

theorem arr_len (x : Nat → Int) : (arrL x).length = 40 := by unfold arrL; simp
theorem arrL_get (x : Nat → Int) (k : Nat) (hk : k < 40) : (arrL x)[k]? = some (ia x k) := by unfold arrL; simp [hk]
theorem arr_oneL (x : Nat → Int) : ∀ v ∈ arrL x, v.oneCell' = true := fun v hv => by
  obtain ⟨k, _, rfl⟩ := List.mem_map.1 hv
  rfl
theorem Ob.range {w : World} {b : Nat} {x : Nat → Int} (h : Ob w b 40 (ia x)) : w.rangeAt b 0 (arrL x) := by
  intro j v hv
  have hj : j < 40 := by have := get_lt hv; rw [arr_len] at this; exact this
  rw [arrL_get x j hj] at hv
  injection hv with hv
  rw [Nat.zero_add, h.cell j hj, hv]
theorem Ob.there {w : World} {b N : Nat} {d : Nat → Value} (h : Ob w b N d) : w.there b 0 N := fun j hj => by
  rw [Nat.zero_add]
  exact ⟨by rw [h.cell j hj]; rfl, h.free j⟩
theorem there_lt {w : World} {b : Nat} (h : w.there b 0 40) : b < w.heap.size := by
  have := (h 0 (by omega)).1
  simp only [World.cell?] at this
  rcases Nat.lt_or_ge b w.heap.size with g | g
  · exact g
  · rw [Array.getElem?_eq_none g] at this
    cases this
theorem there_block {w w' : World} {b : Nat} (h : w.there b 0 40) (e : w'.heap[b]? = w.heap[b]?) : w'.there b 0 40 := fun j hj => by
  have := h j hj
  rw [World.cell?_of_block (a := ⟨b, 0 + j, none⟩) e, World.frozen?_of_block (a := ⟨b, 0 + j, none⟩) e]
  exact this
theorem range_block {w w' : World} {b : Nat} {cs : List Value} (h : w.rangeAt b 0 cs) (e : w'.heap[b]? = w.heap[b]?) : w'.rangeAt b 0 cs := fun j v hv => by
  rw [World.cell?_of_block (a := ⟨b, 0 + j, none⟩) e]
  exact h j v hv
theorem Only.setCs {g : Nat} {w : World} : ∀ (cs : List Value) (o : Nat) {w' : World}, Only g w w' → Only g w (w'.setCells g o cs)
  | [], _, _, h => h
  | v :: r, o, _, h => Only.setCs r (o + 1) (h.setCell o v)
theorem Ob.setCs {b N : Nat} : ∀ (cs : List Value) (o : Nat) {w : World} {d : Nat → Value}, Ob w b N d → o + cs.length ≤ N → Ob (w.setCells b o cs) b N (fun k => (if o ≤ k then cs[k - o]? else none).getD (d k))
  | [], o, w, d, h, _ => h.congr fun k _ => by simp
  | v :: r, o, w, d, h, hl => by
    simp only [List.length_cons] at hl
    have h1 := Ob.setCs r (o + 1) (h.set o v (by omega)) (by omega)
    refine h1.congr fun k hk => ?_
    unfold updV
    by_cases e : k = o
    · subst e
      rw [if_neg (show ¬ k + 1 ≤ k by omega), if_pos rfl, if_pos (Nat.le_refl k)]
      simp
    · rw [if_neg e]
      by_cases g : o + 1 ≤ k
      · rw [if_pos g, if_pos (show o ≤ k by omega), show k - o = (k - (o + 1)) + 1 by omega, List.getElem?_cons_succ]
      · rw [if_neg g, if_neg (show ¬ o ≤ k by omega)]
theorem Ob.setArr {w : World} {b : Nat} {d : Nat → Value} (h : Ob w b 40 d) (x : Nat → Int) : Ob (w.setCells b 0 (arrL x)) b 40 (ia x) := by
  refine (h.setCs (arrL x) 0 (by rw [arr_len]; omega)).congr fun k hk => ?_
  rw [if_pos (Nat.zero_le k), Nat.sub_zero, arrL_get x k hk]
  rfl

theorem below_sc {B b o : Nat} {w w' : World} {cs : List Value} (h : Below B w w') (hb : B ≤ b) : Below B w (w'.setCells b o cs) := h.trans (((Only.refl b w').setCs cs o).below hb)
theorem drew_size (w : World) : w.drew.heap.size = w.heap.size := rfl
theorem rangeAt_lt {w : World} {b : Nat} {cs : List Value} (h : w.rangeAt b 0 cs) (hc : 0 < cs.length) : b < w.heap.size := by
  have := h 0 cs[0] (List.getElem?_eq_getElem hc)
  simp only [World.cell?] at this
  rcases Nat.lt_or_ge b w.heap.size with g | g
  · exact g
  · rw [Array.getElem?_eq_none g] at this
    cases this
theorem zset (c : Nat) (hc : c < 40) (v : Int) : ([Value.int IntKind.i64 0, Value.int IntKind.i64 0, Value.int IntKind.i64 0, Value.int IntKind.i64 0, Value.int IntKind.i64 0, Value.int IntKind.i64 0, Value.int IntKind.i64 0, Value.int IntKind.i64 0, Value.int IntKind.i64 0, Value.int IntKind.i64 0, Value.int IntKind.i64 0, Value.int IntKind.i64 0, Value.int IntKind.i64 0, Value.int IntKind.i64 0, Value.int IntKind.i64 0, Value.int IntKind.i64 0, Value.int IntKind.i64 0, Value.int IntKind.i64 0, Value.int IntKind.i64 0, Value.int IntKind.i64 0, Value.int IntKind.i64 0, Value.int IntKind.i64 0, Value.int IntKind.i64 0, Value.int IntKind.i64 0, Value.int IntKind.i64 0, Value.int IntKind.i64 0, Value.int IntKind.i64 0, Value.int IntKind.i64 0, Value.int IntKind.i64 0, Value.int IntKind.i64 0, Value.int IntKind.i64 0, Value.int IntKind.i64 0, Value.int IntKind.i64 0, Value.int IntKind.i64 0, Value.int IntKind.i64 0, Value.int IntKind.i64 0, Value.int IntKind.i64 0, Value.int IntKind.i64 0, Value.int IntKind.i64 0, Value.int IntKind.i64 0].set c (.int .i64 v)).toArray = arr (upd (fun _ => 0) c v) := by
  refine arr_eq (by simp) fun k hk => ?_
  rw [List.getElem?_toArray, List.getElem?_set]
  unfold ia upd
  by_cases e : c = k
  · subst e
    rw [if_pos rfl, if_pos rfl]
    simp [hc]
  · rw [if_neg e, if_neg (fun g => e g.symm)]
    have h := zeros40 k hk
    rw [List.getElem?_toArray] at h
    exact h
end Go.Proofs.YtdbgcbkmcbgdiaaDoor.mem

namespace Go.Proofs.YtdbgcbkmcbgdiaaDoor.mem
open Go.RowKit
set_option linter.unusedVariables false

theorem ownS_shC {w : World} {v : Value} {n z b : Nat} {c : Nat → Nat → Value} (h : OwnS w v n z c b) : ∃ p cap, v = .slice p n cap := by
  obtain ⟨p, cap, h1, _⟩ := h.ex
  exact ⟨p, cap, h1⟩
/-- an element of such a slice -/
theorem own_rng {w : World} {p : Option Addr} {K c g : Nat} {Y : Nat → Nat → Int} (h : OwnS w (.slice p K c) K 40 (fun j => ia (Y j)) g) {k : Nat} (hk : k < K) : p = some ⟨g, 0, none⟩ ∧ g < w.heap.size ∧ K ≤ c ∧ w.rangeAt g (k * 40) (arrL (Y k)) := by
  obtain ⟨p', cap, hv, h1, h2, h3⟩ := h.ex
  injection hv with e1 _ e3
  subst e1
  rcases h3 with h3 | ⟨h3, h4⟩
  · omega
  · refine ⟨h3, h4.lt, by omega, fun j v hj => ?_⟩
    have hl : j < 40 := by have := get_lt hj; rw [arr_len] at this; exact this
    rw [arrL_get _ j hl] at hj
    injection hj with hj
    rw [h4.cell k j hk hl, ← hj]
theorem mul3 {x c : Int} (hx : -30000 ≤ x ∧ x ≤ 30000) (hc : -3 ≤ c ∧ c ≤ 3) : -90000 ≤ x * c ∧ x * c ≤ 90000 := by
  rcases (by omega : c = -3 ∨ c = -2 ∨ c = -1 ∨ c = 0 ∨ c = 1 ∨ c = 2 ∨ c = 3) with rfl | rfl | rfl | rfl | rfl | rfl | rfl <;> omega
theorem flo_bd {n : Nat} {N : Nat → Nod} {P : Nat → Pip} {m : Nat} (hN : netB n N m P = true) {am : Nat → Int} (ha : ∀ j, j < chN n P m → -30000 ≤ am j ∧ am j ≤ 30000) (a : Nat) : ∀ k, k ≤ chN n P m → -90000 * (k : Int) ≤ flo n P m am k a ∧ flo n P m am k a ≤ 90000 * (k : Int)
  | 0, _ => by unfold flo tot; omega
  | k + 1, hk => by
    have ih := flo_bd hN ha a k (by omega)
    have h1 := mul3 (ha k (by omega)) ((fo_net hN).cyc_rng (chS_at (n := n) (P := P) (m := m) (j := k) (by omega)).1 a)
    unfold flo at ih ⊢
    rw [tot]
    omega
theorem Fo.tot_off {n : Nat} {P : Nat → Pip} {m : Nat} {E D : Int → Int} (h : Fo n P m E D) {cs : Nat → Nat} {am : Nat → Int} {a : Nat} (ha : ∀ z : Int, 0 ≤ z → z < n → E z ≠ ((a : Nat) : Int)) :
    ∀ k, (∀ i, i < k → cs i < m) → (∀ j, j < k → cs j ≠ a) → tot P E D cs am k a = 0
  | 0, _, _ => rfl
  | k + 1, hc, h2 => by
    have ih := h.tot_off (cs := cs) (am := am) ha k (fun i hi => hc i (by omega)) (fun j hj => h2 j (by omega))
    unfold tot
    rw [ih, h.cyc_chord (hc k (by omega)) ha]
    unfold one1
    rw [if_neg (fun g => h2 k (by omega) g.symm), Int.mul_zero]
    rfl
theorem flo_off {n : Nat} {N : Nat → Nod} {P : Nat → Pip} {m : Nat} (hN : netB n N m P = true) (am : Nat → Int) {a : Nat} (ha : m ≤ a) : flo n P m am (chN n P m) a = 0 := by
  refine (fo_net hN).tot_off (fun z z0 z1 e => ?_) _ (fun i hi => (chS_at hi).1) (fun j hj => ?_)
  · rcases (fo_net (P := P) (m := m) hN).par z z0 z1 with g | ⟨c, hc, g, _⟩ <;> omega
  · have := (chS_at hj).1
    omega

end Go.Proofs.YtdbgcbkmcbgdiaaDoor.mem

namespace Go.Proofs.YtdbgcbkmcbgdiaaDoor.mem
open Go.RowKit
set_option linter.unusedVariables false

/-- is a number a pipe outside of the forest? -/
def chB (n : Nat) (P : Nat → Pip) (m : Nat) (x : Int) : Bool := hasB (chN n P m) (fd (chP n P m) m) x
theorem chB_yes {n : Nat} {P : Nat → Pip} {m : Nat} {x : Int} (h : chB n P m x = true) : ∃ c : Nat, x = (c : Int) ∧ c < m ∧ chP n P m c = true := by
  unfold chB hasB at h
  obtain ⟨j, hj, e⟩ := List.any_eq_true.1 h
  have h1 := chS_at (n := n) (P := P) (m := m) (List.mem_range.1 hj)
  refine ⟨chS n P m j, ?_, h1⟩
  rw [beq_iff_eq] at e
  exact e.symm
/-- the code of a network and a list of flows -/
noncomputable def flC (n : Nat) (N : Nat → Nod) (m : Nat) (P : Nat → Pip) (K : Nat) (d : Nat → Int) : Int := if netB n N m P = true then (if K = m ∧ flB d K = true then 0 else 3) else 1
/-- are all these lists flow lists? -/
def flsB (m : Nat) (K : Nat → Nat) (d : Nat → Nat → Int) : Nat → Bool
  | 0 => true
  | k + 1 => flsB m K d k && (decide (K k = m) && flB (d k) (K k))
theorem flsB_no {m : Nat} {K : Nat → Nat} {d : Nat → Nat → Int} {k : Nat} (h : (decide (K k = m) && flB (d k) (K k)) = false) : ∀ {n : Nat}, k < n → flsB m K d n = false
  | 0, hk => by omega
  | n + 1, hk => by
    unfold flsB
    by_cases e : k = n
    · subst e; rw [h, Bool.and_false]
    · rw [flsB_no h (by omega : k < n), Bool.false_and]
noncomputable def flCL (n : Nat) (N : Nat → Nod) (m : Nat) (P : Nat → Pip) (K : Nat → Nat) (d : Nat → Nat → Int) (L : Nat) : Int := if netB n N m P = true then (if flsB m K d L = true then 0 else 3) else 1
set_option maxHeartbeats 4000000 in
theorem checkFlowsL_any (w : World) (v : Value) (n : Nat) (N : Nat → Nod) (m : Nat) (P : Nat → Pip) (lo hi : Nat) (h : NetAt w v n N m P lo hi) (hhi : hi ≤ w.heap.size) (hN : ∀ i, i < n → (N i).s.size ≤ 9223372036854775807) (b : Nat) (vl : Nat → Value) (L cap : Nat) (K : Nat → Nat) (d : Nat → Nat → Int) (la ha : Nat) (hvl : ∀ j, j < L → w.cell? ⟨b, j, none⟩ = some (vl j)) (hb : b < w.heap.size) (hv : ∀ j, j < L → Sl w (vl j) (K j) (d j) la ha) (hha : ha ≤ w.heap.size) (hK : ∀ j, j < L → K j ≤ 9223372036854775807) (hL : L ≤ 40) :
    Calls Tryd.prog 33 #[v, .slice (some ⟨b, 0, none⟩) L cap] w fun e w' => e = .returned (.int .i64 (flCL n N m P K d L)) ∧ Below w.heap.size w w' := by
  obtain ⟨p0, c0, p1, c1, rfl, hn9, hm9⟩ := h.parts
  have HV := Lib.hid h
  have HN := Lib.hid hN
  have HVL := Lib.hid hvl
  have HVS := Lib.hid hv
  have HK := Lib.hid hK
  have A0 := boxed w (.slice p0 n c0) (.slice p1 m c1) 35
  have B0 := below_new w (.cells #[.slice p0 n c0, .slice p1 m c1] 35)
  have hs0 : (w.alloc (.cells #[.slice p0 n c0, .slice p1 m c1] 35)).heap.size = w.heap.size + 1 := by simp
  clear h hN hvl hv hK
  go_enter Tryd.func33, Tryd.ntmps33
  have e0' := A0.b0
  have e1' := A0.b1
  go_wp2_with fail
  refine (isNetwork_any _ _ n N m P lo hi (HV.out.below B0 hhi) (by omega) HN.out).mono ?_
  rintro e w1 ⟨rfl, b1⟩
  have A1 := A0.below b1 (by omega)
  have B1 := B0.trans (b1.mono (by omega))
  have hs1 := b1.size
  have e1 := A1.b1
  clear A0 B0 b1 e0' e1'
  cases hB : netB n N m P
  · have H2 := Lib.hid (show flCL n N m P K d L = 1 by unfold flCL; rw [hB]; rfl)
    clear hB
    go_wp2_with fail
    go_ret
    exact ⟨ret_i H2.out.symm, B1⟩
  · have H3 := Lib.hid (show ∀ j, j < L → (decide (K j = m) && flB (d j) (K j)) = false → flCL n N m P K d L = 3 from fun j hj g => by unfold flCL; rw [hB, flsB_no g hj]; rfl)
    have H0 := Lib.hid (show flsB m K d L = true → flCL n N m P K d L = 0 from fun g => by unfold flCL; rw [hB, g]; rfl)
    have HB1 := Lib.hid B1
    clear hB B1 A1
    go_wp2_with fail
    go_loopw [12] (fun iv wr => ∃ k : Nat, iv = .int .i64 k ∧ k ≤ L ∧ flsB m K d k = true ∧ w1 = wr) (fun iv _ => L - (intOf iv).toNat)
    case atStart => exact ⟨0, rfl, Nat.zero_le _, rfl, rfl⟩
    case round =>
      obtain ⟨k, rfl, hk, hb', rfl⟩ := hrel
      generalize hQ : Exit.then _ _ = Q
      have HQ := Lib.hid hQ
      clear hQ
      have HF := Lib.hid hb'
      clear hb'
      have k0 : (0 : Int) ≤ (k : Int) := Int.natCast_nonneg _
      by_cases hlt : k < L
      · have k1 : (k : Int) < (L : Int) := by omega
        have S := (HVS.out k hlt).below HB1.out hha
        have HS := Lib.hid S
        have hKk := HK.out k hlt
        obtain ⟨pa, ca, ea, _⟩ := S.ex
        have y0 : w1.cell? ⟨b, k, none⟩ = some (.slice pa (K k) ca) := by
          rw [← ea]
          exact (HB1.out.cell (p := ⟨b, k, none⟩) hb).trans (HVL.out k hlt)
        have HS' := Lib.hid (ea ▸ HS.out)
        clear S HS ea
        generalize hKK : K k = KK at *
        generalize hdd : d k = dd at *
        have HKK := Lib.hid hKK
        have HDD := Lib.hid hdd
        clear hKK hdd
        by_cases hKm : KK = m
        · have hb1 : ((KK : Int) != (m : Int)) = false := by simp [hKm]
          cases hf : flB dd KK
          · have H2 := Lib.hid (H3.out k hlt (by rw [HKK.out, HDD.out, hf, Bool.and_false]))
            clear hKm
            go_wp2_with (go_at_call 43; refine (areFlows_any _ _ KK dd _ _ HS'.out hKk).mono ?_; rintro e w' ⟨rfl, rfl⟩; rw [hf])
            rw [← HQ.out]
            go_wp2_with fail
            go_ret
            exact ⟨ret_i H2.out.symm, HB1.out⟩
          · have HR := Lib.hid (show flsB m K d (k + 1) = true by unfold flsB; rw [HF.out, HKK.out, HDD.out, hf, hKm]; simp)
            clear hKm
            go_wp2_with (go_at_call 43; refine (areFlows_any _ _ KK dd _ _ HS'.out hKk).mono ?_; rintro e w' ⟨rfl, rfl⟩; rw [hf])
            rw [← HQ.out]
            refine ⟨⟨_, _, _, _, _, _, _, _, _, _, _, _, _, _, _, _, _, _, ?rel, rfl⟩, ?measure⟩
            case rel => exact ⟨k + 1, by go_num, hlt, HR.out, rfl⟩
            case measure => simp [intOf]; omega
        · have hb1 : ((KK : Int) != (m : Int)) = true := by simp; omega
          have H2 := Lib.hid (H3.out k hlt (by rw [HKK.out, decide_eq_false hKm, Bool.false_and]))
          clear hKm
          go_wp2_with fail
          rw [← HQ.out]
          go_wp2_with fail
          go_ret
          exact ⟨ret_i H2.out.symm, HB1.out⟩
      · have hkn : L = k := by omega
        have H2 := Lib.hid (H0.out (by rw [hkn]; exact HF.out))
        have k1 : ¬ ((k : Int) < (L : Int)) := by omega
        clear hkn
        go_wp2_with fail
        rw [← HQ.out]
        go_wp2_with fail
        go_ret
        exact ⟨ret_i H2.out.symm, HB1.out⟩
theorem flC_one (n : Nat) (N : Nat → Nod) (m : Nat) (P : Nat → Pip) (K : Nat) (d : Nat → Int) : flCL n N m P (fun _ => K) (fun _ => d) 1 = flC n N m P K d := by
  unfold flCL flC
  simp [flsB]
theorem checkFlows_any (w : World) (v : Value) (n : Nat) (N : Nat → Nod) (m : Nat) (P : Nat → Pip) (lo hi : Nat) (h : NetAt w v n N m P lo hi) (hhi : hi ≤ w.heap.size) (hN : ∀ i, i < n → (N i).s.size ≤ 9223372036854775807) (va : Value) (b : Nat) (hb : w.cell? ⟨b, 0, none⟩ = some va) (hbl : b < w.heap.size) (K : Nat) (d : Nat → Int) (la ha : Nat) (hv : Sl w va K d la ha) (hha : ha ≤ w.heap.size) (hK : K ≤ 9223372036854775807) :
    Calls Tryd.prog 33 #[v, .slice (some ⟨b, 0, none⟩) 1 1] w fun e w' => e = .returned (.int .i64 (flC n N m P K d)) ∧ Below w.heap.size w w' := by
  rw [← flC_one]
  exact checkFlowsL_any w v n N m P lo hi h hhi hN b (fun _ => va) 1 1 (fun _ => K) (fun _ => d) la ha (fun j hj => by rw [show j = 0 by omega]; exact hb) hbl (fun _ _ => hv) hha (fun _ _ => hK) (by omega)

end Go.Proofs.YtdbgcbkmcbgdiaaDoor.mem

namespace Go.Proofs.YtdbgcbkmcbgdiaaDoor.mem
open Go.RowKit
set_option linter.unusedVariables false

theorem Sl.sh {w : World} {v : Value} {n : Nat} {d : Nat → Int} {lo hi : Nat} (h : Sl w v n d lo hi) : ∃ p cap, v = .slice p n cap := by
  obtain ⟨p, cap, e, _⟩ := h.ex
  exact ⟨p, cap, e⟩
theorem cell_newV (w : World) (x : Value) (t : TypeId) : (w.alloc (.cells #[x] t)).cell? ⟨w.heap.size, 0, none⟩ = some x := by
  have := heap_alloc_new w (Obj.cells #[x] t)
  simp only [World.cell?, this]
  simp
noncomputable def coN (n : Nat) (N : Nat → Nod) (m : Nat) (P : Nat → Pip) : Nat := if cmC (netB n N m P) = 0 then chN n P m else 0
/-- what flowListOf answers, as a list and a code -/
def FloOut (m : Nat) (x : Nat → Int) (b : Nat) (w' : World) (v2 : Value) (cd : Int) : Prop := (flB x 40 = true ∧ cd = 0 ∧ ∃ g, Own w' v2 m x g ∧ b ≤ g) ∨ (flB x 40 = false ∧ cd = 2 ∧ v2 = .slice none 0 0)
theorem flo_out {m : Nat} {x : Nat → Int} {b : Nat} {w' : World} {e : Ending} (h : (flB x 40 = true ∧ ∃ v2 g, e = .returned (.tuple #[v2, .int .i64 0]) ∧ Own w' v2 m x g ∧ b ≤ g) ∨ (flB x 40 = false ∧ e = .returned (.tuple #[.slice none 0 0, .int .i64 2]))) :
    ∃ v2 cd, e = .returned (.tuple #[v2, .int .i64 cd]) ∧ Shut (FloOut m x b w' v2 cd) := by
  rcases h with ⟨h1, v2, g, rfl, ho, hg⟩ | ⟨h1, rfl⟩
  · exact ⟨v2, 0, rfl, show FloOut m x b w' v2 0 from .inl ⟨h1, rfl, g, ho, hg⟩⟩
  · exact ⟨_, 2, rfl, show FloOut m x b w' (.slice none 0 0) 2 from .inr ⟨h1, rfl, rfl⟩⟩
noncomputable def cyC (n : Nat) (N : Nat → Nod) (m : Nat) (P : Nat → Pip) (x : Int) : Int := if netB n N m P = true then (if chB n P m x = true then 0 else 4) else 1
noncomputable def cyN (n : Nat) (N : Nat → Nod) (m : Nat) (P : Nat → Pip) (x : Int) : Nat := if cyC n N m P x = 0 then m else 0
def cyD (n : Nat) (P : Nat → Pip) (m : Nat) (x : Int) : Nat → Int := cyc P (fE n P m) (fD n P m) x.toNat
noncomputable def cfN (n : Nat) (N : Nat → Nod) (m : Nat) (P : Nat → Pip) (K : Nat) (d : Nat → Int) : Nat := if flC n N m P K d = 0 then chN n P m else 0
theorem flC_ok {n : Nat} {N : Nat → Nod} {m : Nat} {P : Nat → Pip} {K : Nat} {d : Nat → Int} (h : flC n N m P K d = 0) : netB n N m P = true ∧ K = m ∧ flB d K = true := by
  unfold flC at h
  split at h
  · next hB =>
    split at h
    · next hk => exact ⟨hB, hk⟩
    · omega
  · omega
end Go.Proofs.YtdbgcbkmcbgdiaaDoor.mem

namespace Go.Proofs.YtdbgcbkmcbgdiaaDoor.mem
open Go.RowKit
set_option linter.unusedVariables false

noncomputable def frC (n : Nat) (N : Nat → Nod) (m : Nat) (P : Nat → Pip) (K : Nat) (d : Nat → Int) : Int :=
  if netB n N m P = true then (if K = chN n P m then (if flB d K = true then (if flB (flo n P m d (chN n P m)) m = true then 0 else 2) else 2) else 5) else 1
noncomputable def frN (n : Nat) (N : Nat → Nod) (m : Nat) (P : Nat → Pip) (K : Nat) (d : Nat → Int) : Nat := if frC n N m P K d = 0 then m else 0
def frD (n : Nat) (P : Nat → Pip) (m : Nat) (d : Nat → Int) : Nat → Int := flo n P m d (chN n P m)
theorem sl_dr {w : World} {v : Value} {n : Nat} {d : Nat → Int} {lo hi : Nat} (h : Sl w v n d lo hi) : Sl w.drew v n d lo hi := h.drewN 1
theorem flB_mono {d : Nat → Int} {m : Nat} (h : ∀ k, m ≤ k → d k = 0) : ∀ j, flB d (m + j) = flB d m
  | 0 => rfl
  | j + 1 => by
    show (flB d (m + j) && flQ (d (m + j))) = _
    rw [flB_mono h j, h (m + j) (by omega)]
    simp [flQ, inR]
theorem flB_ext {d : Nat → Int} {m K : Nat} (hm : m ≤ K) (h : ∀ k, m ≤ k → d k = 0) : flB d K = flB d m := by
  have := flB_mono h (K - m)
  rwa [show m + (K - m) = K by omega] at this
theorem flQ_iff {x : Int} : flQ x = true ↔ -30000 ≤ x ∧ x ≤ 30000 := by
  unfold flQ
  rw [inR_iff]
end Go.Proofs.YtdbgcbkmcbgdiaaDoor.mem

namespace Go.Proofs.YtdbgcbkmcbgdiaaDoor.mem
open Go.RowKit
set_option linter.unusedVariables false

theorem cyc_off {n : Nat} {N : Nat → Nod} {P : Nat → Pip} {m : Nat} (hN : netB n N m P = true) {c a : Nat} (hc : c < m) (ha : m ≤ a) : cyc P (fE n P m) (fD n P m) c a = 0 := by
  rw [(fo_net hN).cyc_chord hc (fun z z0 z1 e => by
    rcases (fo_net (P := P) (m := m) hN).par z z0 z1 with g | ⟨b, hb, g, _⟩ <;> omega)]
  unfold one1
  rw [if_neg (by omega)]
noncomputable def adC (n : Nat) (N : Nat → Nod) (m : Nat) (P : Nat → Pip) (K : Nat) (d : Nat → Int) (x y : Int) : Int :=
  if flC n N m P K d = 0 then (if chB n P m x = true then (if flQ y = true then (if flB (fun k => d k + y * cyD n P m x k) m = true then 0 else 2) else 2) else 4) else flC n N m P K d
noncomputable def adN (n : Nat) (N : Nat → Nod) (m : Nat) (P : Nat → Pip) (K : Nat) (d : Nat → Int) (x y : Int) : Nat := if adC n N m P K d x y = 0 then m else 0
def adD (n : Nat) (P : Nat → Pip) (m : Nat) (d : Nat → Int) (x y : Int) (k : Nat) : Int := d k + y * cyD n P m x k
/-- the code of a network, a list of flows and a chord -/
noncomputable def ckC (n : Nat) (N : Nat → Nod) (m : Nat) (P : Nat → Pip) (K : Nat) (d : Nat → Int) (x : Int) : Int := if flC n N m P K d = 0 then (if chB n P m x = true then 0 else 4) else flC n N m P K d
theorem ckC_ok {n : Nat} {N : Nat → Nod} {m : Nat} {P : Nat → Pip} {K : Nat} {d : Nat → Int} {x : Int} (h : ckC n N m P K d x = 0) : flC n N m P K d = 0 ∧ chB n P m x = true := by
  unfold ckC at h
  split at h
  · next hc =>
    split at h
    · next hb => exact ⟨hc, hb⟩
    · omega
  · next hc => exact absurd h hc
theorem adC_no {n : Nat} {N : Nat → Nod} {m : Nat} {P : Nat → Pip} {K : Nat} {d : Nat → Int} {x y : Int} (h : ckC n N m P K d x ≠ 0) : adC n N m P K d x y = ckC n N m P K d x := by
  unfold ckC at h
  unfold adC ckC
  by_cases g : flC n N m P K d = 0
  · rw [if_pos g] at h
    rw [if_pos g, if_pos g]
    by_cases g2 : chB n P m x = true
    · rw [if_pos g2] at h
      exact absurd rfl h
    · rw [if_neg g2, if_neg g2]
  · rw [if_neg g, if_neg g]
/-- are two arrays equal? -/
def eqL (x y : Nat → Int) : List Nat → Bool
  | [] => true
  | i :: l => x i == y i && eqL x y l
theorem eqL_iff {x y : Nat → Int} : ∀ {l : List Nat}, eqL x y l = true ↔ ∀ i ∈ l, x i = y i
  | [] => by simp [eqL]
  | i :: l => by
    unfold eqL
    rw [Bool.and_eq_true, eqL_iff, beq_iff_eq]
    simp
/-- is it a circulation? -/
noncomputable def ciB (n : Nat) (N : Nat → Nod) (m : Nat) (P : Nat → Pip) (K : Nat) (d : Nat → Int) : Bool := decide (flC n N m P K d = 0) && (List.range n).all (fun z => dv P d m ((z : Nat) : Int) == 0)
theorem dv_all {n : Nat} {P : Nat → Pip} {m : Nat} {d : Nat → Int} : (List.range n).all (fun z => dv P d m ((z : Nat) : Int) == 0) = true ↔ ∀ z : Int, 0 ≤ z → z < n → dv P d m z = 0 := by
  rw [List.all_eq_true]
  constructor
  · intro h z z0 z1
    obtain ⟨k, rfl⟩ := Int.eq_ofNat_of_zero_le z0
    simpa using h k (List.mem_range.2 (by omega))
  · intro h k hk
    have := List.mem_range.1 hk
    simpa using h (k : Nat) (by omega) (by omega)
theorem eqL_circ {n : Nat} {N : Nat → Nod} {P : Nat → Pip} {m : Nat} (hN : netB n N m P = true) (d : Nat → Int) : eqL (flo n P m (fun j => d (chS n P m j)) (chN n P m)) (pad m d) (List.range' 0 40 1) = (List.range n).all (fun z => dv P d m ((z : Nat) : Int) == 0) := by
  have hm40 := (net_sz hN).2.2
  rw [Bool.eq_iff_iff, eqL_iff, dv_all, ← circ_iff hN]
  constructor
  · intro h a ha
    have := h a (by simp; omega)
    unfold pad at this
    rwa [if_pos ha] at this
  · intro h a _
    unfold pad
    by_cases g : a < m
    · rw [if_pos g]; exact h a g
    · rw [if_neg g, flo_off hN _ (by omega)]
end Go.Proofs.YtdbgcbkmcbgdiaaDoor.mem
