/-
  Several texts in one, part 6 of 6.
-/
import Derived.Test.YtdbgcbkmcbgdiaaGreatRows
import Derived.WalkKit
import Derived.ProofKit
import Derived.OpenShut
import Derived.Below
import Derived.ChangeSame
import Derived.ChangeSlices
import Derived.WideKeyArgs
import Derived.Lib.Hide
import Derived.RegionTactic
import Derived.BigRegion
import Derived.Deep.QuietTactic
import Derived.BigQuiet
import Derived.Outline
import Derived.OwnWalk
import Derived.Deep.RegionHeld3
import Derived.WalkSpells
import Derived.Maps.OwnSet
import Derived.Maps.OwnOps
import Derived.Deep.RegionHeldLaw
import Derived.Lib.ItoaNum
import Derived.Laws.IdiomStrings
import Derived.Lib.SmallJoins
import Derived.Deep.Slices
import Derived.Deep.Fields
import Derived.Laws.AppendOwn
import Derived.RangeFuncNested
import Derived.RangeFuncLeaves
import Derived.RangeFuncCalls
import Derived.Laws.CopyOwn
import Derived.Deep.Cut
import Derived.Deep.RegionLaw
import Derived.LoopIn
import Derived.TacticsIn
import Derived.RegionIn
import Derived.Shelf.SlicesE.Reverse
import Derived.Test.YtdbgcbkmcbgdiaaGreatLsr
import Derived.OwnWalkIn
import Derived.Sort.Grow
import Derived.Deep.WholeRow
import Derived.WalkMore
import Derived.Deep.MidRow
import Derived.Great.BuildSlice
import Derived.Deep.CutRange
import Derived.Deep.RegionWith
import Derived.Laws.StructEq
import Derived.StillTailTactics
import Derived.IntWalk
import Derived.Laws.EntriesVeiled
import Derived.Laws.ResultCell
import Derived.WideShapes
import Derived.Lib.MinMax
import Derived.Test.YtdbgcbkmcbgdiaaGreatLPr5

namespace Go.Proofs.YtdbgcbkmcbgdiaaGreat.mem
open Go.RowKit
set_option linter.unusedVariables false

def c2B (n m : Nat) (P : Nat → Pip) (f : Nat → Int) (L : Nat) (l : Nat → Int) : Bool := alB n L l && smB l (fun j => lvl n P m f ((0 : Nat) : Int) (l 0) (j : Nat)) n
noncomputable def ckV (n : Nat) (N : Nat → Nod) (m : Nat) (P : Nat → Pip) (K : Nat) (d : Nat → Int) (F : Nat) (f : Nat → Int) (L : Nat) (l : Nat → Int) : Int :=
  if ibB n N m P F f K d = true then (if c2B n m P f L l = true then (if kbB n m P f (chN n P m) = true then 0 else 3) else 2) else 1
noncomputable def ckA (n : Nat) (N : Nat → Nod) (m : Nat) (P : Nat → Pip) (K : Nat) (d : Nat → Int) (F : Nat) (f : Nat → Int) (L : Nat) (l : Nat → Int) : Int := if coC n N m P K d = 0 then ckV n N m P K d F f L l else 0
theorem ib_fl {n : Nat} {N : Nat → Nod} {m : Nat} {P : Nat → Pip} {F : Nat} {f : Nat → Int} {K : Nat} {d : Nat → Int} (h : ibB n N m P F f K d = true) : flC n N m P F f = 0 := by
  unfold ibB at h
  rw [Bool.and_eq_true, decide_eq_true_iff] at h
  exact h.1
theorem ib_li {n : Nat} {N : Nat → Nod} {m : Nat} {P : Nat → Pip} {F : Nat} {f : Nat → Int} {K : Nat} {d : Nat → Int} (hB : netB n N m P = true) (hs : svC n N m P K d = 0) : ibB n N m P F f K d = (liB m F f && smB (fun z => dv P f m ((z : Nat) : Int)) d n) := by
  unfold ibB smB
  rw [decide_eq_true hs, Bool.true_and]
  cases hl : liB m F f
  · rw [decide_eq_false (fun g => by rw [liB_iff.2 (flC_ok g).2] at hl; cases hl), Bool.false_and]
  · obtain ⟨rfl, h2⟩ := liB_iff.1 hl
    rw [decide_eq_true (flC_is hB h2)]
theorem ck_no1 {n : Nat} {N : Nat → Nod} {m : Nat} {P : Nat → Pip} {K : Nat} {d : Nat → Int} {F : Nat} {f : Nat → Int} {L : Nat} {l : Nat → Int} (hc : coC n N m P K d = 0) (h : ibB n N m P F f K d = false) : ckA n N m P K d F f L l = 1 := by
  unfold ckA ckV
  rw [if_pos hc, h]
  rfl
theorem ck_no2 {n : Nat} {N : Nat → Nod} {m : Nat} {P : Nat → Pip} {K : Nat} {d : Nat → Int} {F : Nat} {f : Nat → Int} {L : Nat} {l : Nat → Int} (hc : coC n N m P K d = 0) (h : ibB n N m P F f K d = true) (h2 : c2B n m P f L l = false) : ckA n N m P K d F f L l = 2 := by
  unfold ckA ckV
  rw [if_pos hc, h, h2]
  rfl
theorem ck_no3 {n : Nat} {N : Nat → Nod} {m : Nat} {P : Nat → Pip} {K : Nat} {d : Nat → Int} {F : Nat} {f : Nat → Int} {L : Nat} {l : Nat → Int} (hc : coC n N m P K d = 0) (h : ibB n N m P F f K d = true) (h2 : c2B n m P f L l = true) (h3 : kbB n m P f (chN n P m) = false) : ckA n N m P K d F f L l = 3 := by
  unfold ckA ckV
  rw [if_pos hc, h, h2, h3]
  rfl
theorem ck_yes {n : Nat} {N : Nat → Nod} {m : Nat} {P : Nat → Pip} {K : Nat} {d : Nat → Int} {F : Nat} {f : Nat → Int} {L : Nat} {l : Nat → Int} (hc : coC n N m P K d = 0) (h : ibB n N m P F f K d = true) (h2 : c2B n m P f L l = true) (h3 : kbB n m P f (chN n P m) = true) : ckA n N m P K d F f L l = 0 := by
  unfold ckA ckV
  rw [if_pos hc, h, h2, h3]
  rfl
theorem nthe16 {o0 o1 o2 o3 o4 o5 o6 o7 o8 o9 o10 o11 o12 o13 o14 o15 o16 : Oper} {l : List Oper} : (List.toArray (o0 :: o1 :: o2 :: o3 :: o4 :: o5 :: o6 :: o7 :: o8 :: o9 :: o10 :: o11 :: o12 :: o13 :: o14 :: o15 :: o16 :: l))[16]? = some o16 := rfl
theorem nthe17 {o0 o1 o2 o3 o4 o5 o6 o7 o8 o9 o10 o11 o12 o13 o14 o15 o16 o17 : Oper} {l : List Oper} : (List.toArray (o0 :: o1 :: o2 :: o3 :: o4 :: o5 :: o6 :: o7 :: o8 :: o9 :: o10 :: o11 :: o12 :: o13 :: o14 :: o15 :: o16 :: o17 :: l))[17]? = some o17 := rfl
theorem nthe18 {o0 o1 o2 o3 o4 o5 o6 o7 o8 o9 o10 o11 o12 o13 o14 o15 o16 o17 o18 : Oper} {l : List Oper} : (List.toArray (o0 :: o1 :: o2 :: o3 :: o4 :: o5 :: o6 :: o7 :: o8 :: o9 :: o10 :: o11 :: o12 :: o13 :: o14 :: o15 :: o16 :: o17 :: o18 :: l))[18]? = some o18 := rfl
theorem nthe19 {o0 o1 o2 o3 o4 o5 o6 o7 o8 o9 o10 o11 o12 o13 o14 o15 o16 o17 o18 o19 : Oper} {l : List Oper} : (List.toArray (o0 :: o1 :: o2 :: o3 :: o4 :: o5 :: o6 :: o7 :: o8 :: o9 :: o10 :: o11 :: o12 :: o13 :: o14 :: o15 :: o16 :: o17 :: o18 :: o19 :: l))[19]? = some o19 := rfl
theorem info_cond : (Tryz.prog.info? 92).map (·.size) = some 2 := by kernel_rfl
theorem run_indexC (w : World) (cs : Array Value) (k : IntKind) (i : Int) (h0 : 0 ≤ i) (h1 : i < 3) : (Instr.index 93 (.agg cs) (.int k i)).run Tryz.prog w = .ok (.agg (cs.extract (i.toNat * 2) (i.toNat * 2 + 2))) w := by
  obtain ⟨i0, hi0, hz⟩ : ∃ i0, Tryz.prog.info? 92 = some i0 ∧ i0.size = 2 := by
    have h := info_cond
    cases hx : Tryz.prog.info? 92 with
    | none => rw [hx] at h; simp at h
    | some i0 => rw [hx] at h; exact ⟨i0, rfl, by simpa using h⟩
  simp [Instr.index, run_underlying Tryz.underlying93, run_underlying Tryz.underlying92, asIntOf, h0, h1, part, isAgg, sizeOf, typeInfo, hi0, hz]
theorem wpList_indexC {ops : Array Oper} {rest : List Oper} {o : Oper} {a : Act} {w : World} {Q : Exit → Act → World → Prop} (hg : o.guard = none) (x y : Operand) (ho : o.op = .index 93 x y) (cs : Array Value) (k : IntKind) (i : Int) (v : Value) (hx : a.eval x = .agg cs) (hy : a.eval y = .int k i) (h0 : 0 ≤ i) (h1 : i < 3) (hv : Value.agg (cs.extract (i.toNat * 2) (i.toNat * 2 + 2)) = v)
    (h : wpList Tryz.prog ops Q rest (a.put o.dst v) w) : wpList Tryz.prog ops Q (o :: rest) a w := by
  refine wpList_plain hg fun K hK => ?_
  unfold Oper.wp execOp
  simp only [ho, Sem.run_bind, hx, hy, run_indexC w cs k i h0 h1, Result.andThen_ok, hv]
  exact hK _ _ h
set_option maxRecDepth 100000 in
set_option maxHeartbeats 8000000 in
theorem proofConditions_any (w : World) : Calls Tryz.prog 67 #[] w fun e w' => e = .returned (.agg #[.int .i64 1, .func (.func 120) #[] #[], .int .i64 2, .func (.func 121) #[] #[], .int .i64 3, .func (.func 123) #[] #[]]) ∧ Below w.heap.size w w' := by
  have B0 := below_new w (.cells #[.int .i64 1, .func (.func 120) #[] #[], .int .i64 2, .func (.func 121) #[] #[], .int .i64 3, .func (.func 123) #[] #[]] 93)
  go_enter Tryz.func67, Tryz.ntmps67
  have R0 := Ob.new w #[.int .i64 1, .func (.func 120) #[] #[], .int .i64 2, .func (.func 121) #[] #[], .int .i64 3, .func (.func 123) #[] #[]] 93 6 (fun j => #[.int .i64 1, .func (.func 120) #[] #[], .int .i64 2, .func (.func 121) #[] #[], .int .i64 3, .func (.func 123) #[] #[]].getD j default) rfl (by intro k hk; rcases (by omega : k = 0 ∨ k = 1 ∨ k = 2 ∨ k = 3 ∨ k = 4 ∨ k = 5) with rfl | rfl | rfl | rfl | rfl | rfl <;> rfl)
  have f0 := R0.cell 0 (by omega)
  have f1 := R0.cell 1 (by omega)
  have f2 := R0.cell 2 (by omega)
  have f3 := R0.cell 3 (by omega)
  have f4 := R0.cell 4 (by omega)
  have f5 := R0.cell 5 (by omega)
  clear R0
  go_wp2_with fail
  refine bodyPost_ret (v := .agg #[.int .i64 1, .func (.func 120) #[] #[], .int .i64 2, .func (.func 121) #[] #[], .int .i64 3, .func (.func 123) #[] #[]]) (by simp [results, Tryz.results67, go_sem, f0, f1, f2, f3, f4, f5]) rfl ⟨rfl, B0⟩
set_option maxRecDepth 100000 in
set_option maxHeartbeats 8000000 in
theorem cond1_any (w : World) (v : Value) (n : Nat) (N : Nat → Nod) (m : Nat) (P : Nat → Pip) (lo hi : Nat) (h : NetAt w v n N m P lo hi) (hhi : hi ≤ w.heap.size) (hN : ∀ i, i < n → (N i).s.size ≤ 9223372036854775807) (va : Value) (K : Nat) (d : Nat → Int) (la ha : Nat) (hv : Sl w va K d la ha) (hha : ha ≤ w.heap.size) (hK9 : K ≤ 9223372036854775807) (vp : Value) (F : Nat) (f : Nat → Int) (L : Nat) (l : Nat → Int) (lp hp : Nat) (hpr : PrAt w vp F f L l lp hp) (hhp : hp ≤ w.heap.size) (hF9 : F ≤ 9223372036854775807) (hL9 : L ≤ 9223372036854775807) :
    Calls Tryz.prog 120 #[v, va, vp] w (BPost w (ibB n N m P F f K d)) := by
  obtain ⟨p0, c0, p1, c1, rfl, hn9, hm9⟩ := h.parts
  obtain ⟨q0, d0, q1, d1, rfl⟩ := hpr.shape
  obtain ⟨sf, sl⟩ := hpr.two
  obtain ⟨pa, ca, rfl⟩ := hv.sh
  have HV := Lib.hid h
  have HPR := Lib.hid hpr
  have HF := Lib.hid sf
  have HL := Lib.hid sl
  have HSV := Lib.hid hv
  have HN := Lib.hid hN
  clear hN
  have A0 := (boxed w (.slice p0 n c0) (.slice p1 m c1) 27).keep (Below.heap_alloc _ (.cells #[.slice q0 F d0, .slice q1 L d1] 38) _ (by rw [szal]; omega))
  have C0 := boxed (w.alloc (.cells #[.slice p0 n c0, .slice p1 m c1] 27)) (.slice q0 F d0) (.slice q1 L d1) 38
  simp only [szal] at C0
  have B0 := (below_new w (.cells #[.slice p0 n c0, .slice p1 m c1] 27)).trans ((below_new _ (.cells #[.slice q0 F d0, .slice q1 L d1] 38)).mono (by rw [szal]; omega))
  have hs0 : ((w.alloc (.cells #[.slice p0 n c0, .slice p1 m c1] 27)).alloc (.cells #[.slice q0 F d0, .slice q1 L d1] 38)).heap.size = w.heap.size + 1 + 1 := by simp
  clear h hpr sf sl hv
  go_enter Tryz.func120, Tryz.ntmps120
  go_upto_region 1 with (fail)
  obtain ⟨w1, hw1⟩ : ∃ w1, (w.alloc (.cells #[.slice p0 n c0, .slice p1 m c1] 27)).alloc (.cells #[.slice q0 F d0, .slice q1 L d1] 38) = w1 := ⟨_, rfl⟩
  rw [hw1] at A0 C0 B0 hs0 ⊢
  clear hw1
  have hs1 := Nat.le_antisymm_iff.1 hs0
  clear hs0
  have e0 := A0.b0
  have e1 := A0.b1
  have k0 := C0.b0
  have k1 := C0.b1
  go_wp2_with (go_at_call 14; refine (isBalancedI_any _ _ n N m P lo hi (HV.out.below B0 hhi) (by omega) HN.out _ F f lp hp (HF.out.below B0 hhp) (by omega) hF9 _ K d la ha (HSV.out.below B0 hha) (by omega) hK9).mono ?_; rintro e w2 ⟨rfl, b2⟩)
  go_ret
  exact ⟨rfl, B0.trans (b2.mono (by omega))⟩
set_option maxRecDepth 100000 in
set_option maxHeartbeats 8000000 in
theorem cond2_any (w : World) (v : Value) (n : Nat) (N : Nat → Nod) (m : Nat) (P : Nat → Pip) (lo hi : Nat) (h : NetAt w v n N m P lo hi) (hhi : hi ≤ w.heap.size) (va : Value) (K : Nat) (d : Nat → Int) (la ha : Nat) (hv : Sl w va K d la ha) (vp : Value) (f : Nat → Int) (L : Nat) (l : Nat → Int) (lp hp : Nat) (hpr : PrAt w vp m f L l lp hp) (hhp : hp ≤ w.heap.size) (hL9 : L ≤ 9223372036854775807) (hf : ∀ k, k < m → -30000 ≤ f k ∧ f k ≤ 30000) (hB : netB n N m P = true) (hone : cnt n P m = 1) :
    Calls Tryz.prog 121 #[v, va, vp] w (BPost w (c2B n m P f L l)) := by
  obtain ⟨p0, c0, p1, c1, rfl, hn9, hm9⟩ := h.parts
  obtain ⟨q0, d0, q1, d1, rfl⟩ := hpr.shape
  obtain ⟨sf, sl⟩ := hpr.two
  obtain ⟨pa, ca, rfl⟩ := hv.sh
  have HV := Lib.hid h
  have HPR := Lib.hid hpr
  have HF := Lib.hid sf
  have HL := Lib.hid sl
  have HSV := Lib.hid hv
  have A0 := (boxed w (.slice p0 n c0) (.slice p1 m c1) 27).keep (Below.heap_alloc _ (.cells #[.slice q0 m d0, .slice q1 L d1] 38) _ (by rw [szal]; omega))
  have C0 := boxed (w.alloc (.cells #[.slice p0 n c0, .slice p1 m c1] 27)) (.slice q0 m d0) (.slice q1 L d1) 38
  simp only [szal] at C0
  have B0 := (below_new w (.cells #[.slice p0 n c0, .slice p1 m c1] 27)).trans ((below_new _ (.cells #[.slice q0 m d0, .slice q1 L d1] 38)).mono (by rw [szal]; omega))
  have hs0 : ((w.alloc (.cells #[.slice p0 n c0, .slice p1 m c1] 27)).alloc (.cells #[.slice q0 m d0, .slice q1 L d1] 38)).heap.size = w.heap.size + 1 + 1 := by simp
  clear h hpr sf sl hv
  go_enter Tryz.func121, Tryz.ntmps121
  go_upto_region 1 with (fail)
  obtain ⟨w1, hw1⟩ : ∃ w1, (w.alloc (.cells #[.slice p0 n c0, .slice p1 m c1] 27)).alloc (.cells #[.slice q0 m d0, .slice q1 L d1] 38) = w1 := ⟨_, rfl⟩
  rw [hw1] at A0 C0 B0 hs0 ⊢
  clear hw1
  have hs1 := Nat.le_antisymm_iff.1 hs0
  clear hs0
  have e0 := A0.b0
  have e1 := A0.b1
  have k0 := C0.b0
  have k1 := C0.b1
  have HBN := Lib.hid hB
  have HON := Lib.hid hone
  have HFR := Lib.hid hf
  obtain ⟨hn1, hn24, hm40⟩ := net_sz hB
  clear hB hone hf
  have HBB := Lib.hid B0
  have A1 := A0
  clear B0
  have n0 : w.heap.size < w1.heap.size := by omega
  have n1 : w.heap.size + 1 < w1.heap.size := by omega
  have K0 : Below w1.heap.size w1 w1.drew := below_drw (Below.refl _ _)
  have HAL := Lib.hid (fun (W : World) (hW : Below w1.heap.size w1 W) => areLevels_any W p0 p1 n m c0 c1 _ L l lp hp (HL.out.below (HBB.out.trans (hW.mono (by omega))) hhp) (by have := hW.size; omega) hL9 hn9)
  cases hal : alB n L l
  · have g0 := range2 e0 e1
    have KS : ∀ W : World, Below w1.heap.size w1 W → (Below w1.heap.size w1 W ∧ W.rangeAt w.heap.size 0 [.slice p0 n c0, .slice p1 m c1] ∧ W.cell? ⟨w.heap.size + 1, 1, none⟩ = some (.slice q1 L d1)) := fun W hW => ⟨hW, range_blockN g0 (hW.block _ n0), (hW.cell (p := ⟨w.heap.size + 1, 1, none⟩) n1).trans k1⟩
    have nN : (Tryz.prog.info? 27).map (·.size) = some 2 := by kernel_rfl
    have UN := Tryz.underlying27
    have HR := Lib.hid (show c2B n m P f L l = false by unfold c2B; rw [hal, Bool.false_and])
    refine wp_region_noPanic ?_
    refine wp_region_held_drew (S := fun w' : World => Below w1.heap.size w1 w' ∧ w'.rangeAt w.heap.size 0 [.slice p0 n c0, .slice p1 m c1] ∧ w'.cell? ⟨w.heap.size + 1, 1, none⟩ = some (.slice q1 L d1)) (by kernel_rfl) (KS _ (below_drw (Below.refl _ _))) (fun sH => ?_)
    refine wpAnyH_take (i := 0) (v := .agg ([.slice p0 n c0, .slice p1 m c1]).toArray) nthe0 (by kernel_rfl) (by kernel_rfl) (by kernel_rfl) (fun _ _ _ h => h) (yieldsIf_load_mid (by rfl) _ _ rfl w.heap.size 0 rfl ([.slice p0 n c0, .slice p1 m c1]) _ (fun _ h => h.2.1) UN rfl (by exact nN)) sH ?_
    try simp only [Act.put, List.setIfInBounds_toArray, List.set_cons_zero, List.set_cons_succ]
    refine wpAnyH_take (i := 1) (v := ?_) nthe1 (by kernel_rfl) (by kernel_rfl) (by kernel_rfl) (fun _ _ _ h => h) (Or.inl ⟨by rfl, ?_⟩) sH ?_
    rotate_left
    · intro wS hSw; (try dsimp only at hSw); go_simp; try with_reducible rfl
    try simp only [Act.put, List.setIfInBounds_toArray, List.set_cons_zero, List.set_cons_succ]
    refine wpAnyH_take (i := 2) (v := ?_) nthe2 (by kernel_rfl) (by kernel_rfl) (by kernel_rfl) (fun _ _ _ h => h) (Or.inl ⟨by rfl, ?_⟩) sH ?_
    rotate_left
    · intro wS hSw; (try dsimp only at hSw); go_simp; try with_reducible rfl
    try simp only [Act.put, List.setIfInBounds_toArray, List.set_cons_zero, List.set_cons_succ]
    refine wpAnyH_ready (rs := [3]) (by kernel_rfl) (by simp) (AllReadyH.cons nthe3 (fun KON hKON => ?_) AllReadyH.nil)
    clear sH
    go_simp
    refine (HAL.out _ (below_drw (Below.refl _ _))).mono ?_
    rintro e wX ⟨rfl, hbX⟩
    rw [hal]
    have KX : Below w1.heap.size w1 wX := (below_drw (Below.refl _ _)).trans (hbX.mono (Nat.le_refl _))
    refine hKON.out _ _ (KS _ KX) (fun sH => ?_)
    clear hKON KON
    try simp only [Act.put, List.setIfInBounds_toArray, List.set_cons_zero, List.set_cons_succ]
    refine wpAnyH_take (i := 4) (v := ?_) nthe4 (by kernel_rfl) (by kernel_rfl) (by kernel_rfl) (fun _ _ _ h => h) (Or.inl ⟨by rfl, ?_⟩) sH ?_
    rotate_left
    · intro wS hSw; (try dsimp only at hSw); go_simp; try with_reducible rfl
    try simp only [Act.put, List.setIfInBounds_toArray, List.set_cons_zero, List.set_cons_succ]
    refine wpAnyH_take (i := 5) (v := undef) nthe5 (by kernel_rfl) (by kernel_rfl) (by kernel_rfl) (fun _ _ _ h => h) (Or.inr ⟨by rfl, rfl⟩) sH ?_
    try simp only [Act.put, List.setIfInBounds_toArray, List.set_cons_zero, List.set_cons_succ]
    refine wpAnyH_take (i := 6) (v := undef) nthe6 (by kernel_rfl) (by kernel_rfl) (by kernel_rfl) (fun _ _ _ h => h) (Or.inr ⟨by rfl, rfl⟩) sH ?_
    try simp only [Act.put, List.setIfInBounds_toArray, List.set_cons_zero, List.set_cons_succ]
    refine wpAnyH_take (i := 7) (v := undef) nthe7 (by kernel_rfl) (by kernel_rfl) (by kernel_rfl) (fun _ _ _ h => h) (Or.inr ⟨by rfl, rfl⟩) sH ?_
    try simp only [Act.put, List.setIfInBounds_toArray, List.set_cons_zero, List.set_cons_succ]
    refine wpAnyH_take (i := 8) (v := undef) nthe8 (by kernel_rfl) (by kernel_rfl) (by kernel_rfl) (fun _ _ _ h => h) (Or.inr ⟨by rfl, rfl⟩) sH ?_
    try simp only [Act.put, List.setIfInBounds_toArray, List.set_cons_zero, List.set_cons_succ]
    refine wpAnyH_take (i := 9) (v := undef) nthe9 (by kernel_rfl) (by kernel_rfl) (by kernel_rfl) (fun _ _ _ h => h) (Or.inr ⟨by rfl, rfl⟩) sH ?_
    try simp only [Act.put, List.setIfInBounds_toArray, List.set_cons_zero, List.set_cons_succ]
    refine wpAnyH_take (i := 10) (v := undef) nthe10 (by kernel_rfl) (by kernel_rfl) (by kernel_rfl) (fun _ _ _ h => h) (Or.inr ⟨by rfl, rfl⟩) sH ?_
    try simp only [Act.put, List.setIfInBounds_toArray, List.set_cons_zero, List.set_cons_succ]
    refine wpAnyH_take (i := 11) (v := undef) nthe11 (by kernel_rfl) (by kernel_rfl) (by kernel_rfl) (fun _ _ _ h => h) (Or.inr ⟨by rfl, rfl⟩) sH ?_
    try simp only [Act.put, List.setIfInBounds_toArray, List.set_cons_zero, List.set_cons_succ]
    refine wpAnyH_take (i := 12) (v := undef) nthe12 (by kernel_rfl) (by kernel_rfl) (by kernel_rfl) (fun _ _ _ h => h) (Or.inr ⟨by rfl, rfl⟩) sH ?_
    try simp only [Act.put, List.setIfInBounds_toArray, List.set_cons_zero, List.set_cons_succ]
    refine wpAnyH_take (i := 13) (v := undef) nthe13 (by kernel_rfl) (by kernel_rfl) (by kernel_rfl) (fun _ _ _ h => h) (Or.inr ⟨by rfl, rfl⟩) sH ?_
    try simp only [Act.put, List.setIfInBounds_toArray, List.set_cons_zero, List.set_cons_succ]
    refine wpAnyH_take (i := 14) (v := undef) nthe14 (by kernel_rfl) (by kernel_rfl) (by kernel_rfl) (fun _ _ _ h => h) (Or.inr ⟨by rfl, rfl⟩) sH ?_
    try simp only [Act.put, List.setIfInBounds_toArray, List.set_cons_zero, List.set_cons_succ]
    refine wpAnyH_take (i := 15) (v := undef) nthe15 (by kernel_rfl) (by kernel_rfl) (by kernel_rfl) (fun _ _ _ h => h) (Or.inr ⟨by rfl, rfl⟩) sH ?_
    try simp only [Act.put, List.setIfInBounds_toArray, List.set_cons_zero, List.set_cons_succ]
    refine wpAnyH_take (i := 16) (v := ?_) nthe16 (by kernel_rfl) (by kernel_rfl) (by kernel_rfl) (fun _ _ _ h => h) (Or.inl ⟨by rfl, ?_⟩) sH ?_
    rotate_left
    · intro wS hSw; (try dsimp only at hSw); go_simp; try with_reducible rfl
    try simp only [Act.put, List.setIfInBounds_toArray, List.set_cons_zero, List.set_cons_succ]
    refine wpAnyH_take (i := 17) (v := ?_) nthe17 (by kernel_rfl) (by kernel_rfl) (by kernel_rfl) (fun _ _ _ h => h) (Or.inl ⟨by rfl, ?_⟩) sH ?_
    rotate_left
    · intro wS hSw; (try dsimp only at hSw); go_simp; try with_reducible rfl
    try simp only [Act.put, List.setIfInBounds_toArray, List.set_cons_zero, List.set_cons_succ]
    refine wpAnyH_done (by kernel_rfl) ?_ _
    refine NoPanic.normal ?_
    go_wp2_with fail
    go_ret
    exact ⟨ret_b HR.out.symm, HBB.out.trans (KX.mono (by omega))⟩
  · obtain ⟨hLn, hlr⟩ := alB_iff.1 hal
    subst hLn
    have HLR := Lib.hid hlr
    obtain ⟨_, _, eel, hcl⟩ := (HL.out.below HBB.out hhp).ex
    injection eel with ee1 _ ee3
    subst ee1 ee3
    obtain ⟨bl, ol, rfl, _, hbl, hxl⟩ : ∃ b o, q1 = some ⟨b, o, none⟩ ∧ lp ≤ b ∧ b < hp ∧ ∀ k, k < L → w1.cell? ⟨b, o + k, none⟩ = some (.int .i64 (l k)) := by
      rcases hcl with e | e
      · omega
      · exact e
    have t0 : w1.cell? ⟨bl, ol, none⟩ = some (.int .i64 (l 0)) := hxl 0 (by omega)
    have hLp : 0 < L := by omega
    have hLpi : (0 : Int) < (L : Int) := by omega
    have hl0 := hlr 0 (by omega)
    have n2 : bl < w1.heap.size := by omega
    clear hcl hxl hlr
    have KS : ∀ W : World, Below w1.heap.size w1 W → (W.cell? ⟨w.heap.size, 0, none⟩ = some (.slice p0 L c0) ∧ W.cell? ⟨w.heap.size, 1, none⟩ = some (.slice p1 m c1) ∧ W.cell? ⟨w.heap.size + 1, 0, none⟩ = some (.slice q0 m d0) ∧ W.cell? ⟨w.heap.size + 1, 1, none⟩ = some (.slice (some ⟨bl, ol, none⟩) L d1) ∧ W.cell? ⟨bl, ol, none⟩ = some (.int .i64 (l 0))) := fun W hW => ⟨(hW.cell (p := ⟨w.heap.size, 0, none⟩) n0).trans e0, (hW.cell (p := ⟨w.heap.size, 1, none⟩) n0).trans e1, (hW.cell (p := ⟨w.heap.size + 1, 0, none⟩) n1).trans k0, (hW.cell (p := ⟨w.heap.size + 1, 1, none⟩) n1).trans k1, (hW.cell (p := ⟨bl, ol, none⟩) n2).trans t0⟩
    have HFL := Lib.hid (fun (W : World) (hW : Below w1.heap.size w1 W) => forestLevels_any W _ L N m P lo hi (HV.out.below (HBB.out.trans (hW.mono (by omega))) hhi) (by have := hW.size; omega) HBN.out HON.out _ f lp hp (HF.out.below (HBB.out.trans (hW.mono (by omega))) hhp) (by have := hW.size; omega) HFR.out 0 (by omega) (l 0) hl0.1 hl0.2)
    have HR := Lib.hid (show c2B L m P f L l = smB l (fun j => lvl L P m f ((0 : Nat) : Int) (l 0) (j : Nat)) L by unfold c2B; rw [hal, Bool.true_and])
    have hn9' : L ≤ 9223372036854775807 := hL9
    go_region_held3 (fun W : World => W.cell? ⟨w.heap.size, 0, none⟩ = some (.slice p0 L c0) ∧ W.cell? ⟨w.heap.size, 1, none⟩ = some (.slice p1 m c1) ∧ W.cell? ⟨w.heap.size + 1, 0, none⟩ = some (.slice q0 m d0) ∧ W.cell? ⟨w.heap.size + 1, 1, none⟩ = some (.slice (some ⟨bl, ol, none⟩) L d1) ∧ W.cell? ⟨bl, ol, none⟩ = some (.int .i64 (l 0))) (first | exact ⟨e0, e1, k0, k1, t0⟩ | exact KS _ KZ | exact KS _ KY | exact KS _ KX)
      (first
        | (go_at_call 122; refine (HAL.out _ K0).mono ?_; rintro e wX ⟨rfl, hbX⟩; rw [hal]; have KX := K0.trans (hbX.mono K0.size); clear hbX)
        | (go_at_call 62; refine (HFL.out _ KX).mono ?_; rintro e wY ⟨g, rfl, OY, hgY, hbY⟩; have KY := KX.trans (hbY.mono KX.size); clear hbY)
        | (go_at_call 74; refine (equal64_any _ _ _ L l lp hp (HL.out.below (HBB.out.trans (KY.mono (by omega))) hhp) L (fun j => lvl L P m f ((0 : Nat) : Int) (l 0) (j : Nat)) _ _ OY.sl hL9 hL9).mono ?_; rintro e wZ ⟨rfl, hbZ⟩; rw [show eqLB L l L (fun j => lvl L P m f ((0 : Nat) : Int) (l 0) (j : Nat)) = c2B L m P f L l by rw [HR.out]; unfold eqLB; rw [decide_eq_true rfl, Bool.true_and]]; have KZ := KY.trans (hbZ.mono KY.size); clear hbZ))
    go_wp2_with fail
    go_ret
    exact ⟨rfl, HBB.out.trans (KZ.mono (by omega))⟩
set_option maxRecDepth 100000 in
set_option maxHeartbeats 8000000 in
theorem cond3_any (w : World) (v : Value) (n : Nat) (N : Nat → Nod) (m : Nat) (P : Nat → Pip) (lo hi : Nat) (h : NetAt w v n N m P lo hi) (hhi : hi ≤ w.heap.size) (va : Value) (K : Nat) (d : Nat → Int) (la ha : Nat) (hv : Sl w va K d la ha) (vp : Value) (f : Nat → Int) (L : Nat) (l : Nat → Int) (lp hp : Nat) (hpr : PrAt w vp m f L l lp hp) (hhp : hp ≤ w.heap.size) (hL9 : L ≤ 9223372036854775807) (hf : ∀ k, k < m → -30000 ≤ f k ∧ f k ≤ 30000) (hB : netB n N m P = true) :
    Calls Tryz.prog 123 #[v, va, vp] w (BPost w (kbB n m P f (chN n P m))) := by
  obtain ⟨p0, c0, p1, c1, rfl, hn9, hm9⟩ := h.parts
  obtain ⟨q0, d0, q1, d1, rfl⟩ := hpr.shape
  obtain ⟨sf, sl⟩ := hpr.two
  obtain ⟨pa, ca, rfl⟩ := hv.sh
  have HV := Lib.hid h
  have HPR := Lib.hid hpr
  have HF := Lib.hid sf
  have HL := Lib.hid sl
  have HSV := Lib.hid hv
  have A0 := (boxed w (.slice p0 n c0) (.slice p1 m c1) 27).keep (Below.heap_alloc _ (.cells #[.slice q0 m d0, .slice q1 L d1] 38) _ (by rw [szal]; omega))
  have C0 := boxed (w.alloc (.cells #[.slice p0 n c0, .slice p1 m c1] 27)) (.slice q0 m d0) (.slice q1 L d1) 38
  simp only [szal] at C0
  have B0 := (below_new w (.cells #[.slice p0 n c0, .slice p1 m c1] 27)).trans ((below_new _ (.cells #[.slice q0 m d0, .slice q1 L d1] 38)).mono (by rw [szal]; omega))
  have hs0 : ((w.alloc (.cells #[.slice p0 n c0, .slice p1 m c1] 27)).alloc (.cells #[.slice q0 m d0, .slice q1 L d1] 38)).heap.size = w.heap.size + 1 + 1 := by simp
  clear h hpr sf sl hv
  go_enter Tryz.func123, Tryz.ntmps123
  go_upto_region 1 with (fail)
  obtain ⟨w1, hw1⟩ : ∃ w1, (w.alloc (.cells #[.slice p0 n c0, .slice p1 m c1] 27)).alloc (.cells #[.slice q0 m d0, .slice q1 L d1] 38) = w1 := ⟨_, rfl⟩
  rw [hw1] at A0 C0 B0 hs0 ⊢
  clear hw1
  have hs1 := Nat.le_antisymm_iff.1 hs0
  clear hs0
  have e0 := A0.b0
  have e1 := A0.b1
  have k0 := C0.b0
  have k1 := C0.b1
  obtain ⟨hn1, hn24, hm40⟩ := net_sz hB
  have HBN := Lib.hid hB
  have HFR := Lib.hid hf
  have HKP := Lib.hid (kbB_pad (n := n) (m := m) (P := P) (d := f) (chN n P m))
  clear hB hf
  go_wp2_with (first
    | (go_at_call 94; refine (withFlows_any _ p0 p1 c0 c1 n m _ m f lp hp (HF.out.below B0 hhp) (by omega) hm40).mono ?_; rintro e wX ⟨rfl, hbX⟩; have zX := hbX.size; have BX := B0.trans (hbX.mono (by omega)))
    | (go_at_call 124; refine (keepBounds_any _ p0 p1 c0 c1 n N m P lo hi (HV.out.below BX hhi) (by omega) HBN.out (pad m f) (fun k _ => pad_rng HFR.out k)).mono ?_; rintro e wY ⟨rfl, hbY⟩; rw [HKP.out]))
  go_ret
  exact ⟨rfl, BX.trans (hbY.mono (by omega))⟩
set_option maxRecDepth 100000 in
set_option maxHeartbeats 8000000 in
theorem ckProofI_any (w : World) (v : Value) (n : Nat) (N : Nat → Nod) (m : Nat) (P : Nat → Pip) (lo hi : Nat) (h : NetAt w v n N m P lo hi) (hhi : hi ≤ w.heap.size) (hN : ∀ i, i < n → (N i).s.size ≤ 9223372036854775807) (va : Value) (K : Nat) (d : Nat → Int) (la ha : Nat) (hv : Sl w va K d la ha) (hha : ha ≤ w.heap.size) (hK9 : K ≤ 9223372036854775807) (vp : Value) (F : Nat) (f : Nat → Int) (L : Nat) (l : Nat → Int) (lp hp : Nat) (hpr : PrAt w vp F f L l lp hp) (hhp : hp ≤ w.heap.size) (hF9 : F ≤ 9223372036854775807) (hL9 : L ≤ 9223372036854775807) :
    Calls Tryz.prog 19 #[v, va, vp] w (IIPost w (ckA n N m P K d F f L l) (coC n N m P K d)) := by
  obtain ⟨p0, c0, p1, c1, rfl, hn9, hm9⟩ := h.parts
  obtain ⟨q0, d0, q1, d1, rfl⟩ := hpr.shape
  obtain ⟨sf, sl⟩ := hpr.two
  obtain ⟨pa, ca, rfl⟩ := hv.sh
  have HV := Lib.hid h
  have HPR := Lib.hid hpr
  have HF := Lib.hid sf
  have HL := Lib.hid sl
  have HSV := Lib.hid hv
  have HN := Lib.hid hN
  clear hN
  have A0 := (boxed w (.slice p0 n c0) (.slice p1 m c1) 27).keep (Below.heap_alloc _ (.cells #[.slice q0 F d0, .slice q1 L d1] 38) _ (by rw [szal]; omega))
  have C0 := boxed (w.alloc (.cells #[.slice p0 n c0, .slice p1 m c1] 27)) (.slice q0 F d0) (.slice q1 L d1) 38
  simp only [szal] at C0
  have B0 := (below_new w (.cells #[.slice p0 n c0, .slice p1 m c1] 27)).trans ((below_new _ (.cells #[.slice q0 F d0, .slice q1 L d1] 38)).mono (by rw [szal]; omega))
  have hs0 : ((w.alloc (.cells #[.slice p0 n c0, .slice p1 m c1] 27)).alloc (.cells #[.slice q0 F d0, .slice q1 L d1] 38)).heap.size = w.heap.size + 1 + 1 := by simp
  clear h hpr sf sl hv
  go_enter Tryz.func19, Tryz.ntmps19
  go_upto_region 1 with (fail)
  obtain ⟨w1, hw1⟩ : ∃ w1, (w.alloc (.cells #[.slice p0 n c0, .slice p1 m c1] 27)).alloc (.cells #[.slice q0 F d0, .slice q1 L d1] 38) = w1 := ⟨_, rfl⟩
  rw [hw1] at A0 C0 B0 hs0 ⊢
  clear hw1
  have hs1 := Nat.le_antisymm_iff.1 hs0
  clear hs0
  have e0 := A0.b0
  have e1 := A0.b1
  have k0 := C0.b0
  have k1 := C0.b1
  go_wp2_with fail
  refine (checkConnected_any _ _ n N m P lo hi (HV.out.below B0 hhi) (by omega) HN.out _ K d la ha (HSV.out.below B0 hha) (by omega) hK9).mono ?_
  rintro e w2 ⟨rfl, b2⟩
  have A2 := A0.below b2 (by omega)
  have C2 := C0.below b2 (by omega)
  have B2 := B0.trans (b2.mono (by omega))
  have hs2 := b2.size
  have u2 : w.heap.size + 1 + 1 ≤ w2.heap.size := by omega
  clear A0 C0 B0 b2 hs2 e0 e1 k0 k1
  have e0 := A2.b0
  have e1 := A2.b1
  have k0 := C2.b0
  have k1 := C2.b1
  by_cases hc : coC n N m P K d = 0
  rotate_left 1
  · have hb1 : (coC n N m P K d != 0) = true := by simpa using hc
    have H3 := Lib.hid (show ckA n N m P K d F f L l = 0 by unfold ckA; rw [if_neg hc])
    clear hc
    go_wp2_with fail
    go_ret2
    exact ⟨ret_2 H3.out.symm rfl, B2⟩
  obtain ⟨hsv, hcon⟩ := coC_ok hc
  obtain ⟨hB, hone⟩ := conB_one hcon
  have HBN := Lib.hid hB
  have HON := Lib.hid hone
  have HCO := Lib.hid hc
  rw [hc]
  clear hc hsv hcon hB hone
  go_wp2_with fail
  refine (proofConditions_any _).mono ?_
  rintro e w3 ⟨rfl, b3⟩
  have A3 := A2.below b3 (by omega)
  have C3 := C2.below b3 (by omega)
  have B3 := B2.trans (b3.mono (by omega))
  have hs3 := b3.size
  have u3 : w.heap.size + 1 + 1 ≤ w3.heap.size := by omega
  clear A2 C2 B2 b3 hs3 e0 e1 k0 k1
  have e0 := A3.b0
  have e1 := A3.b1
  have k0 := C3.b0
  have k1 := C3.b1
  have HA := Lib.hid A3
  have HC := Lib.hid C3
  have HB := Lib.hid B3
  clear A3 C3 B3 e0 e1 k0 k1
  go_wp2_with fail
  go_loopw [18] (fun iv wr => ∃ k : Nat, iv = .int .i64 k ∧ k ≤ 3 ∧ (0 < k → ibB n N m P F f K d = true) ∧ (1 < k → c2B n m P f L l = true) ∧ (2 < k → kbB n m P f (chN n P m) = true) ∧ w3.heap.size ≤ wr.heap.size ∧ Below w3.heap.size w3 wr) (fun iv _ => 3 - (intOf iv).toNat)
  case atStart => exact ⟨0, rfl, by omega, fun h => by omega, fun h => by omega, fun h => by omega, Nat.le_refl _, Below.refl _ _⟩
  case round =>
    obtain ⟨k, rfl, hk, hf1, hf2, hf3, hsz, hb⟩ := hrel
    have HBB := Lib.hid hb
    have BW := Lib.hid (HB.out.trans (HBB.out.mono (by omega)))
    clear hb
    rcases (by omega : k = 0 ∨ k = 1 ∨ k = 2 ∨ k = 3) with rfl | rfl | rfl | rfl
    · have b4 := below_new wr (.cells #[.int .i64 1, .func (.func 120) #[] #[]] 92)
      have hs4 : (wr.alloc (.cells #[.int .i64 1, .func (.func 120) #[] #[]] 92)).heap.size = wr.heap.size + 1 := by simp
      have y0 : (wr.alloc (.cells #[.int .i64 1, .func (.func 120) #[] #[]] 92)).cell? ⟨wr.heap.size, 0, none⟩ = some (.int .i64 1) := (Ob.new wr #[.int .i64 1, .func (.func 120) #[] #[]] 92 2 (fun j => if j = 0 then .int .i64 1 else .func (.func 120) #[] #[]) rfl (by intro k hk; rcases (by omega : k = 0 ∨ k = 1) with rfl | rfl <;> rfl)).cell 0 (by omega)
      have y1 : (wr.alloc (.cells #[.int .i64 1, .func (.func 120) #[] #[]] 92)).cell? ⟨wr.heap.size, 1, none⟩ = some (.func (.func 120) #[] #[]) := (Ob.new wr #[.int .i64 1, .func (.func 120) #[] #[]] 92 2 (fun j => if j = 0 then .int .i64 1 else .func (.func 120) #[] #[]) rfl (by intro k hk; rcases (by omega : k = 0 ∨ k = 1) with rfl | rfl <;> rfl)).cell 1 (by omega)
      go_upto_region 7 with (first
        | (refine wpList_indexC rfl _ _ rfl #[.int .i64 1, .func (.func 120) #[] #[], .int .i64 2, .func (.func 121) #[] #[], .int .i64 3, .func (.func 123) #[] #[]] _ _ (.agg #[.int .i64 1, .func (.func 120) #[] #[]]) rfl rfl (by omega) (by omega) rfl ?_))
      obtain ⟨w4, hw4⟩ : ∃ w4, wr.alloc (.cells #[.int .i64 1, .func (.func 120) #[] #[]] 92) = w4 := ⟨_, rfl⟩
      rw [hw4] at b4 hs4 y0 y1 ⊢
      clear hw4
      have B4 := Lib.hid (BW.out.trans (b4.mono (by omega)))
      have HB4 := Lib.hid (HBB.out.trans (b4.mono hsz))
      have e0 := (HA.out.below HB4.out (by omega)).b0
      have e1 := (HA.out.below HB4.out (by omega)).b1
      have k0 := (HC.out.below HB4.out (by omega)).b0
      have k1 := (HC.out.below HB4.out (by omega)).b1
      have hs6 := Nat.le_antisymm_iff.1 hs4
      clear b4 hs4
      cases ht : ibB n N m P F f K d
      · have HR := Lib.hid (show ckA n N m P K d F f L l = 1 from ck_no1 HCO.out ht)
        go_wp2_with (go_at_call 120; refine (cond1_any w4 _ n N m P lo hi (HV.out.below B4.out hhi) (by omega) HN.out _ K d la ha (HSV.out.below B4.out hha) (by omega) hK9 _ F f L l lp hp (HPR.out.below B4.out hhp) (by omega) hF9 hL9).mono ?_; rintro e w5 ⟨rfl, b5⟩; rw [ht]; have y2 := (b5.cell (p := ⟨wr.heap.size, 0, none⟩) (by show wr.heap.size < _; omega)).trans y0; have z5 := b5.size)
        go_ret2
        exact ⟨ret_2 HR.out.symm HCO.out.symm, B4.out.trans (b5.mono (by omega))⟩
      · have HT := Lib.hid ht
        go_wp2_with (go_at_call 120; refine (cond1_any w4 _ n N m P lo hi (HV.out.below B4.out hhi) (by omega) HN.out _ K d la ha (HSV.out.below B4.out hha) (by omega) hK9 _ F f L l lp hp (HPR.out.below B4.out hhp) (by omega) hF9 hL9).mono ?_; rintro e w5 ⟨rfl, b5⟩; rw [ht]; have y2 := (b5.cell (p := ⟨wr.heap.size, 0, none⟩) (by show wr.heap.size < _; omega)).trans y0; have z5 := b5.size)
        go_roundw
        case rel => exact ⟨1, by go_num, by omega, (fun _ => HT.out), (fun h => by omega), (fun h => by omega), by omega, HB4.out.trans (b5.mono (by omega))⟩
        case measure => simp [intOf]
    · have hib := hf1 (by omega)
      obtain ⟨_, hFm, hfl⟩ := flC_ok (ib_fl hib)
      subst hFm
      have HIB := Lib.hid hib
      have HFR := Lib.hid (show ∀ k, k < F → -30000 ≤ f k ∧ f k ≤ 30000 from fun k hk => flQ_iff.1 (flB_iff.1 hfl k hk))
      clear hfl hib
      have b4 := below_new wr (.cells #[.int .i64 2, .func (.func 121) #[] #[]] 92)
      have hs4 : (wr.alloc (.cells #[.int .i64 2, .func (.func 121) #[] #[]] 92)).heap.size = wr.heap.size + 1 := by simp
      have y0 : (wr.alloc (.cells #[.int .i64 2, .func (.func 121) #[] #[]] 92)).cell? ⟨wr.heap.size, 0, none⟩ = some (.int .i64 2) := (Ob.new wr #[.int .i64 2, .func (.func 121) #[] #[]] 92 2 (fun j => if j = 0 then .int .i64 2 else .func (.func 121) #[] #[]) rfl (by intro k hk; rcases (by omega : k = 0 ∨ k = 1) with rfl | rfl <;> rfl)).cell 0 (by omega)
      have y1 : (wr.alloc (.cells #[.int .i64 2, .func (.func 121) #[] #[]] 92)).cell? ⟨wr.heap.size, 1, none⟩ = some (.func (.func 121) #[] #[]) := (Ob.new wr #[.int .i64 2, .func (.func 121) #[] #[]] 92 2 (fun j => if j = 0 then .int .i64 2 else .func (.func 121) #[] #[]) rfl (by intro k hk; rcases (by omega : k = 0 ∨ k = 1) with rfl | rfl <;> rfl)).cell 1 (by omega)
      go_upto_region 7 with (first
        | (refine wpList_indexC rfl _ _ rfl #[.int .i64 1, .func (.func 120) #[] #[], .int .i64 2, .func (.func 121) #[] #[], .int .i64 3, .func (.func 123) #[] #[]] _ _ (.agg #[.int .i64 2, .func (.func 121) #[] #[]]) rfl rfl (by omega) (by omega) rfl ?_))
      obtain ⟨w4, hw4⟩ : ∃ w4, wr.alloc (.cells #[.int .i64 2, .func (.func 121) #[] #[]] 92) = w4 := ⟨_, rfl⟩
      rw [hw4] at b4 hs4 y0 y1 ⊢
      clear hw4
      have B4 := Lib.hid (BW.out.trans (b4.mono (by omega)))
      have HB4 := Lib.hid (HBB.out.trans (b4.mono hsz))
      have e0 := (HA.out.below HB4.out (by omega)).b0
      have e1 := (HA.out.below HB4.out (by omega)).b1
      have k0 := (HC.out.below HB4.out (by omega)).b0
      have k1 := (HC.out.below HB4.out (by omega)).b1
      have hs6 := Nat.le_antisymm_iff.1 hs4
      clear b4 hs4
      cases ht : c2B n F P f L l
      · have HR := Lib.hid (show ckA n N F P K d F f L l = 2 from ck_no2 HCO.out HIB.out ht)
        go_wp2_with (go_at_call 121; refine (cond2_any w4 _ n N F P lo hi (HV.out.below B4.out hhi) (by omega) _ K d la ha (HSV.out.below B4.out hha) _ f L l lp hp (HPR.out.below B4.out hhp) (by omega) hL9 HFR.out HBN.out HON.out).mono ?_; rintro e w5 ⟨rfl, b5⟩; rw [ht]; have y2 := (b5.cell (p := ⟨wr.heap.size, 0, none⟩) (by show wr.heap.size < _; omega)).trans y0; have z5 := b5.size)
        go_ret2
        exact ⟨ret_2 HR.out.symm HCO.out.symm, B4.out.trans (b5.mono (by omega))⟩
      · have HT := Lib.hid ht
        go_wp2_with (go_at_call 121; refine (cond2_any w4 _ n N F P lo hi (HV.out.below B4.out hhi) (by omega) _ K d la ha (HSV.out.below B4.out hha) _ f L l lp hp (HPR.out.below B4.out hhp) (by omega) hL9 HFR.out HBN.out HON.out).mono ?_; rintro e w5 ⟨rfl, b5⟩; rw [ht]; have y2 := (b5.cell (p := ⟨wr.heap.size, 0, none⟩) (by show wr.heap.size < _; omega)).trans y0; have z5 := b5.size)
        go_roundw
        case rel => exact ⟨2, by go_num, by omega, (fun _ => HIB.out), (fun _ => HT.out), (fun h => by omega), by omega, HB4.out.trans (b5.mono (by omega))⟩
        case measure => simp [intOf]
    · have hib := hf1 (by omega)
      obtain ⟨_, hFm, hfl⟩ := flC_ok (ib_fl hib)
      subst hFm
      have HIB := Lib.hid hib
      have HC2 := Lib.hid (hf2 (by omega))
      have HFR := Lib.hid (show ∀ k, k < F → -30000 ≤ f k ∧ f k ≤ 30000 from fun k hk => flQ_iff.1 (flB_iff.1 hfl k hk))
      clear hfl hib
      have b4 := below_new wr (.cells #[.int .i64 3, .func (.func 123) #[] #[]] 92)
      have hs4 : (wr.alloc (.cells #[.int .i64 3, .func (.func 123) #[] #[]] 92)).heap.size = wr.heap.size + 1 := by simp
      have y0 : (wr.alloc (.cells #[.int .i64 3, .func (.func 123) #[] #[]] 92)).cell? ⟨wr.heap.size, 0, none⟩ = some (.int .i64 3) := (Ob.new wr #[.int .i64 3, .func (.func 123) #[] #[]] 92 2 (fun j => if j = 0 then .int .i64 3 else .func (.func 123) #[] #[]) rfl (by intro k hk; rcases (by omega : k = 0 ∨ k = 1) with rfl | rfl <;> rfl)).cell 0 (by omega)
      have y1 : (wr.alloc (.cells #[.int .i64 3, .func (.func 123) #[] #[]] 92)).cell? ⟨wr.heap.size, 1, none⟩ = some (.func (.func 123) #[] #[]) := (Ob.new wr #[.int .i64 3, .func (.func 123) #[] #[]] 92 2 (fun j => if j = 0 then .int .i64 3 else .func (.func 123) #[] #[]) rfl (by intro k hk; rcases (by omega : k = 0 ∨ k = 1) with rfl | rfl <;> rfl)).cell 1 (by omega)
      go_upto_region 7 with (first
        | (refine wpList_indexC rfl _ _ rfl #[.int .i64 1, .func (.func 120) #[] #[], .int .i64 2, .func (.func 121) #[] #[], .int .i64 3, .func (.func 123) #[] #[]] _ _ (.agg #[.int .i64 3, .func (.func 123) #[] #[]]) rfl rfl (by omega) (by omega) rfl ?_))
      obtain ⟨w4, hw4⟩ : ∃ w4, wr.alloc (.cells #[.int .i64 3, .func (.func 123) #[] #[]] 92) = w4 := ⟨_, rfl⟩
      rw [hw4] at b4 hs4 y0 y1 ⊢
      clear hw4
      have B4 := Lib.hid (BW.out.trans (b4.mono (by omega)))
      have HB4 := Lib.hid (HBB.out.trans (b4.mono hsz))
      have e0 := (HA.out.below HB4.out (by omega)).b0
      have e1 := (HA.out.below HB4.out (by omega)).b1
      have k0 := (HC.out.below HB4.out (by omega)).b0
      have k1 := (HC.out.below HB4.out (by omega)).b1
      have hs6 := Nat.le_antisymm_iff.1 hs4
      clear b4 hs4
      cases ht : kbB n F P f (chN n P F)
      · have HR := Lib.hid (show ckA n N F P K d F f L l = 3 from ck_no3 HCO.out HIB.out HC2.out ht)
        go_wp2_with (go_at_call 123; refine (cond3_any w4 _ n N F P lo hi (HV.out.below B4.out hhi) (by omega) _ K d la ha (HSV.out.below B4.out hha) _ f L l lp hp (HPR.out.below B4.out hhp) (by omega) hL9 HFR.out HBN.out).mono ?_; rintro e w5 ⟨rfl, b5⟩; rw [ht]; have y2 := (b5.cell (p := ⟨wr.heap.size, 0, none⟩) (by show wr.heap.size < _; omega)).trans y0; have z5 := b5.size)
        go_ret2
        exact ⟨ret_2 HR.out.symm HCO.out.symm, B4.out.trans (b5.mono (by omega))⟩
      · have HT := Lib.hid ht
        go_wp2_with (go_at_call 123; refine (cond3_any w4 _ n N F P lo hi (HV.out.below B4.out hhi) (by omega) _ K d la ha (HSV.out.below B4.out hha) _ f L l lp hp (HPR.out.below B4.out hhp) (by omega) hL9 HFR.out HBN.out).mono ?_; rintro e w5 ⟨rfl, b5⟩; rw [ht]; have y2 := (b5.cell (p := ⟨wr.heap.size, 0, none⟩) (by show wr.heap.size < _; omega)).trans y0; have z5 := b5.size)
        go_roundw
        case rel => exact ⟨3, by go_num, by omega, (fun _ => HIB.out), (fun _ => HC2.out), (fun _ => HT.out), by omega, HB4.out.trans (b5.mono (by omega))⟩
        case measure => simp [intOf]
    · have h1 := hf1 (by omega)
      have h2 := hf2 (by omega)
      have h3 := hf3 (by omega)
      have HR := Lib.hid (show ckA n N m P K d F f L l = 0 from ck_yes HCO.out h1 h2 h3)
      clear h1 h2 h3 hf1 hf2 hf3
      go_wp2_with fail
      go_ret2
      exact ⟨ret_2 HR.out.symm HCO.out.symm, BW.out⟩
set_option maxRecDepth 100000 in
set_option maxHeartbeats 8000000 in
theorem ckProofS_any (w : World) (v : Value) (n : Nat) (N : Nat → Nod) (m : Nat) (P : Nat → Pip) (lo hi : Nat) (h : NetAt w v n N m P lo hi) (hhi : hi ≤ w.heap.size) (hN : ∀ i, i < n → (N i).s.size ≤ 9223372036854775807) (va : Value) (K : Nat) (d : Nat → Int) (la ha : Nat) (hv : Sl w va K d la ha) (hha : ha ≤ w.heap.size) (hK9 : K ≤ 9223372036854775807) (vp : Value) (F : Nat) (f : Nat → Int) (L : Nat) (l : Nat → Int) (lp hp : Nat) (hpr : PrAt w vp F f L l lp hp) (hhp : hp ≤ w.heap.size) (hF9 : F ≤ 9223372036854775807) (hL9 : L ≤ 9223372036854775807) :
    Calls Tryz.prog 20 #[v, va, vp] w (IIPost w (ckA n N m P K d F f L l) (coC n N m P K d)) := by
  obtain ⟨p0, c0, p1, c1, rfl, hn9, hm9⟩ := h.parts
  obtain ⟨q0, d0, q1, d1, rfl⟩ := hpr.shape
  obtain ⟨sf, sl⟩ := hpr.two
  obtain ⟨pa, ca, rfl⟩ := hv.sh
  have HV := Lib.hid h
  have HPR := Lib.hid hpr
  have HF := Lib.hid sf
  have HL := Lib.hid sl
  have HSV := Lib.hid hv
  have HN := Lib.hid hN
  clear hN
  have A0 := (boxed w (.slice p0 n c0) (.slice p1 m c1) 27).keep (Below.heap_alloc _ (.cells #[.slice q0 F d0, .slice q1 L d1] 38) _ (by rw [szal]; omega))
  have C0 := boxed (w.alloc (.cells #[.slice p0 n c0, .slice p1 m c1] 27)) (.slice q0 F d0) (.slice q1 L d1) 38
  simp only [szal] at C0
  have B0 := (below_new w (.cells #[.slice p0 n c0, .slice p1 m c1] 27)).trans ((below_new _ (.cells #[.slice q0 F d0, .slice q1 L d1] 38)).mono (by rw [szal]; omega))
  have hs0 : ((w.alloc (.cells #[.slice p0 n c0, .slice p1 m c1] 27)).alloc (.cells #[.slice q0 F d0, .slice q1 L d1] 38)).heap.size = w.heap.size + 1 + 1 := by simp
  clear h hpr sf sl hv
  go_enter Tryz.func20, Tryz.ntmps20
  go_upto_region 1 with (fail)
  obtain ⟨w1, hw1⟩ : ∃ w1, (w.alloc (.cells #[.slice p0 n c0, .slice p1 m c1] 27)).alloc (.cells #[.slice q0 F d0, .slice q1 L d1] 38) = w1 := ⟨_, rfl⟩
  rw [hw1] at A0 C0 B0 hs0 ⊢
  clear hw1
  have hs1 := Nat.le_antisymm_iff.1 hs0
  clear hs0
  have e0 := A0.b0
  have e1 := A0.b1
  have k0 := C0.b0
  have k1 := C0.b1
  go_wp2_with fail
  refine (l12Code_any _ _ n N m P lo hi (HV.out.below B0 hhi) (by omega) HN.out _ K d la ha (HSV.out.below B0 hha) (by omega) hK9).mono ?_
  rintro e w2 ⟨rfl, b2⟩
  have A2 := A0.below b2 (by omega)
  have C2 := C0.below b2 (by omega)
  have B2 := B0.trans (b2.mono (by omega))
  have hs2 := b2.size
  have u2 : w.heap.size + 1 + 1 ≤ w2.heap.size := by omega
  clear A0 C0 B0 b2 hs2 e0 e1 k0 k1
  have e0 := A2.b0
  have e1 := A2.b1
  have k0 := C2.b0
  have k1 := C2.b1
  by_cases hc : coC n N m P K d = 0
  rotate_left 1
  · have hb1 : (coC n N m P K d != 0) = true := by simpa using hc
    have H3 := Lib.hid (show ckA n N m P K d F f L l = 0 by unfold ckA; rw [if_neg hc])
    clear hc
    go_wp2_with fail
    go_ret2
    exact ⟨ret_2 H3.out.symm rfl, B2⟩
  obtain ⟨hsv, hcon⟩ := coC_ok hc
  obtain ⟨hB, hone⟩ := conB_one hcon
  obtain ⟨_, hKn, _⟩ := svC_ok hsv
  subst hKn
  obtain ⟨hn1, hn24, hm40⟩ := net_sz hB
  have HIL := Lib.hid (ib_li (F := F) (f := f) hB hsv)
  have HBN := Lib.hid hB
  have HON := Lib.hid hone
  have HCO := Lib.hid hc
  rw [hc]
  clear hc hsv hcon hB hone
  cases hl : liB m F f
  · have HR := Lib.hid (show ckA K N m P K d F f L l = 1 from ck_no1 HCO.out (by rw [HIL.out, hl]; rfl))
    go_wp2_with (go_at_call 52; refine (l05List_any _ p0 p1 K m c0 c1 _ F f lp hp (HF.out.below B2 hhp) (by omega) hF9 hm9).mono ?_; rintro e w3 ⟨rfl, b3⟩; rw [hl])
    go_ret2
    exact ⟨ret_2 HR.out.symm HCO.out.symm, B2.trans (b3.mono (by omega))⟩
  obtain ⟨hFm, hfl⟩ := liB_iff.1 hl
  subst hFm
  have HFR := Lib.hid (show ∀ k, k < F → -30000 ≤ f k ∧ f k ≤ 30000 from fun k hk => flQ_iff.1 (flB_iff.1 hfl k hk))
  have HFLB := Lib.hid hfl
  clear hfl
  cases hs : smB (fun z => dv P f F ((z : Nat) : Int)) d K
  · have HSM := Lib.hid hs
    have HR := Lib.hid (show ckA K N F P K d F f L l = 1 from ck_no1 HCO.out (by rw [HIL.out, hl, hs]; rfl))
    clear hs
    go_wp2_with (first
      | (go_at_call 52; refine (l05List_any w2 p0 p1 K F c0 c1 _ F f lp hp (HF.out.below B2 hhp) (by omega) hF9 hm9).mono ?_; rintro e w3 ⟨rfl, b3⟩; rw [hl]; have B3 := B2.trans (b3.mono (by omega)); have A3 := A2.below b3 (by omega); have C3 := C2.below b3 (by omega); have z3 := b3.size; have x0 := A3.b0; have x1 := A3.b1; have x2 := C3.b0; have x3 := C3.b1)
      | (go_at_call 48; refine (l05Out_any w3 _ K N F P lo hi (HV.out.below B3 hhi) (by omega) HN.out HBN.out _ f lp hp (HF.out.below B3 hhp) (by omega) HFLB.out).mono ?_; rintro e w4 ⟨vo, go, rfl, ho, hgo, hgo2, b4⟩; obtain ⟨po, co, rfl⟩ := ho.sh; have z4 := b4.size; have B4 := B3.trans (b4.mono (by omega)))
      | (go_at_call 68; refine (l06Same_any w4 _ _ K (fun z => dv P f F ((z : Nat) : Int)) go (go + 1) ho d la ha (HSV.out.below B4 hha) hK9).mono ?_; rintro e w5 ⟨rfl, b5⟩; rw [HSM.out]; have z5 := b5.size; have B5 := B4.trans (b5.mono (by omega))))
    go_ret2
    exact ⟨ret_2 HR.out.symm HCO.out.symm, B5⟩
  have HSM := Lib.hid hs
  have HIB := Lib.hid (show ibB K N F P F f K d = true by rw [HIL.out, hl, hs]; rfl)
  clear hs
  go_wp2_with (first
    | (go_at_call 52; refine (l05List_any w2 p0 p1 K F c0 c1 _ F f lp hp (HF.out.below B2 hhp) (by omega) hF9 hm9).mono ?_; rintro e w3 ⟨rfl, b3⟩; rw [hl]; have B3 := B2.trans (b3.mono (by omega)); have A3 := A2.below b3 (by omega); have C3 := C2.below b3 (by omega); have z3 := b3.size; have x0 := A3.b0; have x1 := A3.b1; have x2 := C3.b0; have x3 := C3.b1)
    | (go_at_call 48; refine (l05Out_any w3 _ K N F P lo hi (HV.out.below B3 hhi) (by omega) HN.out HBN.out _ f lp hp (HF.out.below B3 hhp) (by omega) HFLB.out).mono ?_; rintro e w4 ⟨vo, go, rfl, ho, hgo, hgo2, b4⟩; obtain ⟨po, co, rfl⟩ := ho.sh; have z4 := b4.size; have B4 := B3.trans (b4.mono (by omega)))
    | (go_at_call 68; refine (l06Same_any w4 _ _ K (fun z => dv P f F ((z : Nat) : Int)) go (go + 1) ho d la ha (HSV.out.below B4 hha) hK9).mono ?_; rintro e w5 ⟨rfl, b5⟩; rw [HSM.out]; have z5 := b5.size; have B5 := B4.trans (b5.mono (by omega))))
  have A5 := (A3.below b4 (by omega)).below b5 (by omega)
  have C5 := (C3.below b4 (by omega)).below b5 (by omega)
  have HB5 := Lib.hid B5
  have HA5 := Lib.hid A5
  have HC5 := Lib.hid C5
  have u5 : w.heap.size + 1 + 1 ≤ w5.heap.size := by omega
  clear A2 C2 B2 A3 C3 B3 b3 ho b4 B4 b5 B5 x0 x1 x2 x3 e0 e1 k0 k1 hl
  have e0 := HA5.out.b0
  have e1 := HA5.out.b1
  have k0 := HC5.out.b0
  have k1 := HC5.out.b1
  clear A5 C5
  have n0 : w.heap.size < w5.heap.size := by omega
  have n1 : w.heap.size + 1 < w5.heap.size := by omega
  have K0 : Below w5.heap.size w5 w5.drew := below_drw (Below.refl _ _)
  have HAL := Lib.hid (fun (W : World) (hW : Below w5.heap.size w5 W) => l12Levels_any W p0 p1 K F c0 c1 _ L l lp hp (HL.out.below (HB5.out.trans (hW.mono (by omega))) hhp) (by have := hW.size; omega) hL9 hn9)
  cases hal : alB K L l
  · have g0 := range2 e0 e1
    have KS : ∀ W : World, Below w5.heap.size w5 W → (Below w5.heap.size w5 W ∧ W.rangeAt w.heap.size 0 [.slice p0 K c0, .slice p1 F c1] ∧ W.cell? ⟨w.heap.size + 1, 1, none⟩ = some (.slice q1 L d1)) := fun W hW => ⟨hW, range_blockN g0 (hW.block _ n0), (hW.cell (p := ⟨w.heap.size + 1, 1, none⟩) n1).trans k1⟩
    have nN : (Tryz.prog.info? 27).map (·.size) = some 2 := by kernel_rfl
    have UN := Tryz.underlying27
    have HR := Lib.hid (show c2B K F P f L l = false by unfold c2B; rw [hal, Bool.false_and])
    refine wp_region_noPanic ?_
    refine wp_region_held_drew (S := fun w' : World => Below w5.heap.size w5 w' ∧ w'.rangeAt w.heap.size 0 [.slice p0 K c0, .slice p1 F c1] ∧ w'.cell? ⟨w.heap.size + 1, 1, none⟩ = some (.slice q1 L d1)) (by kernel_rfl) (KS _ (below_drw (Below.refl _ _))) (fun sH => ?_)
    refine wpAnyH_take (i := 0) (v := .agg ([.slice p0 K c0, .slice p1 F c1]).toArray) nthe0 (by kernel_rfl) (by kernel_rfl) (by kernel_rfl) (fun _ _ _ h => h) (yieldsIf_load_mid (by rfl) _ _ rfl w.heap.size 0 rfl ([.slice p0 K c0, .slice p1 F c1]) _ (fun _ h => h.2.1) UN rfl (by exact nN)) sH ?_
    try simp only [Act.put, List.setIfInBounds_toArray, List.set_cons_zero, List.set_cons_succ]
    refine wpAnyH_take (i := 1) (v := ?_) nthe1 (by kernel_rfl) (by kernel_rfl) (by kernel_rfl) (fun _ _ _ h => h) (Or.inl ⟨by rfl, ?_⟩) sH ?_
    rotate_left
    · intro wS hSw; (try dsimp only at hSw); go_simp; try with_reducible rfl
    try simp only [Act.put, List.setIfInBounds_toArray, List.set_cons_zero, List.set_cons_succ]
    refine wpAnyH_take (i := 2) (v := ?_) nthe2 (by kernel_rfl) (by kernel_rfl) (by kernel_rfl) (fun _ _ _ h => h) (Or.inl ⟨by rfl, ?_⟩) sH ?_
    rotate_left
    · intro wS hSw; (try dsimp only at hSw); go_simp; try with_reducible rfl
    try simp only [Act.put, List.setIfInBounds_toArray, List.set_cons_zero, List.set_cons_succ]
    refine wpAnyH_ready (rs := [3]) (by kernel_rfl) (by simp) (AllReadyH.cons nthe3 (fun KON hKON => ?_) AllReadyH.nil)
    clear sH
    go_simp
    refine (HAL.out _ (below_drw (Below.refl _ _))).mono ?_
    rintro e wX ⟨rfl, hbX⟩
    rw [hal]
    have KX : Below w5.heap.size w5 wX := (below_drw (Below.refl _ _)).trans (hbX.mono (Nat.le_refl _))
    refine hKON.out _ _ (KS _ KX) (fun sH => ?_)
    clear hKON KON
    try simp only [Act.put, List.setIfInBounds_toArray, List.set_cons_zero, List.set_cons_succ]
    refine wpAnyH_take (i := 4) (v := ?_) nthe4 (by kernel_rfl) (by kernel_rfl) (by kernel_rfl) (fun _ _ _ h => h) (Or.inl ⟨by rfl, ?_⟩) sH ?_
    rotate_left
    · intro wS hSw; (try dsimp only at hSw); go_simp; try with_reducible rfl
    try simp only [Act.put, List.setIfInBounds_toArray, List.set_cons_zero, List.set_cons_succ]
    refine wpAnyH_take (i := 5) (v := ?_) nthe5 (by kernel_rfl) (by kernel_rfl) (by kernel_rfl) (fun _ _ _ h => h) (Or.inl ⟨by rfl, ?_⟩) sH ?_
    rotate_left
    · intro wS hSw; (try dsimp only at hSw); go_simp; try with_reducible rfl
    try simp only [Act.put, List.setIfInBounds_toArray, List.set_cons_zero, List.set_cons_succ]
    refine wpAnyH_take (i := 6) (v := undef) nthe6 (by kernel_rfl) (by kernel_rfl) (by kernel_rfl) (fun _ _ _ h => h) (Or.inr ⟨by rfl, rfl⟩) sH ?_
    try simp only [Act.put, List.setIfInBounds_toArray, List.set_cons_zero, List.set_cons_succ]
    refine wpAnyH_take (i := 7) (v := undef) nthe7 (by kernel_rfl) (by kernel_rfl) (by kernel_rfl) (fun _ _ _ h => h) (Or.inr ⟨by rfl, rfl⟩) sH ?_
    try simp only [Act.put, List.setIfInBounds_toArray, List.set_cons_zero, List.set_cons_succ]
    refine wpAnyH_take (i := 8) (v := undef) nthe8 (by kernel_rfl) (by kernel_rfl) (by kernel_rfl) (fun _ _ _ h => h) (Or.inr ⟨by rfl, rfl⟩) sH ?_
    try simp only [Act.put, List.setIfInBounds_toArray, List.set_cons_zero, List.set_cons_succ]
    refine wpAnyH_take (i := 9) (v := undef) nthe9 (by kernel_rfl) (by kernel_rfl) (by kernel_rfl) (fun _ _ _ h => h) (Or.inr ⟨by rfl, rfl⟩) sH ?_
    try simp only [Act.put, List.setIfInBounds_toArray, List.set_cons_zero, List.set_cons_succ]
    refine wpAnyH_take (i := 10) (v := undef) nthe10 (by kernel_rfl) (by kernel_rfl) (by kernel_rfl) (fun _ _ _ h => h) (Or.inr ⟨by rfl, rfl⟩) sH ?_
    try simp only [Act.put, List.setIfInBounds_toArray, List.set_cons_zero, List.set_cons_succ]
    refine wpAnyH_take (i := 11) (v := undef) nthe11 (by kernel_rfl) (by kernel_rfl) (by kernel_rfl) (fun _ _ _ h => h) (Or.inr ⟨by rfl, rfl⟩) sH ?_
    try simp only [Act.put, List.setIfInBounds_toArray, List.set_cons_zero, List.set_cons_succ]
    refine wpAnyH_take (i := 12) (v := undef) nthe12 (by kernel_rfl) (by kernel_rfl) (by kernel_rfl) (fun _ _ _ h => h) (Or.inr ⟨by rfl, rfl⟩) sH ?_
    try simp only [Act.put, List.setIfInBounds_toArray, List.set_cons_zero, List.set_cons_succ]
    refine wpAnyH_take (i := 13) (v := undef) nthe13 (by kernel_rfl) (by kernel_rfl) (by kernel_rfl) (fun _ _ _ h => h) (Or.inr ⟨by rfl, rfl⟩) sH ?_
    try simp only [Act.put, List.setIfInBounds_toArray, List.set_cons_zero, List.set_cons_succ]
    refine wpAnyH_take (i := 14) (v := undef) nthe14 (by kernel_rfl) (by kernel_rfl) (by kernel_rfl) (fun _ _ _ h => h) (Or.inr ⟨by rfl, rfl⟩) sH ?_
    try simp only [Act.put, List.setIfInBounds_toArray, List.set_cons_zero, List.set_cons_succ]
    refine wpAnyH_take (i := 15) (v := undef) nthe15 (by kernel_rfl) (by kernel_rfl) (by kernel_rfl) (fun _ _ _ h => h) (Or.inr ⟨by rfl, rfl⟩) sH ?_
    try simp only [Act.put, List.setIfInBounds_toArray, List.set_cons_zero, List.set_cons_succ]
    refine wpAnyH_take (i := 16) (v := undef) nthe16 (by kernel_rfl) (by kernel_rfl) (by kernel_rfl) (fun _ _ _ h => h) (Or.inr ⟨by rfl, rfl⟩) sH ?_
    try simp only [Act.put, List.setIfInBounds_toArray, List.set_cons_zero, List.set_cons_succ]
    refine wpAnyH_take (i := 17) (v := undef) nthe17 (by kernel_rfl) (by kernel_rfl) (by kernel_rfl) (fun _ _ _ h => h) (Or.inr ⟨by rfl, rfl⟩) sH ?_
    try simp only [Act.put, List.setIfInBounds_toArray, List.set_cons_zero, List.set_cons_succ]
    refine wpAnyH_take (i := 18) (v := ?_) nthe18 (by kernel_rfl) (by kernel_rfl) (by kernel_rfl) (fun _ _ _ h => h) (Or.inl ⟨by rfl, ?_⟩) sH ?_
    rotate_left
    · intro wS hSw; (try dsimp only at hSw); go_simp; try with_reducible rfl
    try simp only [Act.put, List.setIfInBounds_toArray, List.set_cons_zero, List.set_cons_succ]
    refine wpAnyH_take (i := 19) (v := ?_) nthe19 (by kernel_rfl) (by kernel_rfl) (by kernel_rfl) (fun _ _ _ h => h) (Or.inl ⟨by rfl, ?_⟩) sH ?_
    rotate_left
    · intro wS hSw; (try dsimp only at hSw); go_simp; try with_reducible rfl
    try simp only [Act.put, List.setIfInBounds_toArray, List.set_cons_zero, List.set_cons_succ]
    refine wpAnyH_done (by kernel_rfl) ?_ _
    refine NoPanic.normal ?_
    have HQ := Lib.hid (show ckA K N F P K d F f L l = 2 from ck_no2 HCO.out HIB.out (by first | exact HR.out | exact h2))
    go_wp2_with fail
    go_ret2
    exact ⟨ret_2 HQ.out.symm HCO.out.symm, HB5.out.trans (KX.mono (by omega))⟩
  · obtain ⟨hLn, hlr⟩ := alB_iff.1 hal
    subst hLn
    have HLR := Lib.hid hlr
    obtain ⟨_, _, eel, hcl⟩ := (HL.out.below HB5.out hhp).ex
    injection eel with ee1 _ ee3
    subst ee1 ee3
    obtain ⟨bl, ol, rfl, _, hbl, hxl⟩ : ∃ b o, q1 = some ⟨b, o, none⟩ ∧ lp ≤ b ∧ b < hp ∧ ∀ k, k < L → w5.cell? ⟨b, o + k, none⟩ = some (.int .i64 (l k)) := by
      rcases hcl with e | e
      · omega
      · exact e
    have t0 : w5.cell? ⟨bl, ol, none⟩ = some (.int .i64 (l 0)) := hxl 0 (by omega)
    have hLp : 0 < L := by omega
    have hLpi : (0 : Int) < (L : Int) := by omega
    have hl0 := hlr 0 (by omega)
    have n2 : bl < w5.heap.size := by omega
    clear hcl hxl hlr
    have KS : ∀ W : World, Below w5.heap.size w5 W → (W.cell? ⟨w.heap.size, 0, none⟩ = some (.slice p0 L c0) ∧ W.cell? ⟨w.heap.size, 1, none⟩ = some (.slice p1 F c1) ∧ W.cell? ⟨w.heap.size + 1, 0, none⟩ = some (.slice q0 F d0) ∧ W.cell? ⟨w.heap.size + 1, 1, none⟩ = some (.slice (some ⟨bl, ol, none⟩) L d1) ∧ W.cell? ⟨bl, ol, none⟩ = some (.int .i64 (l 0))) := fun W hW => ⟨(hW.cell (p := ⟨w.heap.size, 0, none⟩) n0).trans e0, (hW.cell (p := ⟨w.heap.size, 1, none⟩) n0).trans e1, (hW.cell (p := ⟨w.heap.size + 1, 0, none⟩) n1).trans k0, (hW.cell (p := ⟨w.heap.size + 1, 1, none⟩) n1).trans k1, (hW.cell (p := ⟨bl, ol, none⟩) n2).trans t0⟩
    have HFL := Lib.hid (fun (W : World) (hW : Below w5.heap.size w5 W) => l07Levels_any W _ L N F P lo hi (HV.out.below (HB5.out.trans (hW.mono (by omega))) hhi) (by have := hW.size; omega) HN.out HBN.out HON.out _ f lp hp (HF.out.below (HB5.out.trans (hW.mono (by omega))) hhp) (by have := hW.size; omega) HFR.out 0 (by omega) (l 0) hl0.1 hl0.2)
    have HR := Lib.hid (show c2B L F P f L l = smB l (fun j => lvl L P F f ((0 : Nat) : Int) (l 0) (j : Nat)) L by unfold c2B; rw [hal, Bool.true_and])
    have hn9' : L ≤ 9223372036854775807 := hL9
    cases h2 : c2B L F P f L l
    · go_region_held3 (fun W : World => W.cell? ⟨w.heap.size, 0, none⟩ = some (.slice p0 L c0) ∧ W.cell? ⟨w.heap.size, 1, none⟩ = some (.slice p1 F c1) ∧ W.cell? ⟨w.heap.size + 1, 0, none⟩ = some (.slice q0 F d0) ∧ W.cell? ⟨w.heap.size + 1, 1, none⟩ = some (.slice (some ⟨bl, ol, none⟩) L d1) ∧ W.cell? ⟨bl, ol, none⟩ = some (.int .i64 (l 0))) (first | exact ⟨e0, e1, k0, k1, t0⟩ | exact KS _ KZ | exact KS _ KY | exact KS _ KX)
        (first
          | (go_at_call 69; refine (HAL.out _ K0).mono ?_; rintro e wX ⟨rfl, hbX⟩; rw [hal]; have KX := K0.trans (hbX.mono K0.size); clear hbX)
          | (go_at_call 65; refine (HFL.out _ KX).mono ?_; rintro e wY ⟨v9, g, rfl, OY, hgY, hbY⟩; obtain ⟨cg, rfl⟩ := OY.shape; have KY := KX.trans (hbY.mono KX.size); clear hbY)
          | (go_at_call 68; refine (sameL_any _ _ _ L (fun j => lvl L P F f ((0 : Nat) : Int) (l 0) (j : Nat)) _ _ OY.sl L l lp hp (HL.out.below (HB5.out.trans (KY.mono (by omega))) hhp) hL9 hL9).mono ?_; rintro e wZ ⟨rfl, hbZ⟩; rw [show eqLB L (fun j => lvl L P F f ((0 : Nat) : Int) (l 0) (j : Nat)) L l = c2B L F P f L l by rw [HR.out, smB_comm]; unfold eqLB; rw [decide_eq_true rfl, Bool.true_and]]; rw [h2]; have KZ := KY.trans (hbZ.mono KY.size); clear hbZ))
      have HQ := Lib.hid (show ckA L N F P L d F f L l = 2 from ck_no2 HCO.out HIB.out (by first | exact HR.out | exact h2))
      go_wp2_with fail
      go_ret2
      exact ⟨ret_2 HQ.out.symm HCO.out.symm, HB5.out.trans (KZ.mono (by omega))⟩
    · go_region_held3 (fun W : World => W.cell? ⟨w.heap.size, 0, none⟩ = some (.slice p0 L c0) ∧ W.cell? ⟨w.heap.size, 1, none⟩ = some (.slice p1 F c1) ∧ W.cell? ⟨w.heap.size + 1, 0, none⟩ = some (.slice q0 F d0) ∧ W.cell? ⟨w.heap.size + 1, 1, none⟩ = some (.slice (some ⟨bl, ol, none⟩) L d1) ∧ W.cell? ⟨bl, ol, none⟩ = some (.int .i64 (l 0))) (first | exact ⟨e0, e1, k0, k1, t0⟩ | exact KS _ KZ | exact KS _ KY | exact KS _ KX)
        (first
          | (go_at_call 69; refine (HAL.out _ K0).mono ?_; rintro e wX ⟨rfl, hbX⟩; rw [hal]; have KX := K0.trans (hbX.mono K0.size); clear hbX)
          | (go_at_call 65; refine (HFL.out _ KX).mono ?_; rintro e wY ⟨v9, g, rfl, OY, hgY, hbY⟩; obtain ⟨cg, rfl⟩ := OY.shape; have KY := KX.trans (hbY.mono KX.size); clear hbY)
          | (go_at_call 68; refine (sameL_any _ _ _ L (fun j => lvl L P F f ((0 : Nat) : Int) (l 0) (j : Nat)) _ _ OY.sl L l lp hp (HL.out.below (HB5.out.trans (KY.mono (by omega))) hhp) hL9 hL9).mono ?_; rintro e wZ ⟨rfl, hbZ⟩; rw [show eqLB L (fun j => lvl L P F f ((0 : Nat) : Int) (l 0) (j : Nat)) L l = c2B L F P f L l by rw [HR.out, smB_comm]; unfold eqLB; rw [decide_eq_true rfl, Bool.true_and]]; rw [h2]; have KZ := KY.trans (hbZ.mono KY.size); clear hbZ))
      have H2T := Lib.hid h2
      have HB6 := Lib.hid (HB5.out.trans (KZ.mono (by omega)))
      have z6 := KZ.size
      obtain ⟨f0, f1, g0, g1, _⟩ := KS _ KZ
      clear KS KX KY e0 e1 k0 k1 t0
      cases h3 : kbB L F P f (chN L P F)
      all_goals
        go_wp2_with (go_at_call 70; refine (l12Small_any wZ _ L N F P lo hi (HV.out.below HB6.out hhi) (by omega) HN.out HBN.out _ f lp hp (HF.out.below HB6.out hhp) (by omega) HFR.out).mono ?_; rintro e w7 ⟨rfl, b7⟩; rw [h3])
        go_ret2
        exact ⟨ret_2 (by first | exact (ck_no3 HCO.out HIB.out H2T.out h3).symm | exact (ck_yes HCO.out HIB.out H2T.out h3).symm) HCO.out.symm, HB6.out.trans (b7.mono (by omega))⟩

end Go.Proofs.YtdbgcbkmcbgdiaaGreat.mem

namespace Go.Proofs.YtdbgcbkmcbgdiaaGreat.draw
open Go.RowKit
set_option linter.unusedVariables false

theorem next_any (w : World) (b B : Nat) (cv : Value) (len : Nat) (i s n : Int) (h : Src w b cv len i s) (hc : CodeAt w cv len B) (hB : B ≤ b) (hn2 : n ≤ 9223372036854775807) :
    Calls Tryz.prog 41 #[.pointer (some ⟨b, 0, none⟩), .int .i64 n] w (NextPost w b cv len n) := by
  by_cases hn : n ≤ 1
  · exact next_small w b cv len i s n h hn
  · exact next_big w b B cv len i s n h hc hB (by omega) hn2

theorem codeAt_below {w w' : World} {cv : Value} {len B : Nat} (h : CodeAt w cv len B) (hb : Below B w w') : CodeAt w' cv len B := by
  rcases h with h | ⟨cb, co, cap, h1, h2, h3, h4⟩
  · exact .inl h
  · refine .inr ⟨cb, co, cap, h1, h2, h3, fun k hk => ?_⟩
    obtain ⟨x, hx, hc⟩ := h4 k hk
    exact ⟨x, hx, (hb.cell (p := ⟨cb, co + k, none⟩) h2).trans hc⟩

def FromPost (w : World) (cv : Value) (len : Nat) (e : Ending) (w' : World) : Prop :=
  ∃ s : Int, e = .returned (.pointer (some ⟨w.heap.size, 0, none⟩)) ∧ Src w' w.heap.size cv len 0 s ∧ Below w.heap.size w w' ∧ w'.heap.size = w.heap.size + 1

theorem src_new (w : World) (cv : Value) (len : Nat) (s : Int) (s0 : 0 ≤ s) (s1 : s < 2147483647) : Src (w.alloc (.cells #[cv, .int .i64 0, .int .i64 s] 106)) w.heap.size cv len 0 s := by
  constructor <;> first | omega | (go_simp; done)

def FromRel (w : World) (cv : Value) (len : Nat) (i : Value) (wr : World) : Prop :=
  ∃ (k : Nat) (s : Int), i = .int .i64 k ∧ k ≤ len ∧ k ≤ 64 ∧ Src wr w.heap.size cv len 0 s ∧ Below w.heap.size w wr ∧ wr.heap.size = w.heap.size + 1

theorem below_new (w : World) (o : Obj) : Below w.heap.size w (w.alloc o) := (Below.refl _ _).alloc (Nat.le_refl _) o

theorem seed_bd {s : Int} {x : Nat} (h0 : 0 ≤ s) (h1 : s < 2147483647) : 0 ≤ (s * 41 + x) % 2147483647 ∧ (s * 41 + x) % 2147483647 < 2147483647 := by omega

set_option maxHeartbeats 1000000 in
theorem from_any (w : World) (cv : Value) (len : Nat) (hc : CodeAt w cv len w.heap.size) :
    Calls Tryz.prog 38 #[cv] w (FromPost w cv len) := by
  have hC := Lib.hid hc
  rcases hc with ⟨p0, cap0, rfl, rfl⟩ | ⟨cb, co, cap, rfl, hcb, hlen, hcells⟩
  · go_enter Tryz.func38, Tryz.ntmps38
    go_wp2
    go_loopw [4] (fun i wr => FromRel w (.slice p0 0 cap0) 0 i wr) (fun i _ => 64 - (intOf i).toNat)
    case atStart => exact ⟨0, _, rfl, by omega, by omega, src_new w _ 0 _ (by omega) (by omega), below_new _ _, by simp⟩
    case round =>
      obtain ⟨k, s, rfl, hk, hk2, hsrc, hbel, hsz⟩ := hrel
      obtain rfl : k = 0 := by omega
      have hsz' := Lib.hid hsz
      clear hsz
      go_wp2
      go_ret
      exact ⟨s, rfl, hsrc, hbel, hsz'.out⟩
  · have hC2 := Lib.hid hcells
    clear hcells
    go_enter Tryz.func38, Tryz.ntmps38
    go_wp2
    go_loopw [4] (fun i wr => FromRel w (.slice (some ⟨cb, co, none⟩) len cap) len i wr) (fun i _ => 64 - (intOf i).toNat)
    case atStart => exact ⟨0, _, rfl, by omega, by omega, src_new w _ _ _ (by omega) (by omega), below_new _ _, by simp⟩
    case round =>
      obtain ⟨k, s, rfl, hk, hk2, hsrc, hbel, hsz⟩ := hrel
      have hS := Lib.hid hsrc
      have hsz' := Lib.hid hsz
      obtain ⟨c0, c1, c2, f1, f2, i0, i1, s0, s1⟩ := hsrc
      by_cases hlt : k < len
      · by_cases h64 : k < 64
        · obtain ⟨x, hx, hcell0⟩ := hC2.out k hlt
          have hcell := (hbel.cell (p := ⟨cb, co + k, none⟩) hcb).trans hcell0
          have hsb := seed_bd (x := x) s0 s1
          clear hcell0 hsz
          go_wp2
          go_region
          go_wp2
          go_roundw
          case rel => exact ⟨k + 1, _, by go_num, by omega, by omega, src_drawn (src_step hS.out _ hsb.1 hsb.2) 1, (hbel.setCell (Nat.le_refl _) _).drew, by rw [← hsz'.out]; simp [World.setCell]⟩
          case measure => simp [intOf]; omega
        · clear hsz
          go_wp2
          go_ret
          exact ⟨s, rfl, hS.out, hbel, hsz'.out⟩
      · clear hsz
        go_wp2
        go_ret
        exact ⟨s, rfl, hS.out, hbel, hsz'.out⟩

/-- what a draw leaves: nothing that was there has turned -/
theorem only_below {b B : Nat} {w w' : World} (h : Only b w w') (hB : B ≤ b) : Below B w w' :=
  ⟨h.os, h.tape, h.output, by rw [h.size]; exact Nat.le_refl _, fun k hk => h.block k (by omega)⟩
theorem src_alloc {w : World} {b : Nat} {cv : Value} {len : Nat} {i s : Int} (h : Src w b cv len i s) (hb : b < w.heap.size) (o : Obj) : Src (w.alloc o) b cv len i s :=
  src_only (c := b) h (fun a ha => Below.heap_alloc _ _ _ (by omega))
theorem src_lt {w : World} {b : Nat} {cv : Value} {len : Nat} {i s : Int} (h : Src w b cv len i s) : b < w.heap.size := World.block_lt_of_cell? w _ h.c0

end Go.Proofs.YtdbgcbkmcbgdiaaGreat.draw

namespace Go.Proofs.YtdbgcbkmcbgdiaaGreat.text
open Go.RowKit
set_option linter.unusedVariables false

def StrPost (w : World) (l : List UInt8) (e : Ending) (w' : World) : Prop := e = .returned (.string ⟨l.toArray⟩) ∧ Below w.heap.size w w'

theorem conv1 (W : World) (x : Int) (y : UInt8) (hy : (y.toNat : Int) = x) :
    Sem.run Tryz.prog (convert 22 9 (.slice (some ⟨W.heap.size, 0, none⟩) 1 1)) (W.alloc (.cells #[.int .u8 x] 5)) = .ok (.string ⟨#[y]⟩) (W.alloc (.cells #[.int .u8 x] 5)) := by
  refine run_convert_bytes_back _ 22 9 5 _ 1 [y] Tryz.underlying22 Tryz.underlying5 Tryz.underlying9 ?_
  intro j hj
  have : j = 0 := by simpa using hj
  subst this
  have e := heap_alloc_new W (.cells #[.int .u8 x] 5)
  simp only [World.cell?, Addr.add, if_true, e]
  simp [hy]
theorem conv1d (W : World) (x : Int) (y : UInt8) (hy : (y.toNat : Int) = x) :
    Sem.run Tryz.prog (convert 22 9 (.slice (some ⟨W.heap.size, 0, none⟩) 1 1)) (W.alloc (.cells #[.int .u8 x] 5)).drew = .ok (.string ⟨#[y]⟩) (W.alloc (.cells #[.int .u8 x] 5)).drew := conv1 W.drew x y hy

theorem conv_at (W : World) (g : Nat) (x : Int) (y : UInt8) (hy : (y.toNat : Int) = x) (hc : W.cell? ⟨g, 0, none⟩ = some (.int .u8 x)) :
    Sem.run Tryz.prog (convert 22 9 (.slice (some ⟨g, 0, none⟩) 1 1)) W = .ok (.string ⟨#[y]⟩) W := by
  refine run_convert_bytes_back _ 22 9 5 _ 1 [y] Tryz.underlying22 Tryz.underlying5 Tryz.underlying9 ?_
  intro j hj
  have : j = 0 := by simpa using hj
  subst this
  simp only [Addr.add, if_true, hc]
  simp [hy]
theorem below_new_cell {w w1 : World} {v : Value} {t : TypeId} (hb : Below (w.alloc (.cells #[v] t)).drew.heap.size (w.alloc (.cells #[v] t)).drew w1) : w1.cell? ⟨w.heap.size, 0, none⟩ = some v := by
  have e := hb.block w.heap.size (by simp [World.drew])
  have e2 := heap_alloc_new w (.cells #[v] t)
  have e3 : w1.heap[w.heap.size]? = some (.cells #[v] t) := e.trans e2
  simp [World.cell?, e3]

theorem below_b {w w1 : World} {o : Obj} (hb : Below (w.alloc o).drew.heap.size (w.alloc o).drew w1) : Below w.heap.size w w1 :=
  (((Below.refl _ w).alloc (Nat.le_refl _) o).drew).trans (hb.mono (by simp [World.drew]))
theorem below_a {w w1 : World} (hb : Below w.drew.heap.size w.drew w1) : Below w.heap.size w w1 := ⟨hb.os, hb.tape, hb.output, hb.size, hb.block⟩
theorem ret_str {a b : ByteArray} (h : a = b) : Ending.returned (.string a) = .returned (.string b) := by rw [h]
theorem cat1 (l : List UInt8) (y : UInt8) : (ByteArray.mk l.toArray ++ ByteArray.mk #[y]) = ByteArray.mk (l ++ [y]).toArray := ByteArray.mk_append_mk l [y]

/-- a digit's byte -/
def digU (n : Nat) : UInt8 := UInt8.ofNat (48 + n)
theorem digit_nat {n : Nat} (h : n < 10) : ((digU n).toNat : Int) = 48 + (n : Int) := by
  unfold digU
  rw [UInt8.toNat_ofNat']
  omega
theorem nDigits_le : ∀ (k u : Nat), u < 10 ^ (k + 1) → Lib.nDigits u ≤ k + 1
  | 0, u, h => by rw [Lib.nDigits_small (by simpa using h)]; omega
  | k + 1, u, h => by
    by_cases hu : u < 10
    · rw [Lib.nDigits_small hu]; omega
    · rw [Lib.nDigits_big hu]
      have := nDigits_le k (u / 10) (by rw [Nat.pow_succ] at h; omega)
      omega
theorem dec_length (u : Nat) (h : u ≤ 9223372036854775807) : (Lib.decDigits u).length ≤ 19 := by
  rw [Lib.decDigits_length]
  exact nDigits_le 18 u (by omega)
set_option maxRecDepth 100000 in
set_option maxHeartbeats 1000000 in
theorem dec_any (k : Nat) : ∀ (n : Nat) (w : World), n ≤ k → n ≤ 9223372036854775807 → Calls Tryz.prog 178 #[.int .i64 n] w (StrPost w (Lib.decDigits n)) := by
  induction k with
  | zero =>
    intro n w h1 h2
    have hn : (n : Int) < 10 := by omega
    have kc := fun W => conv1 W (48 + (n : Int)) _ (digit_nat (n := n) (by omega))
    go_enter Tryz.func178, Tryz.ntmps178
    go_wp2_with fail
    go_ret
    exact ⟨by rw [Lib.decDigits_one (by omega)]; rfl, (Below.refl _ _).alloc (Nat.le_refl _) _⟩
  | succ k ih =>
    intro n w h1 h2
    by_cases hn : (n : Int) < 10
    · have kc := fun W => conv1 W (48 + (n : Int)) _ (digit_nat (n := n) (by omega))
      go_enter Tryz.func178, Tryz.ntmps178
      go_wp2_with fail
      go_ret
      exact ⟨by rw [Lib.decDigits_one (by omega)]; rfl, (Below.refl _ _).alloc (Nat.le_refl _) _⟩
    · have IH := Lib.hid ih
      clear ih
      obtain ⟨q, hq⟩ : ∃ q : Nat, q = n / 10 := ⟨_, rfl⟩
      obtain ⟨r, hr⟩ : ∃ r : Nat, r = n % 10 := ⟨_, rfl⟩
      have hd : Hid (Lib.decDigits n = Lib.decDigits q ++ [digU r]) := by
        show _ = _
        rw [Lib.decDigits, dif_neg (by omega), hq, hr]; rfl
      have hr10 : r < 10 := by omega
      have hqk : q ≤ k := by omega
      have hq2 : q ≤ 9223372036854775807 := by omega
      have kc := fun W => conv1 W (48 + (r : Int)) _ (digit_nat hr10)
      have kcd := fun W => conv1d W (48 + (r : Int)) _ (digit_nat hr10)
      have q1 : IntKind.i64.wrap ((n : Int) / 10) = (q : Int) := by rw [IntWalk.i64_in _ (by omega)]; omega
      have q2 : (n : Int).tmod 10 = (r : Int) := by rw [Int.tmod_eq_emod_of_nonneg (by omega)]; omega
      have q3 : IntKind.i64.wrap (48 + (r : Int)) = 48 + (r : Int) := IntWalk.i64_in _ (by omega)
      have q4 : IntKind.u8.wrap (48 + (r : Int)) = 48 + (r : Int) := by
        unfold IntKind.wrap
        simp [IntKind.signed, IntKind.bits]
        omega
      have hlen := dec_length q hq2
      clear hq hr
      go_enter Tryz.func178, Tryz.ntmps178
      go_wp2_with fail
      go_region_with (go_at_call 178; refine (IH.out q _ hqk hq2).mono ?_; rintro e w1 ⟨rfl, hb1⟩; (first | have kx := conv_at w1 w.heap.size _ _ (digit_nat hr10) (below_new_cell hb1) | skip); (first | have hB : Below w.heap.size w w1 := below_b hb1 | have hB : Below w.heap.size w w1 := below_a hb1); clear hb1)
      all_goals go_wp2
      all_goals go_ret
      all_goals first | exact ⟨ret_str (by rw [hd.out, ← cat1]), by assumption⟩ | exact ⟨ret_str (by rw [hd.out, ← cat1]), Below.alloc (by assumption) (Below.size (by assumption)) _⟩
end Go.Proofs.YtdbgcbkmcbgdiaaGreat.text

namespace Go.Proofs.YtdbgcbkmcbgdiaaGreat.draw
open Go.RowKit
set_option linter.unusedVariables false

end Go.Proofs.YtdbgcbkmcbgdiaaGreat.draw

namespace Go.Proofs.YtdbgcbkmcbgdiaaGreat.draw
open Go.RowKit
set_option linter.unusedVariables false

theorem upd_of {b : Nat} {w w' : World} (h : Only b w w') : mem.Upd (· = b) w w' := ⟨h.os, h.tape, h.output, Nat.le_of_eq h.size, fun k _ hx => h.block k hx⟩
theorem src_upd {w w' : World} {b : Nat} {cv : Value} {len : Nat} {i s : Int} (h : Src w b cv len i s) (e : w'.heap[b]? = w.heap[b]?) : Src w' b cv len i s :=
  src_only (c := b) h (fun a ha => by rw [ha]; exact e)
theorem codeAt_upd {w w' : World} {cv : Value} {len B : Nat} (h : CodeAt w cv len B) (g : mem.Upd (fun x => B ≤ x) w w') (hB : B ≤ w.heap.size) : CodeAt w' cv len B :=
  codeAt_below h (g.below hB (fun k _ e => e))
theorem upd_own {X : Nat → Prop} {g : Nat} {w w1 w2 : World} (h : mem.Upd X w w1) (k : mem.Only g w1 w2) (hg : w.heap.size ≤ g) : mem.Upd X w w2 :=
  ⟨k.os.trans h.os, k.tape.trans h.tape, k.output.trans h.output, Nat.le_trans h.size (Nat.le_of_eq k.size), fun x hx hn => (k.block x (by omega)).trans (h.block x hx hn)⟩
def PipPost (w : World) (b : Nat) (cv : Value) (len : Nat) (e : Ending) (w' : World) : Prop :=
  ∃ (q : mem.Pip) (i s : Int), e = .returned (.agg #[.int .i64 q.f, .int .i64 q.t, .int .i64 q.k, .int .i64 q.v, .int .i64 q.l]) ∧ Src w' b cv len i s ∧ mem.Upd (· = b) w w'

set_option maxHeartbeats 2000000 in
theorem pipe_any (w : World) (b B : Nat) (cv : Value) (len : Nat) (i s x y : Int) (h : Src w b cv len i s) (hc : CodeAt w cv len B) (hB : B ≤ b) :
    Calls Tryz.prog 139 #[.pointer (some ⟨b, 0, none⟩), .int .i64 x, .int .i64 y] w (PipPost w b cv len) := by
  have hlt := src_lt h
  have Z := mem.Ob.new w #[.int .i64 0, .int .i64 0, .int .i64 0, .int .i64 0, .int .i64 0] 121 5 (fun _ => .int .i64 0) rfl (by intro j hj; rcases (by omega : j = 0 ∨ j = 1 ∨ j = 2 ∨ j = 3 ∨ j = 4) with rfl | rfl | rfl | rfl | rfl <;> rfl)
  have h' := src_alloc h hlt (.cells #[.int .i64 0, .int .i64 0, .int .i64 0, .int .i64 0, .int .i64 0] 121)
  have hc' := codeAt_below hc ((Below.refl B w).alloc (by omega) (.cells #[.int .i64 0, .int .i64 0, .int .i64 0, .int .i64 0, .int .i64 0] 121))
  have U0 : mem.Upd (· = b) w (w.alloc (.cells #[.int .i64 0, .int .i64 0, .int .i64 0, .int .i64 0, .int .i64 0] 121)) := mem.Upd.of_below (mem.below_new _ _)
  go_enter Tryz.func139, Tryz.ntmps139
  go_wp2_with fail
  refine (next_any _ b B cv len i s 2 h' hc' hB (by omega)).mono ?_
  rintro e w1 ⟨v1, i1, s1, rfl, v0, hv1, h1, o1⟩
  have hc1 := codeAt_below hc' (only_below o1 hB)
  have Z1 := Z.keep (o1.block w.heap.size (by omega))
  have U1 := U0.trans (upd_of o1)
  clear U0 Z h' hc' h hc o1
  rcases (by omega : v1 = 0 ∨ v1 = 1) with rfl | rfl
  all_goals
    go_wp2_with fail
    refine (next_any _ b B cv len i1 s1 9 h1 hc1 hB (by omega)).mono ?_
    rintro e w2 ⟨v2, i2, s2, rfl, u0, hu1, h2, o2⟩
    have hc2 := codeAt_below hc1 (only_below o2 hB)
    have Z2 := Z1.keep (o2.block w.heap.size (by omega))
    have U2 := U1.trans (upd_of o2)
    clear U1 Z1 h1 hc1 o2
    go_wp2_with fail
    refine (next_any _ b B cv len i2 s2 100 h2 hc2 hB (by omega)).mono ?_
    rintro e w3 ⟨v3, i3, s3, rfl, t0, ht1, h3, o3⟩
    have hc3 := codeAt_below hc2 (only_below o3 hB)
    have Z3 := Z2.keep (o3.block w.heap.size (by omega))
    have U3 := U2.trans (upd_of o3)
    clear U2 Z2 h2 hc2 o3
    go_wp2_with fail
    refine (next_any _ b B cv len i3 s3 200 h3 hc3 hB (by omega)).mono ?_
    rintro e w4 ⟨v4, i4, s4, rfl, r0, hr1, h4, o4⟩
    have Z4 := Z3.keep (o4.block w.heap.size (by omega))
    have U4 := U3.trans (upd_of o4)
    clear U3 Z3 h3 hc3 o4
    have z0 := Z4.cell 0 (by omega)
    have z1 := Z4.cell 1 (by omega)
    have z2 := Z4.cell 2 (by omega)
    have z3 := Z4.cell 3 (by omega)
    have z4 := Z4.cell 4 (by omega)
    have f0 := Z4.free 0
    have f1 := Z4.free 1
    have f2 := Z4.free 2
    have f3 := Z4.free 3
    have f4 := Z4.free 4
    have HU := Lib.hid U4
    have HS := Lib.hid h4
    clear U4 h4 Z4
    go_wp2_with fail
  · have hO := (((((mem.Only.refl (w.heap.size) w4).setCell 0 (.int .i64 y)).setCell 1 (.int .i64 x)).setCell 2 (.int .i64 (1 + v2))).setCell 3 (.int .i64 v3)).setCell 4 (.int .i64 (1 + v4))
    have HS' := Lib.hid (src_upd HS.out (hO.block b (by omega)))
    have HU' := Lib.hid (upd_own HU.out hO (Nat.le_refl _))
    clear hO
    refine bodyPost_ret (v := .agg #[.int .i64 y, .int .i64 x, .int .i64 (1 + v2), .int .i64 v3, .int .i64 (1 + v4)]) (by simp [results, Tryz.results139, go_sem, z0, z1, z2, z3, z4]) rfl ⟨⟨y, x, 1 + v2, v3, 1 + v4⟩, i4, s4, rfl, HS'.out, HU'.out⟩
  · have hO := (((((mem.Only.refl (w.heap.size) w4).setCell 0 (.int .i64 x)).setCell 1 (.int .i64 y)).setCell 2 (.int .i64 (1 + v2))).setCell 3 (.int .i64 v3)).setCell 4 (.int .i64 (1 + v4))
    have HS' := Lib.hid (src_upd HS.out (hO.block b (by omega)))
    have HU' := Lib.hid (upd_own HU.out hO (Nat.le_refl _))
    clear hO
    refine bodyPost_ret (v := .agg #[.int .i64 x, .int .i64 y, .int .i64 (1 + v2), .int .i64 v3, .int .i64 (1 + v4)]) (by simp [results, Tryz.results139, go_sem, z0, z1, z2, z3, z4]) rfl ⟨⟨x, y, 1 + v2, v3, 1 + v4⟩, i4, s4, rfl, HS'.out, HU'.out⟩
end Go.Proofs.YtdbgcbkmcbgdiaaGreat.draw

namespace Go.Proofs.YtdbgcbkmcbgdiaaGreat.draw
open Go.RowKit
set_option linter.unusedVariables false

def NodPost (w : World) (b : Nat) (cv : Value) (len : Nat) (e : Ending) (w' : World) : Prop :=
  ∃ (q : mem.Nod) (i s : Int), e = .returned (.agg #[.string q.s, .int .i64 q.lo, .int .i64 q.hi]) ∧ q.s.size ≤ 9223372036854775807 ∧ Src w' b cv len i s ∧ mem.Upd (· = b) w w'

set_option maxHeartbeats 2000000 in
theorem node_any (w : World) (b B : Nat) (cv : Value) (len : Nat) (i s : Int) (x : Nat) (h : Src w b cv len i s) (hc : CodeAt w cv len B) (hB : B ≤ b) (hx : x ≤ 1000) :
    Calls Tryz.prog 163 #[.pointer (some ⟨b, 0, none⟩), .int .i64 x] w (NodPost w b cv len) := by
  have hlt := src_lt h
  have Z := mem.Ob.new w #[.string ⟨#[]⟩, .int .i64 0, .int .i64 0] 142 3 (fun j => if j = 0 then .string ⟨#[]⟩ else .int .i64 0) rfl (by intro j hj; rcases (by omega : j = 0 ∨ j = 1 ∨ j = 2) with rfl | rfl | rfl <;> rfl)
  have h' := src_alloc h hlt (.cells #[.string ⟨#[]⟩, .int .i64 0, .int .i64 0] 142)
  have hc' := codeAt_below hc ((Below.refl B w).alloc (by omega) (.cells #[.string ⟨#[]⟩, .int .i64 0, .int .i64 0] 142))
  have U0 : mem.Upd (· = b) w (w.alloc (.cells #[.string ⟨#[]⟩, .int .i64 0, .int .i64 0] 142)) := mem.Upd.of_below (mem.below_new _ _)
  have hz : w.heap.size < (w.alloc (.cells #[.string ⟨#[]⟩, .int .i64 0, .int .i64 0] 142)).heap.size := by simp
  go_enter Tryz.func163, Tryz.ntmps163
  go_wp2_with fail
  refine (next_any _ b B cv len i s 4000 h' hc' hB (by omega)).mono ?_
  rintro e w1 ⟨v1, i1, s1, rfl, v0, hv1, h1, o1⟩
  have hc1 := codeAt_below hc' (only_below o1 hB)
  have Z1 := Z.keep (o1.block w.heap.size (by omega))
  have U1 := U0.trans (upd_of o1)
  have hs1 : w.heap.size < w1.heap.size := Nat.lt_of_lt_of_le hz (Nat.le_of_eq o1.size)
  clear U0 Z h' hc' h hc o1 hz
  have hxx : x ≤ 9223372036854775807 := by omega
  go_wp2_with fail
  refine (text.dec_any x x w1 (Nat.le_refl _) hxx).mono ?_
  rintro e w2 ⟨rfl, bl⟩
  have hds := text.dec_length x hxx
  have h2 := src_upd h1 (bl.block b (src_lt h1))
  have hc2 := codeAt_below hc1 (bl.mono (Nat.le_of_lt (Nat.lt_of_le_of_lt hB (src_lt h1))))
  have Z2 := Z1.below bl hs1
  have U2 := U1.trans (mem.Upd.of_below bl)
  have hs2 := Nat.lt_of_lt_of_le hs1 bl.size
  clear U1 Z1 h1 hc1 bl
  have HD := Lib.hid hds
  generalize hg : Lib.decDigits x = ds at *
  clear hg
  go_wp2_with fail
  refine (next_any _ b B cv len i1 s1 60000 h2 hc2 hB (by omega)).mono ?_
  rintro e w3 ⟨v3, i3, s3, rfl, t0, ht1, h3, o3⟩
  have Z3 := Z2.keep (o3.block w.heap.size (by omega))
  have U3 := U2.trans (upd_of o3)
  clear U2 Z2 h2 hc2 o3
  have z0 : w3.cell? ⟨w.heap.size, 0, none⟩ = some (.string ⟨#[]⟩) := Z3.cell 0 (by omega)
  have z1 : w3.cell? ⟨w.heap.size, 1, none⟩ = some (.int .i64 0) := Z3.cell 1 (by omega)
  have z2 : w3.cell? ⟨w.heap.size, 2, none⟩ = some (.int .i64 0) := Z3.cell 2 (by omega)
  have f0 := Z3.free 0
  have f1 := Z3.free 1
  have f2 := Z3.free 2
  have HU := Lib.hid U3
  have HS := Lib.hid h3
  clear U3 h3 Z3
  go_wp2_with fail
  have hO := ((((mem.Only.refl (w.heap.size) w3).setCell 0 (.string ({ data := #[110] } ++ { data := ds.toArray }))).setCell 1 (.int .i64 v1)).setCell 2 (.int .i64 (v1 + 2000 + v3)))
  have HS' := Lib.hid (src_upd HS.out (hO.block b (by omega)))
  have HU' := Lib.hid (upd_own HU.out hO (Nat.le_refl _))
  clear hO
  refine bodyPost_ret (v := .agg #[.string ({ data := #[110] } ++ { data := ds.toArray }), .int .i64 v1, .int .i64 (v1 + 2000 + v3)]) (by simp [results, Tryz.results163, go_sem, z0, z1, z2]) rfl ⟨⟨({ data := #[110] } ++ { data := ds.toArray }), v1, v1 + 2000 + v3⟩, i3, s3, rfl, ?_, HS'.out, HU'.out⟩
  show (({ data := #[110] } : ByteArray) ++ { data := ds.toArray }).size ≤ 9223372036854775807
  rw [ByteArray.size_append]
  show 1 + ds.toArray.size ≤ _
  simp only [List.size_toArray]
  omega
end Go.Proofs.YtdbgcbkmcbgdiaaGreat.draw

namespace Go.Proofs.YtdbgcbkmcbgdiaaGreat.draw
open Go.RowKit
set_option linter.unusedVariables false

abbrev RN (B : Nat) := mem.RowE B 142 3
abbrev RP (B : Nat) := mem.RowE B 121 5
def addN (N : Nat → mem.Nod) (n : Nat) (q : mem.Nod) : Nat → mem.Nod := fun i => if i < n then N i else q
def addP (P : Nat → mem.Pip) (n : Nat) (q : mem.Pip) : Nat → mem.Pip := fun i => if i < n then P i else q
theorem appNod (B : Nat) (W : World) (v : Value) (n : Nat) (N : Nat → mem.Nod) (q : mem.Nod) (h : RN B W v n (mem.nodC N)) (hB : B ≤ W.heap.size) (hn : n ≤ 1000000) :
    ∃ v' w', Sem.run Tryz.prog (Builtin.append_ #[24, 24] 24 #[v, .slice (some ⟨W.heap.size, 0, none⟩) 1 1]) (W.alloc (.cells #[.string q.s, .int .i64 q.lo, .int .i64 q.hi] 142)) = .ok v' w' ∧ RN B w' v' (n + 1) (mem.nodC (addN N n q)) ∧ mem.Upd (fun x => some x = v.ownBlock) W w' :=
  mem.appOne Tryz.underlying24 mem.info_make_node (by omega) rfl (by omega) B W v n _ _ h hB [.string q.s, .int .i64 q.lo, .int .i64 q.hi] rfl (by intro u hu; simp at hu; rcases hu with rfl | rfl | rfl <;> rfl)
    (fun i j hi hj => by rcases (by omega : j = 0 ∨ j = 1 ∨ j = 2) with rfl | rfl | rfl <;> simp [mem.nodC, addN, hi])
    (fun j hj => by rcases (by omega : j = 0 ∨ j = 1 ∨ j = 2) with rfl | rfl | rfl <;> simp [mem.nodC, addN]) hn
theorem appPip (B : Nat) (W : World) (v : Value) (n : Nat) (P : Nat → mem.Pip) (q : mem.Pip) (h : RP B W v n (mem.pipC P)) (hB : B ≤ W.heap.size) (hn : n ≤ 1000000) :
    ∃ v' w', Sem.run Tryz.prog (Builtin.append_ #[25, 25] 25 #[v, .slice (some ⟨W.heap.size, 0, none⟩) 1 1]) (W.alloc (.cells #[.int .i64 q.f, .int .i64 q.t, .int .i64 q.k, .int .i64 q.v, .int .i64 q.l] 121)) = .ok v' w' ∧ RP B w' v' (n + 1) (mem.pipC (addP P n q)) ∧ mem.Upd (fun x => some x = v.ownBlock) W w' :=
  mem.appOne Tryz.underlying25 mem.info_make_pipe (by omega) rfl (by omega) B W v n _ _ h hB [.int .i64 q.f, .int .i64 q.t, .int .i64 q.k, .int .i64 q.v, .int .i64 q.l] rfl (by intro u hu; simp at hu; rcases hu with rfl | rfl | rfl | rfl | rfl <;> rfl)
    (fun i j hi hj => by rcases (by omega : j = 0 ∨ j = 1 ∨ j = 2 ∨ j = 3 ∨ j = 4) with rfl | rfl | rfl | rfl | rfl <;> simp [mem.pipC, addP, hi])
    (fun j hj => by rcases (by omega : j = 0 ∨ j = 1 ∨ j = 2 ∨ j = 3 ∨ j = 4) with rfl | rfl | rfl | rfl | rfl <;> simp [mem.pipC, addP]) hn
/-- a draw's memory: the two rows and the source -/
structure Dr (W1 : World) (b : Nat) (cv : Value) (len : Nat) (wr : World) (vN vP : Value) (n m : Nat) : Prop where
  ex : ∃ (N : Nat → mem.Nod) (P : Nat → mem.Pip) (i s : Int), RN W1.heap.size wr vN n (mem.nodC N) ∧ RP W1.heap.size wr vP m (mem.pipC P) ∧ (∀ i, i < n → (N i).s.size ≤ 9223372036854775807) ∧ Src wr b cv len i s ∧ mem.Upd (· = b) W1 wr
/-- an append to an own row leaves all else -/
theorem upd_row {b : Nat} {W1 w w' : World} {B : Nat} {e : TypeId} {z n : Nat} {c : Nat → Nat → Value} {v : Value} (h : mem.Upd (· = b) W1 w) (r : mem.RowE B e z w v n c) (hB : W1.heap.size ≤ B) (u : mem.Upd (fun x => some x = v.ownBlock) w w') : mem.Upd (· = b) W1 w' :=
  ⟨u.os.trans h.os, u.tape.trans h.tape, u.output.trans h.output, Nat.le_trans h.size u.size, fun k hk hx => (u.block k (Nat.lt_of_lt_of_le hk h.size) (fun e => by have := (r.own.lt k e.symm).1; omega)).trans (h.block k hk hx)⟩
theorem Dr.addN {W1 wr w' : World} {b : Nat} {cv : Value} {len : Nat} {vN vP v' : Value} {n m : Nat} {N : Nat → mem.Nod} {P : Nat → mem.Pip} {q : mem.Nod} {i s : Int} (hb : b < W1.heap.size)
    (hN : RN W1.heap.size wr vN n (mem.nodC N)) (hP : RP W1.heap.size wr vP m (mem.pipC P)) (hs : ∀ i, i < n → (N i).s.size ≤ 9223372036854775807) (hq : q.s.size ≤ 9223372036854775807) (hS : Src wr b cv len i s) (hU : mem.Upd (· = b) W1 wr)
    (h' : RN W1.heap.size w' v' (n + 1) (mem.nodC (draw.addN N n q))) (u : mem.Upd (fun x => some x = vN.ownBlock) wr w') : Dr W1 b cv len w' v' vP (n + 1) m := by
  refine ⟨_, P, i, s, h', hP.keep u (mem.rows_apart hP hN (by decide)), fun j hj => ?_, src_upd hS (u.block b (src_lt hS) (fun e => by have := (hN.own.lt b e.symm).1; omega)), upd_row hU hN (Nat.le_refl _) u⟩
  unfold draw.addN
  split
  · exact hs j (by assumption)
  · exact hq
theorem Dr.addP {W1 wr w' : World} {b : Nat} {cv : Value} {len : Nat} {vN vP v' : Value} {n m : Nat} {N : Nat → mem.Nod} {P : Nat → mem.Pip} {q : mem.Pip} {i s : Int} (hb : b < W1.heap.size)
    (hN : RN W1.heap.size wr vN n (mem.nodC N)) (hP : RP W1.heap.size wr vP m (mem.pipC P)) (hs : ∀ i, i < n → (N i).s.size ≤ 9223372036854775807) (hS : Src wr b cv len i s) (hU : mem.Upd (· = b) W1 wr)
    (h' : RP W1.heap.size w' v' (m + 1) (mem.pipC (draw.addP P m q))) (u : mem.Upd (fun x => some x = vP.ownBlock) wr w') : Dr W1 b cv len w' vN v' n (m + 1) :=
  ⟨N, _, i, s, hN.keep u (mem.rows_apart hN hP (by decide)), h', hs, src_upd hS (u.block b (src_lt hS) (fun e => by have := (hP.own.lt b e.symm).1; omega)), upd_row hU hP (Nat.le_refl _) u⟩
/-- only the source has been drawn from -/
theorem Dr.drawn {W1 wr w' : World} {b : Nat} {cv : Value} {len : Nat} {vN vP : Value} {n m : Nat} {i s : Int} (h : Dr W1 b cv len wr vN vP n m) (hb : b < W1.heap.size) (u : mem.Upd (· = b) wr w') (hS : Src w' b cv len i s) : Dr W1 b cv len w' vN vP n m := by
  obtain ⟨N, P, _, _, h1, h2, h3, _, h5⟩ := h.ex
  exact ⟨N, P, i, s, h1.low u hb, h2.low u hb, h3, hS, h5.trans u⟩
end Go.Proofs.YtdbgcbkmcbgdiaaGreat.draw

namespace Go.Proofs.YtdbgcbkmcbgdiaaGreat.draw
open Go.RowKit
set_option linter.unusedVariables false

theorem code_of {b B len : Nat} {cv : Value} {W1 wr : World} (h : CodeAt W1 cv len B) (u : mem.Upd (· = b) W1 wr) (hB : B ≤ b) (hb : b < W1.heap.size) : CodeAt wr cv len B :=
  codeAt_upd h (u.mono (fun x _ e => e ▸ hB)) (by omega)
def NetPost (w : World) (b : Nat) (cv : Value) (len : Nat) (e : Ending) (w' : World) : Prop :=
  ∃ (v : Value) (n m : Nat) (N : Nat → mem.Nod) (P : Nat → mem.Pip) (b1 b2 : Nat) (i s : Int), e = .returned v ∧ n ≤ 100 ∧ m ≤ 100 ∧ 0 < n ∧ (∀ i, i < n → (N i).s.size ≤ 9223372036854775807) ∧ mem.NetOwn w' v n N m P b1 b2 ∧ w.heap.size ≤ b1 ∧ w.heap.size ≤ b2 ∧ Src w' b cv len i s ∧ mem.Upd (· = b) w w' ∧ ∃ v0 v1, v = .agg #[v0, v1] ∧ RN w.heap.size w' v0 n (mem.nodC N) ∧ RP w.heap.size w' v1 m (mem.pipC P)

theorem rowE_mono {B B' : Nat} {e : TypeId} {z : Nat} {w : World} {v : Value} {n : Nat} {c : Nat → Nat → Value} (h : mem.RowE B e z w v n c) (hB : B' ≤ B) : mem.RowE B' e z w v n c := by
  refine ⟨h.own.1, ?_⟩
  rcases h.own.2 with h1 | ⟨g, cap, cur, rfl, h2, h3⟩
  · exact .inl h1
  · exact .inr ⟨g, cap, cur, rfl, Nat.le_trans hB h2, h3⟩
theorem ownS2 {B : Nat} {e : TypeId} {z : Nat} {w : World} {v : Value} {n : Nat} {c : Nat → Nat → Value} (h : mem.RowE B e z w v n c) : ∃ g, mem.OwnS w v n z c g ∧ B ≤ g ∧ (v.ownBlock = some g ∨ n = 0) := by
  obtain ⟨g, h1, h2⟩ := h.ownS
  rcases h.own.2 with ⟨hv, hn⟩ | ⟨g', cap, cur, hv, h3, h4⟩
  · subst hv hn
    exact ⟨B, mem.OwnS.none_ _ _ _ _, Nat.le_refl _, .inr rfl⟩
  · rcases Nat.eq_zero_or_pos n with h0 | h0
    · subst h0
      obtain ⟨p, cap, e1, e2, e3, _⟩ := h1.ex
      exact ⟨B, ⟨p, cap, e1, e2, e3, .inl rfl⟩, Nat.le_refl _, .inr rfl⟩
    · obtain ⟨p, cap', e1, e2, e3, e4 | ⟨e4, e5⟩⟩ := h1.ex
      · omega
      · rw [hv] at e1
        injection e1 with e1 _ _
        rw [e4] at e1
        injection e1 with e1
        injection e1 with e1
        subst e1
        exact ⟨g', h1, h3, .inl (by rw [hv]; rfl)⟩
theorem Dr.net {W1 wr : World} {b : Nat} {cv : Value} {len : Nat} {vN vP : Value} {n m : Nat} (h : Dr W1 b cv len wr vN vP n m) : ∃ (N : Nat → mem.Nod) (P : Nat → mem.Pip) (i s : Int) (g1 g2 : Nat), mem.OwnS wr vN n 3 (mem.nodC N) g1 ∧ mem.OwnS wr vP m 5 (mem.pipC P) g2 ∧ (n = 0 ∨ m = 0 ∨ g1 ≠ g2) ∧ W1.heap.size ≤ g1 ∧ W1.heap.size ≤ g2 ∧ (∀ i, i < n → (N i).s.size ≤ 9223372036854775807) ∧ Src wr b cv len i s ∧ mem.Upd (· = b) W1 wr ∧ RN W1.heap.size wr vN n (mem.nodC N) ∧ RP W1.heap.size wr vP m (mem.pipC P) := by
  obtain ⟨N, P, i, s, hN, hP, hs, hS, hU⟩ := h.ex
  obtain ⟨g1, a1, a2, a3⟩ := ownS2 hN
  obtain ⟨g2, c1, c2, c3⟩ := ownS2 hP
  refine ⟨N, P, i, s, g1, g2, a1, c1, ?_, a2, c2, hs, hS, hU, hN, hP⟩
  rcases a3 with a3 | a3
  · rcases c3 with c3 | c3
    · refine .inr (.inr fun e => ?_)
      exact mem.rows_apart hN hP (by decide) g1 a3 (by rw [c3, e])
    · exact .inr (.inl c3)
  · exact .inl a3
set_option maxRecDepth 100000 in
set_option maxHeartbeats 8000000 in
theorem net_any (w : World) (b B : Nat) (cv : Value) (len : Nat) (i s : Int) (h : Src w b cv len i s) (hc : CodeAt w cv len B) (hB : B ≤ b) :
    Calls Tryz.prog 138 #[.pointer (some ⟨b, 0, none⟩)] w (NetPost w b cv len) := by
  have hlt := src_lt h
  have h' := src_alloc h hlt (.cells #[.slice none 0 0, .slice none 0 0] 27)
  have HC := Lib.hid (codeAt_below hc ((Below.refl B w).alloc (by omega) (.cells #[.slice none 0 0, .slice none 0 0] 27)))
  have R1 := mem.boxed w (.slice none 0 0) (.slice none 0 0) 27
  have U0 := Lib.hid (mem.Upd.of_below (mem.below_new w (.cells #[.slice none 0 0, .slice none 0 0] 27)) (X := (· = b)))
  have hsz : w.heap.size + 1 ≤ (w.alloc (.cells #[.slice none 0 0, .slice none 0 0] 27)).heap.size := by simp
  go_enter Tryz.func138, Tryz.ntmps138
  go_wp2_with fail
  generalize hW : w.alloc (.cells #[.slice none 0 0, .slice none 0 0] 27) = Wa at *
  clear hW h hc
  have hb : b < Wa.heap.size := by omega
  refine (next_any _ b B cv len i s 7 h' HC.out hB (by omega)).mono ?_
  rintro e w1 ⟨v1, i1, s1, rfl, v0, hv1, h1, o1⟩
  obtain ⟨c, rfl⟩ := Int.eq_ofNat_of_zero_le v0
  have hc6 : c ≤ 6 := by omega
  have U1 := upd_of o1
  have hs1 := U1.size
  clear v0 hv1 o1 h'
  have D0 : Dr Wa b cv len ((w1.alloc (.cells #[] 142)).alloc (.cells #[] 121)) (.slice (some ⟨w1.heap.size, 0, none⟩) 0 0) (.slice (some ⟨w1.heap.size + 1, 0, none⟩) 0 0) 0 0 := by
    have r2 := mem.rowE_nil (B := Wa.heap.size) (e := 121) (z := 5) (w1.alloc (.cells #[] 142)) (mem.pipC (fun _ => ⟨0, 0, 0, 0, 0⟩)) (by simp; omega)
    rw [show (w1.alloc (.cells #[] 142)).heap.size = w1.heap.size + 1 by simp] at r2
    exact ⟨fun _ => ⟨⟨#[]⟩, 0, 0⟩, fun _ => ⟨0, 0, 0, 0, 0⟩, i1, s1, (mem.rowE_nil (e := 142) (z := 3) w1 _ hs1).next (mem.below_new _ _), r2, fun i hi => by omega, src_alloc (src_alloc h1 (by omega) _) (by simp; omega) _, U1.trans (mem.Upd.of_below (mem.bel2 _ _ _))⟩
  clear h1 U1
  go_wp2_with fail
  generalize hW : (w1.alloc (.cells #[] 142)).alloc (.cells #[] 121) = W2 at *
  generalize hv : Value.slice (some ⟨w1.heap.size, 0, none⟩) 0 0 = vN0 at *
  generalize hv' : Value.slice (some ⟨w1.heap.size + 1, 0, none⟩) 0 0 = vP0 at *
  clear hW hv hv' hs1
  go_loopw [6, 4, 5] (fun i vN vP wr => ∃ (k m : Nat) (vN' vP' : Value), i = .int .i64 k ∧ vN' = vN ∧ vP' = vP ∧ k ≤ c + 1 ∧ m ≤ k ∧ Dr Wa b cv len wr vN vP k m) (fun i _ _ _ => c + 1 - (intOf i).toNat)
  case atStart => exact ⟨0, 0, _, _, rfl, rfl, rfl, Nat.zero_le _, Nat.le_refl _, D0⟩
  case round =>
    obtain ⟨k, m, vN, vP, rfl, rfl, rfl, hk, hm, D⟩ := hrel
    clear D0
    by_cases hlt' : k < c + 1
    · obtain ⟨N, P, i2, s2, hN, hP, hs, hS, hU⟩ := D.ex
      clear D
      go_wp2_with fail
      refine (node_any wr b B cv len i2 s2 k hS (code_of HC.out hU hB hb) hB (by omega)).mono ?_
      rintro e w4 ⟨q, i4, s4, rfl, hq, hS4, U4⟩
      have hN4 := hN.low U4 hb
      have hP4 := hP.low U4 hb
      have hU4 := hU.trans U4
      obtain ⟨pN, cN, rfl⟩ := hN4.shape
      obtain ⟨v5, w5, hr, h5, u5⟩ := appNod _ w4 _ k N q hN4 hU4.size (by omega)
      have D5 := Dr.addN hb hN4 hP4 hs hq hS4 hU4 h5 u5
      clear hN hP hs hS hU U4 hN4 hP4 hU4 hS4 h5 u5
      rcases Nat.eq_zero_or_pos k with hk0 | hk0
      · subst hk0
        go_wp2_with (at_builtin; refine mem.wpList_appT hr rfl _ _ rfl rfl rfl rfl ?_)
        clear hr
        go_roundw
        case rel => exact ⟨1, m, _, _, by go_num, rfl, rfl, by omega, by omega, D5⟩
        case measure => simp [intOf]
      · have hkI : (0 : Int) < (k : Int) := by omega
        go_wp2_with (at_builtin; refine mem.wpList_appT hr rfl _ _ rfl rfl rfl rfl ?_)
        clear hr
        obtain ⟨N5, P5, i5, s5, hN5, hP5, hs5, hS5, hU5⟩ := D5.ex
        refine (next_any w5 b B cv len i5 s5 16 hS5 (code_of HC.out hU5 hB hb) hB (by omega)).mono ?_
        rintro e w6 ⟨v6, i6, s6, rfl, t0, ht, hS6, o6⟩
        have D6 := D5.drawn hb (upd_of o6) hS6
        clear D5 hN5 hP5 hs5 hS5 hU5 o6 hS6
        by_cases hv6 : v6 = 0
        · subst hv6
          go_wp2_with fail
          go_roundw
          case rel => exact ⟨k + 1, m, _, _, by go_num, rfl, rfl, by omega, by omega, D6⟩
          case measure => simp [intOf]; omega
        · have hv6' : (0 : Int) < v6 := by omega
          clear hv6
          go_wp2_with fail
          obtain ⟨N5, P5, i5, s5, hN5, hP5, hs5, hS5, hU5⟩ := D6.ex
          refine (next_any w6 b B cv len i5 s5 k hS5 (code_of HC.out hU5 hB hb) hB (by omega)).mono ?_
          rintro e w7 ⟨v7, i7, s7, rfl, t7, ht7, hS7, o7⟩
          have D7 := D6.drawn hb (upd_of o7) hS7
          clear D6 hN5 hP5 hs5 hS5 hU5 o7 hS7
          go_wp2_with fail
          obtain ⟨N5, P5, i5, s5, hN5, hP5, hs5, hS5, hU5⟩ := D7.ex
          refine (pipe_any w7 b B cv len i5 s5 v7 k hS5 (code_of HC.out hU5 hB hb) hB).mono ?_
          rintro e w8 ⟨q8, i8, s8, rfl, hS8, U8⟩
          have D8 := D7.drawn hb U8 hS8
          clear D7 hN5 hP5 hs5 hS5 hU5 U8 hS8
          obtain ⟨N8, P8, i8, s8, hN8, hP8, hs8, hS8, hU8⟩ := D8.ex
          obtain ⟨pP, cP, rfl⟩ := hP8.shape
          obtain ⟨v9, w9, hr9, h9, u9⟩ := appPip _ w8 _ m P8 q8 hP8 hU8.size (by omega)
          have D9 := Dr.addP hb hN8 hP8 hs8 hS8 hU8 h9 u9
          clear D8 hN8 hP8 hs8 hS8 hU8 h9 u9
          go_wp2_with (at_builtin; refine mem.wpList_appT hr9 rfl _ _ rfl rfl rfl rfl ?_)
          clear hr9
          go_roundw
          case rel => exact ⟨k + 1, m + 1, _, _, by go_num, rfl, rfl, by omega, by omega, D9⟩
          case measure => simp [intOf]; omega
    · obtain rfl : k = c + 1 := by omega
      clear hlt' hk
      go_wp2_with fail
      obtain ⟨N5, P5, i5, s5, hN5, hP5, hs5, hS5, hU5⟩ := D.ex
      refine (next_any wr b B cv len i5 s5 3 hS5 (code_of HC.out hU5 hB hb) hB (by omega)).mono ?_
      rintro e w6 ⟨v6, i6, s6, rfl, t0, ht, hS6, o6⟩
      have D6 := D.drawn hb (upd_of o6) hS6
      clear D hN5 hP5 hs5 hS5 hU5 o6 hS6
      obtain ⟨j0, rfl⟩ := Int.eq_ofNat_of_zero_le t0
      have hj0 : j0 ≤ 2 := by omega
      clear t0 ht
      go_wp2_with fail
      go_loopw [7, 5] (fun i vP wr => ∃ (j m : Nat) (vP' : Value), i = .int .i64 j ∧ vP' = vP ∧ j ≤ 2 ∧ m + j ≤ c + 3 ∧ Dr Wa b cv len wr vN vP (c + 1) m) (fun i _ _ => (intOf i).toNat)
      case atStart => exact ⟨j0, m, _, rfl, rfl, hj0, by omega, D6⟩
      case round =>
        obtain ⟨j, m', vP', rfl, rfl, hj, hmj, D⟩ := hrel
        clear D6
        rcases Nat.eq_zero_or_pos j with hj1 | hj1
        · subst hj1
          obtain ⟨N7, P7, i7, s7, g1, g2, o1, o2, hd, l1, l2, hs7, hS7, hU7, rN, rP⟩ := D.net
          have R7 := R1.keep (hU7.block w.heap.size (by omega) (by omega))
          have f0 := R7.b0
          have f1 := R7.b1
          have k0 := R7.free 0
          have k1 := R7.free 1
          obtain ⟨p1, c1, rfl⟩ := o1.shape
          obtain ⟨p2, c2, rfl⟩ := o2.shape
          have hO := (((mem.Only.refl w.heap.size wr).setCell 0 (.slice p1 (c + 1) c1)).setCell 1 (.slice p2 m' c2))
          have HF := Lib.hid (And.intro (mem.OwnS.set2 (g := w.heap.size) (o0 := 0) (o1 := 1) (u0 := .slice p1 (c + 1) c1) (u1 := .slice p2 m' c2) o1 (by omega)) (And.intro (mem.OwnS.set2 (g := w.heap.size) (o0 := 0) (o1 := 1) (u0 := .slice p1 (c + 1) c1) (u1 := .slice p2 m' c2) o2 (by omega)) (And.intro hd (And.intro hs7 (And.intro (src_upd hS7 (hO.block b (by omega))) (And.intro (upd_own (U0.out.trans hU7) hO (Nat.le_refl _)) (And.intro (rowE_mono (B' := w.heap.size) (rN.low (mem.Upd.of_only hO) (by omega)) (by omega)) (rowE_mono (B' := w.heap.size) (rP.low (mem.Upd.of_only hO) (by omega)) (by omega)))))))))
          clear D R7 hU7 hS7 hs7 o1 o2 hO hd rN rP
          go_wp2_with fail
          refine bodyPost_ret (v := .agg #[.slice p1 (c + 1) c1, .slice p2 m' c2]) (by simp [results, Tryz.results138, go_sem, f0, f1]) rfl ⟨_, c + 1, m', N7, P7, g1, g2, i7, s7, rfl, by omega, by omega, by omega, HF.out.2.2.2.1, ⟨_, _, rfl, HF.out.1, HF.out.2.1, HF.out.2.2.1⟩, by omega, by omega, HF.out.2.2.2.2.1, HF.out.2.2.2.2.2.1, _, _, rfl, HF.out.2.2.2.2.2.2.1, HF.out.2.2.2.2.2.2.2⟩

        have hjI : (0 : Int) < (j : Int) := by omega
        rcases Nat.eq_zero_or_pos c with hc1 | hc1
        · subst hc1
          obtain ⟨N7, P7, i7, s7, g1, g2, o1, o2, hd, l1, l2, hs7, hS7, hU7, rN, rP⟩ := D.net
          have R7 := R1.keep (hU7.block w.heap.size (by omega) (by omega))
          have f0 := R7.b0
          have f1 := R7.b1
          have k0 := R7.free 0
          have k1 := R7.free 1
          obtain ⟨p1, c1, rfl⟩ := o1.shape
          obtain ⟨p2, c2, rfl⟩ := o2.shape
          have hO := (((mem.Only.refl w.heap.size wr).setCell 0 (.slice p1 (0 + 1) c1)).setCell 1 (.slice p2 m' c2))
          have HF := Lib.hid (And.intro (mem.OwnS.set2 (g := w.heap.size) (o0 := 0) (o1 := 1) (u0 := .slice p1 (0 + 1) c1) (u1 := .slice p2 m' c2) o1 (by omega)) (And.intro (mem.OwnS.set2 (g := w.heap.size) (o0 := 0) (o1 := 1) (u0 := .slice p1 (0 + 1) c1) (u1 := .slice p2 m' c2) o2 (by omega)) (And.intro hd (And.intro hs7 (And.intro (src_upd hS7 (hO.block b (by omega))) (And.intro (upd_own (U0.out.trans hU7) hO (Nat.le_refl _)) (And.intro (rowE_mono (B' := w.heap.size) (rN.low (mem.Upd.of_only hO) (by omega)) (by omega)) (rowE_mono (B' := w.heap.size) (rP.low (mem.Upd.of_only hO) (by omega)) (by omega)))))))))
          clear D R7 hU7 hS7 hs7 o1 o2 hO hd rN rP
          go_wp2_with fail
          refine bodyPost_ret (v := .agg #[.slice p1 (0 + 1) c1, .slice p2 m' c2]) (by simp [results, Tryz.results138, go_sem, f0, f1]) rfl ⟨_, 0 + 1, m', N7, P7, g1, g2, i7, s7, rfl, by omega, by omega, by omega, HF.out.2.2.2.1, ⟨_, _, rfl, HF.out.1, HF.out.2.1, HF.out.2.2.1⟩, by omega, by omega, HF.out.2.2.2.2.1, HF.out.2.2.2.2.2.1, _, _, rfl, HF.out.2.2.2.2.2.2.1, HF.out.2.2.2.2.2.2.2⟩

        have hcI : (1 : Int) < 1 + (c : Int) := by omega
        go_wp2_with fail
        obtain ⟨N5, P5, i5, s5, hN5, hP5, hs5, hS5, hU5⟩ := D.ex
        refine (next_any wr b B cv len i5 s5 _ hS5 (code_of HC.out hU5 hB hb) hB (by omega)).mono ?_
        rintro e w7 ⟨v7, i7, s7, rfl, t7, ht7, hS7, o7⟩
        have D7 := D.drawn hb (upd_of o7) hS7
        clear D hN5 hP5 hs5 hS5 hU5 o7 hS7
        have hv7 : v7 ≤ 6 := by omega
        go_wp2_with fail
        obtain ⟨N5, P5, i5, s5, hN5, hP5, hs5, hS5, hU5⟩ := D7.ex
        refine (next_any w7 b B cv len i5 s5 _ hS5 (code_of HC.out hU5 hB hb) hB (by omega)).mono ?_
        rintro e w8 ⟨v8, i8, s8, rfl, t8, ht8, hS8, o8⟩
        have D8 := D7.drawn hb (upd_of o8) hS8
        clear D7 hN5 hP5 hs5 hS5 hU5 o8 hS8
        have hv8 : v8 ≤ 6 := by omega
        have hne : (1 + (c : Int)) ≠ 0 := by omega
        go_wp2_with fail
        obtain ⟨N5, P5, i5, s5, hN5, hP5, hs5, hS5, hU5⟩ := D8.ex
        refine (pipe_any w8 b B cv len i5 s5 _ _ hS5 (code_of HC.out hU5 hB hb) hB).mono ?_
        rintro e w9 ⟨q9, i9, s9, rfl, hS9, U9⟩
        have D9 := D8.drawn hb U9 hS9
        clear D8 hN5 hP5 hs5 hS5 hU5 U9 hS9
        obtain ⟨N8, P8, i8, s8, hN8, hP8, hs8, hS8, hU8⟩ := D9.ex
        obtain ⟨pP, cP, rfl⟩ := hP8.shape
        obtain ⟨va, wa, hra, ha, ua⟩ := appPip _ w9 _ m' P8 q9 hP8 hU8.size (by omega)
        have Da := Dr.addP hb hN8 hP8 hs8 hS8 hU8 ha ua
        clear D9 hN8 hP8 hs8 hS8 hU8 ha ua
        go_wp2_with (at_builtin; refine mem.wpList_appT hra rfl _ _ rfl rfl rfl rfl ?_)
        clear hra
        go_roundw
        case rel => exact ⟨j - 1, m' + 1, _, by go_num, rfl, by omega, by omega, Da⟩
        case measure => simp [intOf]; omega
end Go.Proofs.YtdbgcbkmcbgdiaaGreat.draw

namespace Go.Proofs.YtdbgcbkmcbgdiaaGreat.draw
open Go.RowKit
set_option linter.unusedVariables false

/-- any network: its names are of bounded length -/
def AnyPost (w : World) (b : Nat) (cv : Value) (len : Nat) (e : Ending) (w' : World) : Prop :=
  ∃ (v : Value) (n m : Nat) (N : Nat → mem.Nod) (P : Nat → mem.Pip) (b1 b2 : Nat) (i s : Int), e = .returned v ∧ n ≤ 1000 ∧ m ≤ 1000 ∧ (∀ i, i < n → (N i).s.size ≤ 9223372036854775807) ∧ mem.NetOwn w' v n N m P b1 b2 ∧ w.heap.size ≤ b1 ∧ w.heap.size ≤ b2 ∧ Src w' b cv len i s ∧ mem.Upd (· = b) w w'
def AnyOK : Prop := ∀ (w : World) (b B : Nat) (cv : Value) (len : Nat) (i s : Int), Src w b cv len i s → CodeAt w cv len B → B ≤ b → Calls Tryz.prog 85 #[.pointer (some ⟨b, 0, none⟩)] w (AnyPost w b cv len)
end Go.Proofs.YtdbgcbkmcbgdiaaGreat.draw

namespace Go.Proofs.YtdbgcbkmcbgdiaaGreat.draw
open Go.RowKit
set_option linter.unusedVariables false

theorem any_post {w X : World} {b len n m b1 b2 : Nat} {cv u0 u1 v0 v1 : Value} {N : Nat → mem.Nod} {P : Nat → mem.Pip} {i s : Int} (hO : mem.NetOwn X (.agg #[v0, v1]) n N m P b1 b2) (hb1 : w.heap.size < b1) (hb2 : w.heap.size < b2) (hn : n ≤ 1000) (hm : m ≤ 1000) (hnm : ∀ i, i < n → (N i).s.size ≤ 9223372036854775807)
    (hS : Src X b cv len i s) (hU : mem.Upd (· = b) w X) (hlt : b < w.heap.size) : AnyPost w b cv len (.returned (.agg #[v0, v1])) ((X.setCell ⟨w.heap.size, 0, none⟩ u0).setCell ⟨w.heap.size, 1, none⟩ u1) := by
  have hO2 := ((mem.Only.refl w.heap.size X).setCell 0 u0).setCell 1 u1
  exact ⟨_, n, m, N, P, b1, b2, i, s, rfl, hn, hm, hnm, hO.upd (mem.Upd.of_only hO2) (.inr (by omega)) (.inr (by omega)), by omega, by omega, src_upd hS (hO2.block b (by omega)), upd_own hU hO2 (Nat.le_refl _)⟩

theorem upd_dw' {X : Nat → Prop} {w w' : World} (h : mem.Upd X w w') : mem.Upd X w w'.drew := ⟨h.os, h.tape, h.output, h.size, h.block⟩
theorem tabI (W : World) (t : TypeId) (c : Array Value) (hc : ∀ j, j < c.size → ∃ y : Int, c[j]? = some (.int .i64 y)) (j : Nat) (hj : j < c.size) : ∃ y : Int, (W.alloc (.cells c t)).cell? ⟨W.heap.size, j, none⟩ = some (.int .i64 y) := by
  obtain ⟨y, hy⟩ := hc j hj
  refine ⟨y, ?_⟩
  have e := heap_alloc_new W (.cells c t)
  simp only [World.cell?, e]
  simpa using hy
theorem setP_row {w : World} {b m j : Nat} {P : Nat → mem.Pip} {y : Int} (h : mem.Rw w b m 5 (mem.pipC P)) (hm : 0 < m) (hj : j < 5) : ∃ P', mem.Rw (w.setCell ⟨b, j, none⟩ (.int .i64 y)) b m 5 (mem.pipC P') := by
  have h2 := h.set 0 j (.int .i64 y) hm hj
  rw [Nat.zero_mul, Nat.zero_add] at h2
  refine ⟨fun i => if i = 0 then ⟨if j = 0 then y else (P 0).f, if j = 1 then y else (P 0).t, if j = 2 then y else (P 0).k, if j = 3 then y else (P 0).v, if j = 4 then y else (P 0).l⟩ else P i, h2.congr fun i l hi hl => ?_⟩
  unfold mem.updC
  by_cases e : i = 0
  · subst e
    rcases (by omega : j = 0 ∨ j = 1 ∨ j = 2 ∨ j = 3 ∨ j = 4) with rfl | rfl | rfl | rfl | rfl <;> rcases (by omega : l = 0 ∨ l = 1 ∨ l = 2 ∨ l = 3 ∨ l = 4) with rfl | rfl | rfl | rfl | rfl <;> simp [mem.pipC]
  · rcases (by omega : l = 0 ∨ l = 1 ∨ l = 2 ∨ l = 3 ∨ l = 4) with rfl | rfl | rfl | rfl | rfl <;> simp [mem.pipC, e]

theorem pip_own {w : World} {v0 : Value} {n m b1 b2 c1 j : Nat} {N : Nat → mem.Nod} {P : Nat → mem.Pip} {y : Int} (h : mem.NetOwn w (.agg #[v0, .slice (some ⟨b2, 0, none⟩) m c1]) n N m P b1 b2) (hn : 0 < n) (hm : 0 < m) (hj : j < 5) :
    ∃ P', mem.NetOwn (w.setCell ⟨b2, j, none⟩ (.int .i64 y)) (.agg #[v0, .slice (some ⟨b2, 0, none⟩) m c1]) n N m P' b1 b2 := by
  obtain ⟨z0, z1, he, g0, g1, hd⟩ := h.ex
  simp only [Value.agg.injEq, Array.mk.injEq, List.cons.injEq, and_true] at he
  obtain ⟨rfl, rfl⟩ := he
  obtain ⟨p, q, hv, h1, h2, h3⟩ := g1.ex
  injection hv with _ _ e3
  subst e3
  rcases h3 with h3 | ⟨_, h3⟩
  · omega
  obtain ⟨P', hP⟩ := setP_row (y := y) h3 hm hj
  exact ⟨P', _, _, rfl, g0.upd (mem.Upd.of_only ((mem.Only.refl b2 w).setCell j (.int .i64 y))) (.inr (by omega)), hP.own h1 h2, hd⟩
theorem pip_at {w : World} {v0 : Value} {p1 : Option Addr} {n m b1 b2 c1 : Nat} {N : Nat → mem.Nod} {P : Nat → mem.Pip} (h : mem.NetOwn w (.agg #[v0, .slice p1 m c1]) n N m P b1 b2) (hm : 0 < m) : p1 = some ⟨b2, 0, none⟩ ∧ mem.Rw w b2 m 5 (mem.pipC P) := by
  obtain ⟨z0, z1, he, g0, g1, hd⟩ := h.ex
  simp only [Value.agg.injEq, Array.mk.injEq, List.cons.injEq, and_true] at he
  obtain ⟨rfl, rfl⟩ := he
  obtain ⟨p, q, hv, h1, h2, h3⟩ := g1.ex
  injection hv with e1 _ e3
  subst e1
  rcases h3 with h3 | ⟨h3, h4⟩
  · omega
  exact ⟨h3, h4⟩

theorem pip_step {w X : World} {v0 : Value} {dT dR : Nat → Value} {b n m b1 b2 c1 j T len : Nat} {cv : Value} {i s : Int} {N : Nat → mem.Nod} {P : Nat → mem.Pip} {y : Int} (OZ : mem.NetOwn X (.agg #[v0, .slice (some ⟨b2, 0, none⟩) m c1]) n N m P b1 b2) (hn : 0 < n) (hm : 0 < m) (hj : j < 5)
    (SZ : Src X b cv len i s) (UZ : mem.Upd (· = b) w X) (TZ : mem.Ob X T 2 dT) (RZ : mem.Ob X w.heap.size 2 dR) (hb : b ≠ b2) (hT : T ≠ b2) (hw : w.heap.size < b2) :
    ∃ P', mem.NetOwn (X.setCell ⟨b2, j, none⟩ (.int .i64 y)) (.agg #[v0, .slice (some ⟨b2, 0, none⟩) m c1]) n N m P' b1 b2 ∧ Src (X.setCell ⟨b2, j, none⟩ (.int .i64 y)) b cv len i s ∧ mem.Upd (· = b) w (X.setCell ⟨b2, j, none⟩ (.int .i64 y)) ∧ mem.Ob (X.setCell ⟨b2, j, none⟩ (.int .i64 y)) T 2 dT ∧ mem.Ob (X.setCell ⟨b2, j, none⟩ (.int .i64 y)) w.heap.size 2 dR := by
  obtain ⟨P', hN⟩ := pip_own (j := j) (y := y) OZ hn hm hj
  have hO2 := (mem.Only.refl b2 X).setCell j (.int .i64 y)
  exact ⟨P', hN, src_upd SZ (hO2.block b hb), upd_own UZ hO2 (by omega), TZ.only hO2 hT, RZ.only hO2 (by omega)⟩

theorem nod_at {w : World} {v1 : Value} {p0 : Option Addr} {n m b1 b2 c0 : Nat} {N : Nat → mem.Nod} {P : Nat → mem.Pip} (h : mem.NetOwn w (.agg #[.slice p0 n c0, v1]) n N m P b1 b2) (hn : 0 < n) : p0 = some ⟨b1, 0, none⟩ ∧ mem.Rw w b1 n 3 (mem.nodC N) := by
  obtain ⟨z0, z1, he, g0, g1, hd⟩ := h.ex
  simp only [Value.agg.injEq, Array.mk.injEq, List.cons.injEq, and_true] at he
  obtain ⟨rfl, rfl⟩ := he
  obtain ⟨p, q, hv, h1, h2, h3⟩ := g0.ex
  injection hv with e1 _ e3
  subst e1
  rcases h3 with h3 | ⟨h3, h4⟩
  · omega
  exact ⟨h3, h4⟩
theorem nod_own {w : World} {v1 : Value} {n m b1 b2 c0 k j : Nat} {N : Nat → mem.Nod} {P : Nat → mem.Pip} {y : Value} (h : mem.NetOwn w (.agg #[.slice (some ⟨b1, 0, none⟩) n c0, v1]) n N m P b1 b2) (hk : k < n) (hj : j < 3) (q : mem.Nod) (hq : ∀ l, l < 3 → mem.nodC (fun _ => q) 0 l = if l = j then y else mem.nodC N k l) :
    mem.NetOwn (w.setCell ⟨b1, k * 3 + j, none⟩ y) (.agg #[.slice (some ⟨b1, 0, none⟩) n c0, v1]) n (fun i => if i = k then q else N i) m P b1 b2 := by
  obtain ⟨rfl', hR⟩ := nod_at h (by omega)
  obtain ⟨z0, z1, he, g0, g1, hd⟩ := h.ex
  simp only [Value.agg.injEq, Array.mk.injEq, List.cons.injEq, and_true] at he
  obtain ⟨rfl, rfl⟩ := he
  obtain ⟨p, c, hv, h1, h2, h3⟩ := g0.ex
  injection hv with e1 _ e3
  subst e1 e3
  have hS := (hR.set k j y hk hj).congr (c' := mem.nodC (fun i => if i = k then q else N i)) (fun i l hi hl => by
    unfold mem.updC
    by_cases e : i = k
    · subst e
      have e2 := hq l hl
      have e3 : mem.nodC (fun i' => if i' = i then q else N i') i l = mem.nodC (fun _ => q) 0 l := by
        rcases (by omega : l = 0 ∨ l = 1 ∨ l = 2) with rfl | rfl | rfl <;> simp [mem.nodC]
      rw [e3, e2]
      simp
    · rw [if_neg (by simp [e])]
      rcases (by omega : l = 0 ∨ l = 1 ∨ l = 2) with rfl | rfl | rfl <;> simp [mem.nodC, e])
  exact ⟨_, _, rfl, hS.own h1 h2, g1.upd (mem.Upd.of_only ((mem.Only.refl b1 w).setCell (k * 3 + j) y)) (by omega), hd⟩
theorem nod_step {w X : World} {v1 : Value} {dT dR : Nat → Value} {b n m b1 b2 c0 k j T len : Nat} {cv : Value} {i s : Int} {N : Nat → mem.Nod} {P : Nat → mem.Pip} {y : Value} (OZ : mem.NetOwn X (.agg #[.slice (some ⟨b1, 0, none⟩) n c0, v1]) n N m P b1 b2) (hk : k < n) (hj : j < 3) (q : mem.Nod) (hq : ∀ l, l < 3 → mem.nodC (fun _ => q) 0 l = if l = j then y else mem.nodC N k l) (hqs : q.s.size ≤ 9223372036854775807)
    (hnm : ∀ i, i < n → (N i).s.size ≤ 9223372036854775807) (SZ : Src X b cv len i s) (UZ : mem.Upd (· = b) w X) (TZ : mem.Ob X T 2 dT) (RZ : mem.Ob X w.heap.size 2 dR) (hb : b ≠ b1) (hT : T ≠ b1) (hw : w.heap.size < b1) :
    ∃ N', (∀ i, i < n → (N' i).s.size ≤ 9223372036854775807) ∧ mem.NetOwn (X.setCell ⟨b1, k * 3 + j, none⟩ y) (.agg #[.slice (some ⟨b1, 0, none⟩) n c0, v1]) n N' m P b1 b2 ∧ Src (X.setCell ⟨b1, k * 3 + j, none⟩ y) b cv len i s ∧ mem.Upd (· = b) w (X.setCell ⟨b1, k * 3 + j, none⟩ y) ∧ mem.Ob (X.setCell ⟨b1, k * 3 + j, none⟩ y) T 2 dT ∧ mem.Ob (X.setCell ⟨b1, k * 3 + j, none⟩ y) w.heap.size 2 dR := by
  have hO2 := (mem.Only.refl b1 X).setCell (k * 3 + j) y
  refine ⟨_, fun x hx => ?_, nod_own OZ hk hj q hq, src_upd SZ (hO2.block b hb), upd_own UZ hO2 (by omega), TZ.only hO2 hT, RZ.only hO2 (by omega)⟩
  split
  · exact hqs
  · exact hnm x hx
theorem row_type {B g : Nat} {e : TypeId} {z : Nat} {w : World} {v : Value} {n : Nat} {c : Nat → Nat → Value} (h : mem.RowE B e z w v n c) (hv : v.ownBlock = some g) : ∃ cur, w.heap[g]? = some (.cells cur e (0, 0)) := by
  rcases h.own.2 with ⟨rfl, _⟩ | ⟨q, cap, cur, rfl, _, h3, _⟩
  · simp [Value.ownBlock] at hv
  · simp [Value.ownBlock] at hv
    subst hv
    exact ⟨cur, h3⟩
theorem tabS (W : World) (t : TypeId) (c : Array Value) (hc : ∀ j, j < c.size → ∃ y : ByteArray, y.size ≤ 9223372036854775807 ∧ c[j]? = some (.string y)) (j : Nat) (hj : j < c.size) : ∃ y : ByteArray, y.size ≤ 9223372036854775807 ∧ (W.alloc (.cells c t)).cell? ⟨W.heap.size, j, none⟩ = some (.string y) := by
  obtain ⟨y, hs, hy⟩ := hc j hj
  refine ⟨y, hs, ?_⟩
  have e := heap_alloc_new W (.cells c t)
  simp only [World.cell?, e]
  simpa using hy

theorem nth0 {o : Oper} {l : List Oper} : (List.toArray (o :: l))[0]? = some o := rfl
theorem nth1 {o0 o1 : Oper} {l : List Oper} : (List.toArray (o0 :: o1 :: l))[1]? = some o1 := rfl
theorem nth2 {o0 o1 o2 : Oper} {l : List Oper} : (List.toArray (o0 :: o1 :: o2 :: l))[2]? = some o2 := rfl
theorem nth3 {o0 o1 o2 o3 : Oper} {l : List Oper} : (List.toArray (o0 :: o1 :: o2 :: o3 :: l))[3]? = some o3 := rfl
theorem nth4 {o0 o1 o2 o3 o4 : Oper} {l : List Oper} : (List.toArray (o0 :: o1 :: o2 :: o3 :: o4 :: l))[4]? = some o4 := rfl
theorem nth5 {o0 o1 o2 o3 o4 o5 : Oper} {l : List Oper} : (List.toArray (o0 :: o1 :: o2 :: o3 :: o4 :: o5 :: l))[5]? = some o5 := rfl
theorem nth6 {o0 o1 o2 o3 o4 o5 o6 : Oper} {l : List Oper} : (List.toArray (o0 :: o1 :: o2 :: o3 :: o4 :: o5 :: o6 :: l))[6]? = some o6 := rfl
theorem nth7 {o0 o1 o2 o3 o4 o5 o6 o7 : Oper} {l : List Oper} : (List.toArray (o0 :: o1 :: o2 :: o3 :: o4 :: o5 :: o6 :: o7 :: l))[7]? = some o7 := rfl
theorem nth8 {o0 o1 o2 o3 o4 o5 o6 o7 o8 : Oper} {l : List Oper} : (List.toArray (o0 :: o1 :: o2 :: o3 :: o4 :: o5 :: o6 :: o7 :: o8 :: l))[8]? = some o8 := rfl
theorem nth9 {o0 o1 o2 o3 o4 o5 o6 o7 o8 o9 : Oper} {l : List Oper} : (List.toArray (o0 :: o1 :: o2 :: o3 :: o4 :: o5 :: o6 :: o7 :: o8 :: o9 :: l))[9]? = some o9 := rfl
theorem nth10 {o0 o1 o2 o3 o4 o5 o6 o7 o8 o9 o10 : Oper} {l : List Oper} : (List.toArray (o0 :: o1 :: o2 :: o3 :: o4 :: o5 :: o6 :: o7 :: o8 :: o9 :: o10 :: l))[10]? = some o10 := rfl
theorem nth11 {o0 o1 o2 o3 o4 o5 o6 o7 o8 o9 o10 o11 : Oper} {l : List Oper} : (List.toArray (o0 :: o1 :: o2 :: o3 :: o4 :: o5 :: o6 :: o7 :: o8 :: o9 :: o10 :: o11 :: l))[11]? = some o11 := rfl
theorem nth12 {o0 o1 o2 o3 o4 o5 o6 o7 o8 o9 o10 o11 o12 : Oper} {l : List Oper} : (List.toArray (o0 :: o1 :: o2 :: o3 :: o4 :: o5 :: o6 :: o7 :: o8 :: o9 :: o10 :: o11 :: o12 :: l))[12]? = some o12 := rfl
theorem nth13 {o0 o1 o2 o3 o4 o5 o6 o7 o8 o9 o10 o11 o12 o13 : Oper} {l : List Oper} : (List.toArray (o0 :: o1 :: o2 :: o3 :: o4 :: o5 :: o6 :: o7 :: o8 :: o9 :: o10 :: o11 :: o12 :: o13 :: l))[13]? = some o13 := rfl
theorem nth14 {o0 o1 o2 o3 o4 o5 o6 o7 o8 o9 o10 o11 o12 o13 o14 : Oper} {l : List Oper} : (List.toArray (o0 :: o1 :: o2 :: o3 :: o4 :: o5 :: o6 :: o7 :: o8 :: o9 :: o10 :: o11 :: o12 :: o13 :: o14 :: l))[14]? = some o14 := rfl
theorem nth15 {o0 o1 o2 o3 o4 o5 o6 o7 o8 o9 o10 o11 o12 o13 o14 o15 : Oper} {l : List Oper} : (List.toArray (o0 :: o1 :: o2 :: o3 :: o4 :: o5 :: o6 :: o7 :: o8 :: o9 :: o10 :: o11 :: o12 :: o13 :: o14 :: o15 :: l))[15]? = some o15 := rfl
theorem nth16 {o0 o1 o2 o3 o4 o5 o6 o7 o8 o9 o10 o11 o12 o13 o14 o15 o16 : Oper} {l : List Oper} : (List.toArray (o0 :: o1 :: o2 :: o3 :: o4 :: o5 :: o6 :: o7 :: o8 :: o9 :: o10 :: o11 :: o12 :: o13 :: o14 :: o15 :: o16 :: l))[16]? = some o16 := rfl
theorem nth17 {o0 o1 o2 o3 o4 o5 o6 o7 o8 o9 o10 o11 o12 o13 o14 o15 o16 o17 : Oper} {l : List Oper} : (List.toArray (o0 :: o1 :: o2 :: o3 :: o4 :: o5 :: o6 :: o7 :: o8 :: o9 :: o10 :: o11 :: o12 :: o13 :: o14 :: o15 :: o16 :: o17 :: l))[17]? = some o17 := rfl
theorem nth18 {o0 o1 o2 o3 o4 o5 o6 o7 o8 o9 o10 o11 o12 o13 o14 o15 o16 o17 o18 : Oper} {l : List Oper} : (List.toArray (o0 :: o1 :: o2 :: o3 :: o4 :: o5 :: o6 :: o7 :: o8 :: o9 :: o10 :: o11 :: o12 :: o13 :: o14 :: o15 :: o16 :: o17 :: o18 :: l))[18]? = some o18 := rfl
theorem nth19 {o0 o1 o2 o3 o4 o5 o6 o7 o8 o9 o10 o11 o12 o13 o14 o15 o16 o17 o18 o19 : Oper} {l : List Oper} : (List.toArray (o0 :: o1 :: o2 :: o3 :: o4 :: o5 :: o6 :: o7 :: o8 :: o9 :: o10 :: o11 :: o12 :: o13 :: o14 :: o15 :: o16 :: o17 :: o18 :: o19 :: l))[19]? = some o19 := rfl
theorem nth20 {o0 o1 o2 o3 o4 o5 o6 o7 o8 o9 o10 o11 o12 o13 o14 o15 o16 o17 o18 o19 o20 : Oper} {l : List Oper} : (List.toArray (o0 :: o1 :: o2 :: o3 :: o4 :: o5 :: o6 :: o7 :: o8 :: o9 :: o10 :: o11 :: o12 :: o13 :: o14 :: o15 :: o16 :: o17 :: o18 :: o19 :: o20 :: l))[20]? = some o20 := rfl
theorem nth21 {o0 o1 o2 o3 o4 o5 o6 o7 o8 o9 o10 o11 o12 o13 o14 o15 o16 o17 o18 o19 o20 o21 : Oper} {l : List Oper} : (List.toArray (o0 :: o1 :: o2 :: o3 :: o4 :: o5 :: o6 :: o7 :: o8 :: o9 :: o10 :: o11 :: o12 :: o13 :: o14 :: o15 :: o16 :: o17 :: o18 :: o19 :: o20 :: o21 :: l))[21]? = some o21 := rfl
theorem nth22 {o0 o1 o2 o3 o4 o5 o6 o7 o8 o9 o10 o11 o12 o13 o14 o15 o16 o17 o18 o19 o20 o21 o22 : Oper} {l : List Oper} : (List.toArray (o0 :: o1 :: o2 :: o3 :: o4 :: o5 :: o6 :: o7 :: o8 :: o9 :: o10 :: o11 :: o12 :: o13 :: o14 :: o15 :: o16 :: o17 :: o18 :: o19 :: o20 :: o21 :: o22 :: l))[22]? = some o22 := rfl
theorem nth23 {o0 o1 o2 o3 o4 o5 o6 o7 o8 o9 o10 o11 o12 o13 o14 o15 o16 o17 o18 o19 o20 o21 o22 o23 : Oper} {l : List Oper} : (List.toArray (o0 :: o1 :: o2 :: o3 :: o4 :: o5 :: o6 :: o7 :: o8 :: o9 :: o10 :: o11 :: o12 :: o13 :: o14 :: o15 :: o16 :: o17 :: o18 :: o19 :: o20 :: o21 :: o22 :: o23 :: l))[23]? = some o23 := rfl

set_option maxRecDepth 100000 in
set_option maxHeartbeats 8000000 in
theorem any_ok : AnyOK := by
  intro w b B cv len i s h hc hB
  have hlt := src_lt h
  have h' := src_alloc h hlt (.cells #[.slice none 0 0, .slice none 0 0] 27)
  have hc' := codeAt_below hc ((Below.refl B w).alloc (by omega) (.cells #[.slice none 0 0, .slice none 0 0] 27))
  have R1 := mem.boxed w (.slice none 0 0) (.slice none 0 0) 27
  have U0 : mem.Upd (· = b) w (w.alloc (.cells #[.slice none 0 0, .slice none 0 0] 27)) := mem.Upd.of_below (mem.below_new w _)
  have hsz : w.heap.size + 1 ≤ (w.alloc (.cells #[.slice none 0 0, .slice none 0 0] 27)).heap.size := by simp
  have HC := Lib.hid hc
  go_enter Tryz.func85, Tryz.ntmps85
  go_wp2_with fail
  generalize hW : w.alloc (.cells #[.slice none 0 0, .slice none 0 0] 27) = Wa at *
  clear hW h hc
  refine (net_any Wa b B cv len i s h' hc' hB).mono ?_
  rintro e w1 ⟨v, n, m, N, P, b1, b2, i1, s1, rfl, hn, hm, hn0, hnm, hO, l1, l2, hS1, U1, q0, q1, hq, rN1, rP1⟩
  obtain ⟨p0, c0, p1, c1, rfl⟩ := hO.shape
  simp only [Value.agg.injEq, Array.mk.injEq, List.cons.injEq, and_true] at hq
  obtain ⟨rfl, rfl⟩ := hq
  have hpT := rP1.own.lt
  have hnT := rN1.own.lt
  have ty2 := heap_alloc_new w1 (.cells #[.slice p0 n c0, .slice p1 m c1] 27)
  have hbW : b < Wa.heap.size := by omega
  have bl := mem.below_new w1 (.cells #[.slice p0 n c0, .slice p1 m c1] 27)
  have T2 := mem.boxed w1 (.slice p0 n c0) (.slice p1 m c1) 27
  have R2 := (R1.keep (U1.block w.heap.size (by omega) (by omega))).next bl
  have U2 := (U0.trans U1).trans (mem.Upd.of_below bl)
  have O2 := hO.next bl
  have S2 := src_alloc hS1 (src_lt hS1) (.cells #[.slice p0 n c0, .slice p1 m c1] 27)
  have hs1 := U1.size
  have rN2 := rN1.next bl
  have rP2 := rP1.next bl
  have hbT : b ≠ w1.heap.size := by have := src_lt hS1; omega
  have hRT : w.heap.size ≠ w1.heap.size := by omega
  have hb1 : w.heap.size < b1 := by omega
  have hb2 : w.heap.size < b2 := by omega
  have hl1 : b1 < w1.heap.size := by rcases hO.lt1 with h | h <;> omega
  have hl2 : m = 0 ∨ b2 < w1.heap.size := hO.lt2
  have t0 := T2.b0
  clear U0 U1 h' hc' R1 hO hS1 l1 l2 bl rN1 rP1
  go_wp2_with fail
  generalize hW : w1.alloc (.cells #[.slice p0 n c0, .slice p1 m c1] 27) = W2 at *
  clear hW t0
  refine (next_any W2 b B cv len i1 s1 n S2 (code_of HC.out U2 hB hlt) hB (by omega)).mono ?_
  rintro e w3 ⟨v3, i3, s3, rfl, v0, hv3, S3, o3⟩
  obtain ⟨k, rfl⟩ := Int.eq_ofNat_of_zero_le v0
  have hkn : k < n := by omega
  have T3 := T2.keep (o3.block w1.heap.size (by omega))
  have R3 := R2.keep (o3.block w.heap.size (by omega))
  have U3 := U2.trans (upd_of o3)
  have O3 := O2.upd (upd_of o3) (.inr (by omega)) (.inr (by omega))
  have rN3 := rN2.low (upd_of o3) hbW
  have rP3 := rP2.low (upd_of o3) hbW
  have ty3 := (o3.block w1.heap.size (by omega)).trans ty2
  clear ty2 v0 hv3 S2 T2 R2 U2 O2 o3 rN2 rP2
  go_wp2_with fail
  refine (next_any w3 b B cv len i3 s3 30 S3 (code_of HC.out U3 hB hlt) hB (by omega)).mono ?_
  rintro e w4 ⟨v4, i4, s4, rfl, v0, hv4, S4, o4⟩
  have T4 := T3.keep (o4.block w1.heap.size (by omega))
  have R4 := R3.keep (o4.block w.heap.size (by omega))
  have U4 := U3.trans (upd_of o4)
  have O4 := O3.upd (upd_of o4) (.inr (by omega)) (.inr (by omega))
  have rN4 := rN3.low (upd_of o4) hbW
  have rP4 := rP3.low (upd_of o4) hbW
  have z4 := o4.size
  have ty4 := Lib.hid ((o4.block w1.heap.size (by omega)).trans ty3)
  clear ty3 S3 T3 R3 U3 O3 o4 rN3 rP3
  have t0 := T4.b0
  have t1 := T4.b1
  have u0 := T4.free 0
  have u1 := T4.free 1
  have f0 := R4.b0
  have f1 := R4.b1
  have k0 := R4.free 0
  have k1 := R4.free 1
  have hsW : Wa.heap.size ≤ w4.heap.size := by have := U4.size; have := T4.lt; omega
  have RN4 := Lib.hid rN4
  have RP4 := Lib.hid rP4
  have HPT := Lib.hid hpT
  have HNT := Lib.hid hnT
  clear rN4 rP4 hpT hnT z4
  by_cases hbig : 6 < v4
  · have q0 : (v4 == 0) = false := by simp; omega
    have q1 : (v4 == 1) = false := by simp; omega
    have q2 : (v4 == 2) = false := by simp; omega
    have q3 : (v4 == 3) = false := by simp; omega
    have q4 : (v4 == 4) = false := by simp; omega
    have q5 : (v4 == 5) = false := by simp; omega
    have q6 : (v4 == 6) = false := by simp; omega
    have H := Lib.hid (any_post (u0 := .slice p0 n c0) (u1 := .slice p1 m c1) O4 hb1 hb2 (by omega) (by omega) hnm S4 U4 hlt)
    clear O4 S4 U4 T4 R4
    go_wp2_with fail
    refine bodyPost_ret (v := .agg #[.slice p0 n c0, .slice p1 m c1]) (by simp [results, Tryz.results85, go_sem, f0, f1]) rfl H.out
  rcases (by omega : v4 = 6 ∨ v4 = 4 ∨ v4 = 5 ∨ v4 = 2 ∨ v4 = 3 ∨ v4 = 0 ∨ v4 = 1) with rfl | rfl | rfl | rfl | rfl | rfl | rfl
  · have hO2 := (mem.Only.refl w1.heap.size w4).setCell 0 (.slice none 0 0)
    have O5 : mem.NetOwn (w4.setCell ⟨w1.heap.size, 0, none⟩ (.slice none 0 0)) (.agg #[.slice none 0 0, .slice p1 m c1]) 0 N m P b1 b2 := by
      obtain ⟨z0, z1, he, _, g1, _⟩ := (O4.upd (mem.Upd.of_only hO2) (.inr (by omega)) (by omega)).ex
      simp only [Value.agg.injEq, Array.mk.injEq, List.cons.injEq, and_true] at he
      rw [← he.2] at g1
      exact ⟨_, _, rfl, mem.OwnS.none_ _ _ _ _, g1, .inl rfl⟩
    have U5 := upd_own U4 hO2 (by omega)
    have S5 := src_upd S4 (hO2.block b (by omega))
    have T5 := T4.set 0 (.slice none 0 0) (by omega)
    have R5 := R4.only hO2 (by omega)
    clear O4 S4 U4 T4 R4 hO2 f0 f1 k0 k1
    go_upto_region 20 with (fail)
    clear t0 t1 u0 u1
    generalize hW : w4.setCell ⟨w1.heap.size, 0, none⟩ (.slice none 0 0) = w5 at *
    have t0 : w5.cell? ⟨w1.heap.size, 0, none⟩ = some (.slice none 0 0) := T5.cell 0 (by omega)
    have t1 : w5.cell? ⟨w1.heap.size, 1, none⟩ = some (.slice p1 m c1) := T5.cell 1 (by omega)
    have f0 := R5.b0
    have f1 := R5.b1
    have k0 := R5.free 0
    have k1 := R5.free 1
    have H := Lib.hid (any_post (u0 := .slice none 0 0) (u1 := .slice p1 m c1) O5 hb1 hb2 (by omega) (by omega) (fun i hi => by omega) S5 U5 hlt)
    clear O5 S5 U5 T5 R5 hW
    go_wp2_with fail
    refine bodyPost_ret (v := .agg #[.slice none 0 0, .slice p1 m c1]) (by simp [results, Tryz.results85, go_sem, f0, f1]) rfl H.out
  · rcases Nat.eq_zero_or_pos m with hm0 | hm0
    · subst hm0
      have H := Lib.hid (any_post (u0 := .slice p0 n c0) (u1 := .slice p1 0 c1) O4 hb1 hb2 (by omega) (by omega) hnm S4 U4 hlt)
      clear O4 S4 U4 T4 R4
      go_wp2_with fail
      refine bodyPost_ret (v := .agg #[.slice p0 n c0, .slice p1 0 c1]) (by simp [results, Tryz.results85, go_sem, f0, f1]) rfl H.out
    · have hmI : (0 : Int) < (m : Int) := by omega
      go_wp2_with fail
      obtain ⟨rfl, hR⟩ := pip_at O4 hm0
      have hlb := hR.lt
      have bA := mem.below_new w4 (Obj.cells #[.int .i64 0, .int .i64 1000, .int .i64 1001] 2)
      have SA := (src_upd S4 rfl : Src w4.drew b cv len i4 s4)
      have SB := (src_upd (src_alloc S4 (src_lt S4) (Obj.cells #[.int .i64 0, .int .i64 1000, .int .i64 1001] 2)) rfl : Src (w4.alloc (Obj.cells #[.int .i64 0, .int .i64 1000, .int .i64 1001] 2)).drew b cv len i4 s4)
      have CA := code_of HC.out (upd_dw' U4) hB hlt
      have CB := code_of HC.out (upd_dw' (U4.trans (mem.Upd.of_below bA))) hB hlt
      have TB' := ((T4.next bA).keep rfl : mem.Ob (w4.alloc (Obj.cells #[.int .i64 0, .int .i64 1000, .int .i64 1001] 2)).drew w1.heap.size 2 _)
      have h3 : (3 : Int) ≤ 9223372036854775807 := by omega
      have hq0 : w4.frozen? ⟨b2, 2, none⟩ = false := hR.free 2
      have hT2 : w1.heap.size ≠ b2 := by omega
      have tb1 := TB'.b1
      have hcs : ∀ j, j < (#[Value.int .i64 0, .int .i64 1000, .int .i64 1001] : Array Value).size → ∃ y : Int, (#[Value.int .i64 0, .int .i64 1000, .int .i64 1001] : Array Value)[j]? = some (.int .i64 y) := by
        intro j hj
        rcases (by simp at hj; omega : j = 0 ∨ j = 1 ∨ j = 2) with rfl | rfl | rfl
        all_goals exact ⟨_, rfl⟩
      have hbR : b ≠ w.heap.size := by omega
      have hbb1 : b ≠ b1 := by omega
      have hbb2 : b ≠ b2 := by omega
      have hg : b ≠ w4.heap.size := by have := src_lt S4; omega
      have tA := tabI w4 2 _ hcs
      have TW := Lib.hid T4
      have OW := Lib.hid O4
      have RW := Lib.hid R4
      have UW := Lib.hid U4
      have KW := Lib.hid hR
      clear T4 O4 R4 U4 hR
      go_region_with (first | (go_at_call 41; (first | (with_reducible refine (next_any _ b B cv len i4 s4 3 SA CA hB h3).mono ?_) | (with_reducible refine (next_any _ b B cv len i4 s4 3 SB CB hB h3).mono ?_)); rintro e wx ⟨x, ix, sx, rfl, x0, x1, Sx, ox⟩; obtain ⟨jx, rfl⟩ := Int.eq_ofNat_of_zero_le x0; have hjx : jx < 3 := (by omega); have hjI : (jx : Int) < 3 := (by omega); (first | (have ow : Only b (w4.alloc (Obj.cells #[.int .i64 0, .int .i64 1000, .int .i64 1001] 2)).drew wx := ox; obtain ⟨y, hy⟩ := tA jx hjx; have hy2 : wx.cell? ⟨w4.heap.size, jx, none⟩ = some (.int .i64 y) := (World.cell?_of_block (ox.block w4.heap.size hg.symm)).trans hy; have TZ := (TB'.keep (ox.block w1.heap.size hbT.symm) : mem.Ob wx w1.heap.size 2 _); have tz := TZ.b1; have KZ := ((KW.out.below bA hlb).keep (ox.block b2 (by omega)) : mem.Rw wx b2 m 5 _); have kz := KZ.free 2; have kc : wx.cell? ⟨b2, 2, none⟩ = some (.int .i64 (P 0).k) := KZ.cell 0 2 hm0 (by omega); have RZ := (((RW.out.next bA).keep rfl : mem.Ob (w4.alloc (Obj.cells #[.int .i64 0, .int .i64 1000, .int .i64 1001] 2)).drew w.heap.size 2 _).keep (ox.block w.heap.size hbR.symm) : mem.Ob wx w.heap.size 2 _); have OZ := (OW.out.next bA).drew.upd (upd_of ox) (.inr hbb1.symm) (.inr hbb2.symm); have UZ := (upd_dw' (UW.out.trans (mem.Upd.of_below bA))).trans (upd_of ox); have SZ := Sx) | (obtain ⟨y, hy⟩ := tabI wx 2 _ hcs jx hjx; have TX := (TW.out.keep (ox.block w1.heap.size hbT.symm) : mem.Ob wx w1.heap.size 2 _); have tx := TX.b1; have TZ := TX.next (mem.below_new wx (Obj.cells #[.int .i64 0, .int .i64 1000, .int .i64 1001] 2)); have tz := TZ.b1; have KX := (KW.out.keep (ox.block b2 (by omega)) : mem.Rw wx b2 m 5 _); have KZ := KX.below (mem.below_new wx (Obj.cells #[.int .i64 0, .int .i64 1000, .int .i64 1001] 2)) KX.lt; have kz := KZ.free 2; have kc : (wx.alloc (Obj.cells #[.int .i64 0, .int .i64 1000, .int .i64 1001] 2)).cell? ⟨b2, 2, none⟩ = some (.int .i64 (P 0).k) := KZ.cell 0 2 hm0 (by omega); have kz' := KX.free 2; have kc' : wx.cell? ⟨b2, 2, none⟩ = some (.int .i64 (P 0).k) := KX.cell 0 2 hm0 (by omega); have RZ := (RW.out.keep (ox.block w.heap.size hbR.symm) : mem.Ob wx w.heap.size 2 _).next (mem.below_new wx (Obj.cells #[.int .i64 0, .int .i64 1000, .int .i64 1001] 2)); have OZ := (OW.out.drew.upd (upd_of ox) (.inr hbb1.symm) (.inr hbb2.symm)).next (mem.below_new wx (Obj.cells #[.int .i64 0, .int .i64 1000, .int .i64 1001] 2)); have UZ := ((upd_dw' UW.out).trans (upd_of ox)).trans (mem.Upd.of_below (mem.below_new wx (Obj.cells #[.int .i64 0, .int .i64 1000, .int .i64 1001] 2))); have SZ := src_alloc Sx (src_lt Sx) (Obj.cells #[.int .i64 0, .int .i64 1000, .int .i64 1001] 2))); clear hjx))
      all_goals
        obtain ⟨P', hN, S9, U9, T9, R9⟩ := pip_step (j := 2) (y := y) OZ hn0 hm0 (by omega) SZ UZ TZ RZ hbb2 hT2 hb2
        clear t0 t1 u0 u1 f0 f1 k0 k1 tz kz kc
        have t0 := T9.b0
        have t1 := T9.b1
        have f0 := R9.b0
        have f1 := R9.b1
        have k0 := R9.free 0
        have k1 := R9.free 1
        have H := Lib.hid (any_post (u0 := .slice p0 n c0) (u1 := .slice (some ⟨b2, 0, none⟩) m c1) hN hb1 hb2 (by omega) (by omega) hnm S9 U9 hlt)
        clear S9 U9 T9 R9 hN OZ UZ SZ RZ TZ
        go_wp2_with fail
        refine bodyPost_ret (v := .agg #[.slice p0 n c0, .slice (some ⟨b2, 0, none⟩) m c1]) (by simp [results, Tryz.results85, go_sem, f0, f1]) rfl H.out
  · rcases Nat.eq_zero_or_pos m with hm0 | hm0
    · subst hm0
      have H := Lib.hid (any_post (u0 := .slice p0 n c0) (u1 := .slice p1 0 c1) O4 hb1 hb2 (by omega) (by omega) hnm S4 U4 hlt)
      clear O4 S4 U4 T4 R4
      go_wp2_with fail
      refine bodyPost_ret (v := .agg #[.slice p0 n c0, .slice p1 0 c1]) (by simp [results, Tryz.results85, go_sem, f0, f1]) rfl H.out
    · have hmI : (0 : Int) < (m : Int) := by omega
      go_wp2_with fail
      obtain ⟨rfl, hR⟩ := pip_at O4 hm0
      have hlb := hR.lt
      have bA := mem.below_new w4 (Obj.cells #[.int .i64 0, .int .i64 30000, .int .i64 30001] 2)
      have SA := (src_upd S4 rfl : Src w4.drew b cv len i4 s4)
      have SB := (src_upd (src_alloc S4 (src_lt S4) (Obj.cells #[.int .i64 0, .int .i64 30000, .int .i64 30001] 2)) rfl : Src (w4.alloc (Obj.cells #[.int .i64 0, .int .i64 30000, .int .i64 30001] 2)).drew b cv len i4 s4)
      have CA := code_of HC.out (upd_dw' U4) hB hlt
      have CB := code_of HC.out (upd_dw' (U4.trans (mem.Upd.of_below bA))) hB hlt
      have TB' := ((T4.next bA).keep rfl : mem.Ob (w4.alloc (Obj.cells #[.int .i64 0, .int .i64 30000, .int .i64 30001] 2)).drew w1.heap.size 2 _)
      have h3 : (3 : Int) ≤ 9223372036854775807 := by omega
      have hq0 : w4.frozen? ⟨b2, 4, none⟩ = false := hR.free 4
      have hT2 : w1.heap.size ≠ b2 := by omega
      have tb1 := TB'.b1
      have hcs : ∀ j, j < (#[Value.int .i64 0, .int .i64 30000, .int .i64 30001] : Array Value).size → ∃ y : Int, (#[Value.int .i64 0, .int .i64 30000, .int .i64 30001] : Array Value)[j]? = some (.int .i64 y) := by
        intro j hj
        rcases (by simp at hj; omega : j = 0 ∨ j = 1 ∨ j = 2) with rfl | rfl | rfl
        all_goals exact ⟨_, rfl⟩
      have hbR : b ≠ w.heap.size := by omega
      have hbb1 : b ≠ b1 := by omega
      have hbb2 : b ≠ b2 := by omega
      have hg : b ≠ w4.heap.size := by have := src_lt S4; omega
      have tA := tabI w4 2 _ hcs
      have TW := Lib.hid T4
      have OW := Lib.hid O4
      have RW := Lib.hid R4
      have UW := Lib.hid U4
      have KW := Lib.hid hR
      clear T4 O4 R4 U4 hR
      go_region_with (first | (go_at_call 41; (first | (with_reducible refine (next_any _ b B cv len i4 s4 3 SA CA hB h3).mono ?_) | (with_reducible refine (next_any _ b B cv len i4 s4 3 SB CB hB h3).mono ?_)); rintro e wx ⟨x, ix, sx, rfl, x0, x1, Sx, ox⟩; obtain ⟨jx, rfl⟩ := Int.eq_ofNat_of_zero_le x0; have hjx : jx < 3 := (by omega); have hjI : (jx : Int) < 3 := (by omega); (first | (have ow : Only b (w4.alloc (Obj.cells #[.int .i64 0, .int .i64 30000, .int .i64 30001] 2)).drew wx := ox; obtain ⟨y, hy⟩ := tA jx hjx; have hy2 : wx.cell? ⟨w4.heap.size, jx, none⟩ = some (.int .i64 y) := (World.cell?_of_block (ox.block w4.heap.size hg.symm)).trans hy; have TZ := (TB'.keep (ox.block w1.heap.size hbT.symm) : mem.Ob wx w1.heap.size 2 _); have tz := TZ.b1; have KZ := ((KW.out.below bA hlb).keep (ox.block b2 (by omega)) : mem.Rw wx b2 m 5 _); have kz := KZ.free 4; have kc : wx.cell? ⟨b2, 4, none⟩ = some (.int .i64 (P 0).l) := KZ.cell 0 4 hm0 (by omega); have RZ := (((RW.out.next bA).keep rfl : mem.Ob (w4.alloc (Obj.cells #[.int .i64 0, .int .i64 30000, .int .i64 30001] 2)).drew w.heap.size 2 _).keep (ox.block w.heap.size hbR.symm) : mem.Ob wx w.heap.size 2 _); have OZ := (OW.out.next bA).drew.upd (upd_of ox) (.inr hbb1.symm) (.inr hbb2.symm); have UZ := (upd_dw' (UW.out.trans (mem.Upd.of_below bA))).trans (upd_of ox); have SZ := Sx) | (obtain ⟨y, hy⟩ := tabI wx 2 _ hcs jx hjx; have TX := (TW.out.keep (ox.block w1.heap.size hbT.symm) : mem.Ob wx w1.heap.size 2 _); have tx := TX.b1; have TZ := TX.next (mem.below_new wx (Obj.cells #[.int .i64 0, .int .i64 30000, .int .i64 30001] 2)); have tz := TZ.b1; have KX := (KW.out.keep (ox.block b2 (by omega)) : mem.Rw wx b2 m 5 _); have KZ := KX.below (mem.below_new wx (Obj.cells #[.int .i64 0, .int .i64 30000, .int .i64 30001] 2)) KX.lt; have kz := KZ.free 4; have kc : (wx.alloc (Obj.cells #[.int .i64 0, .int .i64 30000, .int .i64 30001] 2)).cell? ⟨b2, 4, none⟩ = some (.int .i64 (P 0).l) := KZ.cell 0 4 hm0 (by omega); have kz' := KX.free 4; have kc' : wx.cell? ⟨b2, 4, none⟩ = some (.int .i64 (P 0).l) := KX.cell 0 4 hm0 (by omega); have RZ := (RW.out.keep (ox.block w.heap.size hbR.symm) : mem.Ob wx w.heap.size 2 _).next (mem.below_new wx (Obj.cells #[.int .i64 0, .int .i64 30000, .int .i64 30001] 2)); have OZ := (OW.out.drew.upd (upd_of ox) (.inr hbb1.symm) (.inr hbb2.symm)).next (mem.below_new wx (Obj.cells #[.int .i64 0, .int .i64 30000, .int .i64 30001] 2)); have UZ := ((upd_dw' UW.out).trans (upd_of ox)).trans (mem.Upd.of_below (mem.below_new wx (Obj.cells #[.int .i64 0, .int .i64 30000, .int .i64 30001] 2))); have SZ := src_alloc Sx (src_lt Sx) (Obj.cells #[.int .i64 0, .int .i64 30000, .int .i64 30001] 2))); clear hjx))
      all_goals
        obtain ⟨P', hN, S9, U9, T9, R9⟩ := pip_step (j := 4) (y := y) OZ hn0 hm0 (by omega) SZ UZ TZ RZ hbb2 hT2 hb2
        clear t0 t1 u0 u1 f0 f1 k0 k1 tz kz kc
        have t0 := T9.b0
        have t1 := T9.b1
        have f0 := R9.b0
        have f1 := R9.b1
        have k0 := R9.free 0
        have k1 := R9.free 1
        have H := Lib.hid (any_post (u0 := .slice p0 n c0) (u1 := .slice (some ⟨b2, 0, none⟩) m c1) hN hb1 hb2 (by omega) (by omega) hnm S9 U9 hlt)
        clear S9 U9 T9 R9 hN OZ UZ SZ RZ TZ
        go_wp2_with fail
        refine bodyPost_ret (v := .agg #[.slice p0 n c0, .slice (some ⟨b2, 0, none⟩) m c1]) (by simp [results, Tryz.results85, go_sem, f0, f1]) rfl H.out
  · have al := appPip _ w4 _ m P ⟨k, k, 1, 0, 1⟩ RP4.out hsW (by omega)
    obtain ⟨v5, w5, hr, h5, u5⟩ := al
    obtain ⟨g1, a1, a2, a3⟩ := ownS2 (RN4.out.keep u5 (mem.rows_apart RN4.out RP4.out (by decide)))
    obtain ⟨g2, d1, d2, d3⟩ := ownS2 h5
    have hap : n = 0 ∨ m + 1 = 0 ∨ g1 ≠ g2 := by
      rcases a3 with a3 | a3
      · rcases d3 with d3 | d3
        · refine .inr (.inr fun e => ?_)
          exact mem.rows_apart (RN4.out.keep u5 (mem.rows_apart RN4.out RP4.out (by decide))) h5 (by decide) g1 a3 (by rw [d3, e])
        · exact .inr (.inl d3)
      · exact .inl a3
    have T5 := T4.keep (u5.block w1.heap.size T4.lt (fun e => by have := HPT.out _ e.symm; omega))
    have R5 := R4.keep (u5.block w.heap.size R4.lt (fun e => by have := HPT.out _ e.symm; omega))
    have S5 := src_upd S4 (u5.block b (src_lt S4) (fun e => by have := HPT.out _ e.symm; omega))
    have U5 := upd_row U4 RP4.out (by omega) u5
    have O5 : mem.NetOwn w5 (.agg #[.slice p0 n c0, v5]) n N (m + 1) (addP P m ⟨k, k, 1, 0, 1⟩) g1 g2 := ⟨_, _, rfl, a1, d1, hap⟩
    have hg1 : w1.heap.size ≠ g1 := by
      rcases a3 with a3 | a3
      · have := HNT.out _ a3; omega
      · omega
    have hg2 : w1.heap.size ≠ g2 := by
      rintro rfl
      rcases d3 with d3 | d3
      · obtain ⟨cur, hc⟩ := row_type h5 d3
        rw [u5.block w1.heap.size T4.lt (fun e => by have := HPT.out _ e.symm; omega), ty4.out] at hc
        injection hc with hc
        injection hc with _ hc
        exact absurd hc (by decide)
      · omega
    obtain ⟨p5, c5, rfl⟩ := h5.shape
    have hO2 := (mem.Only.refl w1.heap.size w5).setCell 1 (.slice p5 (m + 1) c5)
    have O6 := O5.upd (mem.Upd.of_only hO2) (.inr hg1.symm) (.inr hg2.symm)
    have U6 := upd_own U5 hO2 (by omega)
    have S6 := src_upd S5 (hO2.block b (by omega))
    have T6 := T5.set 1 (.slice p5 (m + 1) c5) (by omega)
    have R6 := R5.only hO2 (by omega)
    have t50 := T5.b0
    have t51 := T5.b1
    have u50 := T5.free 0
    have u51 := T5.free 1
    clear O4 S4 U4 T4 R4 hO2 f0 f1 k0 k1 O5 S5 U5 T5 R5 a1 d1 h5 u5
    go_upto_region 20 with (at_builtin; refine mem.wpList_appT hr rfl _ _ rfl rfl rfl rfl ?_)
    clear t0 t1 u0 u1 t50 t51 u50 u51 hr
    generalize hW : w5.setCell ⟨w1.heap.size, 1, none⟩ (.slice p5 (m + 1) c5) = w6 at *
    have t0 : w6.cell? ⟨w1.heap.size, 0, none⟩ = some (.slice p0 n c0) := T6.cell 0 (by omega)
    have t1 : w6.cell? ⟨w1.heap.size, 1, none⟩ = some (.slice p5 (m + 1) c5) := T6.cell 1 (by omega)
    have f0 := R6.b0
    have f1 := R6.b1
    have k0 := R6.free 0
    have k1 := R6.free 1
    have H := Lib.hid (any_post (u0 := .slice p0 n c0) (u1 := .slice p5 (m + 1) c5) O6 (by omega) (by omega) (by omega) (by omega) hnm S6 U6 hlt)
    clear O6 S6 U6 T6 R6 hW
    go_wp2_with fail
    refine bodyPost_ret (v := .agg #[.slice p0 n c0, .slice p5 (m + 1) c5]) (by simp [results, Tryz.results85, go_sem, f0, f1]) rfl H.out
  · have al := appPip _ w4 _ m P ⟨k, n, 1, 0, 1⟩ RP4.out hsW (by omega)
    obtain ⟨v5, w5, hr, h5, u5⟩ := al
    obtain ⟨g1, a1, a2, a3⟩ := ownS2 (RN4.out.keep u5 (mem.rows_apart RN4.out RP4.out (by decide)))
    obtain ⟨g2, d1, d2, d3⟩ := ownS2 h5
    have hap : n = 0 ∨ m + 1 = 0 ∨ g1 ≠ g2 := by
      rcases a3 with a3 | a3
      · rcases d3 with d3 | d3
        · refine .inr (.inr fun e => ?_)
          exact mem.rows_apart (RN4.out.keep u5 (mem.rows_apart RN4.out RP4.out (by decide))) h5 (by decide) g1 a3 (by rw [d3, e])
        · exact .inr (.inl d3)
      · exact .inl a3
    have T5 := T4.keep (u5.block w1.heap.size T4.lt (fun e => by have := HPT.out _ e.symm; omega))
    have R5 := R4.keep (u5.block w.heap.size R4.lt (fun e => by have := HPT.out _ e.symm; omega))
    have S5 := src_upd S4 (u5.block b (src_lt S4) (fun e => by have := HPT.out _ e.symm; omega))
    have U5 := upd_row U4 RP4.out (by omega) u5
    have O5 : mem.NetOwn w5 (.agg #[.slice p0 n c0, v5]) n N (m + 1) (addP P m ⟨k, n, 1, 0, 1⟩) g1 g2 := ⟨_, _, rfl, a1, d1, hap⟩
    have hg1 : w1.heap.size ≠ g1 := by
      rcases a3 with a3 | a3
      · have := HNT.out _ a3; omega
      · omega
    have hg2 : w1.heap.size ≠ g2 := by
      rintro rfl
      rcases d3 with d3 | d3
      · obtain ⟨cur, hc⟩ := row_type h5 d3
        rw [u5.block w1.heap.size T4.lt (fun e => by have := HPT.out _ e.symm; omega), ty4.out] at hc
        injection hc with hc
        injection hc with _ hc
        exact absurd hc (by decide)
      · omega
    obtain ⟨p5, c5, rfl⟩ := h5.shape
    have hO2 := (mem.Only.refl w1.heap.size w5).setCell 1 (.slice p5 (m + 1) c5)
    have O6 := O5.upd (mem.Upd.of_only hO2) (.inr hg1.symm) (.inr hg2.symm)
    have U6 := upd_own U5 hO2 (by omega)
    have S6 := src_upd S5 (hO2.block b (by omega))
    have T6 := T5.set 1 (.slice p5 (m + 1) c5) (by omega)
    have R6 := R5.only hO2 (by omega)
    have t50 := T5.b0
    have t51 := T5.b1
    have u50 := T5.free 0
    have u51 := T5.free 1
    clear O4 S4 U4 T4 R4 hO2 f0 f1 k0 k1 O5 S5 U5 T5 R5 a1 d1 h5 u5
    go_upto_region 20 with (at_builtin; refine mem.wpList_appT hr rfl _ _ rfl rfl rfl rfl ?_)
    clear t0 t1 u0 u1 t50 t51 u50 u51 hr
    generalize hW : w5.setCell ⟨w1.heap.size, 1, none⟩ (.slice p5 (m + 1) c5) = w6 at *
    have t0 : w6.cell? ⟨w1.heap.size, 0, none⟩ = some (.slice p0 n c0) := T6.cell 0 (by omega)
    have t1 : w6.cell? ⟨w1.heap.size, 1, none⟩ = some (.slice p5 (m + 1) c5) := T6.cell 1 (by omega)
    have f0 := R6.b0
    have f1 := R6.b1
    have k0 := R6.free 0
    have k1 := R6.free 1
    have H := Lib.hid (any_post (u0 := .slice p0 n c0) (u1 := .slice p5 (m + 1) c5) O6 (by omega) (by omega) (by omega) (by omega) hnm S6 U6 hlt)
    clear O6 S6 U6 T6 R6 hW
    go_wp2_with fail
    refine bodyPost_ret (v := .agg #[.slice p0 n c0, .slice p5 (m + 1) c5]) (by simp [results, Tryz.results85, go_sem, f0, f1]) rfl H.out
  · have hkI : (k : Int) < n := by omega
    go_wp2_with fail
    obtain ⟨rfl, hR⟩ := nod_at O4 hn0
    have hlb := hR.lt
    have bA := mem.below_new w4 (Obj.cells #[.string ⟨#[]⟩, .string ⟨#[110, 48]⟩, .string ⟨#[110, 105, 110, 101, 99, 104, 97, 114, 115]⟩, .string ⟨#[101, 105, 103, 104, 116, 99, 104, 97]⟩, .string ⟨#[78]⟩] 9)
    have SA := (src_upd S4 rfl : Src w4.drew b cv len i4 s4)
    have SB := (src_upd (src_alloc S4 (src_lt S4) (Obj.cells #[.string ⟨#[]⟩, .string ⟨#[110, 48]⟩, .string ⟨#[110, 105, 110, 101, 99, 104, 97, 114, 115]⟩, .string ⟨#[101, 105, 103, 104, 116, 99, 104, 97]⟩, .string ⟨#[78]⟩] 9)) rfl : Src (w4.alloc (Obj.cells #[.string ⟨#[]⟩, .string ⟨#[110, 48]⟩, .string ⟨#[110, 105, 110, 101, 99, 104, 97, 114, 115]⟩, .string ⟨#[101, 105, 103, 104, 116, 99, 104, 97]⟩, .string ⟨#[78]⟩] 9)).drew b cv len i4 s4)
    have CA := code_of HC.out (upd_dw' U4) hB hlt
    have CB := code_of HC.out (upd_dw' (U4.trans (mem.Upd.of_below bA))) hB hlt
    have TB' := ((T4.next bA).keep rfl : mem.Ob (w4.alloc (Obj.cells #[.string ⟨#[]⟩, .string ⟨#[110, 48]⟩, .string ⟨#[110, 105, 110, 101, 99, 104, 97, 114, 115]⟩, .string ⟨#[101, 105, 103, 104, 116, 99, 104, 97]⟩, .string ⟨#[78]⟩] 9)).drew w1.heap.size 2 _)
    have h3 : (5 : Int) ≤ 9223372036854775807 := by omega
    have hq0 : w4.frozen? ⟨b1, k * 3, none⟩ = false := hR.free _
    have hT2 : w1.heap.size ≠ b1 := by omega
    have tb0 := TB'.b0
    have hcs : ∀ j, j < (#[.string ⟨#[]⟩, .string ⟨#[110, 48]⟩, .string ⟨#[110, 105, 110, 101, 99, 104, 97, 114, 115]⟩, .string ⟨#[101, 105, 103, 104, 116, 99, 104, 97]⟩, .string ⟨#[78]⟩] : Array Value).size → ∃ y : ByteArray, y.size ≤ 9223372036854775807 ∧ (#[.string ⟨#[]⟩, .string ⟨#[110, 48]⟩, .string ⟨#[110, 105, 110, 101, 99, 104, 97, 114, 115]⟩, .string ⟨#[101, 105, 103, 104, 116, 99, 104, 97]⟩, .string ⟨#[78]⟩] : Array Value)[j]? = some (.string y) := by
      intro j hj
      rcases (by simp at hj; omega : j = 0 ∨ j = 1 ∨ j = 2 ∨ j = 3 ∨ j = 4) with rfl | rfl | rfl | rfl | rfl
      all_goals exact ⟨_, by decide, rfl⟩
    have hbR : b ≠ w.heap.size := by omega
    have hbb1 : b ≠ b1 := by omega
    have hbb2 : b ≠ b2 := by omega
    have hg : b ≠ w4.heap.size := by have := src_lt S4; omega
    have tA := tabS w4 9 _ hcs
    have TW := Lib.hid T4
    have OW := Lib.hid O4
    have RW := Lib.hid R4
    have UW := Lib.hid U4
    have KW := Lib.hid hR
    clear T4 O4 R4 U4 hR
    go_region_with (first | (go_at_call 41; (first | (with_reducible refine (next_any _ b B cv len i4 s4 5 SA CA hB h3).mono ?_) | (with_reducible refine (next_any _ b B cv len i4 s4 5 SB CB hB h3).mono ?_)); rintro e wx ⟨x, ix, sx, rfl, x0, x1, Sx, ox⟩; obtain ⟨jx, rfl⟩ := Int.eq_ofNat_of_zero_le x0; have hjx : jx < 5 := (by omega); have hjI : (jx : Int) < 5 := (by omega); (first | (have ow : Only b (w4.alloc (Obj.cells #[.string ⟨#[]⟩, .string ⟨#[110, 48]⟩, .string ⟨#[110, 105, 110, 101, 99, 104, 97, 114, 115]⟩, .string ⟨#[101, 105, 103, 104, 116, 99, 104, 97]⟩, .string ⟨#[78]⟩] 9)).drew wx := ox; obtain ⟨y, hys, hy⟩ := tA jx hjx; have hy2 : wx.cell? ⟨w4.heap.size, jx, none⟩ = some (.string y) := (World.cell?_of_block (ox.block w4.heap.size hg.symm)).trans hy; have TZ := (TB'.keep (ox.block w1.heap.size hbT.symm) : mem.Ob wx w1.heap.size 2 _); have tz := TZ.b0; have KZ := ((KW.out.below bA hlb).keep (ox.block b1 (by omega)) : mem.Rw wx b1 n 3 _); have kz : wx.frozen? ⟨b1, k * 3, none⟩ = false := KZ.free _; have kc : wx.cell? ⟨b1, k * 3, none⟩ = some (.string (N k).s) := KZ.cell k 0 hkn (by omega); have RZ := (((RW.out.next bA).keep rfl : mem.Ob (w4.alloc (Obj.cells #[.string ⟨#[]⟩, .string ⟨#[110, 48]⟩, .string ⟨#[110, 105, 110, 101, 99, 104, 97, 114, 115]⟩, .string ⟨#[101, 105, 103, 104, 116, 99, 104, 97]⟩, .string ⟨#[78]⟩] 9)).drew w.heap.size 2 _).keep (ox.block w.heap.size hbR.symm) : mem.Ob wx w.heap.size 2 _); have OZ := (OW.out.next bA).drew.upd (upd_of ox) (.inr hbb1.symm) (.inr hbb2.symm); have UZ := (upd_dw' (UW.out.trans (mem.Upd.of_below bA))).trans (upd_of ox); have SZ := Sx) | (obtain ⟨y, hys, hy⟩ := tabS wx 9 _ hcs jx hjx; have TX := (TW.out.keep (ox.block w1.heap.size hbT.symm) : mem.Ob wx w1.heap.size 2 _); have tx := TX.b0; have TZ := TX.next (mem.below_new wx (Obj.cells #[.string ⟨#[]⟩, .string ⟨#[110, 48]⟩, .string ⟨#[110, 105, 110, 101, 99, 104, 97, 114, 115]⟩, .string ⟨#[101, 105, 103, 104, 116, 99, 104, 97]⟩, .string ⟨#[78]⟩] 9)); have tz := TZ.b0; have KX := (KW.out.keep (ox.block b1 (by omega)) : mem.Rw wx b1 n 3 _); have KZ := KX.below (mem.below_new wx (Obj.cells #[.string ⟨#[]⟩, .string ⟨#[110, 48]⟩, .string ⟨#[110, 105, 110, 101, 99, 104, 97, 114, 115]⟩, .string ⟨#[101, 105, 103, 104, 116, 99, 104, 97]⟩, .string ⟨#[78]⟩] 9)) KX.lt; have kz : (wx.alloc (Obj.cells #[.string ⟨#[]⟩, .string ⟨#[110, 48]⟩, .string ⟨#[110, 105, 110, 101, 99, 104, 97, 114, 115]⟩, .string ⟨#[101, 105, 103, 104, 116, 99, 104, 97]⟩, .string ⟨#[78]⟩] 9)).frozen? ⟨b1, k * 3, none⟩ = false := KZ.free _; have kc : (wx.alloc (Obj.cells #[.string ⟨#[]⟩, .string ⟨#[110, 48]⟩, .string ⟨#[110, 105, 110, 101, 99, 104, 97, 114, 115]⟩, .string ⟨#[101, 105, 103, 104, 116, 99, 104, 97]⟩, .string ⟨#[78]⟩] 9)).cell? ⟨b1, k * 3, none⟩ = some (.string (N k).s) := KZ.cell k 0 hkn (by omega); have kz' : wx.frozen? ⟨b1, k * 3, none⟩ = false := KX.free _; have kc' : wx.cell? ⟨b1, k * 3, none⟩ = some (.string (N k).s) := KX.cell k 0 hkn (by omega); have RZ := (RW.out.keep (ox.block w.heap.size hbR.symm) : mem.Ob wx w.heap.size 2 _).next (mem.below_new wx (Obj.cells #[.string ⟨#[]⟩, .string ⟨#[110, 48]⟩, .string ⟨#[110, 105, 110, 101, 99, 104, 97, 114, 115]⟩, .string ⟨#[101, 105, 103, 104, 116, 99, 104, 97]⟩, .string ⟨#[78]⟩] 9)); have OZ := (OW.out.drew.upd (upd_of ox) (.inr hbb1.symm) (.inr hbb2.symm)).next (mem.below_new wx (Obj.cells #[.string ⟨#[]⟩, .string ⟨#[110, 48]⟩, .string ⟨#[110, 105, 110, 101, 99, 104, 97, 114, 115]⟩, .string ⟨#[101, 105, 103, 104, 116, 99, 104, 97]⟩, .string ⟨#[78]⟩] 9)); have UZ := ((upd_dw' UW.out).trans (upd_of ox)).trans (mem.Upd.of_below (mem.below_new wx (Obj.cells #[.string ⟨#[]⟩, .string ⟨#[110, 48]⟩, .string ⟨#[110, 105, 110, 101, 99, 104, 97, 114, 115]⟩, .string ⟨#[101, 105, 103, 104, 116, 99, 104, 97]⟩, .string ⟨#[78]⟩] 9))); have SZ := src_alloc Sx (src_lt Sx) (Obj.cells #[.string ⟨#[]⟩, .string ⟨#[110, 48]⟩, .string ⟨#[110, 105, 110, 101, 99, 104, 97, 114, 115]⟩, .string ⟨#[101, 105, 103, 104, 116, 99, 104, 97]⟩, .string ⟨#[78]⟩] 9))); clear hjx))
    all_goals
      obtain ⟨N', hnm', hN, S9, U9, T9, R9⟩ := nod_step (j := 0) (y := .string y) OZ hkn (by omega) ⟨y, (N k).lo, (N k).hi⟩ (fun l hl => by rcases (by omega : l = 0 ∨ l = 1 ∨ l = 2) with rfl | rfl | rfl <;> simp [mem.nodC]) hys hnm SZ UZ TZ RZ hbb1 hT2 hb1
      rw [Nat.add_zero] at hN S9 U9 T9 R9
      clear t0 t1 u0 u1 f0 f1 k0 k1 tz kz kc
      have t0 := T9.b0
      have t1 := T9.b1
      have f0 := R9.b0
      have f1 := R9.b1
      have k0 := R9.free 0
      have k1 := R9.free 1
      have H := Lib.hid (any_post (u0 := .slice (some ⟨b1, 0, none⟩) n c0) (u1 := .slice p1 m c1) hN hb1 hb2 (by omega) (by omega) hnm' S9 U9 hlt)
      clear S9 U9 T9 R9 hN OZ UZ SZ RZ TZ
      go_wp2_with fail
      refine bodyPost_ret (v := .agg #[.slice (some ⟨b1, 0, none⟩) n c0, .slice p1 m c1]) (by simp [results, Tryz.results85, go_sem, f0, f1]) rfl H.out
  · have hkI : (k : Int) < n := by omega
    go_wp2_with fail
    obtain ⟨rfl, hR⟩ := nod_at O4 hn0
    have hlb := hR.lt
    have hlo : w4.cell? ⟨b1, k * 3 + 1, none⟩ = some (.int .i64 (N k).lo) := hR.cell k 1 hkn (by omega)
    have bA := mem.below_new w4 (Obj.cells #[.int .i64 (IntKind.i64.wrap ((N k).lo - 1)), .int .i64 (N k).lo, .int .i64 100000000, .int .i64 100000001] 2)
    have SA := (src_upd S4 rfl : Src w4.drew b cv len i4 s4)
    have SB := (src_upd (src_alloc S4 (src_lt S4) (Obj.cells #[.int .i64 (IntKind.i64.wrap ((N k).lo - 1)), .int .i64 (N k).lo, .int .i64 100000000, .int .i64 100000001] 2)) rfl : Src (w4.alloc (Obj.cells #[.int .i64 (IntKind.i64.wrap ((N k).lo - 1)), .int .i64 (N k).lo, .int .i64 100000000, .int .i64 100000001] 2)).drew b cv len i4 s4)
    have CA := code_of HC.out (upd_dw' U4) hB hlt
    have CB := code_of HC.out (upd_dw' (U4.trans (mem.Upd.of_below bA))) hB hlt
    have TB' := ((T4.next bA).keep rfl : mem.Ob (w4.alloc (Obj.cells #[.int .i64 (IntKind.i64.wrap ((N k).lo - 1)), .int .i64 (N k).lo, .int .i64 100000000, .int .i64 100000001] 2)).drew w1.heap.size 2 _)
    have h3 : (4 : Int) ≤ 9223372036854775807 := by omega
    have hq0 : w4.frozen? ⟨b1, k * 3 + 2, none⟩ = false := hR.free _
    have hT2 : w1.heap.size ≠ b1 := by omega
    have tb0 := TB'.b0
    have hcs : ∀ j, j < (#[.int .i64 (IntKind.i64.wrap ((N k).lo - 1)), .int .i64 (N k).lo, .int .i64 100000000, .int .i64 100000001] : Array Value).size → ∃ y : Int, (#[.int .i64 (IntKind.i64.wrap ((N k).lo - 1)), .int .i64 (N k).lo, .int .i64 100000000, .int .i64 100000001] : Array Value)[j]? = some (.int .i64 y) := by
      intro j hj
      rcases (by simp at hj; omega : j = 0 ∨ j = 1 ∨ j = 2 ∨ j = 3) with rfl | rfl | rfl | rfl
      all_goals exact ⟨_, rfl⟩
    have hbR : b ≠ w.heap.size := by omega
    have hbb1 : b ≠ b1 := by omega
    have hbb2 : b ≠ b2 := by omega
    have hg : b ≠ w4.heap.size := by have := src_lt S4; omega
    have tA := tabI w4 2 _ hcs
    have TW := Lib.hid T4
    have OW := Lib.hid O4
    have RW := Lib.hid R4
    have UW := Lib.hid U4
    have KW := Lib.hid hR
    clear T4 O4 R4 U4 hR RN4 RP4 HNT HPT ty4
    have hloB : (w4.alloc (Obj.cells #[.int .i64 (IntKind.i64.wrap ((N k).lo - 1)), .int .i64 (N k).lo, .int .i64 100000000, .int .i64 100000001] 2)).drew.cell? ⟨b1, k * 3 + 1, none⟩ = some (.int .i64 (N k).lo) := (KW.out.below bA hlb).cell k 1 hkn (by omega)
    have hcst : ∀ (X : World) (y : Value), mem.Rw X b1 n 3 (mem.nodC N) → (X.setCell ⟨b1, k * 3 + 2, none⟩ y).cell? ⟨b1, k * 3 + 1, none⟩ = some (.int .i64 (N k).lo) := fun X y hX => by
      have := (hX.set k 2 y hkn (by omega)).cell k 1 hkn (by omega)
      simpa [mem.updC, mem.nodC] using this
    refine wp_region_held_drew (S := fun w' => w'.cell? ⟨w1.heap.size, 0, none⟩ = some (.slice (some ⟨b1, 0, none⟩) n c0) ∧ w'.cell? ⟨b1, k * 3 + 1, none⟩ = some (.int .i64 (N k).lo)) (by kernel_rfl) ⟨t0, hlo⟩ (fun hHeld => ?_)
    refine wpAnyH_take (i := 0) (v := ?_) nth0 (by kernel_rfl) (by kernel_rfl) (by kernel_rfl) (fun _ _ _ h => h) (Or.inl ⟨by rfl, ?_⟩) (by assumption) ?_
    rotate_left
    · intro w hSw; (try dsimp only at hSw); go_simp; try with_reducible rfl
    try simp only [Act.put, List.setIfInBounds_toArray, List.set_cons_zero, List.set_cons_succ]
    refine wpAnyH_take (i := 1) (v := ?_) nth1 (by kernel_rfl) (by kernel_rfl) (by kernel_rfl) (fun _ _ _ h => h) (Or.inl ⟨by rfl, ?_⟩) (by assumption) ?_
    rotate_left
    · intro w hSw; (try dsimp only at hSw); go_simp; try with_reducible rfl
    try simp only [Act.put, List.setIfInBounds_toArray, List.set_cons_zero, List.set_cons_succ]
    refine wpAnyH_take (i := 2) (v := ?_) nth2 (by kernel_rfl) (by kernel_rfl) (by kernel_rfl) (fun _ _ _ h => h) (Or.inl ⟨by rfl, ?_⟩) (by assumption) ?_
    rotate_left
    · intro w hSw; (try dsimp only at hSw); go_simp; try with_reducible rfl
    try simp only [Act.put, List.setIfInBounds_toArray, List.set_cons_zero, List.set_cons_succ]
    refine wpAnyH_take (i := 3) (v := ?_) nth3 (by kernel_rfl) (by kernel_rfl) (by kernel_rfl) (fun _ _ _ h => h) (Or.inl ⟨by rfl, ?_⟩) (by assumption) ?_
    rotate_left
    · intro w hSw; (try dsimp only at hSw); go_simp; try with_reducible rfl
    try simp only [Act.put, List.setIfInBounds_toArray, List.set_cons_zero, List.set_cons_succ]
    refine wpAnyH_take (i := 4) (v := ?_) nth4 (by kernel_rfl) (by kernel_rfl) (by kernel_rfl) (fun _ _ _ h => h) (Or.inl ⟨by rfl, ?_⟩) (by assumption) ?_
    rotate_left
    · intro w hSw; (try dsimp only at hSw); go_simp; try with_reducible rfl
    try simp only [Act.put, List.setIfInBounds_toArray, List.set_cons_zero, List.set_cons_succ]
    refine wpAnyH_take (i := 5) (v := ?_) nth5 (by kernel_rfl) (by kernel_rfl) (by kernel_rfl) (fun _ _ _ h => h) (Or.inl ⟨by rfl, ?_⟩) (by assumption) ?_
    rotate_left
    · intro w hSw; (try dsimp only at hSw); go_simp; try with_reducible rfl
    try simp only [Act.put, List.setIfInBounds_toArray, List.set_cons_zero, List.set_cons_succ]
    refine wpAnyH_take (i := 6) (v := ?_) nth6 (by kernel_rfl) (by kernel_rfl) (by kernel_rfl) (fun _ _ _ h => h) (Or.inl ⟨by rfl, ?_⟩) (by assumption) ?_
    rotate_left
    · intro w hSw; (try dsimp only at hSw); go_simp; try with_reducible rfl
    try simp only [Act.put, List.setIfInBounds_toArray, List.set_cons_zero, List.set_cons_succ]
    refine wpAnyH_take (i := 7) (v := ?_) nth7 (by kernel_rfl) (by kernel_rfl) (by kernel_rfl) (fun _ _ _ h => h) (Or.inl ⟨by rfl, ?_⟩) (by assumption) ?_
    rotate_left
    · intro w hSw; (try dsimp only at hSw); go_simp; try with_reducible rfl
    try simp only [Act.put, List.setIfInBounds_toArray, List.set_cons_zero, List.set_cons_succ]
    refine wpAnyH_take (i := 8) (v := ?_) nth8 (by kernel_rfl) (by kernel_rfl) (by kernel_rfl) (fun _ _ _ h => h) (Or.inl ⟨by rfl, ?_⟩) (by assumption) ?_
    rotate_left
    · intro w hSw; (try dsimp only at hSw); go_simp; try with_reducible rfl
    try simp only [Act.put, List.setIfInBounds_toArray, List.set_cons_zero, List.set_cons_succ]
    refine wpAnyH_take (i := 9) (v := ?_) nth9 (by kernel_rfl) (by kernel_rfl) (by kernel_rfl) (fun _ _ _ h => h) (Or.inl ⟨by rfl, ?_⟩) (by assumption) ?_
    rotate_left
    · intro w hSw; (try dsimp only at hSw); go_simp; try with_reducible rfl
    try simp only [Act.put, List.setIfInBounds_toArray, List.set_cons_zero, List.set_cons_succ]
    refine wpAnyH_take (i := 10) (v := ?_) nth10 (by kernel_rfl) (by kernel_rfl) (by kernel_rfl) (fun _ _ _ h => h) (Or.inl ⟨by rfl, ?_⟩) (by assumption) ?_
    rotate_left
    · intro w hSw; (try dsimp only at hSw); go_simp; try with_reducible rfl
    try simp only [Act.put, List.setIfInBounds_toArray, List.set_cons_zero, List.set_cons_succ]
    refine wpAnyH_take (i := 11) (v := ?_) nth11 (by kernel_rfl) (by kernel_rfl) (by kernel_rfl) (fun _ _ _ h => h) (Or.inl ⟨by rfl, ?_⟩) (by assumption) ?_
    rotate_left
    · intro w hSw; (try dsimp only at hSw); go_simp; try with_reducible rfl
    try simp only [Act.put, List.setIfInBounds_toArray, List.set_cons_zero, List.set_cons_succ]
    refine wpAnyH_take (i := 12) (v := ?_) nth12 (by kernel_rfl) (by kernel_rfl) (by kernel_rfl) (fun _ _ _ h => h) (Or.inl ⟨by rfl, ?_⟩) (by assumption) ?_
    rotate_left
    · intro w hSw; (try dsimp only at hSw); go_simp; try with_reducible rfl
    try simp only [Act.put, List.setIfInBounds_toArray, List.set_cons_zero, List.set_cons_succ]
    refine wpAnyH_take (i := 13) (v := ?_) nth13 (by kernel_rfl) (by kernel_rfl) (by kernel_rfl) (fun _ _ _ h => h) (Or.inl ⟨by rfl, ?_⟩) (by assumption) ?_
    rotate_left
    · intro w hSw; (try dsimp only at hSw); go_simp; try with_reducible rfl
    try simp only [Act.put, List.setIfInBounds_toArray, List.set_cons_zero, List.set_cons_succ]
    refine wpAnyH_take (i := 14) (v := ?_) nth14 (by kernel_rfl) (by kernel_rfl) (by kernel_rfl) (fun _ _ _ h => h) (Or.inl ⟨by rfl, ?_⟩) (by assumption) ?_
    rotate_left
    · intro w hSw; (try dsimp only at hSw); go_simp; try with_reducible rfl
    try simp only [Act.put, List.setIfInBounds_toArray, List.set_cons_zero, List.set_cons_succ]
    refine wpAnyH_take (i := 15) (v := ?_) nth15 (by kernel_rfl) (by kernel_rfl) (by kernel_rfl) (fun _ _ _ h => h) (Or.inl ⟨by rfl, ?_⟩) (by assumption) ?_
    rotate_left
    · intro w hSw; (try dsimp only at hSw); go_simp; try with_reducible rfl
    try simp only [Act.put, List.setIfInBounds_toArray, List.set_cons_zero, List.set_cons_succ]
    refine wpAnyH_take (i := 17) (v := ?_) nth17 (by kernel_rfl) (by kernel_rfl) (by kernel_rfl) (fun _ _ _ h => h) (Or.inl ⟨by rfl, ?_⟩) (by assumption) ?_
    rotate_left
    · intro w hSw; (try dsimp only at hSw); go_simp; try with_reducible rfl
    try simp only [Act.put, List.setIfInBounds_toArray, List.set_cons_zero, List.set_cons_succ]
    refine wpAnyH_ready (rs := [16, 18]) (by kernel_rfl) (by simp) ?_
    refine AllReadyH.cons nth16 (fun K hK => ?_) (AllReadyH.cons nth18 (fun K hK => ?_) AllReadyH.nil)
    · go_simp
      refine hK.out _ _ ?_ (fun hHeld => ?_)
      · exact ⟨tb0, hloB⟩
      clear hK K
      try simp only [Act.put, List.setIfInBounds_toArray, List.set_cons_zero, List.set_cons_succ]
      refine wpAnyH_ready (rs := [18]) (by kernel_rfl) (by simp) ?_
      refine AllReadyH.cons nth18 (fun K hK => ?_) AllReadyH.nil
      go_simp
      go_at_call 41
      refine (next_any _ b B cv len i4 s4 4 SB CB hB h3).mono ?_
      rintro e wx ⟨x, ix, sx, rfl, x0, x1, Sx, ox⟩
      obtain ⟨jx, rfl⟩ := Int.eq_ofNat_of_zero_le x0
      have hjx : jx < 4 := by omega
      have hjI : (jx : Int) < 4 := by omega
      have ow : Only b (w4.alloc (Obj.cells #[.int .i64 (IntKind.i64.wrap ((N k).lo - 1)), .int .i64 (N k).lo, .int .i64 100000000, .int .i64 100000001] 2)).drew wx := ox
      obtain ⟨y, hy⟩ := tA jx hjx
      have hy2 : wx.cell? ⟨w4.heap.size, jx, none⟩ = some (.int .i64 y) := (World.cell?_of_block (ox.block w4.heap.size hg.symm)).trans hy
      have TZ := (TB'.keep (ox.block w1.heap.size hbT.symm) : mem.Ob wx w1.heap.size 2 _)
      have tz := TZ.b0
      have KZ := ((KW.out.below bA hlb).keep (ox.block b1 (by omega)) : mem.Rw wx b1 n 3 _)
      have klz : wx.cell? ⟨b1, k * 3 + 1, none⟩ = some (.int .i64 (N k).lo) := KZ.cell k 1 hkn (by omega)
      have kz : wx.frozen? ⟨b1, k * 3 + 2, none⟩ = false := KZ.free _
      have kc : wx.cell? ⟨b1, k * 3 + 2, none⟩ = some (.int .i64 (N k).hi) := KZ.cell k 2 hkn (by omega)
      have RZ := (((RW.out.next bA).keep rfl : mem.Ob (w4.alloc (Obj.cells #[.int .i64 (IntKind.i64.wrap ((N k).lo - 1)), .int .i64 (N k).lo, .int .i64 100000000, .int .i64 100000001] 2)).drew w.heap.size 2 _).keep (ox.block w.heap.size hbR.symm) : mem.Ob wx w.heap.size 2 _)
      have OZ := (OW.out.next bA).drew.upd (upd_of ox) (.inr hbb1.symm) (.inr hbb2.symm)
      have UZ := (upd_dw' (UW.out.trans (mem.Upd.of_below bA))).trans (upd_of ox)
      have SZ := Sx
      refine hK.out _ _ ?_ (fun hHeld => ?_)
      · exact ⟨tz, klz⟩
      clear hK K
      try simp only [Act.put, List.setIfInBounds_toArray, List.set_cons_zero, List.set_cons_succ]
      refine wpAnyH_take (i := 19) (v := ?_) nth19 (by kernel_rfl) (by kernel_rfl) (by kernel_rfl) (fun _ _ _ h => h) (Or.inl ⟨by rfl, ?_⟩) (by assumption) ?_
      rotate_left
      · intro w hSw; (try dsimp only at hSw); go_simp; try with_reducible rfl
      try simp only [Act.put, List.setIfInBounds_toArray, List.set_cons_zero, List.set_cons_succ]
      refine wpAnyH_ready (rs := [20]) (by kernel_rfl) (by simp) ?_
      refine AllReadyH.cons nth20 (fun K hK => ?_) AllReadyH.nil
      go_simp
      refine hK.out _ _ ?_ (fun hHeld => ?_)
      · exact ⟨tz, klz⟩
      clear hK K
      try simp only [Act.put, List.setIfInBounds_toArray, List.set_cons_zero, List.set_cons_succ]
      refine wpAnyH_take (i := 21) (v := ?_) nth21 (by kernel_rfl) (by kernel_rfl) (by kernel_rfl) (fun _ _ _ h => h) (Or.inl ⟨by rfl, ?_⟩) (by assumption) ?_
      rotate_left
      · intro w hSw; (try dsimp only at hSw); go_simp; try with_reducible rfl
      try simp only [Act.put, List.setIfInBounds_toArray, List.set_cons_zero, List.set_cons_succ]
      refine wpAnyH_take (i := 22) (v := ?_) nth22 (by kernel_rfl) (by kernel_rfl) (by kernel_rfl) (fun _ _ _ h => h) (Or.inl ⟨by rfl, ?_⟩) (by assumption) ?_
      rotate_left
      · intro w hSw; (try dsimp only at hSw); go_simp; try with_reducible rfl
      try simp only [Act.put, List.setIfInBounds_toArray, List.set_cons_zero, List.set_cons_succ]
      refine wpAnyH_ready (rs := [23]) (by kernel_rfl) (by simp) ?_
      refine AllReadyH.cons nth23 (fun K hK => ?_) AllReadyH.nil
      go_simp
      refine hK.out _ _ ?_ (fun hHeld => ?_)
      · exact ⟨(((mem.Only.refl b1 _).setCell _ _).cell (a := ⟨w1.heap.size, 0, none⟩) hT2).trans tz, hcst _ _ KZ⟩
      clear hK K
      try simp only [Act.put, List.setIfInBounds_toArray, List.set_cons_zero, List.set_cons_succ]
      obtain ⟨N', hnm', hN, S9, U9, T9, R9⟩ := nod_step (j := 2) (y := .int .i64 y) OZ hkn (by omega) ⟨(N k).s, (N k).lo, y⟩ (fun l hl => by rcases (by omega : l = 0 ∨ l = 1 ∨ l = 2) with rfl | rfl | rfl <;> simp [mem.nodC]) (hnm k hkn) hnm SZ UZ TZ RZ hbb1 hT2 hb1
      clear t0 t1 u0 u1 f0 f1 k0 k1 tz kz kc klz
      have t0 := T9.b0
      have t1 := T9.b1
      have f0 := R9.b0
      have f1 := R9.b1
      have k0 := R9.free 0
      have k1 := R9.free 1
      have H := Lib.hid (any_post (u0 := .slice (some ⟨b1, 0, none⟩) n c0) (u1 := .slice p1 m c1) hN hb1 hb2 (by omega) (by omega) hnm' S9 U9 hlt)
      clear S9 U9 T9 R9 hN OZ UZ SZ RZ TZ
      refine wpAnyH_done (by kernel_rfl) ?_ _
      clear hHeld
      generalize hW : World.setCell wx ⟨b1, k * 3 + 2, none⟩ (.int .i64 y) = Y at t0 t1 f0 f1 k0 k1 H ⊢
      clear hW
      go_wp2_with fail
      refine bodyPost_ret (v := .agg #[.slice (some ⟨b1, 0, none⟩) n c0, .slice p1 m c1]) (by simp [results, Tryz.results85, go_sem, f0, f1]) rfl H.out
    · go_simp
      go_at_call 41
      refine (next_any _ b B cv len i4 s4 4 SA CA hB h3).mono ?_
      rintro e wx ⟨x, ix, sx, rfl, x0, x1, Sx, ox⟩
      obtain ⟨jx, rfl⟩ := Int.eq_ofNat_of_zero_le x0
      have hjx : jx < 4 := by omega
      have hjI : (jx : Int) < 4 := by omega
      obtain ⟨y, hy⟩ := tabI wx 2 _ hcs jx hjx
      have TX := (TW.out.keep (ox.block w1.heap.size hbT.symm) : mem.Ob wx w1.heap.size 2 _)
      have tx := TX.b0
      have TZ := TX.next (mem.below_new wx (Obj.cells #[.int .i64 (IntKind.i64.wrap ((N k).lo - 1)), .int .i64 (N k).lo, .int .i64 100000000, .int .i64 100000001] 2))
      have tz := TZ.b0
      have KX := (KW.out.keep (ox.block b1 (by omega)) : mem.Rw wx b1 n 3 _)
      have klo : wx.cell? ⟨b1, k * 3 + 1, none⟩ = some (.int .i64 (N k).lo) := KX.cell k 1 hkn (by omega)
      have KZ := KX.below (mem.below_new wx (Obj.cells #[.int .i64 (IntKind.i64.wrap ((N k).lo - 1)), .int .i64 (N k).lo, .int .i64 100000000, .int .i64 100000001] 2)) KX.lt
      have klz : (wx.alloc (Obj.cells #[.int .i64 (IntKind.i64.wrap ((N k).lo - 1)), .int .i64 (N k).lo, .int .i64 100000000, .int .i64 100000001] 2)).cell? ⟨b1, k * 3 + 1, none⟩ = some (.int .i64 (N k).lo) := KZ.cell k 1 hkn (by omega)
      have kz : (wx.alloc (Obj.cells #[.int .i64 (IntKind.i64.wrap ((N k).lo - 1)), .int .i64 (N k).lo, .int .i64 100000000, .int .i64 100000001] 2)).frozen? ⟨b1, k * 3 + 2, none⟩ = false := KZ.free _
      have kc : (wx.alloc (Obj.cells #[.int .i64 (IntKind.i64.wrap ((N k).lo - 1)), .int .i64 (N k).lo, .int .i64 100000000, .int .i64 100000001] 2)).cell? ⟨b1, k * 3 + 2, none⟩ = some (.int .i64 (N k).hi) := KZ.cell k 2 hkn (by omega)
      have kz' : wx.frozen? ⟨b1, k * 3 + 2, none⟩ = false := KX.free _
      have kc' : wx.cell? ⟨b1, k * 3 + 2, none⟩ = some (.int .i64 (N k).hi) := KX.cell k 2 hkn (by omega)
      have RZ := (RW.out.keep (ox.block w.heap.size hbR.symm) : mem.Ob wx w.heap.size 2 _).next (mem.below_new wx (Obj.cells #[.int .i64 (IntKind.i64.wrap ((N k).lo - 1)), .int .i64 (N k).lo, .int .i64 100000000, .int .i64 100000001] 2))
      have OZ := (OW.out.drew.upd (upd_of ox) (.inr hbb1.symm) (.inr hbb2.symm)).next (mem.below_new wx (Obj.cells #[.int .i64 (IntKind.i64.wrap ((N k).lo - 1)), .int .i64 (N k).lo, .int .i64 100000000, .int .i64 100000001] 2))
      have UZ := ((upd_dw' UW.out).trans (upd_of ox)).trans (mem.Upd.of_below (mem.below_new wx (Obj.cells #[.int .i64 (IntKind.i64.wrap ((N k).lo - 1)), .int .i64 (N k).lo, .int .i64 100000000, .int .i64 100000001] 2)))
      have SZ := src_alloc Sx (src_lt Sx) (Obj.cells #[.int .i64 (IntKind.i64.wrap ((N k).lo - 1)), .int .i64 (N k).lo, .int .i64 100000000, .int .i64 100000001] 2)
      refine hK.out _ _ ?_ (fun hHeld => ?_)
      · exact ⟨tx, klo⟩
      clear hK K
      try simp only [Act.put, List.setIfInBounds_toArray, List.set_cons_zero, List.set_cons_succ]
      refine wpAnyH_ready (rs := [16]) (by kernel_rfl) (by simp) ?_
      refine AllReadyH.cons nth16 (fun K hK => ?_) AllReadyH.nil
      go_simp
      refine hK.out _ _ ?_ (fun hHeld => ?_)
      · exact ⟨tz, klz⟩
      clear hK K
      try simp only [Act.put, List.setIfInBounds_toArray, List.set_cons_zero, List.set_cons_succ]
      refine wpAnyH_take (i := 19) (v := ?_) nth19 (by kernel_rfl) (by kernel_rfl) (by kernel_rfl) (fun _ _ _ h => h) (Or.inl ⟨by rfl, ?_⟩) (by assumption) ?_
      rotate_left
      · intro w hSw; (try dsimp only at hSw); go_simp; try with_reducible rfl
      try simp only [Act.put, List.setIfInBounds_toArray, List.set_cons_zero, List.set_cons_succ]
      refine wpAnyH_ready (rs := [20]) (by kernel_rfl) (by simp) ?_
      refine AllReadyH.cons nth20 (fun K hK => ?_) AllReadyH.nil
      go_simp
      refine hK.out _ _ ?_ (fun hHeld => ?_)
      · exact ⟨tz, klz⟩
      clear hK K
      try simp only [Act.put, List.setIfInBounds_toArray, List.set_cons_zero, List.set_cons_succ]
      refine wpAnyH_take (i := 21) (v := ?_) nth21 (by kernel_rfl) (by kernel_rfl) (by kernel_rfl) (fun _ _ _ h => h) (Or.inl ⟨by rfl, ?_⟩) (by assumption) ?_
      rotate_left
      · intro w hSw; (try dsimp only at hSw); go_simp; try with_reducible rfl
      try simp only [Act.put, List.setIfInBounds_toArray, List.set_cons_zero, List.set_cons_succ]
      refine wpAnyH_take (i := 22) (v := ?_) nth22 (by kernel_rfl) (by kernel_rfl) (by kernel_rfl) (fun _ _ _ h => h) (Or.inl ⟨by rfl, ?_⟩) (by assumption) ?_
      rotate_left
      · intro w hSw; (try dsimp only at hSw); go_simp; try with_reducible rfl
      try simp only [Act.put, List.setIfInBounds_toArray, List.set_cons_zero, List.set_cons_succ]
      refine wpAnyH_ready (rs := [23]) (by kernel_rfl) (by simp) ?_
      refine AllReadyH.cons nth23 (fun K hK => ?_) AllReadyH.nil
      go_simp
      refine hK.out _ _ ?_ (fun hHeld => ?_)
      · exact ⟨(((mem.Only.refl b1 _).setCell _ _).cell (a := ⟨w1.heap.size, 0, none⟩) hT2).trans tz, hcst _ _ KZ⟩
      clear hK K
      try simp only [Act.put, List.setIfInBounds_toArray, List.set_cons_zero, List.set_cons_succ]
      obtain ⟨N', hnm', hN, S9, U9, T9, R9⟩ := nod_step (j := 2) (y := .int .i64 y) OZ hkn (by omega) ⟨(N k).s, (N k).lo, y⟩ (fun l hl => by rcases (by omega : l = 0 ∨ l = 1 ∨ l = 2) with rfl | rfl | rfl <;> simp [mem.nodC]) (hnm k hkn) hnm SZ UZ TZ RZ hbb1 hT2 hb1
      clear t0 t1 u0 u1 f0 f1 k0 k1 tz kz kc klz
      have t0 := T9.b0
      have t1 := T9.b1
      have f0 := R9.b0
      have f1 := R9.b1
      have k0 := R9.free 0
      have k1 := R9.free 1
      have H := Lib.hid (any_post (u0 := .slice (some ⟨b1, 0, none⟩) n c0) (u1 := .slice p1 m c1) hN hb1 hb2 (by omega) (by omega) hnm' S9 U9 hlt)
      clear S9 U9 T9 R9 hN OZ UZ SZ RZ TZ
      refine wpAnyH_done (by kernel_rfl) ?_ _
      clear hHeld
      generalize hW : World.setCell (wx.alloc (Obj.cells #[.int .i64 (IntKind.i64.wrap ((N k).lo - 1)), .int .i64 (N k).lo, .int .i64 100000000, .int .i64 100000001] 2)) ⟨b1, k * 3 + 2, none⟩ (.int .i64 y) = Y at t0 t1 f0 f1 k0 k1 H ⊢
      clear hW
      go_wp2_with fail
      refine bodyPost_ret (v := .agg #[.slice (some ⟨b1, 0, none⟩) n c0, .slice p1 m c1]) (by simp [results, Tryz.results85, go_sem, f0, f1]) rfl H.out
end Go.Proofs.YtdbgcbkmcbgdiaaGreat.draw

namespace Go.Proofs.YtdbgcbkmcbgdiaaGreat.draw
open Go.RowKit
set_option linter.unusedVariables false

theorem upd_hi {X : Nat → Prop} {g : Nat} {w w1 w2 : World} (h : mem.Upd X w w1) (k : mem.Upd (fun x => x = g) w1 w2) (hg : w.heap.size ≤ g) : mem.Upd X w w2 :=
  ⟨k.os.trans h.os, k.tape.trans h.tape, k.output.trans h.output, Nat.le_trans h.size k.size, fun x hx hn => (k.block x (Nat.lt_of_lt_of_le hx h.size) (by omega)).trans (h.block x hx hn)⟩
theorem flatP {P : Nat → mem.Pip} {n : Nat} : ∀ u ∈ mem.flatL (mem.pipC P) n 5, u.oneCell' = true := by
  intro u hu
  unfold mem.flatL at hu
  obtain ⟨x, _, rfl⟩ := List.mem_map.1 hu
  unfold mem.pipC
  split <;> rfl
theorem appPips (W : World) (B B0 : Nat) (p : Option Addr) (m cap : Nat) (P : Nat → mem.Pip) (lo hi : Nat) (h0 : RP B W (.slice (some ⟨B0, 0, none⟩) 0 0) 0 (mem.pipC P)) (hB : B ≤ W.heap.size) (h : mem.Cs W (.slice p m cap) m 5 (mem.pipC P) lo hi) (hm : m ≤ 1000000) :
    ∃ v' w', Sem.run Tryz.prog (Builtin.append_ #[25, 25] 25 #[.slice (some ⟨B0, 0, none⟩) 0 0, .slice p m cap]) W = .ok v' w' ∧ RP B w' v' m (mem.pipC P) ∧ mem.Upd (fun x => x = B0) W w' := by
  obtain ⟨i0, hi0, hz0, hz1, hz2⟩ := info_parts mem.info_make_pipe
  obtain ⟨q, cq, hv, h1, h2, h3⟩ := h.ex
  injection hv with e1 _ e2
  subst e1 e2
  rcases Nat.eq_zero_or_pos m with rfl | hpos
  · refine ⟨.slice (some ⟨B0, 0, none⟩) 0 0, W, ?_, h0, ⟨rfl, rfl, rfl, Nat.le_refl _, fun _ _ _ => rfl⟩⟩
    rcases p with _ | a
    · simp [Builtin.append_, run_underlying Tryz.underlying25, sizeOf, typeInfo, hi0, Builtin.lenOf, Builtin.firstCells, storeCells]
    · have hf := run_firstCells_some (P := Tryz.prog) W i0.size 0 a 0 cap [] (by simp) (by intro j u hu; cases hu)
      simp [Builtin.append_, run_underlying Tryz.underlying25, sizeOf, typeInfo, hi0, Builtin.lenOf, hf, storeCells]
  · rcases h3 with h3 | ⟨b, o, rfl, g1, g2, g3⟩
    · omega
    obtain ⟨v', w', hr, ho, hgr, _⟩ := run_append_own (P := Tryz.prog) W B 25 25 121 i0 _ 5 40 Tryz.underlying25 hi0 hz0 hz1 hz2 (by kernel_rfl) (by omega) _ 0 _ h0.own ⟨b, o, none⟩ m cap (mem.flatL (mem.pipC P) m 5) (mem.flatL_len _ _ _) (mem.flatL_cell g3) flatP (by unfold maxLen; omega) (by omega) hB
    refine ⟨v', w', hr, ⟨?_⟩, ⟨hgr.os, hgr.tape, hgr.output, hgr.size, fun x hx hne => hgr.block x hx (by simp [Value.ownBlock]; exact hne)⟩⟩
    have e : mem.flatL (mem.pipC P) 0 5 = [] := by simp [mem.flatL]
    rw [e, List.nil_append, Nat.zero_add] at ho
    exact ho
/-- nodes and pipes while pipes are appended; a block below the pipes' row holds the drawn network -/
structure Dl (W1 : World) (b : Nat) (cv : Value) (len nb : Nat) (v0 v1 : Value) (wr : World) (vP : Value) (n m : Nat) : Prop where
  ex : ∃ (N : Nat → mem.Nod) (P : Nat → mem.Pip) (i s : Int), RN W1.heap.size wr v0 n (mem.nodC N) ∧ RP (nb + 1) wr vP m (mem.pipC P) ∧ (∀ i, i < n → (N i).s.size ≤ 9223372036854775807) ∧ Src wr b cv len i s ∧ mem.Upd (· = b) W1 wr ∧ mem.Ob wr nb 2 (mem.bx v0 v1)
theorem Dl.drawn {W1 wr w' : World} {b : Nat} {cv : Value} {len nb : Nat} {v0 v1 vP : Value} {n m : Nat} {i s : Int} (h : Dl W1 b cv len nb v0 v1 wr vP n m) (hb : b < W1.heap.size) (hnb : W1.heap.size ≤ nb) (u : mem.Upd (· = b) wr w') (hS : Src w' b cv len i s) : Dl W1 b cv len nb v0 v1 w' vP n m := by
  obtain ⟨N, P, _, _, h1, h2, h3, _, h5, h6⟩ := h.ex
  exact ⟨N, P, i, s, h1.low u hb, h2.low u (by omega), h3, hS, h5.trans u, h6.keep (u.block nb h6.lt (by omega))⟩
theorem Dl.addP {W1 wr w' : World} {b : Nat} {cv : Value} {len nb : Nat} {v0 v1 vP v' : Value} {n m : Nat} {N : Nat → mem.Nod} {P : Nat → mem.Pip} {q : mem.Pip} {i s : Int} (hb : b < W1.heap.size) (hnb : W1.heap.size ≤ nb)
    (hN : RN W1.heap.size wr v0 n (mem.nodC N)) (hP : RP (nb + 1) wr vP m (mem.pipC P)) (hs : ∀ i, i < n → (N i).s.size ≤ 9223372036854775807) (hS : Src wr b cv len i s) (hU : mem.Upd (· = b) W1 wr) (hO : mem.Ob wr nb 2 (mem.bx v0 v1))
    (h' : RP (nb + 1) w' v' (m + 1) (mem.pipC (draw.addP P m q))) (u : mem.Upd (fun x => some x = vP.ownBlock) wr w') : Dl W1 b cv len nb v0 v1 w' v' n (m + 1) :=
  ⟨N, _, i, s, hN.keep u (mem.rows_apart hN hP (by decide)), h', hs, src_upd hS (u.block b (src_lt hS) (fun e => by have := (hP.own.lt b e.symm).1; omega)), upd_row hU hP (by omega) u, hO.keep (u.block nb hO.lt (fun e => by have := (hP.own.lt nb e.symm).1; omega))⟩
theorem Dl.net {W1 wr : World} {b : Nat} {cv : Value} {len nb : Nat} {v0 v1 vP : Value} {n m : Nat} (h : Dl W1 b cv len nb v0 v1 wr vP n m) (hnb : W1.heap.size ≤ nb) : ∃ (N : Nat → mem.Nod) (P : Nat → mem.Pip) (i s : Int) (g1 g2 : Nat), mem.OwnS wr v0 n 3 (mem.nodC N) g1 ∧ mem.OwnS wr vP m 5 (mem.pipC P) g2 ∧ (n = 0 ∨ m = 0 ∨ g1 ≠ g2) ∧ W1.heap.size ≤ g1 ∧ W1.heap.size ≤ g2 ∧ (∀ i, i < n → (N i).s.size ≤ 9223372036854775807) ∧ Src wr b cv len i s ∧ mem.Upd (· = b) W1 wr ∧ mem.Ob wr nb 2 (mem.bx v0 v1) := by
  obtain ⟨N, P, i, s, hN, hP, hs, hS, hU, hO⟩ := h.ex
  obtain ⟨g1, a1, a2, a3⟩ := ownS2 hN
  obtain ⟨g2, c1, c2, c3⟩ := ownS2 hP
  refine ⟨N, P, i, s, g1, g2, a1, c1, ?_, a2, by omega, hs, hS, hU, hO⟩
  rcases a3 with a3 | a3
  · rcases c3 with c3 | c3
    · refine .inr (.inr fun e => ?_)
      exact mem.rows_apart hN hP (by decide) g1 a3 (by rw [c3, e])
    · exact .inr (.inl c3)
  · exact .inl a3
set_option maxRecDepth 100000 in
set_option maxHeartbeats 4000000 in
theorem loops_any (w : World) (b B : Nat) (cv : Value) (len : Nat) (i s : Int) (h : Src w b cv len i s) (hc : CodeAt w cv len B) (hB : B ≤ b) :
    Calls Tryz.prog 84 #[.pointer (some ⟨b, 0, none⟩)] w (AnyPost w b cv len) := by
  have hlt := src_lt h
  have h' := src_alloc h hlt (.cells #[.slice none 0 0, .slice none 0 0] 27)
  have HC := Lib.hid (codeAt_below hc ((Below.refl B w).alloc (by omega) (.cells #[.slice none 0 0, .slice none 0 0] 27)))
  have R1 := mem.boxed w (.slice none 0 0) (.slice none 0 0) 27
  have U0 := Lib.hid (mem.Upd.of_below (mem.below_new w (.cells #[.slice none 0 0, .slice none 0 0] 27)) (X := (· = b)))
  have hsz : w.heap.size + 1 ≤ (w.alloc (.cells #[.slice none 0 0, .slice none 0 0] 27)).heap.size := by simp
  go_enter Tryz.func84, Tryz.ntmps84
  go_wp2_with fail
  generalize hW : w.alloc (.cells #[.slice none 0 0, .slice none 0 0] 27) = Wa at *
  clear hW h hc
  have hb : b < Wa.heap.size := by omega
  refine (net_any Wa b B cv len i s h' HC.out hB).mono ?_
  rintro e w1 ⟨v, n, m, N, P, b1, b2, i1, s1, rfl, hn, hm, hn0, hnm, hO, l1, l2, hS1, U1, v0, v1, rfl, rN, rP⟩
  obtain ⟨p0, c0, rfl⟩ := rN.shape
  obtain ⟨p1, c1, rfl⟩ := rP.shape
  obtain ⟨u0, u1, he, _, gP⟩ := hO.net.ex
  simp only [Value.agg.injEq, Array.mk.injEq, List.cons.injEq, and_true] at he
  obtain ⟨rfl, rfl⟩ := he
  have hs1 := U1.size
  obtain ⟨w2, hw2⟩ : ∃ w2, w1.alloc (.cells #[.slice p0 n c0, .slice p1 m c1] 27) = w2 := ⟨_, rfl⟩
  have hs2 : w2.heap.size = w1.heap.size + 1 := by rw [← hw2]; simp
  have x2 : Below w1.heap.size w1 w2 := by rw [← hw2]; exact mem.below_new _ _
  have T2 := mem.boxed w1 (.slice p0 n c0) (.slice p1 m c1) 27
  rw [hw2] at T2
  obtain ⟨w3, hw3⟩ : ∃ w3, w2.alloc (.cells #[] 121) = w3 := ⟨_, rfl⟩
  have r3 := mem.rowE_nil (B := w1.heap.size + 1) (e := 121) (z := 5) w2 (mem.pipC P) (by omega)
  have x3 : Below w2.heap.size w2 w3 := by rw [← hw3]; exact mem.below_new _ _
  have x23 := x2.trans (x3.mono (by omega))
  have hs3 : w1.heap.size + 1 + 1 = w3.heap.size := by rw [← hw3]; simp [hs2]
  rw [hw3, hs2] at r3
  obtain ⟨v4, w4, hr, rP4, u4⟩ := appPips w3 (w1.heap.size + 1) (w1.heap.size + 1) p1 m c1 P 0 w1.heap.size r3 (by omega) (gP.below x23 (Nat.le_refl _)) (by omega)
  have hl4 := u4.size
  have D0 : Dl Wa b cv len w1.heap.size (.slice p0 n c0) (.slice p1 m c1) w4 v4 n m := ⟨N, P, i1, s1, (rN.next x23).keep u4 (fun k hk hx => by
      have := (rN.own.lt k hk).2
      omega), rP4, hnm, src_upd (src_upd hS1 (x23.block b (src_lt hS1))) (u4.block b (by have := src_lt hS1; omega) (by have := src_lt hS1; omega)), upd_hi (U1.trans (mem.Upd.of_below x23)) u4 (by omega), (T2.next x3).keep (u4.block w1.heap.size (by omega) (by omega))⟩
  have hcnt : (0 : Int) < (n : Int) := by omega
  have t2a := T2.b0
  have t2b := T2.b1
  have hnb : Wa.heap.size ≤ w1.heap.size := hs1
  clear rN rP hO gP hS1 U1 T2 r3 x2 x3 x23 rP4 u4 hs2 hs3
  subst hw3 hw2
  go_wp2_with (at_builtin; refine mem.wpList_appT hr rfl _ _ rfl rfl rfl rfl ?_)
  clear hr t2a t2b
  obtain ⟨N5, P5, i5, s5, hN5, hP5, hs5, hS5, hU5, hT5⟩ := D0.ex
  refine (next_any w4 b B cv len i5 s5 3 hS5 (code_of HC.out hU5 hB hb) hB (by omega)).mono ?_
  rintro e w6 ⟨v6, i6, s6, rfl, t0, ht, hS6, o6⟩
  have D6 := D0.drawn hb hnb (upd_of o6) hS6
  clear D0 hN5 hP5 hs5 hS5 hU5 hT5 o6 hS6
  obtain ⟨j0, rfl⟩ := Int.eq_ofNat_of_zero_le t0
  have hj0 : j0 ≤ 2 := by omega
  clear t0 ht
  go_wp2_with fail
  go_loopw [6, 5] (fun i vP wr => ∃ (j k : Nat) (vP' : Value), i = .int .i64 j ∧ vP' = vP ∧ j ≤ 2 ∧ k + j ≤ 102 ∧ Dl Wa b cv len w1.heap.size (.slice p0 n c0) (.slice p1 m c1) wr vP n k) (fun i _ _ => (intOf i).toNat)
  case atStart => exact ⟨j0, m, _, rfl, rfl, hj0, by omega, D6⟩
  case round =>
    obtain ⟨j, m', vP', rfl, rfl, hj, hmj, D⟩ := hrel
    clear D6
    rcases Nat.eq_zero_or_pos j with hj1 | hj1
    · subst hj1
      obtain ⟨N7, P7, i7, s7, g1, g2, o1, o2, hd, q1, q2, hs7, hS7, hU7, hT7⟩ := D.net hnb
      have R7 := R1.keep (hU7.block w.heap.size (by omega) (by omega))
      have f0 := R7.b0
      have f1 := R7.b1
      have k0 := R7.free 0
      have k1 := R7.free 1
      have t0 := hT7.b0
      have t1 := hT7.b1
      obtain ⟨p2, c2, rfl⟩ := o2.shape
      have hO := (((mem.Only.refl w.heap.size wr).setCell 0 (.slice p0 n c0)).setCell 1 (.slice p2 m' c2))
      have HF := Lib.hid (And.intro (mem.OwnS.set2 (g := w.heap.size) (o0 := 0) (o1 := 1) (u0 := .slice p0 n c0) (u1 := .slice p2 m' c2) o1 (by omega)) (And.intro (mem.OwnS.set2 (g := w.heap.size) (o0 := 0) (o1 := 1) (u0 := .slice p0 n c0) (u1 := .slice p2 m' c2) o2 (by omega)) (And.intro hd (And.intro hs7 (And.intro (src_upd hS7 (hO.block b (by omega))) (upd_own (U0.out.trans hU7) hO (Nat.le_refl _)))))))
      clear D R7 hU7 hS7 hs7 o1 o2 hO hd hT7
      go_wp2_with fail
      refine bodyPost_ret (v := .agg #[.slice p0 n c0, .slice p2 m' c2]) (by simp [results, Tryz.results84, go_sem, f0, f1]) rfl ⟨_, n, m', N7, P7, g1, g2, i7, s7, rfl, by omega, by omega, HF.out.2.2.2.1, ⟨_, _, rfl, HF.out.1, HF.out.2.1, HF.out.2.2.1⟩, by omega, by omega, HF.out.2.2.2.2.1, HF.out.2.2.2.2.2⟩
    have hjI : (0 : Int) < (j : Int) := by omega
    by_cases hc1 : n = 1
    · subst hc1
      obtain ⟨N7, P7, i7, s7, g1, g2, o1, o2, hd, q1, q2, hs7, hS7, hU7, hT7⟩ := D.net hnb
      have R7 := R1.keep (hU7.block w.heap.size (by omega) (by omega))
      have f0 := R7.b0
      have f1 := R7.b1
      have k0 := R7.free 0
      have k1 := R7.free 1
      have t0 := hT7.b0
      have t1 := hT7.b1
      obtain ⟨p2, c2, rfl⟩ := o2.shape
      have hO := (((mem.Only.refl w.heap.size wr).setCell 0 (.slice p0 1 c0)).setCell 1 (.slice p2 m' c2))
      have HF := Lib.hid (And.intro (mem.OwnS.set2 (g := w.heap.size) (o0 := 0) (o1 := 1) (u0 := .slice p0 1 c0) (u1 := .slice p2 m' c2) o1 (by omega)) (And.intro (mem.OwnS.set2 (g := w.heap.size) (o0 := 0) (o1 := 1) (u0 := .slice p0 1 c0) (u1 := .slice p2 m' c2) o2 (by omega)) (And.intro hd (And.intro hs7 (And.intro (src_upd hS7 (hO.block b (by omega))) (upd_own (U0.out.trans hU7) hO (Nat.le_refl _)))))))
      clear D R7 hU7 hS7 hs7 o1 o2 hO hd hT7
      go_wp2_with fail
      refine bodyPost_ret (v := .agg #[.slice p0 1 c0, .slice p2 m' c2]) (by simp [results, Tryz.results84, go_sem, f0, f1]) rfl ⟨_, 1, m', N7, P7, g1, g2, i7, s7, rfl, by omega, by omega, HF.out.2.2.2.1, ⟨_, _, rfl, HF.out.1, HF.out.2.1, HF.out.2.2.1⟩, by omega, by omega, HF.out.2.2.2.2.1, HF.out.2.2.2.2.2⟩
    have hcI : (1 : Int) < (n : Int) := by omega
    go_wp2_with fail
    obtain ⟨N5, P5, i5, s5, hN5, hP5, hs5, hS5, hU5, hT5⟩ := D.ex
    refine (next_any wr b B cv len i5 s5 _ hS5 (code_of HC.out hU5 hB hb) hB (by omega)).mono ?_
    rintro e w7 ⟨v7, i7, s7, rfl, t7, ht7, hS7, o7⟩
    have D7 := D.drawn hb hnb (upd_of o7) hS7
    clear D hN5 hP5 hs5 hS5 hU5 hT5 o7 hS7
    have hv7 : v7 ≤ 100 := by omega
    go_wp2_with fail
    obtain ⟨N5, P5, i5, s5, hN5, hP5, hs5, hS5, hU5, hT5⟩ := D7.ex
    refine (next_any w7 b B cv len i5 s5 _ hS5 (code_of HC.out hU5 hB hb) hB (by omega)).mono ?_
    rintro e w8 ⟨v8, i8, s8, rfl, t8, ht8, hS8, o8⟩
    have D8 := D7.drawn hb hnb (upd_of o8) hS8
    clear D7 hN5 hP5 hs5 hS5 hU5 hT5 o8 hS8
    have hv8 : v8 ≤ 100 := by omega
    have hne : (n : Int) ≠ 0 := by omega
    go_wp2_with fail
    obtain ⟨N5, P5, i5, s5, hN5, hP5, hs5, hS5, hU5, hT5⟩ := D8.ex
    refine (pipe_any w8 b B cv len i5 s5 _ _ hS5 (code_of HC.out hU5 hB hb) hB).mono ?_
    rintro e w9 ⟨q9, i9, s9, rfl, hS9, U9⟩
    have D9 := D8.drawn hb hnb U9 hS9
    clear D8 hN5 hP5 hs5 hS5 hU5 hT5 U9 hS9
    obtain ⟨N8, P8, i8, s8, hN8, hP8, hs8, hS8, hU8, hT8⟩ := D9.ex
    obtain ⟨pP, cP, rfl⟩ := hP8.shape
    obtain ⟨va, wa, hra, ha, ua⟩ := appPip (w1.heap.size + 1) w9 _ m' P8 q9 hP8 (by have := hT8.lt; omega) (by omega)
    have Da := Dl.addP hb hnb hN8 hP8 hs8 hS8 hU8 hT8 ha ua
    clear D9 hN8 hP8 hs8 hS8 hU8 hT8 ha ua
    go_wp2_with (at_builtin; refine mem.wpList_appT hra rfl _ _ rfl rfl rfl rfl ?_)
    clear hra
    go_roundw
    case rel => exact ⟨j - 1, m' + 1, _, by go_num, rfl, by omega, by omega, Da⟩
    case measure => simp [intOf]; omega
end Go.Proofs.YtdbgcbkmcbgdiaaGreat.draw

namespace Go.Proofs.YtdbgcbkmcbgdiaaGreat.draw
open Go.RowKit
set_option linter.unusedVariables false

end Go.Proofs.YtdbgcbkmcbgdiaaGreat.draw

namespace Go.Proofs.YtdbgcbkmcbgdiaaGreat.mem
open Go.RowKit
set_option linter.unusedVariables false

set_option maxRecDepth 100000 in
set_option maxHeartbeats 8000000 in
theorem l05OutW_any (w : World) (v : Value) (n : Nat) (N : Nat → Nod) (m : Nat) (P : Nat → Pip) (lo hi : Nat) (h : NetAt w v n N m P lo hi) (hhi : hi ≤ w.heap.size) (hN : ∀ i, i < n → (N i).s.size ≤ 9223372036854775807) (hB : netB n N m P = true) (va : Value) (d : Nat → Int) (la ha : Nat) (hv : Sl w va m d la ha) (hha : ha ≤ w.heap.size) (hf : flB d m = true) :
    Calls Tryz.prog 48 #[v, va] w fun e w' => ∃ v2 g, e = .returned v2 ∧ Own w' v2 n (fun z => dv P d m ((z : Nat) : Int)) g ∧ w.heap.size ≤ g ∧ Below w.heap.size w w' := by
  obtain ⟨p0, c0, p1, c1, rfl, hn9, hm9⟩ := h.parts
  obtain ⟨hn1, hn24, hm40⟩ := net_sz hB
  have HV := Lib.hid h
  have HPI := Lib.hid (fun a (ha : a < m) => pip_end (net_pip hB ha))
  have HFR := Lib.hid (show ∀ i, i < m → -30000 ≤ d i ∧ d i ≤ 30000 from fun i hi => flQ_iff.1 (flB_iff.1 hf i hi))
  obtain ⟨pa, ca, rfl, hva⟩ := hv
  have HVZ := Lib.hid hva
  have A0 := (boxed w (.slice p0 n c0) (.slice p1 m c1) 27).keep (Below.heap_alloc _ (.cells (zeros n) 2) _ (by simp only [World.size_alloc]; omega))
  have G0 := Own.made (w.alloc (.cells #[.slice p0 n c0, .slice p1 m c1] 27)) n (by omega)
  simp only [World.size_alloc] at G0
  have B0 := (below_new w (.cells #[.slice p0 n c0, .slice p1 m c1] 27)).trans ((below_new _ (.cells (zeros n) 2)).mono (by simp only [World.size_alloc]; omega))
  have e0' := (boxed w (.slice p0 n c0) (.slice p1 m c1) 27).b0
  have m1 := fun W => make_int64 W n (by omega)
  have n0 : (0 : Int) ≤ (n : Int) := Int.natCast_nonneg _
  have HA := Lib.hid A0
  have HG := Lib.hid G0
  have HBB := Lib.hid B0
  clear h hN hB A0 G0 B0 hva hf
  go_enter Tryz.func48, Tryz.ntmps48
  go_wp2_with fail
  generalize hW : (w.alloc (.cells #[.slice p0 n c0, .slice p1 m c1] 27)).alloc (.cells (zeros n) 2) = w2 at *
  clear hW m1 e0'
  go_loopw [6] (fun iv wr => ∃ k : Nat, iv = .int .i64 k ∧ k ≤ m ∧ Own wr (.slice (some ⟨w.heap.size + 1, 0, none⟩) n n) n (fun z => dv P d k ((z : Nat) : Int)) (w.heap.size + 1) ∧ Ob wr w.heap.size 2 (bx (.slice p0 n c0) (.slice p1 m c1)) ∧ Below w.heap.size w wr) (fun iv _ => m - (intOf iv).toNat)
  case atStart => exact ⟨0, rfl, Nat.zero_le _, HG.out.congr (fun k _ => rfl), HA.out, HBB.out⟩
  case round =>
    obtain ⟨k, rfl, hk, og, oa, hb⟩ := hrel
    clear HA HG HBB
    have HG := Lib.hid og
    have HA := Lib.hid oa
    have HBB := Lib.hid hb
    clear og oa hb
    generalize hQ : Exit.then _ _ = Q
    have HQ := Lib.hid hQ
    clear hQ
    have k0 : (0 : Int) ≤ (k : Int) := Int.natCast_nonneg _
    have lg := HG.out.lt
    by_cases hlt : k < m
    · have k1 : (k : Int) < (m : Int) := by omega
      obtain ⟨bp, op, rfl, q1, q2, r0, r1, r2, r3, r4⟩ := (HV.out.below HBB.out hhi).pipe hlt
      obtain ⟨ba, oa, rfl, g1, g2, hx⟩ : ∃ b o, pa = some ⟨b, o, none⟩ ∧ la ≤ b ∧ b < ha ∧ ∀ k, k < m → w.cell? ⟨b, o + k, none⟩ = some (.int .i64 (d k)) := by
        rcases HVZ.out with e | e
        · omega
        · exact e
      have ya : wr.cell? ⟨ba, oa + k, none⟩ = some (.int .i64 (d k)) := (HBB.out.cell (p := ⟨ba, oa + k, none⟩) (by show ba < w.heap.size; omega)).trans (hx k hlt)
      have HX := Lib.hid hx
      clear hx r2 r3 r4
      obtain ⟨hf0, ht0, hne⟩ := HPI.out k hlt
      obtain ⟨f, hf⟩ := Int.eq_ofNat_of_zero_le hf0.1
      obtain ⟨t, ht⟩ := Int.eq_ofNat_of_zero_le ht0.1
      rw [hf] at r0 hf0 hne
      rw [ht] at r1 ht0 hne
      have HFE := Lib.hid hf
      have HTE := Lib.hid ht
      clear hf ht
      have f0 := hf0.1
      have f1 := hf0.2
      have t0 := ht0.1
      have t1 := ht0.2
      have hfn : f < n := by omega
      have htn : t < n := by omega
      have e1 : wr.cell? ⟨w.heap.size, 1, none⟩ = some (.slice (some ⟨bp, op, none⟩) m c1) := HA.out.b1
      have yf : wr.cell? ⟨w.heap.size + 1, f, none⟩ = some (.int .i64 (dv P d k ((f : Nat) : Int))) := HG.out.row.cell f hfn
      have yz := HG.out.free f
      have hd := HFR.out k hlt
      have hb1 := dv_bd (P := P) (x := d) (z := ((f : Nat) : Int)) (k := k) (fun i hi => HFR.out i (by omega))
      have hb2 := dv_bd (P := P) (x := d) (z := ((t : Nat) : Int)) (k := k) (fun i hi => HFR.out i (by omega))
      have a1 : -4611686018427387904 ≤ dv P d k ((f : Nat) : Int) + d k ∧ dv P d k ((f : Nat) : Int) + d k ≤ 4611686018427387904 := by omega
      have a2 : -4611686018427387904 ≤ dv P d k ((t : Nat) : Int) - d k ∧ dv P d k ((t : Nat) : Int) - d k ≤ 4611686018427387904 := by omega
      clear hb1 hb2 hd hf0 ht0
      have hftN : f ≠ t := by omega
      have bne : bp ≠ w.heap.size + 1 := by omega
      have bna : ba ≠ w.heap.size + 1 := by omega
      have o1 := (Only.refl (w.heap.size + 1) wr).setCell f (.int .i64 (dv P d k ((f : Nat) : Int) + d k))
      have G1 := HG.out.put1 f (dv P d k ((f : Nat) : Int) + d k) hfn
      have wne : w.heap.size ≠ w.heap.size + 1 := by omega
      have z1 := (o1.cell (a := ⟨w.heap.size, 1, none⟩) wne).trans e1
      have z2 := (o1.cell (a := ⟨bp, op + k * 5, none⟩) bne).trans r0
      have z3 := (o1.cell (a := ⟨bp, op + k * 5 + 1, none⟩) bne).trans r1
      have z4 := (o1.cell (a := ⟨ba, oa + k, none⟩) bna).trans ya
      have Z1 := Lib.hid z1
      have Z2 := Lib.hid z2
      have Z3 := Lib.hid z3
      have Z4 := Lib.hid z4
      have H1 := Lib.hid a2
      have HR1 := Lib.hid r1
      clear z1 z2 z3 z4 a2 r1
      go_wp2_with fail
      go_still_tail 22, (by kernel_rfl)
      change wpList _ _ _ _ _ wr.drew
      go_wp2_with fail
      have ht2 : upd (fun z => dv P d k ((z : Nat) : Int)) f (dv P d k ((f : Nat) : Int) + d k) t = dv P d k ((t : Nat) : Int) := by
        unfold upd
        rw [if_neg (fun e => hftN e.symm)]
      have G1d : Own (wr.setCell ⟨w.heap.size + 1, f, none⟩ (.int .i64 (dv P d k ((f : Nat) : Int) + d k))).drew (.slice (some ⟨w.heap.size + 1, 0, none⟩) n n) n (upd (fun z => dv P d k ((z : Nat) : Int)) f (dv P d k ((f : Nat) : Int) + d k)) (w.heap.size + 1) := G1.keep rfl
      have OD := o1.below (B := w.heap.size) (by omega)
      obtain ⟨w3, hw3⟩ : ∃ w3, (wr.setCell ⟨w.heap.size + 1, f, none⟩ (.int .i64 (dv P d k ((f : Nat) : Int) + d k))).drew = w3 := ⟨_, rfl⟩
      have e1' : w3.cell? ⟨w.heap.size, 1, none⟩ = some (.slice (some ⟨bp, op, none⟩) m c1) := by rw [← hw3]; exact Z1.out
      have r1' : w3.cell? ⟨bp, op + k * 5 + 1, none⟩ = some (.int .i64 (t : Nat)) := by rw [← hw3]; exact Z3.out
      have ya' : w3.cell? ⟨ba, oa + k, none⟩ = some (.int .i64 (d k)) := by rw [← hw3]; exact Z4.out
      have yf' : w3.cell? ⟨w.heap.size + 1, t, none⟩ = some (.int .i64 (dv P d k ((t : Nat) : Int))) := by rw [← hw3, ← ht2]; exact G1d.row.cell t htn
      have oa3 : Ob w3 w.heap.size 2 (bx (.slice p0 n c0) (.slice (some ⟨bp, op, none⟩) m c1)) := by rw [← hw3]; exact (HA.out.only o1 (by omega)).keep rfl
      have b3 : Below w.heap.size w w3 := by rw [← hw3]; exact below_drw (HBB.out.trans OD)
      rw [hw3] at G1d ⊢
      clear hw3 e1 r0 ya yf yz o1 G1 Z1 Z2 Z3 Z4 HR1 OD a1 ht2
      have yz := G1d.free t
      have a2 := H1.out
      have HA3 := Lib.hid oa3
      have HB3 := Lib.hid b3
      have HG3 := Lib.hid G1d
      clear oa3 b3 G1d
      have o2 := (Only.refl (w.heap.size + 1) w3).setCell t (.int .i64 (dv P d k ((t : Nat) : Int) - d k))
      have z1 := Lib.hid ((o2.cell (a := ⟨w.heap.size, 1, none⟩) wne).trans e1')
      have z2 := Lib.hid ((o2.cell (a := ⟨bp, op + k * 5 + 1, none⟩) bne).trans r1')
      have z4 := Lib.hid ((o2.cell (a := ⟨ba, oa + k, none⟩) bna).trans ya')
      have G2 := Lib.hid (HG3.out.put1 t (dv P d k ((t : Nat) : Int) - d k) htn)
      have OA2 := Lib.hid (HA3.out.only o2 (by omega))
      have OB2 := Lib.hid (HB3.out.trans (o2.below (B := w.heap.size) (by omega)))
      clear o2
      go_still_tail 22, (by kernel_rfl)
      change wpList _ _ _ _ _ w3.drew
      go_wp2_with fail
      clear e1' r1' ya' yf' yz a2
      rw [← HQ.out]
      refine ⟨⟨_, _, _, _, _, _, _, _, _, _, _, _, _, _, _, _, _, _, _, _, _, _, _, _, _, _, _, _, _, _, _, _, _, _, _, _, _, _, _, _, _, _, _, _, _, _, _, _, _, _, _, ?rel, rfl⟩, ?measure⟩
      case rel =>
        refine ⟨k + 1, by go_num, hlt, (G2.out.congr (fun z _ => ?_)).keep rfl, OA2.out.keep rfl, below_drw OB2.out⟩
        simp only [upd]
        rw [dv, HFE.out, HTE.out]
        by_cases e : z = t
        · subst e
          rw [if_pos rfl, if_neg (show ¬ ((f : Nat) : Int) = ((z : Nat) : Int) by omega), if_pos rfl]
          omega
        · rw [if_neg e, if_neg (show ¬ ((t : Nat) : Int) = ((z : Nat) : Int) by omega)]
          by_cases e2 : z = f
          · subst e2
            rw [if_pos rfl, if_pos rfl]
            omega
          · rw [if_neg e2, if_neg (show ¬ ((f : Nat) : Int) = ((z : Nat) : Int) by omega)]
            omega
      case measure => simp [intOf]; omega
    · have hkn : m = k := by omega
      subst hkn
      have k1 : ¬ ((m : Int) < (m : Int)) := by omega
      go_wp2_with fail
      rw [← HQ.out]
      go_wp2_with fail
      go_ret
      exact ⟨_, w.heap.size + 1, rfl, HG.out, by omega, HBB.out⟩
end Go.Proofs.YtdbgcbkmcbgdiaaGreat.mem

namespace Go.Proofs.YtdbgcbkmcbgdiaaGreat.draw
open Go.RowKit
set_option linter.unusedVariables false

/-- a network and a list have been drawn -/
def NLPost (w : World) (b : Nat) (cv : Value) (len : Nat) (e : Ending) (w' : World) : Prop :=
  ∃ (v : Value) (n m : Nat) (N : Nat → mem.Nod) (P : Nat → mem.Pip) (b1 b2 : Nat) (vl : Value) (K : Nat) (D : Nat → Int) (i s : Int), e = .returned (.tuple #[v, vl]) ∧ n ≤ 1000 ∧ m ≤ 1000 ∧ K ≤ 2000 ∧ (∀ i, i < n → (N i).s.size ≤ 9223372036854775807) ∧ mem.NetOwn w' v n N m P b1 b2 ∧ w.heap.size ≤ b1 ∧ w.heap.size ≤ b2 ∧ mem.Sl w' vl K D w.heap.size w'.heap.size ∧ Src w' b cv len i s ∧ mem.Upd (· = b) w w'
/-- a slice whose elements are a row at its block's start, to be read and written -/
def Fre (w : World) (v : Value) (K : Nat) (D : Nat → Int) (lo hi : Nat) : Prop := ∃ g cap, v = .slice (some ⟨g, 0, none⟩) K cap ∧ lo ≤ g ∧ g < hi ∧ mem.Row w g K D
theorem fre_own {w : World} {v : Value} {n g : Nat} {d : Nat → Int} (h : mem.Own w v n d g) : Fre w v n d g (g + 1) := by
  obtain ⟨c, rfl⟩ := h.shape
  exact ⟨g, c, rfl, Nat.le_refl _, Nat.lt_succ_self _, h.row⟩
theorem fre_ob {w : World} {b0 n cap : Nat} {d : Nat → Int} (h : mem.Ob w b0 n (mem.ia d)) : Fre w (.slice (some ⟨b0, 0, none⟩) n cap) n d b0 (b0 + 1) :=
  ⟨b0, cap, rfl, Nat.le_refl _, Nat.lt_succ_self _, fun k hk => h.cell k hk, fun k _ => h.free k⟩
theorem Fre.keep {w w' : World} {v : Value} {K lo hi : Nat} {D : Nat → Int} (h : Fre w v K D lo hi) (g : ∀ b, lo ≤ b → b < hi → w'.heap[b]? = w.heap[b]?) : Fre w' v K D lo hi := by
  obtain ⟨b, cap, e, h1, h2, h3⟩ := h
  exact ⟨b, cap, e, h1, h2, fun k hk => (World.cell?_of_block (a := ⟨b, k, none⟩) (g b h1 h2)).trans (h3.cell k hk), fun k hk => (World.frozen?_of_block (a := ⟨b, k, none⟩) (g b h1 h2)).trans (h3.free k hk)⟩
theorem Fre.mono {w : World} {v : Value} {K lo hi lo' hi' : Nat} {D : Nat → Int} (h : Fre w v K D lo hi) (h1 : lo' ≤ lo) (h2 : hi ≤ hi') : Fre w v K D lo' hi' := by
  obtain ⟨b, cap, e, g1, g2, g3⟩ := h
  exact ⟨b, cap, e, by omega, by omega, g3⟩
def NLPostW (w : World) (b : Nat) (cv : Value) (len : Nat) (e : Ending) (w' : World) : Prop :=
  ∃ (v : Value) (n m : Nat) (N : Nat → mem.Nod) (P : Nat → mem.Pip) (b1 b2 : Nat) (vl : Value) (K : Nat) (D : Nat → Int) (i s : Int), e = .returned (.tuple #[v, vl]) ∧ n ≤ 1000 ∧ m ≤ 1000 ∧ K ≤ 2000 ∧ (∀ i, i < n → (N i).s.size ≤ 9223372036854775807) ∧ mem.NetOwn w' v n N m P b1 b2 ∧ w.heap.size ≤ b1 ∧ w.heap.size ≤ b2 ∧ mem.Sl w' vl K D w.heap.size w'.heap.size ∧ Src w' b cv len i s ∧ mem.Upd (· = b) w w' ∧ (∃ lo hi, Fre w' vl K D lo hi ∧ w.heap.size ≤ lo ∧ hi ≤ w'.heap.size ∧ (n = 0 ∨ b1 < lo) ∧ (m = 0 ∨ b2 < lo))
theorem upd_bel {X : Nat → Prop} {w w1 w2 : World} (h : mem.Upd X w w1) (k : Below w.heap.size w1 w2) : mem.Upd X w w2 :=
  ⟨k.os.trans h.os, k.tape.trans h.tape, k.output.trans h.output, Nat.le_trans h.size k.size, fun x hx hn => (k.block x hx).trans (h.block x hx hn)⟩
/-- flows while they are drawn -/
structure Fl (W1 : World) (b : Nat) (cv : Value) (len : Nat) (wr : World) (v : Value) (k : Nat) : Prop where
  ex : ∃ (D : Nat → Int) (g : Nat) (i s : Int), mem.Own wr v k D g ∧ (∀ j, j < k → -30000 ≤ D j ∧ D j ≤ 30000) ∧ W1.heap.size ≤ g ∧ Src wr b cv len i s ∧ mem.Upd (· = b) W1 wr
theorem six_post {w X : World} {b len n m b1 b2 K lo hi : Nat} {cv v0 v1 vl : Value} {N : Nat → mem.Nod} {P : Nat → mem.Pip} {D : Nat → Int} {i s : Int} (hO : mem.NetOwn X (.agg #[v0, v1]) n N m P b1 b2) (hb1 : w.heap.size < b1) (hb2 : w.heap.size < b2) (hn : n ≤ 1000) (hm : m ≤ 1000) (hK : K ≤ 2000) (hnm : ∀ i, i < n → (N i).s.size ≤ 9223372036854775807)
    (hL : mem.Sl X vl K D lo hi) (hlo : w.heap.size < lo) (hhi : hi ≤ X.heap.size) (hS : Src X b cv len i s) (hU : mem.Upd (· = b) w X) (hlt : b < w.heap.size) (hF : Fre X vl K D lo hi) (hd : (n = 0 ∨ b1 < lo) ∧ (m = 0 ∨ b2 < lo)) : NLPostW w b cv len (.returned (.tuple #[.agg #[v0, v1], vl])) ((X.setCell ⟨w.heap.size, 0, none⟩ v0).setCell ⟨w.heap.size, 1, none⟩ v1) := by
  have hO2 := ((mem.Only.refl w.heap.size X).setCell 0 v0).setCell 1 v1
  exact ⟨_, n, m, N, P, b1, b2, vl, K, D, i, s, rfl, hn, hm, hK, hnm, hO.upd (mem.Upd.of_only hO2) (.inr (by omega)) (.inr (by omega)), by omega, by omega, (hL.only hO2 (.inl hlo)).mono (by omega) (Nat.le_trans hhi (Nat.le_of_eq hO2.size)), src_upd hS (hO2.block b (by omega)), upd_own hU hO2 (Nat.le_refl _), ⟨lo, hi, hF.keep (fun x hx1 hx2 => hO2.block x (by omega)), by omega, Nat.le_trans hhi (Nat.le_of_eq hO2.size), hd.1, hd.2⟩⟩
set_option maxRecDepth 100000 in
set_option maxHeartbeats 8000000 in
theorem six_anyW (w : World) (b B : Nat) (cv : Value) (len : Nat) (i s : Int) (h : Src w b cv len i s) (hc : CodeAt w cv len B) (hB' : B ≤ b) :
    Calls Tryz.prog 39 #[.pointer (some ⟨b, 0, none⟩)] w (NLPostW w b cv len) := by
  have hlt := src_lt h
  have h' := src_alloc h hlt (.cells #[.slice none 0 0, .slice none 0 0] 27)
  have HC := Lib.hid (codeAt_below hc ((Below.refl B w).alloc (by omega) (.cells #[.slice none 0 0, .slice none 0 0] 27)))
  have R1 := mem.boxed w (.slice none 0 0) (.slice none 0 0) 27
  have U0 := Lib.hid (mem.Upd.of_below (mem.below_new w (.cells #[.slice none 0 0, .slice none 0 0] 27)) (X := (· = b)))
  have hsz : w.heap.size + 1 ≤ (w.alloc (.cells #[.slice none 0 0, .slice none 0 0] 27)).heap.size := by simp
  go_enter Tryz.func39, Tryz.ntmps39
  go_wp2_with fail
  generalize hW : w.alloc (.cells #[.slice none 0 0, .slice none 0 0] 27) = Wa at *
  clear hW h hc
  have hb : b < Wa.heap.size := by omega
  refine (loops_any Wa b B cv len i s h' HC.out hB').mono ?_
  rintro e w1 ⟨v, n, m, N, P, b1, b2, i1, s1, rfl, hn, hm, hnm, hO, l1, l2, hS1, U1⟩
  obtain ⟨p0, c0, p1, c1, rfl⟩ := hO.shape
  have hTl := U1.size
  have hbt := src_lt hS1
  have x2 := mem.below_new w1 (.cells #[.slice p0 n c0, .slice p1 m c1] 27)
  have T1 := mem.boxed w1 (.slice p0 n c0) (.slice p1 m c1) 27
  have HO := Lib.hid (hO.next x2)
  have S2 := src_alloc hS1 (src_lt hS1) (.cells #[.slice p0 n c0, .slice p1 m c1] 27)
  have U2 := U1.trans (mem.Upd.of_below x2)
  clear hO hS1 U1 x2 h'
  go_wp2_with fail
  generalize hW : w1.alloc (.cells #[.slice p0 n c0, .slice p1 m c1] 27) = w2 at *
  obtain ⟨T, hTe⟩ : ∃ T, w1.heap.size = T := ⟨_, rfl⟩
  rw [hTe] at T1 hbt hTl ⊢
  clear hW hTe
  refine (next_any w2 b B cv len i1 s1 16 S2 (code_of HC.out U2 hB' hb) hB' (by omega)).mono ?_
  rintro e w3 ⟨v3, i3, s3, rfl, t3, ht3, S3, o3⟩
  have HO3 := Lib.hid (HO.out.upd (upd_of o3) (.inr (by omega)) (.inr (by omega)))
  have T3 := T1.keep (o3.block T (by omega))
  have U3 := U2.trans (upd_of o3)
  clear HO T1 U2 o3 S2
  have hltw : b < w.heap.size := by omega
  by_cases hv3 : v3 = 0
  · subst hv3
    clear HO3 l1 l2 hn hm hnm
    have hTl3 := T3.lt
    have j0 := T3.free 0
    have j1 := T3.free 1
    have q0 := T3.b0
    have q1 := T3.b1
    go_wp2_with fail
    refine (any_ok w3 b B cv len i3 s3 S3 (code_of HC.out U3 hB' hb) hB').mono ?_
    rintro e w4 ⟨v, n, m, N, P, b1, b2, i4, s4, rfl, hn, hm, hnm, hO, l1, l2, hS4, U4⟩
    obtain ⟨p0, c0, p1, c1, rfl⟩ := hO.shape
    have T4 := T3.keep (U4.block T hTl3 (by omega))
    have hU3 := U3.size
    have j0' := T4.free 0
    have j1' := T4.free 1
    have q0' := T4.b0
    have q1' := T4.b1
    have hU4 := U4.size
    have oT := ((mem.Only.refl T w4).setCell 0 (.slice p0 n c0)).setCell 1 (.slice p1 m c1)
    have HOx := Lib.hid (hO.upd (mem.Upd.of_only oT) (.inr (by omega)) (.inr (by omega)))
    have Tx := Lib.hid ((T4.set 0 (.slice p0 n c0) (by omega)).set 1 (.slice p1 m c1) (by omega))
    have Sx := src_upd hS4 (oT.block b (by omega))
    have Ux := upd_own (U3.trans U4) oT (by omega)
    have hzx := oT.size
    clear T3 j0 j1 q0 q1 T4 hO hS4 U4 oT U3 S3
    go_upto_region 4 with (fail)
    clear j0' j1' q0' q1'
    obtain ⟨w3, hw3⟩ : ∃ wx, (w4.setCell ⟨T, 0, none⟩ (.slice p0 n c0)).setCell ⟨T, 1, none⟩ (.slice p1 m c1) = wx := ⟨_, rfl⟩
    rw [hw3] at HOx Tx Sx Ux hzx ⊢
    clear hw3
    have HO3 := HOx
    have S3 := Sx
    have U3 := Ux
    clear HOx Sx Ux
    have T3 := Tx.out.congr (e := mem.bx (.slice p0 n c0) (.slice p1 m c1)) (by intro j hj; rcases (by omega : j = 0 ∨ j = 1) with rfl | rfl <;> rfl)
    have q0 := T3.b0
    have q1 := T3.b1
    clear Tx
    go_wp2_with fail
    clear q0 q1
    refine (mem.sIsNetwork_any w3 _ n N m P 0 w3.heap.size HO3.out.net (Nat.le_refl _) hnm).mono ?_
    rintro e w5 ⟨rfl, x5⟩
    have z5 := x5.size
    have HO5 := Lib.hid (HO3.out.next x5)
    have T5 := T3.next x5
    have hTl5 := T5.lt
    have S5 := src_upd S3 (x5.block b (src_lt S3))
    have U5 := U3.trans (mem.Upd.of_below x5)
    clear HO3 T3 S3 U3 x5
    cases hB : mem.netB n N m P
    · have L6 := mem.Ob.new w5 #[.int .i64 1, .int .i64 (-1)] 2 2 (mem.ia (fun k => if k = 0 then 1 else -1)) rfl (by intro j hj; rcases (by omega : j = 0 ∨ j = 1) with rfl | rfl <;> rfl)
      have x6 := mem.below_new w5 (.cells #[.int .i64 1, .int .i64 (-1)] 2)
      have z6 := x6.size
      have S6 := src_upd S5 (x6.block b (src_lt S5))
      have U6 := U5.trans (mem.Upd.of_below x6)
      have HF := Lib.hid (six_post (w := w) (HO5.out.next x6) (by omega) (by omega) hn hm (by omega) hnm (L6.sl 2 2 (Nat.le_refl _)) (by omega) (by have := L6.lt; omega) S6 (U0.out.trans U6) hltw (fre_ob L6) (by have := HO5.out.lts; omega))
      have q0 := T5.b0
      have q1 := T5.b1
      clear HO5 T5 S5 U5 L6 x6
      have R7 := R1.keep (U6.block w.heap.size (by omega) (by omega))
      have f0 := R7.b0
      have f1 := R7.b1
      have k0 := R7.free 0
      have k1 := R7.free 1
      clear R7 U6 S6
      go_wp2_with fail
      exact bodyPost_ret (v := .tuple #[.agg #[.slice p0 n c0, .slice p1 m c1], .slice (some ⟨w5.heap.size, 0, none⟩) 2 2]) (by simp [results, Tryz.results39, go_sem, f0, f1]) rfl HF.out
    · have HB := Lib.hid hB
      obtain ⟨hn1, hn24, hm40⟩ := mem.net_sz hB
      have F0 := mem.Own.nilled w5 (fun _ => 0)
      have x6 := mem.below_new w5 (.cells #[] 2)
      have D0 : Fl w5 b cv len (w5.alloc (.cells #[] 2)) (.slice (some ⟨w5.heap.size, 0, none⟩) 0 0) 0 := ⟨fun _ => 0, w5.heap.size, _, _, F0, fun j hj => by omega, Nat.le_refl _, src_upd S5 (x6.block b (src_lt S5)), mem.Upd.of_below x6⟩
      have HC5 := Lib.hid (code_of HC.out U5 hB' hb)
      have lts := HO5.out.lts
      have hb5 := src_lt S5
      have q1 := T5.b1
      clear F0 x6 hB
      go_wp2_with fail
      generalize hW : w5.alloc (.cells #[] 2) = w6 at *
      generalize hv : Value.slice (some ⟨w5.heap.size, 0, none⟩) 0 0 = vl0 at *
      clear hW hv q1
      go_loopw [5, 6] (fun ov iv wr => ∃ (k : Nat) (ov' : Value), ov' = ov ∧ iv = .int .i64 k ∧ k ≤ m ∧ Fl w5 b cv len wr ov' k) (fun _ iv _ => m - (intOf iv).toNat)
      case atStart => exact ⟨0, _, rfl, rfl, Nat.zero_le _, D0⟩
      case round =>
        obtain ⟨k, ov, rfl, rfl, hk, DF⟩ := hrel
        clear D0
        obtain ⟨D, g, i6, s6, hD, hDb, hg, hS6, hU6⟩ := DF.ex
        clear DF
        have T6 := T5.keep (hU6.block T hTl5 (by omega))
        have q0 := T6.b0
        have q1 := T6.b1
        have k0' : (0 : Int) ≤ (k : Int) := Int.natCast_nonneg _
        by_cases hlt : k < m
        · have k1' : (k : Int) < (m : Int) := by omega
          clear q0
          go_wp2_with fail
          refine (next_any wr b B cv len i6 s6 40 hS6 (code_of HC5.out hU6 hB' hb5) hB' (by omega)).mono ?_
          rintro e w7 ⟨v7, i7, s7, rfl, t7, ht7, hS7, o7⟩
          obtain ⟨co, rfl⟩ := hD.shape
          have lg0 := hD.lt
          have hgb : g ≠ b := by omega
          have hD7 := hD.keep (o7.block g hgb)
          have hU7 := hU6.trans (upd_of o7)
          have hb1 : -4611686018427387904 ≤ v7 - 15 ∧ v7 - 15 ≤ 4611686018427387904 := by omega
          have lg := hD7.lt
          obtain ⟨v8, w8, g8, hr, ap⟩ := mem.app_run (w7.alloc (.cells #[.int .i64 (v7 - 15)] 2)) _ k _ g (v7 - 15) w7.heap.size (hD7.alloc _) (mem.cell_new1 w7 _) (by omega)
          have bl := ap.below (B := w5.heap.size) (by omega) (by rw [mem.szal]; omega)
          have xb : Below w5.heap.size w7 w8 := ((mem.below_new w7 _).mono hU7.size).trans bl.1
          have DF8 : Fl w5 b cv len w8 v8 (k + 1) := ⟨_, g8, i7, s7, ap.own, fun j hj => by
            unfold mem.upd
            split
            · omega
            · exact hDb j (by omega), bl.2, src_upd hS7 (xb.block b hb5), upd_bel hU7 xb⟩
          clear hD hDb hS6 hU6 hS7 o7 hD7 hU7 ap bl xb T6 q1 T5 S5 U5 HO5
          go_wp2_with (at_builtin; refine mem.wpList_app hr rfl _ _ rfl rfl rfl rfl ?_)
          clear hr
          go_roundw
          case rel => exact ⟨k + 1, _, rfl, by go_num, hlt, DF8⟩
          case measure => simp [intOf]; omega
        · obtain rfl : m = k := by omega
          have k1' : ¬ ((m : Int) < (m : Int)) := by omega
          have HO6 := Lib.hid (HO5.out.upd hU6 (.inr (by omega)) (.inr (by omega)))
          have lg := hD.lt
          have HD := Lib.hid hD.sl
          have HDB := Lib.hid (mem.flB_iff.2 (fun j hj => mem.flQ_iff.2 (hDb j hj)))
          have HDb := Lib.hid hDb
          have hzr := hU6.size
          obtain ⟨co, rfl⟩ := hD.shape
          clear hD hDb T5 S5 HO5
          go_wp2_with fail
          refine (mem.l05OutW_any wr _ n N m P 0 wr.heap.size HO6.out.net (Nat.le_refl _) hnm HB.out _ D g (g + 1) HD.out (by omega) HDB.out).mono ?_
          rintro e w8 ⟨v8, g8, rfl, hV8, lg8, x8⟩
          obtain ⟨c8, rfl⟩ := hV8.shape
          have hz8 := x8.size
          have HO8 := Lib.hid (HO6.out.next x8)
          have HD8 := Lib.hid (show (n = 0 ∨ b1 < g8) ∧ (m = 0 ∨ b2 < g8) from by have := HO6.out.lts; omega)
          have T8 := T6.next x8
          have S8 := src_upd hS6 (x8.block b (src_lt hS6))
          have U8 := U5.trans (hU6.trans (mem.Upd.of_below x8))
          have hC8 := code_of HC.out U8 hB' hb
          clear T6 q0 q1 hS6 hU6 U5 HO6 HD HDB HC5 x8
          go_wp2_with fail
          refine (next_any w8 b B cv len i6 s6 n S8 hC8 hB' (by omega)).mono ?_
          rintro e w9 ⟨v9, i9, s9, rfl, t9, ht9, S9, o9⟩
          have hV9 := hV8.keep (o9.block g8 (by omega))
          have HO9 := Lib.hid (HO8.out.upd (upd_of o9) (.inr (by omega)) (.inr (by omega)))
          have T9 := T8.keep (o9.block T (by omega))
          have U9 := U8.trans (upd_of o9)
          have hC9 := code_of HC.out U9 hB' hb
          have hz9 := o9.size
          obtain ⟨J, rfl⟩ := Int.eq_ofNat_of_zero_le t9
          have hJ : J < n := by omega
          clear hC8 hV8 HO8 T8 U8 S8 o9 t9 ht9
          go_wp2_with fail
          refine (next_any w9 b B cv len i9 s9 24 S9 hC9 hB' (by omega)).mono ?_
          rintro e wa ⟨va, ia, sa, rfl, ta, hta, Sa, oa⟩
          have hVa := hV9.keep (oa.block g8 (by omega))
          have HOa := Lib.hid (HO9.out.upd (upd_of oa) (.inr (by omega)) (.inr (by omega)))
          have Ta := T9.keep (oa.block T (by omega))
          have Ua := U9.trans (upd_of oa)
          have hza := oa.size
          have lga := hVa.lt
          clear hC9 hV9 HO9 T9 U9 S9 oa
          have bd := mem.dv_bd2 (P := P) (x := D) (z := ((J : Nat) : Int)) (k := m) (fun i hi => HDb.out i (by omega))
          rcases (by omega : va = 0 ∨ va = 1 ∨ va = 2 ∨ (va ≠ 0 ∧ va ≠ 1 ∧ va ≠ 2)) with rfl | rfl | rfl | hva
          · have yf : wa.cell? ⟨g8, J, none⟩ = some (.int .i64 (mem.dv P D m ((J : Nat) : Int))) := hVa.row.cell J hJ
            have yz := hVa.free J
            have bd2 : -4611686018427387904 ≤ mem.dv P D m ((J : Nat) : Int) + 1 ∧ mem.dv P D m ((J : Nat) : Int) + 1 ≤ 4611686018427387904 := by omega
            have oX := (mem.Only.refl g8 wa).setCell J (.int .i64 (mem.dv P D m ((J : Nat) : Int) + 1))
            have hVx := hVa.put1 J (mem.dv P D m ((J : Nat) : Int) + 1) hJ
            have HOx := Lib.hid (HOa.out.upd (mem.Upd.of_only oX) (lts.1.imp_right fun h => by show ¬ (b1 = g8); omega) (lts.2.imp_right fun h => by show ¬ (b2 = g8); omega))
            clear bd
            go_upto_region 20 with (fail)
            obtain ⟨wx, hwx⟩ : ∃ wx, wa.setCell ⟨g8, J, none⟩ (.int .i64 (mem.dv P D m ((J : Nat) : Int) + 1)) = wx := ⟨_, rfl⟩
            rw [hwx] at oX hVx HOx ⊢
            clear hwx
            have Tx := Ta.keep (oX.block T (by omega))
            have Ux := upd_own Ua oX (by omega)
            have Sx := src_upd Sa (oX.block b (by omega))
            have HF := Lib.hid (six_post (w := w) HOx.out (by omega) (by omega) hn hm (show n ≤ 2000 by omega) hnm hVx.sl (by omega) (by have := hVx.lt; omega) Sx (U0.out.trans Ux) hltw (fre_own hVx) HD8.out)
            have q0 := Tx.b0
            have q1 := Tx.b1
            have R7 := R1.keep (Ux.block w.heap.size (by omega) (by omega))
            have f0 := R7.b0
            have f1 := R7.b1
            have k0 := R7.free 0
            have k1 := R7.free 1
            clear R7 Ux Sx Tx
            go_wp2_with fail
            exact bodyPost_ret (v := .tuple #[.agg #[.slice p0 n c0, .slice p1 m c1], .slice (some ⟨g8, 0, none⟩) n c8]) (by simp [results, Tryz.results39, go_sem, f0, f1]) rfl HF.out
          · have bA := mem.below_new wa (Obj.cells #[.int .i64 30000, .int .i64 30001] 2)
            have tA := tabI wa 2 #[.int .i64 30000, .int .i64 30001] (by
              intro j hj
              rcases (by simp at hj; omega : j = 0 ∨ j = 1) with rfl | rfl
              all_goals exact ⟨_, rfl⟩)
            have SA := src_alloc Sa (src_lt Sa) (Obj.cells #[.int .i64 30000, .int .i64 30001] 2)
            have UA := Ua.trans (mem.Upd.of_below bA)
            have CA := code_of HC.out UA hB' hb
            have HVA := Lib.hid (hVa.alloc (Obj.cells #[.int .i64 30000, .int .i64 30001] 2))
            have HOA := Lib.hid (HOa.out.next bA)
            have HTA := Lib.hid (Ta.next bA)
            have hzA : (wa.alloc (Obj.cells #[.int .i64 30000, .int .i64 30001] 2)).heap.size = wa.heap.size + 1 := by simp
            have lba := src_lt Sa
            have yzA := hVa.free J
            have lga2 : J < n := hJ
            clear bd bA Sa Ua Ta HOa hVa
            go_wp2_with fail
            refine (next_any _ b B cv len ia sa 2 SA CA hB' (by omega)).mono ?_
            rintro e wc ⟨vc, ic, sc, rfl, tc, htc, Sc, oc⟩
            have hzc := oc.size
            have HVc := Lib.hid (HVA.out.keep (oc.block g8 (by omega)))
            have HOc := Lib.hid (HOA.out.upd (upd_of oc) (.inr (by omega)) (.inr (by omega)))
            have HTc := Lib.hid (HTA.out.keep (oc.block T (by omega)))
            have Uc := UA.trans (upd_of oc)
            obtain ⟨x, rfl⟩ := Int.eq_ofNat_of_zero_le tc
            have hx : x < 2 := by omega
            have hx2 : (x : Int) < 2 := by omega
            obtain ⟨y, hy⟩ := tA x hx
            have hyc : wc.cell? ⟨wa.heap.size, x, none⟩ = some (.int .i64 y) := by
              have e := oc.block wa.heap.size (by omega)
              simp only [World.cell?] at hy ⊢
              rw [e]
              exact hy
            have yf := HVc.out.row.cell J hJ
            have yz := HVc.out.free J
            have oX := (mem.Only.refl g8 wc).setCell J (.int .i64 y)
            have hVx := HVc.out.put1 J y hJ
            have HOx := Lib.hid (HOc.out.upd (mem.Upd.of_only oX) (lts.1.imp_right fun h => by show ¬ (b1 = g8); omega) (lts.2.imp_right fun h => by show ¬ (b2 = g8); omega))
            clear tA SA CA UA HVA HOA HTA hy oc htc yzA HVc HOc
            go_upto_region 20 with (fail)
            obtain ⟨wx, hwx⟩ : ∃ wx, wc.setCell ⟨g8, J, none⟩ (.int .i64 y) = wx := ⟨_, rfl⟩
            rw [hwx] at oX hVx HOx ⊢
            clear hwx
            have Tx := HTc.out.keep (oX.block T (by omega))
            have Ux := upd_own Uc oX (by omega)
            have Sx := src_upd Sc (oX.block b (by omega))
            have HF := Lib.hid (six_post (w := w) HOx.out (by omega) (by omega) hn hm (show n ≤ 2000 by omega) hnm hVx.sl (by omega) (by have := hVx.lt; omega) Sx (U0.out.trans Ux) hltw (fre_own hVx) HD8.out)
            have q0 := Tx.b0
            have q1 := Tx.b1
            have R7 := R1.keep (Ux.block w.heap.size (by omega) (by omega))
            have f0 := R7.b0
            have f1 := R7.b1
            have k0 := R7.free 0
            have k1 := R7.free 1
            clear R7 Ux Sx Tx
            go_wp2_with fail
            exact bodyPost_ret (v := .tuple #[.agg #[.slice p0 n c0, .slice p1 m c1], .slice (some ⟨g8, 0, none⟩) n c8]) (by simp [results, Tryz.results39, go_sem, f0, f1]) rfl HF.out
          · have hbz : g8 < wa.heap.size := lga
            obtain ⟨vb, wb, gb, hr, ap⟩ := mem.app_run (wa.alloc (.cells #[.int .i64 0] 2)) _ n _ g8 0 wa.heap.size (hVa.alloc _) (mem.cell_new1 wa _) (by omega)
            have bl := ap.below (B := w5.heap.size) (by omega) (by rw [mem.szal]; omega)
            have xb : Below w5.heap.size wa wb := ((mem.below_new wa _).mono (by omega)).trans bl.1
            clear bd
            go_upto_region 20 with (at_builtin; refine mem.wpList_app hr rfl _ _ rfl rfl rfl rfl ?_)
            have Xb : mem.Upd (fun x => w5.heap.size ≤ x) wa wb := ⟨xb.os, xb.tape, xb.output, xb.size, fun x _ hn => xb.block x (by omega)⟩
            have HOx := Lib.hid (HOa.out.upd Xb (lts.1.imp_right fun h => by show ¬ (w5.heap.size ≤ b1); omega) (lts.2.imp_right fun h => by show ¬ (w5.heap.size ≤ b2); omega))
            have Tx := Ta.keep (xb.block T hTl5)
            have Ux := upd_bel Ua (xb.mono (by omega))
            have Sx := src_upd Sa (xb.block b hb5)
            have hlb := bl.2
            clear hr
            have HF := Lib.hid (six_post (w := w) HOx.out (by omega) (by omega) hn hm (show n + 1 ≤ 2000 by omega) hnm ap.own.sl (by omega) (by have := ap.own.lt; omega) Sx (U0.out.trans Ux) hltw (fre_own ap.own) (by have h8 := HD8.out; have h9 := (ap.below (B := g8) (Nat.le_refl _) (by rw [mem.szal]; omega)).2; omega))
            have q0 := Tx.b0
            have q1 := Tx.b1
            have R7 := R1.keep (Ux.block w.heap.size (by omega) (by omega))
            have f0 := R7.b0
            have f1 := R7.b1
            have k0 := R7.free 0
            have k1 := R7.free 1
            clear R7 Ux Sx Tx
            go_wp2_with fail
            exact bodyPost_ret (v := .tuple #[.agg #[.slice p0 n c0, .slice p1 m c1], vb]) (by simp [results, Tryz.results39, go_sem, f0, f1]) rfl HF.out
          · obtain ⟨hv0, hv1, hv2⟩ := hva
            have hv0' : (va == 0) = false := by simpa using hv0
            have hv1' : (va == 1) = false := by simpa using hv1
            have hv2' : (va == 2) = false := by simpa using hv2
            clear hv0 hv1 hv2 bd
            go_upto_region 20 with (fail)
            have HF := Lib.hid (six_post (w := w) HOa.out (by omega) (by omega) hn hm (show n ≤ 2000 by omega) hnm hVa.sl (by omega) (by omega) Sa (U0.out.trans Ua) hltw (fre_own hVa) HD8.out)
            have q0 := Ta.b0
            have q1 := Ta.b1
            have R7 := R1.keep (Ua.block w.heap.size (by omega) (by omega))
            have f0 := R7.b0
            have f1 := R7.b1
            have k0 := R7.free 0
            have k1 := R7.free 1
            clear R7 Ua Sa Ta
            go_wp2_with fail
            exact bodyPost_ret (v := .tuple #[.agg #[.slice p0 n c0, .slice p1 m c1], .slice (some ⟨g8, 0, none⟩) n c8]) (by simp [results, Tryz.results39, go_sem, f0, f1]) rfl HF.out
  · have hv3' : (v3 == 0) = false := by simpa using hv3
    have q0 := T3.b0
    have q1 := T3.b1
    clear hv3
    go_wp2_with fail
    clear q0 q1
    refine (mem.sIsNetwork_any w3 _ n N m P 0 w3.heap.size HO3.out.net (Nat.le_refl _) hnm).mono ?_
    rintro e w5 ⟨rfl, x5⟩
    have z5 := x5.size
    have HO5 := Lib.hid (HO3.out.next x5)
    have T5 := T3.next x5
    have hTl5 := T5.lt
    have S5 := src_upd S3 (x5.block b (src_lt S3))
    have U5 := U3.trans (mem.Upd.of_below x5)
    clear HO3 T3 S3 U3 x5
    cases hB : mem.netB n N m P
    · have L6 := mem.Ob.new w5 #[.int .i64 1, .int .i64 (-1)] 2 2 (mem.ia (fun k => if k = 0 then 1 else -1)) rfl (by intro j hj; rcases (by omega : j = 0 ∨ j = 1) with rfl | rfl <;> rfl)
      have x6 := mem.below_new w5 (.cells #[.int .i64 1, .int .i64 (-1)] 2)
      have z6 := x6.size
      have S6 := src_upd S5 (x6.block b (src_lt S5))
      have U6 := U5.trans (mem.Upd.of_below x6)
      have HF := Lib.hid (six_post (w := w) (HO5.out.next x6) (by omega) (by omega) hn hm (by omega) hnm (L6.sl 2 2 (Nat.le_refl _)) (by omega) (by have := L6.lt; omega) S6 (U0.out.trans U6) hltw (fre_ob L6) (by have := HO5.out.lts; omega))
      have q0 := T5.b0
      have q1 := T5.b1
      clear HO5 T5 S5 U5 L6 x6
      have R7 := R1.keep (U6.block w.heap.size (by omega) (by omega))
      have f0 := R7.b0
      have f1 := R7.b1
      have k0 := R7.free 0
      have k1 := R7.free 1
      clear R7 U6 S6
      go_wp2_with fail
      exact bodyPost_ret (v := .tuple #[.agg #[.slice p0 n c0, .slice p1 m c1], .slice (some ⟨w5.heap.size, 0, none⟩) 2 2]) (by simp [results, Tryz.results39, go_sem, f0, f1]) rfl HF.out
    · have HB := Lib.hid hB
      obtain ⟨hn1, hn24, hm40⟩ := mem.net_sz hB
      have F0 := mem.Own.nilled w5 (fun _ => 0)
      have x6 := mem.below_new w5 (.cells #[] 2)
      have D0 : Fl w5 b cv len (w5.alloc (.cells #[] 2)) (.slice (some ⟨w5.heap.size, 0, none⟩) 0 0) 0 := ⟨fun _ => 0, w5.heap.size, _, _, F0, fun j hj => by omega, Nat.le_refl _, src_upd S5 (x6.block b (src_lt S5)), mem.Upd.of_below x6⟩
      have HC5 := Lib.hid (code_of HC.out U5 hB' hb)
      have lts := HO5.out.lts
      have hb5 := src_lt S5
      have q1 := T5.b1
      clear F0 x6 hB
      go_wp2_with fail
      generalize hW : w5.alloc (.cells #[] 2) = w6 at *
      generalize hv : Value.slice (some ⟨w5.heap.size, 0, none⟩) 0 0 = vl0 at *
      clear hW hv q1
      go_loopw [5, 6] (fun ov iv wr => ∃ (k : Nat) (ov' : Value), ov' = ov ∧ iv = .int .i64 k ∧ k ≤ m ∧ Fl w5 b cv len wr ov' k) (fun _ iv _ => m - (intOf iv).toNat)
      case atStart => exact ⟨0, _, rfl, rfl, Nat.zero_le _, D0⟩
      case round =>
        obtain ⟨k, ov, rfl, rfl, hk, DF⟩ := hrel
        clear D0
        obtain ⟨D, g, i6, s6, hD, hDb, hg, hS6, hU6⟩ := DF.ex
        clear DF
        have T6 := T5.keep (hU6.block T hTl5 (by omega))
        have q0 := T6.b0
        have q1 := T6.b1
        have k0' : (0 : Int) ≤ (k : Int) := Int.natCast_nonneg _
        by_cases hlt : k < m
        · have k1' : (k : Int) < (m : Int) := by omega
          clear q0
          go_wp2_with fail
          refine (next_any wr b B cv len i6 s6 40 hS6 (code_of HC5.out hU6 hB' hb5) hB' (by omega)).mono ?_
          rintro e w7 ⟨v7, i7, s7, rfl, t7, ht7, hS7, o7⟩
          obtain ⟨co, rfl⟩ := hD.shape
          have lg0 := hD.lt
          have hgb : g ≠ b := by omega
          have hD7 := hD.keep (o7.block g hgb)
          have hU7 := hU6.trans (upd_of o7)
          have hb1 : -4611686018427387904 ≤ v7 - 15 ∧ v7 - 15 ≤ 4611686018427387904 := by omega
          have lg := hD7.lt
          obtain ⟨v8, w8, g8, hr, ap⟩ := mem.app_run (w7.alloc (.cells #[.int .i64 (v7 - 15)] 2)) _ k _ g (v7 - 15) w7.heap.size (hD7.alloc _) (mem.cell_new1 w7 _) (by omega)
          have bl := ap.below (B := w5.heap.size) (by omega) (by rw [mem.szal]; omega)
          have xb : Below w5.heap.size w7 w8 := ((mem.below_new w7 _).mono hU7.size).trans bl.1
          have DF8 : Fl w5 b cv len w8 v8 (k + 1) := ⟨_, g8, i7, s7, ap.own, fun j hj => by
            unfold mem.upd
            split
            · omega
            · exact hDb j (by omega), bl.2, src_upd hS7 (xb.block b hb5), upd_bel hU7 xb⟩
          clear hD hDb hS6 hU6 hS7 o7 hD7 hU7 ap bl xb T6 q1 T5 S5 U5 HO5
          go_wp2_with (at_builtin; refine mem.wpList_app hr rfl _ _ rfl rfl rfl rfl ?_)
          clear hr
          go_roundw
          case rel => exact ⟨k + 1, _, rfl, by go_num, hlt, DF8⟩
          case measure => simp [intOf]; omega
        · obtain rfl : m = k := by omega
          have k1' : ¬ ((m : Int) < (m : Int)) := by omega
          have HO6 := Lib.hid (HO5.out.upd hU6 (.inr (by omega)) (.inr (by omega)))
          have lg := hD.lt
          have HD := Lib.hid hD.sl
          have HDB := Lib.hid (mem.flB_iff.2 (fun j hj => mem.flQ_iff.2 (hDb j hj)))
          have HDb := Lib.hid hDb
          have hzr := hU6.size
          obtain ⟨co, rfl⟩ := hD.shape
          clear hD hDb T5 S5 HO5
          go_wp2_with fail
          refine (mem.l05OutW_any wr _ n N m P 0 wr.heap.size HO6.out.net (Nat.le_refl _) hnm HB.out _ D g (g + 1) HD.out (by omega) HDB.out).mono ?_
          rintro e w8 ⟨v8, g8, rfl, hV8, lg8, x8⟩
          obtain ⟨c8, rfl⟩ := hV8.shape
          have hz8 := x8.size
          have HO8 := Lib.hid (HO6.out.next x8)
          have HD8 := Lib.hid (show (n = 0 ∨ b1 < g8) ∧ (m = 0 ∨ b2 < g8) from by have := HO6.out.lts; omega)
          have T8 := T6.next x8
          have S8 := src_upd hS6 (x8.block b (src_lt hS6))
          have U8 := U5.trans (hU6.trans (mem.Upd.of_below x8))
          have hC8 := code_of HC.out U8 hB' hb
          clear T6 q0 q1 hS6 hU6 U5 HO6 HD HDB HC5 x8
          go_wp2_with fail
          refine (next_any w8 b B cv len i6 s6 n S8 hC8 hB' (by omega)).mono ?_
          rintro e w9 ⟨v9, i9, s9, rfl, t9, ht9, S9, o9⟩
          have hV9 := hV8.keep (o9.block g8 (by omega))
          have HO9 := Lib.hid (HO8.out.upd (upd_of o9) (.inr (by omega)) (.inr (by omega)))
          have T9 := T8.keep (o9.block T (by omega))
          have U9 := U8.trans (upd_of o9)
          have hC9 := code_of HC.out U9 hB' hb
          have hz9 := o9.size
          obtain ⟨J, rfl⟩ := Int.eq_ofNat_of_zero_le t9
          have hJ : J < n := by omega
          clear hC8 hV8 HO8 T8 U8 S8 o9 t9 ht9
          go_wp2_with fail
          refine (next_any w9 b B cv len i9 s9 24 S9 hC9 hB' (by omega)).mono ?_
          rintro e wa ⟨va, ia, sa, rfl, ta, hta, Sa, oa⟩
          have hVa := hV9.keep (oa.block g8 (by omega))
          have HOa := Lib.hid (HO9.out.upd (upd_of oa) (.inr (by omega)) (.inr (by omega)))
          have Ta := T9.keep (oa.block T (by omega))
          have Ua := U9.trans (upd_of oa)
          have hza := oa.size
          have lga := hVa.lt
          clear hC9 hV9 HO9 T9 U9 S9 oa
          have bd := mem.dv_bd2 (P := P) (x := D) (z := ((J : Nat) : Int)) (k := m) (fun i hi => HDb.out i (by omega))
          rcases (by omega : va = 0 ∨ va = 1 ∨ va = 2 ∨ (va ≠ 0 ∧ va ≠ 1 ∧ va ≠ 2)) with rfl | rfl | rfl | hva
          · have yf : wa.cell? ⟨g8, J, none⟩ = some (.int .i64 (mem.dv P D m ((J : Nat) : Int))) := hVa.row.cell J hJ
            have yz := hVa.free J
            have bd2 : -4611686018427387904 ≤ mem.dv P D m ((J : Nat) : Int) + 1 ∧ mem.dv P D m ((J : Nat) : Int) + 1 ≤ 4611686018427387904 := by omega
            have oX := (mem.Only.refl g8 wa).setCell J (.int .i64 (mem.dv P D m ((J : Nat) : Int) + 1))
            have hVx := hVa.put1 J (mem.dv P D m ((J : Nat) : Int) + 1) hJ
            have HOx := Lib.hid (HOa.out.upd (mem.Upd.of_only oX) (lts.1.imp_right fun h => by show ¬ (b1 = g8); omega) (lts.2.imp_right fun h => by show ¬ (b2 = g8); omega))
            clear bd
            go_upto_region 20 with (fail)
            obtain ⟨wx, hwx⟩ : ∃ wx, wa.setCell ⟨g8, J, none⟩ (.int .i64 (mem.dv P D m ((J : Nat) : Int) + 1)) = wx := ⟨_, rfl⟩
            rw [hwx] at oX hVx HOx ⊢
            clear hwx
            have Tx := Ta.keep (oX.block T (by omega))
            have Ux := upd_own Ua oX (by omega)
            have Sx := src_upd Sa (oX.block b (by omega))
            have HF := Lib.hid (six_post (w := w) HOx.out (by omega) (by omega) hn hm (show n ≤ 2000 by omega) hnm hVx.sl (by omega) (by have := hVx.lt; omega) Sx (U0.out.trans Ux) hltw (fre_own hVx) HD8.out)
            have q0 := Tx.b0
            have q1 := Tx.b1
            have R7 := R1.keep (Ux.block w.heap.size (by omega) (by omega))
            have f0 := R7.b0
            have f1 := R7.b1
            have k0 := R7.free 0
            have k1 := R7.free 1
            clear R7 Ux Sx Tx
            go_wp2_with fail
            exact bodyPost_ret (v := .tuple #[.agg #[.slice p0 n c0, .slice p1 m c1], .slice (some ⟨g8, 0, none⟩) n c8]) (by simp [results, Tryz.results39, go_sem, f0, f1]) rfl HF.out
          · have bA := mem.below_new wa (Obj.cells #[.int .i64 30000, .int .i64 30001] 2)
            have tA := tabI wa 2 #[.int .i64 30000, .int .i64 30001] (by
              intro j hj
              rcases (by simp at hj; omega : j = 0 ∨ j = 1) with rfl | rfl
              all_goals exact ⟨_, rfl⟩)
            have SA := src_alloc Sa (src_lt Sa) (Obj.cells #[.int .i64 30000, .int .i64 30001] 2)
            have UA := Ua.trans (mem.Upd.of_below bA)
            have CA := code_of HC.out UA hB' hb
            have HVA := Lib.hid (hVa.alloc (Obj.cells #[.int .i64 30000, .int .i64 30001] 2))
            have HOA := Lib.hid (HOa.out.next bA)
            have HTA := Lib.hid (Ta.next bA)
            have hzA : (wa.alloc (Obj.cells #[.int .i64 30000, .int .i64 30001] 2)).heap.size = wa.heap.size + 1 := by simp
            have lba := src_lt Sa
            have yzA := hVa.free J
            have lga2 : J < n := hJ
            clear bd bA Sa Ua Ta HOa hVa
            go_wp2_with fail
            refine (next_any _ b B cv len ia sa 2 SA CA hB' (by omega)).mono ?_
            rintro e wc ⟨vc, ic, sc, rfl, tc, htc, Sc, oc⟩
            have hzc := oc.size
            have HVc := Lib.hid (HVA.out.keep (oc.block g8 (by omega)))
            have HOc := Lib.hid (HOA.out.upd (upd_of oc) (.inr (by omega)) (.inr (by omega)))
            have HTc := Lib.hid (HTA.out.keep (oc.block T (by omega)))
            have Uc := UA.trans (upd_of oc)
            obtain ⟨x, rfl⟩ := Int.eq_ofNat_of_zero_le tc
            have hx : x < 2 := by omega
            have hx2 : (x : Int) < 2 := by omega
            obtain ⟨y, hy⟩ := tA x hx
            have hyc : wc.cell? ⟨wa.heap.size, x, none⟩ = some (.int .i64 y) := by
              have e := oc.block wa.heap.size (by omega)
              simp only [World.cell?] at hy ⊢
              rw [e]
              exact hy
            have yf := HVc.out.row.cell J hJ
            have yz := HVc.out.free J
            have oX := (mem.Only.refl g8 wc).setCell J (.int .i64 y)
            have hVx := HVc.out.put1 J y hJ
            have HOx := Lib.hid (HOc.out.upd (mem.Upd.of_only oX) (lts.1.imp_right fun h => by show ¬ (b1 = g8); omega) (lts.2.imp_right fun h => by show ¬ (b2 = g8); omega))
            clear tA SA CA UA HVA HOA HTA hy oc htc yzA HVc HOc
            go_upto_region 20 with (fail)
            obtain ⟨wx, hwx⟩ : ∃ wx, wc.setCell ⟨g8, J, none⟩ (.int .i64 y) = wx := ⟨_, rfl⟩
            rw [hwx] at oX hVx HOx ⊢
            clear hwx
            have Tx := HTc.out.keep (oX.block T (by omega))
            have Ux := upd_own Uc oX (by omega)
            have Sx := src_upd Sc (oX.block b (by omega))
            have HF := Lib.hid (six_post (w := w) HOx.out (by omega) (by omega) hn hm (show n ≤ 2000 by omega) hnm hVx.sl (by omega) (by have := hVx.lt; omega) Sx (U0.out.trans Ux) hltw (fre_own hVx) HD8.out)
            have q0 := Tx.b0
            have q1 := Tx.b1
            have R7 := R1.keep (Ux.block w.heap.size (by omega) (by omega))
            have f0 := R7.b0
            have f1 := R7.b1
            have k0 := R7.free 0
            have k1 := R7.free 1
            clear R7 Ux Sx Tx
            go_wp2_with fail
            exact bodyPost_ret (v := .tuple #[.agg #[.slice p0 n c0, .slice p1 m c1], .slice (some ⟨g8, 0, none⟩) n c8]) (by simp [results, Tryz.results39, go_sem, f0, f1]) rfl HF.out
          · have hbz : g8 < wa.heap.size := lga
            obtain ⟨vb, wb, gb, hr, ap⟩ := mem.app_run (wa.alloc (.cells #[.int .i64 0] 2)) _ n _ g8 0 wa.heap.size (hVa.alloc _) (mem.cell_new1 wa _) (by omega)
            have bl := ap.below (B := w5.heap.size) (by omega) (by rw [mem.szal]; omega)
            have xb : Below w5.heap.size wa wb := ((mem.below_new wa _).mono (by omega)).trans bl.1
            clear bd
            go_upto_region 20 with (at_builtin; refine mem.wpList_app hr rfl _ _ rfl rfl rfl rfl ?_)
            have Xb : mem.Upd (fun x => w5.heap.size ≤ x) wa wb := ⟨xb.os, xb.tape, xb.output, xb.size, fun x _ hn => xb.block x (by omega)⟩
            have HOx := Lib.hid (HOa.out.upd Xb (lts.1.imp_right fun h => by show ¬ (w5.heap.size ≤ b1); omega) (lts.2.imp_right fun h => by show ¬ (w5.heap.size ≤ b2); omega))
            have Tx := Ta.keep (xb.block T hTl5)
            have Ux := upd_bel Ua (xb.mono (by omega))
            have Sx := src_upd Sa (xb.block b hb5)
            have hlb := bl.2
            clear hr
            have HF := Lib.hid (six_post (w := w) HOx.out (by omega) (by omega) hn hm (show n + 1 ≤ 2000 by omega) hnm ap.own.sl (by omega) (by have := ap.own.lt; omega) Sx (U0.out.trans Ux) hltw (fre_own ap.own) (by have h8 := HD8.out; have h9 := (ap.below (B := g8) (Nat.le_refl _) (by rw [mem.szal]; omega)).2; omega))
            have q0 := Tx.b0
            have q1 := Tx.b1
            have R7 := R1.keep (Ux.block w.heap.size (by omega) (by omega))
            have f0 := R7.b0
            have f1 := R7.b1
            have k0 := R7.free 0
            have k1 := R7.free 1
            clear R7 Ux Sx Tx
            go_wp2_with fail
            exact bodyPost_ret (v := .tuple #[.agg #[.slice p0 n c0, .slice p1 m c1], vb]) (by simp [results, Tryz.results39, go_sem, f0, f1]) rfl HF.out
          · obtain ⟨hv0, hv1, hv2⟩ := hva
            have hv0' : (va == 0) = false := by simpa using hv0
            have hv1' : (va == 1) = false := by simpa using hv1
            have hv2' : (va == 2) = false := by simpa using hv2
            clear hv0 hv1 hv2 bd
            go_upto_region 20 with (fail)
            have HF := Lib.hid (six_post (w := w) HOa.out (by omega) (by omega) hn hm (show n ≤ 2000 by omega) hnm hVa.sl (by omega) (by omega) Sa (U0.out.trans Ua) hltw (fre_own hVa) HD8.out)
            have q0 := Ta.b0
            have q1 := Ta.b1
            have R7 := R1.keep (Ua.block w.heap.size (by omega) (by omega))
            have f0 := R7.b0
            have f1 := R7.b1
            have k0 := R7.free 0
            have k1 := R7.free 1
            clear R7 Ua Sa Ta
            go_wp2_with fail
            exact bodyPost_ret (v := .tuple #[.agg #[.slice p0 n c0, .slice p1 m c1], .slice (some ⟨g8, 0, none⟩) n c8]) (by simp [results, Tryz.results39, go_sem, f0, f1]) rfl HF.out
theorem six_any (w : World) (b B : Nat) (cv : Value) (len : Nat) (i s : Int) (h : Src w b cv len i s) (hc : CodeAt w cv len B) (hB' : B ≤ b) :
    Calls Tryz.prog 39 #[.pointer (some ⟨b, 0, none⟩)] w (NLPost w b cv len) := by
  refine (six_anyW w b B cv len i s h hc hB').mono ?_
  rintro e w' ⟨v, n, m, N, P, b1, b2, vl, K, D, i2, s2, h1, hn, hm, hK, hnm, hO, l1, l2, hL, hS2, U2, _⟩
  exact ⟨v, n, m, N, P, b1, b2, vl, K, D, i2, s2, h1, hn, hm, hK, hnm, hO, l1, l2, hL, hS2, U2⟩
end Go.Proofs.YtdbgcbkmcbgdiaaGreat.draw

namespace Go.Proofs.YtdbgcbkmcbgdiaaGreat.draw
open Go.RowKit
set_option linter.unusedVariables false

theorem sl_sh {w : World} {v : Value} {n : Nat} {d : Nat → Int} {lo hi : Nat} (h : mem.Sl w v n d lo hi) : ∃ p cap, v = .slice p n cap := by
  obtain ⟨p, cap, e, _⟩ := h.ex
  exact ⟨p, cap, e⟩
end Go.Proofs.YtdbgcbkmcbgdiaaGreat.draw

namespace Go.Proofs.YtdbgcbkmcbgdiaaGreat.draw
open Go.RowKit
set_option linter.unusedVariables false

end Go.Proofs.YtdbgcbkmcbgdiaaGreat.draw

namespace Go.Proofs.YtdbgcbkmcbgdiaaGreat.draw
open Go.RowKit
set_option linter.unusedVariables false

theorem sl_upd {w w' : World} {v : Value} {n : Nat} {d : Nat → Int} {lo hi b : Nat} (h : mem.Sl w v n d lo hi) (u : mem.Upd (· = b) w w') (h1 : b < lo) (h2 : hi ≤ w.heap.size) : mem.Sl w' v n d lo hi := by
  obtain ⟨p, cap, rfl, h | ⟨c, o, rfl, g1, g2, g3⟩⟩ := h
  · exact ⟨p, cap, rfl, .inl h⟩
  · exact ⟨_, cap, rfl, .inr ⟨c, o, rfl, g1, g2, fun k hk => (World.cell?_of_block (u.block c (by omega) (by omega))).trans (g3 k hk)⟩⟩
theorem sl_drew {w : World} {v : Value} {n : Nat} {d : Nat → Int} {lo hi : Nat} (h : mem.Sl w v n d lo hi) : mem.Sl w.drew v n d lo hi := ⟨h.ex⟩
end Go.Proofs.YtdbgcbkmcbgdiaaGreat.draw

namespace Go.Proofs.YtdbgcbkmcbgdiaaGreat.draw
open Go.RowKit
set_option linter.unusedVariables false

/-- a level has been drawn -/
def LevPost (w : World) (b : Nat) (cv : Value) (len : Nat) (e : Ending) (w' : World) : Prop :=
  ∃ y i s : Int, e = .returned (.int .i64 y) ∧ Src w' b cv len i s ∧ mem.Upd (· = b) w w'
set_option maxRecDepth 100000 in
set_option maxHeartbeats 4000000 in
theorem level_any (w : World) (b B : Nat) (cv : Value) (len : Nat) (i s : Int) (h : Src w b cv len i s) (hc : CodeAt w cv len B) (hB' : B ≤ b) :
    Calls Tryz.prog 58 #[.pointer (some ⟨b, 0, none⟩)] w (LevPost w b cv len) := by
  have hlt := src_lt h
  have HC := Lib.hid hc
  clear hc
  go_enter Tryz.func58, Tryz.ntmps58
  go_wp2_with fail
  refine (next_any w b B cv len i s 20 h HC.out hB' (by omega)).mono ?_
  rintro e w5 ⟨v5, i5, s5, rfl, t5, ht5, S5, o5⟩
  have C5 := Lib.hid (codeAt_below HC.out (only_below o5 hB'))
  have U5 := upd_of o5
  have hz5 := o5.size
  clear o5
  by_cases hv5 : v5 = 0
  · subst hv5
    have bA := mem.below_new w5 (.cells #[.int .i64 500000000000000000, .int .i64 500000000000000001, .int .i64 (-500000000000000000)] 2)
    have tA := tabI w5 2 #[.int .i64 500000000000000000, .int .i64 500000000000000001, .int .i64 (-500000000000000000)] (by
      intro j hj
      rcases (by simp at hj; omega : j = 0 ∨ j = 1 ∨ j = 2) with rfl | rfl | rfl
      all_goals exact ⟨_, rfl⟩)
    have SA := src_alloc S5 (src_lt S5) (.cells #[.int .i64 500000000000000000, .int .i64 500000000000000001, .int .i64 (-500000000000000000)] 2)
    have CA := Lib.hid (codeAt_below C5.out ((Below.refl B w5).alloc (by omega) (.cells #[.int .i64 500000000000000000, .int .i64 500000000000000001, .int .i64 (-500000000000000000)] 2)))
    have UA := U5.trans (mem.Upd.of_below bA)
    have hzA : (w5.alloc (.cells #[.int .i64 500000000000000000, .int .i64 500000000000000001, .int .i64 (-500000000000000000)] 2)).heap.size = w5.heap.size + 1 := by simp
    have lb5 := src_lt S5
    clear bA S5 C5 U5
    go_wp2_with fail
    refine (next_any _ b B cv len i5 s5 3 SA CA.out hB' (by omega)).mono ?_
    rintro e w6 ⟨v6, i6, s6, rfl, t6, ht6, S6, o6⟩
    obtain ⟨j, rfl⟩ := Int.eq_ofNat_of_zero_le t6
    have hj : j < 3 := by omega
    have hj2 : (j : Int) < 3 := by omega
    obtain ⟨y, hy⟩ := tA j hj
    have hyc : w6.cell? ⟨w5.heap.size, j, none⟩ = some (.int .i64 y) := (World.cell?_of_block (o6.block w5.heap.size (by omega))).trans hy
    have HU := Lib.hid (UA.trans (upd_of o6))
    have HS := Lib.hid S6
    clear tA SA CA UA hy o6 S6
    go_wp2_with fail
    go_ret
    exact ⟨y, i6, s6, rfl, HS.out, HU.out⟩
  · have hv5' : (v5 == 0) = false := by simpa using hv5
    clear hv5
    go_wp2_with fail
    refine (next_any w5 b B cv len i5 s5 60000 S5 C5.out hB' (by omega)).mono ?_
    rintro e w6 ⟨v6, i6, s6, rfl, t6, ht6, S6, o6⟩
    have HU := Lib.hid (U5.trans (upd_of o6))
    have HS := Lib.hid S6
    clear o6 S6 U5 S5
    go_wp2_with fail
    go_ret
    exact ⟨v6, i6, s6, rfl, HS.out, HU.out⟩
end Go.Proofs.YtdbgcbkmcbgdiaaGreat.draw

namespace Go.Proofs.YtdbgcbkmcbgdiaaGreat.mem
open Go.RowKit
set_option linter.unusedVariables false

theorem ffl_bd {n : Nat} {N : Nat → Nod} {P : Nat → Pip} {m : Nat} (hN : netB n N m P = true) {s : Nat → Int} (hs : ∀ i, i < n → -30000 ≤ s i ∧ s i ≤ 30000) (a : Nat) : ∀ k, k ≤ n → -30000 * (k : Int) ≤ ffl P (fE n P m) (fD n P m) s k a ∧ ffl P (fE n P m) (fD n P m) s k a ≤ 30000 * (k : Int)
  | 0, _ => by show _ ≤ (0 : Int) ∧ (0 : Int) ≤ _; omega
  | k + 1, hk => by
    have ih := ffl_bd hN hs a k (by omega)
    have h1 := (fo_net hN).asc_rng (z := ((k : Nat) : Int)) ⟨by omega, by omega⟩ a
    have h2 := hs k (by omega)
    unfold ffl
    rcases (by omega : asc P (fE n P m) (fD n P m) ((k : Nat) : Int) a = -1 ∨ asc P (fE n P m) (fD n P m) ((k : Nat) : Int) a = 0 ∨ asc P (fE n P m) (fD n P m) ((k : Nat) : Int) a = 1) with e | e | e
    all_goals
      rw [e]
      omega
end Go.Proofs.YtdbgcbkmcbgdiaaGreat.mem

namespace Go.Proofs.YtdbgcbkmcbgdiaaGreat.mem
open Go.RowKit
set_option linter.unusedVariables false

end Go.Proofs.YtdbgcbkmcbgdiaaGreat.mem

namespace Go.Proofs.YtdbgcbkmcbgdiaaGreat.mem
open Go.RowKit
set_option linter.unusedVariables false

end Go.Proofs.YtdbgcbkmcbgdiaaGreat.mem

namespace Go.Proofs.YtdbgcbkmcbgdiaaGreat.draw
open Go.RowKit
set_option linter.unusedVariables false

def NLYOnly (w : World) (e : Ending) (w' : World) : Prop :=
  ∃ (v : Value) (n m : Nat) (N : Nat → mem.Nod) (P : Nat → mem.Pip) (b1 b2 : Nat) (vk : Value) (K : Nat) (D : Nat → Int) (y : Int), e = .returned (.tuple #[v, vk, .int .i64 y]) ∧ n ≤ 1000 ∧ m ≤ 1000 ∧ K ≤ 2000 ∧ (∀ i, i < n → (N i).s.size ≤ 9223372036854775807) ∧ mem.NetOwn w' v n N m P b1 b2 ∧ w.heap.size ≤ b1 ∧ w.heap.size ≤ b2 ∧ mem.Sl w' vk K D w.heap.size w'.heap.size ∧ Below w.heap.size w w'
set_option maxRecDepth 100000 in
set_option maxHeartbeats 8000000 in
theorem drawMakeProof (w : World) (cv : Value) (len : Nat) (hc : CodeAt w cv len w.heap.size) : Calls Tryz.prog 15 #[cv] w (NLYOnly w) := by
  have HC := Lib.hid hc
  have R1 := mem.boxed w (.slice none 0 0) (.slice none 0 0) 27
  have C1 := mem.below_new w (.cells #[.slice none 0 0, .slice none 0 0] 27)
  have hsz : (w.alloc (.cells #[.slice none 0 0, .slice none 0 0] 27)).heap.size = w.heap.size + 1 := by simp
  go_enter Tryz.func15, Tryz.ntmps15
  go_wp2_with fail
  generalize hW : w.alloc (.cells #[.slice none 0 0, .slice none 0 0] 27) = Wa at *
  clear hW hc
  replace hsz := Nat.le_antisymm_iff.1 hsz
  refine (from_any Wa cv len (by have := codeAt_below HC.out C1; rcases this with h | ⟨cb, co, cap, h1, h2, h3⟩; exact .inl h; exact .inr ⟨cb, co, cap, h1, by omega, h3⟩)).mono ?_
  rintro e w1 ⟨s1, rfl, hS1, B1, z1⟩
  obtain ⟨b, hbe⟩ : ∃ b, b = Wa.heap.size := ⟨_, rfl⟩
  rw [← hbe] at hS1 z1 ⊢
  replace hbe := Nat.le_antisymm_iff.1 hbe
  replace z1 := Nat.le_antisymm_iff.1 z1
  have C2 := mem.belowNext C1 B1
  have R2 := R1.next B1
  clear B1 C1 R1
  go_wp2_with fail
  refine (six_any w1 b w.heap.size cv len 0 s1 hS1 (codeAt_below HC.out C2) (by omega)).mono ?_
  rintro e w2 ⟨v, n, m, N, P, b1, b2, vl, K, D, i2, s2, rfl, hn, hm, hK, hnm, hO, l1, l2, hL, hS2, U2⟩
  obtain ⟨p0, c0, p1, c1, rfl⟩ := hO.shape
  obtain ⟨pk, ck, rfl⟩ := sl_sh hL
  have xN := mem.below_new w2 (.cells #[.slice p0 n c0, .slice p1 m c1] 27)
  have C3 := Lib.hid ((C2.trans (U2.below (by omega) (by rintro x _ rfl; omega))).trans (xN.mono (by have := U2.size; omega)))
  have R3 := (R2.keep (U2.block w.heap.size (by omega) (by omega))).next xN
  have T3 := mem.boxed w2 (.slice p0 n c0) (.slice p1 m c1) 27
  have O3 := Lib.hid (hO.next xN)
  have L3 := Lib.hid (hL.below xN (Nat.le_refl _))
  have S3 := src_alloc hS2 (src_lt hS2) (.cells #[.slice p0 n c0, .slice p1 m c1] 27)
  have hz3 := Nat.le_antisymm_iff.1 (show (w2.alloc (.cells #[.slice p0 n c0, .slice p1 m c1] 27)).heap.size = w2.heap.size + 1 by simp)
  have hb2 := src_lt hS2
  have hbT : b ≠ w2.heap.size := by omega
  have hbR : b ≠ w.heap.size := by omega
  have hTR : w2.heap.size ≠ w.heap.size := by omega
  have hl1 : b < b1 := by omega
  have hl2 : b < b2 := by omega
  have hU := U2.size
  clear C2 R2 hO hS2 hS1 U2 xN hL
  go_wp2_with fail
  generalize hW : w2.alloc (.cells #[.slice p0 n c0, .slice p1 m c1] 27) = W3 at *
  clear hW
  have t0 := T3.b0
  have t1 := T3.b1
  have f0 := R3.b0
  have f1 := R3.b1
  have k0 := R3.free 0
  have k1 := R3.free 1
  have HCd := Lib.hid (code_of (b := b) (B := w.heap.size) (codeAt_below HC.out C3.out) ⟨rfl, rfl, rfl, Nat.le_refl _, fun _ _ _ => rfl⟩ (by omega) (src_lt S3) : CodeAt W3.drew cv len w.heap.size)
  have hTT := T3.lt
  have hRR := R3.lt
  go_region_held3 (fun w' => w'.cell? ⟨w2.heap.size, 0, none⟩ = some (.slice p0 n c0) ∧ w'.cell? ⟨w2.heap.size, 1, none⟩ = some (.slice p1 m c1)) (first | exact ⟨t0, t1⟩ | exact ⟨TX.b0, TX.b1⟩ | exact ⟨((((mem.Only.refl w.heap.size _).setCell _ _).setCell _ _).cell (a := ⟨w2.heap.size, 0, none⟩) hTR).trans TX.b0, ((((mem.Only.refl w.heap.size _).setCell _ _).setCell _ _).cell (a := ⟨w2.heap.size, 1, none⟩) hTR).trans TX.b1⟩ | go_keep)
    (first | (go_at_call 58; refine (level_any _ b w.heap.size cv len i2 s2 (src_upd S3 rfl : Src W3.drew b cv len i2 s2) HCd.out (by omega)).mono ?_; rintro e wx ⟨y, ix, sx, rfl, hSx, Ux⟩; have TX := (T3.keep (Ux.block w2.heap.size hTT (by omega)) : mem.Ob wx w2.heap.size 2 _); have RX := (R3.keep (Ux.block w.heap.size hRR (by omega)) : mem.Ob wx w.heap.size 2 _); have fx0 := RX.b0; have fx1 := RX.b1; have kx0 := RX.free 0; have kx1 := RX.free 1))
  all_goals
    have hzd : W3.drew.heap.size = W3.heap.size := rfl
    have zx := Ux.size
    have hO := ((mem.Only.refl w.heap.size wx).setCell 0 (.slice p0 n c0)).setCell 1 (.slice p1 m c1)
    have HO := Lib.hid ((O3.out.drew.upd Ux (.inr (by omega)) (.inr (by omega))).upd (mem.Upd.of_only hO) (.inr (by omega)) (.inr (by omega)))
    have HB := Lib.hid (mem.below_only ((mem.below_dw C3.out).trans ((Ux).below (by omega) (by rintro x _ rfl; omega))) hO (by omega))
    have HLX := Lib.hid (((sl_upd (sl_drew L3.out) Ux (by show b < w1.heap.size; omega) (by show w2.heap.size ≤ W3.heap.size; omega)).only hO (.inl (by show w.heap.size < w1.heap.size; omega))).mono (show w.heap.size ≤ w1.heap.size by omega) (Nat.le_trans (by omega) (Nat.le_of_eq hO.size)))
    clear hO TX RX O3
    go_wp2_with fail
    refine bodyPost_ret (v := .tuple #[.agg #[.slice p0 n c0, .slice p1 m c1], .slice pk K ck, .int .i64 y]) (by simp [results, Tryz.results15, go_sem, fx0, fx1]) rfl ?_
    exact ⟨_, n, m, N, P, b1, b2, _, K, D, y, rfl, hn, hm, hK, hnm, HO.out, by omega, by omega, HLX.out, HB.out⟩
end Go.Proofs.YtdbgcbkmcbgdiaaGreat.draw

namespace Go.Proofs.YtdbgcbkmcbgdiaaGreat.fnProofs
open Go.ChangeShapes Go.WideShapes Go.ChangeAt Go.RowKit Go.Proofs.YtdbgcbkmcbgdiaaGreat.draw Go.Proofs.YtdbgcbkmcbgdiaaGreat.mem
set_option linter.unusedVariables false

theorem own : ownKnob Tryz.prog.godebug = none := by kernel_rfl
theorem laidOut : laidOutB Tryz.prog = true := by kernel_rfl

theorem own_at {w : World} {p : Option Addr} {n c b : Nat} {d : Nat → Int} (h : OwnS w (.slice p n c) n 1 (fun i _ => .int .i64 (d i)) b) {k : Nat} (hk : k < n) : p = some ⟨b, 0, none⟩ ∧ b < w.heap.size ∧ w.cell? ⟨b, k, none⟩ = some (.int .i64 (d k)) := by
  obtain ⟨p', cap, hv, h1, h2, h3⟩ := h.ex
  injection hv with e1 _ e3
  subst e1
  rcases h3 with h3 | ⟨h3, h4⟩
  · omega
  · refine ⟨h3, h4.lt, ?_⟩
    have := h4.cell k 0 hk (by omega)
    simpa using this
theorem sizeN_any (x : Int) (w : World) (h1 : -4000000000000000000 ≤ x) (h2 : x ≤ 4000000000000000000) : Calls Tryz.prog 21 #[.int .i64 x] w fun e w' => e = .returned (.int .i64 (x.natAbs : Int)) ∧ w = w' := by
  have h3 : -4611686018427387904 ≤ -x ∧ -x ≤ 4611686018427387904 := by omega
  have h4 : max x (-x) = (x.natAbs : Int) := by omega
  have H4 := Lib.hid h4
  clear h4
  go_enter Tryz.func21, Tryz.ntmps21
  go_wp2_with fail
  go_ret
  exact ⟨by rw [← H4.out]; rfl, rfl⟩
/-- is one of the first flows as great as can be? -/
def faB (d : Nat → Int) : Nat → Bool
  | 0 => false
  | k + 1 => faB d k || decide (30000 ≤ (d k).natAbs)
theorem faB_no {d : Nat → Int} : ∀ {n : Nat}, faB d n = false → ∀ k, k < n → (d k).natAbs < 30000
  | 0, _, k, hk => by omega
  | n + 1, h, k, hk => by
    unfold faB at h
    rw [Bool.or_eq_false_iff, decide_eq_false_iff_not] at h
    by_cases e : k = n
    · subst e; omega
    · exact faB_no h.1 k (by omega)
theorem loB_near {m : Nat} {P : Nat → Pip} {x y : Nat → Int} {t : Int} (ht : t = 1 ∨ t = -1) (hx : ∀ k, k < m → (x k).natAbs < 30000) (hy : ∀ k, k < m → -1 ≤ y k ∧ y k ≤ 1) (h : loB m P x y t = false) : egS P x m ≤ egS P (fun k => x k + t * y k) m := by
  have hf : flB (fun k => x k + t * y k) m = true := flB_iff.2 fun k hk => flQ_iff.2 (by
    have h1 := hx k hk
    have h2 := hy k hk
    have h3 : -1 ≤ t * y k ∧ t * y k ≤ 1 := by rcases ht with rfl | rfl <;> omega
    omega)
  unfold loB at h
  rw [hf, Bool.true_and, decide_eq_false_iff_not] at h
  omega
theorem pr_two {w : World} {p0 p1 : Option Addr} {c0 c1 K L b1 b2 : Nat} {d l : Nat → Int} (h : PrOwn w (.agg #[.slice p0 K c0, .slice p1 L c1]) K d L l b1 b2) : OwnS w (.slice p0 K c0) K 1 (fun i _ => .int .i64 (d i)) b1 ∧ OwnS w (.slice p1 L c1) L 1 (fun i _ => .int .i64 (l i)) b2 := by
  obtain ⟨v0, v1, e, g0, g1, _⟩ := h.ex
  simp only [Value.agg.injEq, Array.mk.injEq, List.cons.injEq, and_true] at e
  obtain ⟨rfl, rfl⟩ := e
  exact ⟨g0, g1⟩
theorem prFacts (n : Nat) (N : Nat → Nod) (m : Nat) (P : Nat → Pip) (K : Nat) (d : Nat → Int) (lv : Int) (hN : ∀ i, i < n → (N i).s.size ≤ 9223372036854775807) (hn : n ≤ 1000) (hm : m ≤ 1000) (hK : K ≤ 2000000) :
    ∃ (rn : Nat) (rd : Nat → Int) (rm : Nat) (rl : Nat → Int) (rc : Int), rn ≤ 1000 ∧ rm ≤ 1000 ∧ (∀ w v va, NetAt w v n N m P 0 w.heap.size → Sl w va K d 0 w.heap.size → Calls Tryz.prog 16 #[v, va, .int .i64 lv] w (PIPost w rn rd rm rl rc)) ∧ (∀ w v va, NetAt w v n N m P 0 w.heap.size → Sl w va K d 0 w.heap.size → Calls Tryz.prog 17 #[v, va, .int .i64 lv] w (PIPost w rn rd rm rl rc)) ∧
      (rc = 0 → ∃ (M kk : Int), (∀ k, k < rn → -30000 ≤ rd k ∧ rd k ≤ 30000) ∧ (∀ w v va, NetAt w v n N m P 0 w.heap.size → Sl w va K d 0 w.heap.size → Calls Tryz.prog 18 #[v, va] w (IIPost w M 0)) ∧ (∀ w v va vp, NetAt w v n N m P 0 w.heap.size → Sl w va K d 0 w.heap.size → PrAt w vp rn rd rm rl 0 w.heap.size → Calls Tryz.prog 19 #[v, va, vp] w (IIPost w kk 0)) ∧ (∀ w v va vp, NetAt w v n N m P 0 w.heap.size → Sl w va K d 0 w.heap.size → PrAt w vp rn rd rm rl 0 w.heap.size → Calls Tryz.prog 20 #[v, va, vp] w (IIPost w kk 0)) ∧ (M ≠ 5000 → faB rd rn = false → kk = 0)) := by
  refine ⟨mkN n N m P K d lv, mkF n m P d, mkL n N m P K d lv, mkV n m P d lv, mkC n N m P K d lv, by unfold mkN; split <;> omega, by unfold mkL; split <;> omega, fun w v va h hv => makeProofI_any w v n N m P 0 _ h (Nat.le_refl _) hN va K d 0 _ hv (Nat.le_refl _) (by omega) lv, fun w v va h hv => makeProofS_any w v n N m P 0 _ h (Nat.le_refl _) hN va K d 0 _ hv (Nat.le_refl _) (by omega) lv, fun hc => ?_⟩
  obtain ⟨e1, e2⟩ := mk_yes hc
  rw [e1, e2]
  obtain ⟨hco, hrl, hff0⟩ : coC n N m P K d = 0 ∧ rlB lv = true ∧ ffC n N m P K d = 0 := by
    unfold mkC at hc
    split at hc
    · next h0 =>
      split at hc
      · next h1 => exact ⟨h0, h1, hc⟩
      · omega
    · next h0 => exact absurd hc h0
  obtain ⟨hB, rfl, hf, he, hff⟩ := ffC_ok hff0
  obtain ⟨hn1, hn24, hm40⟩ := net_sz hB
  obtain ⟨hl0, hl1⟩ := inR_iff.1 hrl
  have h2 : slM K N m P K d = (rfR K m P (fflN K P m d) 32768).2 := by unfold slM; rw [if_pos hff0]
  have hfr : ∀ k, k < m → -30000 ≤ fflN K P m d k ∧ fflN K P m d k ≤ 30000 := fun k hk => flQ_iff.1 (flB_iff.1 hff k hk)
  have hrng : ∀ k, k < m → -30000 ≤ mkF K m P d k ∧ mkF K m P d k ≤ 30000 := mkF_rng hff0
  have hdv := rlS_ind (m := m) (P := P) (Y := (fun i => cyc P (fE K P m) (fD K P m) (chS K P m i))) (C := chN K P m) (fun z => ∀ u : Int, dv P z m u = dv P (fflN K P m d) m u) (fun z j t hj hz u => by
    obtain ⟨hjm, hjp⟩ := chS_at (n := K) (P := P) (m := m) hj
    have e : (fun k => z k + t * cyc P (fE K P m) (fD K P m) (chS K P m j) k) = fun k => z k + (fun b => t * cyc P (fE K P m) (fD K P m) (chS K P m j) b) k := rfl
    show dv P (fun k => z k + t * cyc P (fE K P m) (fD K P m) (chS K P m j) k) m u = _
    rw [e, dv_add, dv_mul, (fo_net hB).cyc_dv (fo_r0 hB) (fo_r2 hB) hjm (fo_r1 hB _ hjm) u, Int.mul_zero, Int.add_zero, hz u]) (5000 + (32768 : Int).toNat) (x := fflN K P m d) (tot := 0) (st := 32768) (fun u => rfl)
  have hR : rlS m P (fun i => cyc P (fE K P m) (fD K P m) (chS K P m i)) (chN K P m) (5000 + (32768 : Int).toNat) (fflN K P m d) 0 32768 = (rfR K m P (fflN K P m d) 32768) := rfl
  have hdone := rlS_done (m := m) (P := P) (Y := (fun i => cyc P (fE K P m) (fD K P m) (chS K P m i))) (C := chN K P m) (5000 + (32768 : Int).toNat) (x := fflN K P m d) (tot := 0) (st := 32768) (by omega) (by omega) (by omega) (by omega)
  have hcnt := rlS_cnt (m := m) (P := P) (Y := (fun i => cyc P (fE K P m) (fD K P m) (chS K P m i))) (C := chN K P m) (5000 + (32768 : Int).toNat) (x := fflN K P m d) (tot := 0) (st := 32768) (by omega) (by omega)
  rw [hR] at hdv hdone hcnt
  have hl : flB (mkF K m P d) m = true := flB_iff.2 fun k hk => flQ_iff.2 (hrng k hk)
  refine ⟨slM K N m P K d, ckA K N m P K d m (mkF K m P d) K (mkV K m P d lv), hrng, fun w v va h hv => ?_, fun w v va vp h hv hp => ?_, fun w v va vp h hv hp => ?_, fun hM hfa => ?_⟩
  · have := movesNeededI_any w v K N m P 0 _ h (Nat.le_refl _) hN va K d 0 _ hv (Nat.le_refl _) (by omega)
    rwa [hff0] at this
  · have := ckProofI_any w v K N m P 0 _ h (Nat.le_refl _) hN va K d 0 _ hv (Nat.le_refl _) (by omega) vp m (mkF K m P d) K (mkV K m P d lv) 0 _ hp (Nat.le_refl _) (by omega) (by omega)
    rwa [hco] at this
  · have := ckProofS_any w v K N m P 0 _ h (Nat.le_refl _) hN va K d 0 _ hv (Nat.le_refl _) (by omega) vp m (mkF K m P d) K (mkV K m P d lv) 0 _ hp (Nat.le_refl _) (by omega) (by omega)
    rwa [hco] at this
  rw [h2] at hM
  have hib : ibB K N m P m (mkF K m P d) K d = true := ib_is hB hl hf (fun z hz => (hdv _).trans (fflN_bal hB he z hz))
  have hc2 : c2B K m P (mkF K m P d) K (mkV K m P d lv) = true := by
    unfold c2B
    rw [Bool.and_eq_true]
    constructor
    · refine alB_iff.2 ⟨rfl, fun k hk => ?_⟩
      have := lvl_bnd (x := mkF K m P d) (root := ((0 : Nat) : Int)) (level := lv) (z := ((k : Nat) : Int)) hB hn24 hrng ⟨by omega, by omega⟩ ⟨by omega, by omega⟩
      unfold mkV
      omega
    · refine smB_iff.2 fun k _ => ?_
      show mkV K m P d lv k = lvl K P m (mkF K m P d) ((0 : Nat) : Int) (mkV K m P d lv 0) (k : Nat)
      have e0 : mkV K m P d lv 0 = lv := lvl_root K P m (mkF K m P d) ((0 : Nat) : Int) lv
      rw [e0]
      rfl
  have hkb : kbB K m P (mkF K m P d) (chN K P m) = true := kbB_all fun j hj => by
    obtain ⟨hjm, hjp⟩ := chS_at (n := K) (P := P) (m := m) hj
    obtain ⟨l1, l2⟩ := hdone (by omega) j hj
    have hnear := faB_no hfa
    exact res_bound (fun a ha => by have := pip_k (net_pip hB ha); omega) (fun a _ => cyc_one hB hjm hjp a) (loB_near (.inl rfl) hnear (fun a _ => cyc_one hB hjm hjp a) l1) (loB_near (.inr rfl) hnear (fun a _ => cyc_one hB hjm hjp a) l2)
  exact ck_yes hco hib hc2 hkb
set_option maxRecDepth 100000 in
set_option maxHeartbeats 20000000 in
theorem walk (v : Value) (w : World) (hc : CodeArg w v) :
    Calls Tryz.prog 4 #[v] w fun e w' => e = .returned (.bool true) ∧ Below w.heap.size w w' := by
  obtain ⟨p, len, cap, rfl, hlen, hcode⟩ := hc
  by_cases h4 : (4096 : Int) < len
  · clear hcode
    go_enter Tryz.func4, Tryz.ntmps4
    go_wp2_with (go_at_call 9; refine (draw.big_any _ _ _ _).mono ?_; rintro e w' ⟨rfl, rfl⟩)
    go_ret
    exact ⟨rfl, Below.refl _ _⟩
  have hc := hcode (by omega)
  clear hcode
  go_enter Tryz.func4, Tryz.ntmps4
  go_wp2_with (go_at_call 9; refine (draw.big_any _ _ _ _).mono ?_; rintro e w' ⟨rfl, rfl⟩)
  refine (draw.drawMakeProof w _ len hc).mono ?_
  rintro e w1 ⟨v, n, m, N, P, b1, b2, vl, K, D, y, rfl, hn, hm, hK, hnm, o1, l1, l2, hK1, C1⟩
  obtain ⟨rn, rd, rm, rl, rc, hrn, hrm, ti, ts, hz⟩ := prFacts n N m P K D y hnm hn hm (by omega)
  have TI := Lib.hid ti
  have TS := Lib.hid ts
  have HZ := Lib.hid hz
  clear ti ts hz
  clear hc
  obtain ⟨pk, ck, rfl⟩ := draw.sl_sh hK1
  have hb2 : (rc != rc) = false := by simp
  have lxx := o1.lts
  obtain ⟨sx1, sx2, sx3, sx4, rfl⟩ := o1.shape
  go_wp2_with fail
  have bb := mem.below_new w1 (.cells #[.slice sx1 n sx2, .slice sx3 m sx4] 27)
  have B_x := boxed w1 (.slice sx1 n sx2) (.slice sx3 m sx4) 27
  have hs2 := bb.size
  have C2 := belowNext C1 bb
  have LK2 := hK1.next bb
  have x2 := o1.next bb
  clear bb C1 hK1 o1
  generalize hW2 : w1.alloc (Obj.cells #[.slice sx1 n sx2, .slice sx3 m sx4] 27) = w2 at *
  clear hW2
  have Bx2 := B_x
  clear B_x
  have lBx := Bx2.lt
  refine (TI.out _ _ _ x2.net LK2.zero).mono ?_
  rintro e w3 ⟨xA, gA1, gA2, rfl, oA, lA1, lA2, bb⟩
  have hs3 := bb.size
  have C3 := belowNext C2 bb
  have LK3 := LK2.next bb
  have x3 := x2.next bb
  have Bx3 := Bx2.next bb
  clear bb C2 LK2 x2 Bx2
  have lxA := oA.lts
  obtain ⟨sA1, sA2, sA3, sA4, rfl⟩ := oA.shape
  have qBx0 := Bx3.b0
  have qBx1 := Bx3.b1
  have qBx2 := Bx3.lt
  go_wp2_with fail
  have bb := mem.below_new w3 (.cells #[.slice sA1 rn sA2, .slice sA3 rm sA4] 38)
  have B_A := boxed w3 (.slice sA1 rn sA2) (.slice sA3 rm sA4) 38
  have hs4 := bb.size
  have C4 := belowNext C3 bb
  have LK4 := LK3.next bb
  have x4 := x3.next bb
  have Bx4 := Bx3.next bb
  have A4 := oA.next bb
  clear qBx0 qBx1 qBx2
  clear bb C3 LK3 x3 Bx3 oA
  generalize hW4 : w3.alloc (Obj.cells #[.slice sA1 rn sA2, .slice sA3 rm sA4] 38) = w4 at *
  clear hW4
  have BA4 := B_A
  clear B_A
  have lBA := BA4.lt
  refine (TS.out _ _ _ x4.net LK4.zero).mono ?_
  rintro e w5 ⟨xB, gB1, gB2, rfl, oB, lB1, lB2, bb⟩
  have hs5 := bb.size
  have C5 := belowNext C4 bb
  have LK5 := LK4.next bb
  have x5 := x4.next bb
  have Bx5 := Bx4.next bb
  have A5 := A4.next bb
  have BA5 := BA4.next bb
  clear bb C4 LK4 x4 Bx4 A4 BA4
  have lxB := oB.lts
  obtain ⟨sB1, sB2, sB3, sB4, rfl⟩ := oB.shape
  have qBx0 := Bx5.b0
  have qBx1 := Bx5.b1
  have qBx2 := Bx5.lt
  have qBA0 := BA5.b0
  have qBA1 := BA5.b1
  have qBA2 := BA5.lt
  go_wp2_with fail
  have bb := mem.below_new w5 (.cells #[.slice sB1 rn sB2, .slice sB3 rm sB4] 38)
  have B_B := boxed w5 (.slice sB1 rn sB2) (.slice sB3 rm sB4) 38
  have hs6 := bb.size
  have C6 := belowNext C5 bb
  have LK6 := LK5.next bb
  have x6 := x5.next bb
  have Bx6 := Bx5.next bb
  have A6 := A5.next bb
  have BA6 := BA5.next bb
  have B6 := oB.next bb
  clear qBx0 qBx1 qBx2 qBA0 qBA1 qBA2
  clear bb C5 LK5 x5 Bx5 A5 BA5 oB
  generalize hW6 : w5.alloc (Obj.cells #[.slice sB1 rn sB2, .slice sB3 rm sB4] 38) = w6 at *
  clear hW6
  have BB6 := B_B
  clear B_B
  have lBB := BB6.lt
  refine (likeInts_any _ _ _ rn rd 0 w6.heap.size 0 w6.heap.size ((pr_two A6).1.cs (.inr rfl) (Nat.le_refl _)) ((pr_two B6).1.cs (.inr rfl) (Nat.le_refl _))).mono ?_
  rintro e w7 ⟨rfl, bb⟩
  have hs7 := bb.size
  have C7 := belowNext C6 bb
  have LK7 := LK6.next bb
  have x7 := x6.next bb
  have Bx7 := Bx6.next bb
  have A7 := A6.next bb
  have BA7 := BA6.next bb
  have B7 := B6.next bb
  have BB7 := BB6.next bb
  clear bb C6 LK6 x6 Bx6 A6 BA6 B6 BB6
  have qBx0 := Bx7.b0
  have qBx1 := Bx7.b1
  have qBx2 := Bx7.lt
  have qBA0 := BA7.b0
  have qBA1 := BA7.b1
  have qBA2 := BA7.lt
  have qBB0 := BB7.b0
  have qBB1 := BB7.b1
  have qBB2 := BB7.lt
  go_wp2_with fail
  refine (likeInts_any _ _ _ rm rl 0 w7.heap.size 0 w7.heap.size ((pr_two A7).2.cs (.inr rfl) (Nat.le_refl _)) ((pr_two B7).2.cs (.inr rfl) (Nat.le_refl _))).mono ?_
  rintro e w8 ⟨rfl, bb⟩
  have hs8 := bb.size
  have C8 := belowNext C7 bb
  have LK8 := LK7.next bb
  have x8 := x7.next bb
  have Bx8 := Bx7.next bb
  have A8 := A7.next bb
  have BA8 := BA7.next bb
  have B8 := B7.next bb
  have BB8 := BB7.next bb
  clear qBx0 qBx1 qBx2 qBA0 qBA1 qBA2 qBB0 qBB1 qBB2
  clear bb C7 LK7 x7 Bx7 A7 BA7 B7 BB7
  by_cases hrc : rc = 0
  · subst hrc
    obtain ⟨M, kk, hrg, q1, q2, q3, q4⟩ := HZ.out (by trivial)
    have Q1 := Lib.hid q1
    have Q2 := Lib.hid q2
    have Q3 := Lib.hid q3
    have Q4 := Lib.hid q4
    have HRG := Lib.hid hrg
    clear q1 q2 q3 q4 hrg
    clear HZ
    have hkk : (kk == kk) = true := by simp
    have qBx0 := Bx8.b0
    have qBx1 := Bx8.b1
    have qBx2 := Bx8.lt
    have qBA0 := BA8.b0
    have qBA1 := BA8.b1
    have qBA2 := BA8.lt
    have qBB0 := BB8.b0
    have qBB1 := BB8.b1
    have qBB2 := BB8.lt
    go_wp2_with fail
    refine (Q1.out _ _ _ x8.net LK8.zero).mono ?_
    rintro e w9 ⟨rfl, bb⟩
    have hs9 := bb.size
    have C9 := belowNext C8 bb
    have LK9 := LK8.next bb
    have x9 := x8.next bb
    have Bx9 := Bx8.next bb
    have A9 := A8.next bb
    have BA9 := BA8.next bb
    have B9 := B8.next bb
    have BB9 := BB8.next bb
    clear qBx0 qBx1 qBx2 qBA0 qBA1 qBA2 qBB0 qBB1 qBB2
    clear bb C8 LK8 x8 Bx8 A8 BA8 B8 BB8
    have qBx0 := Bx9.b0
    have qBx1 := Bx9.b1
    have qBx2 := Bx9.lt
    have qBA0 := BA9.b0
    have qBA1 := BA9.b1
    have qBA2 := BA9.lt
    have qBB0 := BB9.b0
    have qBB1 := BB9.b1
    have qBB2 := BB9.lt
    go_wp2_with fail
    refine (Q2.out _ _ _ _ x9.net LK9.zero A9.pr).mono ?_
    rintro e w10 ⟨rfl, bb⟩
    have hs10 := bb.size
    have C10 := belowNext C9 bb
    have LK10 := LK9.next bb
    have x10 := x9.next bb
    have Bx10 := Bx9.next bb
    have A10 := A9.next bb
    have BA10 := BA9.next bb
    have B10 := B9.next bb
    have BB10 := BB9.next bb
    clear qBx0 qBx1 qBx2 qBA0 qBA1 qBA2 qBB0 qBB1 qBB2
    clear bb C9 LK9 x9 Bx9 A9 BA9 B9 BB9
    have qBx0 := Bx10.b0
    have qBx1 := Bx10.b1
    have qBx2 := Bx10.lt
    have qBA0 := BA10.b0
    have qBA1 := BA10.b1
    have qBA2 := BA10.lt
    have qBB0 := BB10.b0
    have qBB1 := BB10.b1
    have qBB2 := BB10.lt
    go_wp2_with fail
    refine (Q3.out _ _ _ _ x10.net LK10.zero B10.pr).mono ?_
    rintro e w11 ⟨rfl, bb⟩
    have hs11 := bb.size
    have C11 := belowNext C10 bb
    have LK11 := LK10.next bb
    have x11 := x10.next bb
    have Bx11 := Bx10.next bb
    have A11 := A10.next bb
    have BA11 := BA10.next bb
    have B11 := B10.next bb
    have BB11 := BB10.next bb
    clear qBx0 qBx1 qBx2 qBA0 qBA1 qBA2 qBB0 qBB1 qBB2
    clear bb C10 LK10 x10 Bx10 A10 BA10 B10 BB10
    have qBx0 := Bx11.b0
    have qBx1 := Bx11.b1
    have qBx2 := Bx11.lt
    have qBA0 := BA11.b0
    have qBA1 := BA11.b1
    have qBA2 := BA11.lt
    have qBB0 := BB11.b0
    have qBB1 := BB11.b1
    have qBB2 := BB11.lt
    go_wp2_with fail
    clear qBx0 qBx1 qBx2 qBA0 qBA1 qBA2 qBB0 qBB1 qBB2
    go_loopw [16, 17] (fun fv iv wr => ∃ k : Nat, fv = .bool (faB rd k) ∧ iv = .int .i64 k ∧ k ≤ rn ∧ w11 = wr) (fun _ iv _ => rn - (intOf iv).toNat)
    case atStart => exact ⟨0, rfl, rfl, Nat.zero_le _, rfl⟩
    case round =>
      obtain ⟨k, rfl, rfl, hk, rfl⟩ := hrel
      have k0 : (0 : Int) ≤ (k : Int) := Int.natCast_nonneg _
      by_cases hlt : k < rn
      · have hkI : (k : Int) < rn := by omega
        have hqo := (pr_two B11).1
        obtain ⟨rfl, hgA, hqA⟩ := own_at hqo hlt
        have hbk := HRG.out k hlt
        clear hqo
        have HS := Lib.hid (show faB rd (k + 1) = (faB rd k || decide (30000 ≤ (rd k).natAbs)) from rfl)
        cases hfa : faB rd k
        · skip
          have qBx0 := Bx11.b0
          have qBx1 := Bx11.b1
          have qBx2 := Bx11.lt
          have qBA0 := BA11.b0
          have qBA1 := BA11.b1
          have qBA2 := BA11.lt
          have qBB0 := BB11.b0
          have qBB1 := BB11.b1
          have qBB2 := BB11.lt
          have HS2 := Lib.hid (show faB rd (k + 1) = decide (30000 ≤ (rd k).natAbs) by rw [HS.out, hfa]; rfl)
          have HS3 := Lib.hid (show decide ((30000 : Int) ≤ ((rd k).natAbs : Int)) = decide (30000 ≤ (rd k).natAbs) from decide_eq_decide.2 (by omega))
          go_wp2_with (go_at_call 21; refine (sizeN_any _ _ (by omega) (by omega)).mono ?_; rintro e w' ⟨rfl, rfl⟩)
          go_roundw
          case rel => exact ⟨k + 1, by rw [HS2.out]; first | rfl | rw [HS3.out], by go_num, hlt, (by trivial)⟩
          case measure => simp [intOf]; omega
        · skip
          have qBx0 := Bx11.b0
          have qBx1 := Bx11.b1
          have qBx2 := Bx11.lt
          have qBA0 := BA11.b0
          have qBA1 := BA11.b1
          have qBA2 := BA11.lt
          have qBB0 := BB11.b0
          have qBB1 := BB11.b1
          have qBB2 := BB11.lt
          have HS2 := Lib.hid (show faB rd (k + 1) = true by rw [HS.out, hfa]; rfl)
          go_wp2_with fail
          go_roundw
          case rel => exact ⟨k + 1, by rw [HS2.out], by go_num, hlt, (by trivial)⟩
          case measure => simp [intOf]; omega
      · obtain rfl : rn = k := by omega
        generalize hfa : faB rd rn = fa at *
        have HFA := Lib.hid hfa
        clear hfa
        by_cases hM : M = 5000
        · have hMb : (M == 5000) = true := by simpa using hM
          have qBx0 := Bx11.b0
          have qBx1 := Bx11.b1
          have qBx2 := Bx11.lt
          have qBA0 := BA11.b0
          have qBA1 := BA11.b1
          have qBA2 := BA11.lt
          have qBB0 := BB11.b0
          have qBB1 := BB11.b1
          have qBB2 := BB11.lt
          go_wp2_with fail
          go_ret
          exact ⟨rfl, C11⟩
        have hMb : (M == 5000) = false := by simpa using hM
        cases fa
        · have hk0 : kk = 0 := Q4.out hM (by first | exact HFA.out | trivial)
          have hkb : (kk == 0) = true := by simpa using hk0
          clear hk0
          have qBx0 := Bx11.b0
          have qBx1 := Bx11.b1
          have qBx2 := Bx11.lt
          have qBA0 := BA11.b0
          have qBA1 := BA11.b1
          have qBA2 := BA11.lt
          have qBB0 := BB11.b0
          have qBB1 := BB11.b1
          have qBB2 := BB11.lt
          go_wp2_with fail
          go_ret
          exact ⟨rfl, C11⟩
        · skip
          have qBx0 := Bx11.b0
          have qBx1 := Bx11.b1
          have qBx2 := Bx11.lt
          have qBA0 := BA11.b0
          have qBA1 := BA11.b1
          have qBA2 := BA11.lt
          have qBB0 := BB11.b0
          have qBB1 := BB11.b1
          have qBB2 := BB11.lt
          go_wp2_with fail
          go_ret
          exact ⟨rfl, C11⟩
  · have hxc' : (rc != 0) = true := by simpa using hrc
    have qBx0 := Bx8.b0
    have qBx1 := Bx8.b1
    have qBx2 := Bx8.lt
    have qBA0 := BA8.b0
    have qBA1 := BA8.b1
    have qBA2 := BA8.lt
    have qBB0 := BB8.b0
    have qBB1 := BB8.b1
    have qBB2 := BB8.lt
    go_wp2_with fail
    go_ret
    exact ⟨rfl, C8⟩

set_option maxRecDepth 100000 in
theorem lifted (os : Os) (started : os.Started) (H : Type) (enc : TypeId × Value → H) :
    ReturnsInHanded {} Tryz.checked os 4 .any (Rows.fnProofsSpec.pre6 enc Tryz.prog Tryz.f4 Rows.fnProofsRow.domain false) (Rows.fnProofsSpec.post enc Tryz.prog Tryz.f4 false true false false) := by
  refine returnsInHanded_of_change (C := Tryz.checked) own started (by kernel_rfl) Tryz.func4
    (ChangeSpec.witness6 (enc := enc) (C := Tryz.checked) false ⟨#[], #[.slice none 0 0], []⟩ 8 (by kernel_rfl) (by kernel_rfl) (by kernel_rfl) (by kernel_rfl)) ?_
  intro W base args ds gs before hval0 hW hcnd _
  have hval : ∀ (j : Nat) t v, Tryz.f4.params[j]? = some t → args[j]? = some v → Value.okWide Tryz.prog W .any base t v := hval0
  have hW' := hW
  obtain ⟨p, q, hA0, hV, rfl, hfz, hnd⟩ := hW
  have hA : DataW.TrodAll enc Tryz.prog W 0 (fun _ => true) true Tryz.f4.params.toList args.toList ds p := hA0
  rw [Tryz.params4] at hA hval
  obtain ⟨v0, vs0, d0, ds0, p0, q0, hargs, rfl, rfl, h0, r0⟩ := trodAll_cons hA
  obtain ⟨rfl, rfl, rfl⟩ := trodAll_nil r0
  obtain rfl : args = #[v0] := by cases args; simp_all
  obtain ⟨rfl, rfl⟩ := trodVars_none hV
  have hc := open_code (hval 0 22 v0 rfl rfl) h0
  refine (walk v0 W hc).mono fun e W' ⟨he, hg⟩ => ?_
  subst he
  exact ⟨_, rfl, law.law_post hW' hg laidOut (by kernel_rfl) rfl rfl (by kernel_rfl) Tryz.underlying4⟩

theorem over : Rows.fnProofsRow.holds Tryz.pinned (OpenSpec.ofChange Rows.fnProofsSpec) :=
  OpenClaim.holds_of_wide 4 Tryz.f4 rfl rfl rfl rfl rfl rfl rfl ⟨rfl, rfl, rfl, rfl, rfl⟩ rfl rfl rfl rfl rfl (by kernel_rfl) Tryz.func4 (by kernel_rfl)
    (of_decide_eq_true (by kernel_rfl)) (by unfold Func.isWrapper; first | (rw [if_pos (by decide +kernel)]; kernel_rfl) | (rw [if_neg (by decide +kernel)]; exact ⟨rfl, rfl⟩))
    (fun os started H enc _ => lifted os started H enc)

theorem proved : Rows.FnProofsSaid :=
  over
#print axioms proved
end Go.Proofs.YtdbgcbkmcbgdiaaGreat.fnProofs


