/-
  FnPipeEnds returns true at every slice of bytes, and leaves it as it was. No condition.
-/
import Derived.Test.YtdmcggnhnkaoeaaRows
import Derived.Test.YtdmcggnhnkaoeaaLaw
import Derived.Test.YtdmcggnhnkaoeaaCode
import Derived.Test.YtdmcggnhnkaoeaaLikeI
import Derived.Test.YtdmcggnhnkaoeaaNetNC
import Derived.Test.YtdmcggnhnkaoeaaNetPB
import Derived.Test.YtdmcggnhnkaoeaaDrO
import Derived.WalkKit
import Derived.ProofKit
import Derived.OpenShut
import Derived.Lib.Hide
import Derived.Deep.QuietTactic
import Derived.BigQuiet
import Derived.OwnWalk
import Derived.Outline
import Derived.Deep.RegionHeld3
import Derived.Deep.RegionHeldLaw
import Derived.IntWalk
namespace Go.Proofs.Ytdmcggnhnkaoeaa.fnPipeEnds
open Go.ChangeShapes Go.WideShapes Go.ChangeAt Go.RowKit Go.Proofs.Ytdmcggnhnkaoeaa.draw Go.Proofs.Ytdmcggnhnkaoeaa.mem
set_option linter.unusedVariables false

theorem own : ownKnob Try.prog.godebug = none := by kernel_rfl
theorem laidOut : laidOutB Try.prog = true := by kernel_rfl

theorem codeB_0e {b r : Bool} (h : codeB b r = 0) : b = true ∧ r = true := by
  unfold codeB at h
  cases b <;> cases r <;> simp at h
  exact ⟨rfl, rfl⟩
theorem fl_has {p : Nat → Bool} {m k : Nat} (hk : k < m) (hp : p k = true) : ∃ i, i < (fl p m).length ∧ fd p m i = k := by
  have : k ∈ fl p m := by unfold fl; rw [List.mem_filter]; exact ⟨by simpa using hk, hp⟩
  obtain ⟨i, hi, e⟩ := List.mem_iff_getElem.1 this
  refine ⟨i, hi, ?_⟩
  unfold fd
  rw [List.getElem?_eq_getElem hi, e]
  rfl
theorem oth_back {q : Pip} {y : Int} (h : endB q y = true) (hne : q.f ≠ q.t) : endB q (othV q y) = true ∧ othV q (othV q y) = y := by
  unfold endB at h ⊢
  unfold othV
  simp only [Bool.or_eq_true, beq_iff_eq] at h ⊢
  by_cases e : q.f = y
  · subst e
    rw [if_pos rfl]
    exact ⟨.inr rfl, if_neg hne⟩
  · have e2 : q.t = y := by rcases h with h | h; exact absurd h e; exact h
    rw [if_neg e, if_pos rfl]
    exact ⟨.inl rfl, e2⟩
theorem oth_in {n : Int} {q : Pip} {y : Int} (hq : pipB n q = true) : inR (othV q y) 0 (n - 1) = true := by
  obtain ⟨h1, h2, _⟩ := pipB_parts hq
  unfold othV
  split
  · exact inR_iff.2 h2
  · exact inR_iff.2 h1
theorem endFacts (n : Nat) (N : Nat → Nod) (m : Nat) (P : Nat → Pip) (x y : Int) (hN : ∀ i, i < n → (N i).s.size ≤ 9223372036854775807) (hn : n ≤ 1000) (hm : m ≤ 1000) :
    ∃ (ra rc : Int) (vb : Bool),
      (∀ w v, NetAt w v n N m P 0 w.heap.size → Calls Try.prog 17 #[v, .int .i64 x, .int .i64 y] w (IIPost w ra rc)) ∧ (∀ w v, NetAt w v n N m P 0 w.heap.size → Calls Try.prog 18 #[v, .int .i64 x, .int .i64 y] w (IIPost w ra rc)) ∧
      (∀ w v, NetAt w v n N m P 0 w.heap.size → Calls Try.prog 19 #[v] w (BPost w vb)) ∧ (∀ w v, NetAt w v n N m P 0 w.heap.size → Calls Try.prog 20 #[v] w (BPost w vb)) ∧
      (rc = 0 → ∃ (c1 c2 c3 : Nat) (d1 d2 d3 : Nat → Int), (∃ i, i < c1 ∧ d1 i = ra) ∧ (∃ i, i < c2 ∧ d2 i = x) ∧ (∃ i, i < c3 ∧ d3 i = x) ∧
        (∀ w v, NetAt w v n N m P 0 w.heap.size → Calls Try.prog 17 #[v, .int .i64 x, .int .i64 ra] w (IIPost w y 0)) ∧
        (∀ w v, NetAt w v n N m P 0 w.heap.size → Calls Try.prog 21 #[v, .int .i64 y] w (LIPost w c1 d1 0)) ∧
        (∀ w v, NetAt w v n N m P 0 w.heap.size → Calls Try.prog 22 #[v, .int .i64 ra, .int .i64 y] w (LIPost w c2 d2 0)) ∧
        (∀ w v, NetAt w v n N m P 0 w.heap.size → Calls Try.prog 23 #[v, .int .i64 ra] w (LIPost w c3 d3 0))) := by
  refine ⟨oeV n N m P x y, oeC n N m P x y, netB n N m P, fun w v h => otherEndI_any w v n N m P 0 _ h (Nat.le_refl _) hN x y, fun w v h => otherEndS_any w v n N m P 0 _ h (Nat.le_refl _) hN x y, fun w v h => isNetwork_any w v n N m P 0 _ h (Nat.le_refl _) hN, fun w v h => sIsNetwork_any w v n N m P 0 _ h (Nat.le_refl _) hN, fun hc => ?_⟩
  have hz : codeB (netB n N m P) (inR x 0 (m - 1) && inR y 0 (n - 1)) = 0 ∧ endB (P x.toNat) y = true := by
    have h := hc
    unfold oeC at h
    split at h
    · rename_i h1
      refine ⟨h1, ?_⟩
      split at h
      · assumption
      · cases h
    · exact absurd h (by assumption)
  obtain ⟨hv, hr⟩ := codeB_0e hz.1
  rw [Bool.and_eq_true] at hr
  obtain ⟨hx, hy⟩ := hr
  have hx' := inR_iff.1 hx
  obtain ⟨k, rfl⟩ := Int.eq_ofNat_of_zero_le hx'.1
  have hk : k < m := by omega
  have he := hz.2
  simp only [Int.toNat_natCast] at he
  have hq : pipB n (P k) = true := by
    unfold netB at hv
    simp only [Bool.and_eq_true] at hv
    exact pipesB_iff.1 hv.2 k hk
  have hne := (pipB_parts hq).2.2
  have ea : oeV n N m P k y = othV (P k) y := by unfold oeV; rw [if_pos hc]; rfl
  obtain ⟨b1, b2⟩ := oth_back he hne
  have hra := oth_in (y := y) hq
  rw [ea]
  obtain ⟨a, ha⟩ := Int.eq_ofNat_of_zero_le (inR_iff.1 hra).1
  have han : a < n := by have := (inR_iff.1 hra).2; omega
  have p1 : paC n N m P y = 0 := by unfold paC; rw [hv, hy]; rfl
  have p2 : paC n N m P (othV (P k) y) = 0 := by unfold paC; rw [hv, hra]; rfl
  have p3 : pbC n N m P (othV (P k) y) y = 0 := by unfold pbC; rw [hv, hra, hy]; rfl
  have p4 : oeC n N m P k (othV (P k) y) = 0 := by
    unfold oeC
    rw [hv, hx, hra]
    simp only [Int.toNat_natCast, b1]
    rfl
  refine ⟨nbN n N m P y, pbN n N m P (othV (P k) y) y, paN n N m P (othV (P k) y), fd (nbk P y m) n, fd (pbP P (othV (P k) y) y) m, fd (paP P (othV (P k) y)) m, ?_, ?_, ?_, fun w v h => ?_, fun w v h => ?_, fun w v h => ?_, fun w v h => ?_⟩
  · unfold nbN
    rw [if_pos p1, ha]
    refine fl_has han ?_
    unfold nbk
    rw [List.any_eq_true]
    exact ⟨k, by simpa using hk, by rw [he, ← ha]; simp⟩
  · unfold pbN
    rw [if_pos p3]
    exact fl_has hk (by unfold pbP; rw [b1, b2]; simp)
  · unfold paN
    rw [if_pos p2]
    exact fl_has hk b1
  · have := otherEndI_any w v n N m P 0 _ h (Nat.le_refl _) hN k (othV (P k) y)
    have e1 : oeV n N m P k (othV (P k) y) = y := by unfold oeV; rw [if_pos p4]; exact b2
    rw [p4, e1] at this
    exact this
  · have := neighboursI_any w v n N m P 0 _ h (Nat.le_refl _) hN y
    rw [p1] at this
    exact this
  · have := pipesBetweenI_any w v n N m P 0 _ h (Nat.le_refl _) hN (othV (P k) y) y
    rw [p3] at this
    exact this
  · have := pipesAtI_any w v n N m P 0 _ h (Nat.le_refl _) hN (othV (P k) y)
    rw [p2] at this
    exact this

set_option maxRecDepth 100000 in
set_option maxHeartbeats 20000000 in
theorem walk (v : Value) (w : World) (hc : CodeArg w v) :
    Calls Try.prog 4 #[v] w fun e w' => e = .returned (.bool true) ∧ Below w.heap.size w w' := by
  obtain ⟨p, len, cap, rfl, hlen, hcode⟩ := hc
  by_cases h4 : (4096 : Int) < len
  · clear hcode
    go_enter Try.func4, Try.ntmps4
    go_wp2_with (go_at_call 9; refine (draw.big_any _ _ _ _).mono ?_; rintro e w' ⟨rfl, rfl⟩)
    go_ret
    exact ⟨rfl, Below.refl _ _⟩
  have hc := hcode (by omega)
  clear hcode
  go_enter Try.func4, Try.ntmps4
  go_wp2_with (go_at_call 9; refine (draw.big_any _ _ _ _).mono ?_; rintro e w' ⟨rfl, rfl⟩)
  refine (draw.otherDraw w _ len hc).mono ?_
  rintro e w1 ⟨v, n, m, N, P, b1, b2, x, y, rfl, hn, hm, hnm, o1, l1, l2, C1⟩
  obtain ⟨ra, rc, vb, ti, ts, ni, ns, hz⟩ := endFacts n N m P x y hnm hn hm
  have TI := Lib.hid ti
  have TS := Lib.hid ts
  have NI := Lib.hid ni
  have NS := Lib.hid ns
  have HZ := Lib.hid hz
  clear ti ts ni ns hz hc
  have hb2 : (rc != rc) = false := by simp
  have hb1 : (ra != ra) = false := by simp
  have hb3 : (vb != vb) = false := by simp
  have lxx := o1.lts
  obtain ⟨sx1, sx2, sx3, sx4, rfl⟩ := o1.shape
  go_wp2_with fail
  have bb := mem.below_new w1 (.cells #[.slice sx1 n sx2, .slice sx3 m sx4] 27)
  have B_x := boxed w1 (.slice sx1 n sx2) (.slice sx3 m sx4) 27
  have hs2 := bb.size
  have C2 := belowNext C1 bb
  have x2 := o1.next bb
  clear bb C1 o1
  generalize hW2 : w1.alloc (Obj.cells #[.slice sx1 n sx2, .slice sx3 m sx4] 27) = w2 at *
  clear hW2
  have Bx2 := B_x
  clear B_x
  have lBx := Bx2.lt
  refine (TI.out _ _ x2.net).mono ?_
  rintro e w3 ⟨rfl, bb⟩
  have hs3 := bb.size
  have C3 := belowNext C2 bb
  have x3 := x2.next bb
  have Bx3 := Bx2.next bb
  clear bb C2 x2 Bx2
  have qBx0 := Bx3.b0
  have qBx1 := Bx3.b1
  have qBx2 := Bx3.lt
  go_wp2_with fail
  refine (TS.out _ _ x3.net).mono ?_
  rintro e w4 ⟨rfl, bb⟩
  have hs4 := bb.size
  have C4 := belowNext C3 bb
  have x4 := x3.next bb
  have Bx4 := Bx3.next bb
  clear qBx0 qBx1 qBx2
  clear bb C3 x3 Bx3
  have qBx0 := Bx4.b0
  have qBx1 := Bx4.b1
  have qBx2 := Bx4.lt
  go_wp2_with fail
  have hAny : ∀ X : World, Below w4.heap.size w4 X → (fun w' => w'.cell? ⟨w1.heap.size, 0, none⟩ = some (.slice sx1 n sx2) ∧ w'.cell? ⟨w1.heap.size, 1, none⟩ = some (.slice sx3 m sx4)) X := fun X h => ⟨(Bx4.below h Bx4.lt).b0, (Bx4.below h Bx4.lt).b1⟩
  have K0 : Below w4.heap.size w4 w4.drew := ⟨rfl, rfl, rfl, Nat.le_refl _, fun _ _ => rfl⟩
  go_region_held3 (fun w' => w'.cell? ⟨w1.heap.size, 0, none⟩ = some (.slice sx1 n sx2) ∧ w'.cell? ⟨w1.heap.size, 1, none⟩ = some (.slice sx3 m sx4)) (first | exact hAny _ K0 | exact hAny _ KY | exact hAny _ KX)
    (first | (go_at_call 19; refine (NI.out _ _ (x4.below K0 (Nat.le_refl _)).net).mono ?_; rintro e wx ⟨rfl, ba⟩; have KX : Below w4.heap.size w4 wx := K0.trans (ba.mono (Nat.le_refl _))) | (go_at_call 20; refine (NS.out _ _ (x4.below KX (Nat.le_refl _)).net).mono ?_; rintro e wy ⟨rfl, bc⟩; have KY : Below w4.heap.size w4 wy := KX.trans (bc.mono KX.size)))
  obtain ⟨w5, hwb⟩ : ∃ w', w' = wy := ⟨_, rfl⟩
  subst hwb
  have bb := KY
  clear hAny K0 KX KY ba bc
  have hs5 := bb.size
  have C5 := belowNext C4 bb
  have x5 := x4.next bb
  have Bx5 := Bx4.next bb
  clear qBx0 qBx1 qBx2
  clear bb C4 x4 Bx4
  by_cases hrc : rc = 0
  · subst hrc
    obtain ⟨c1, c2, c3, d1, d2, d3, e1, e2, e3, q1, q2, q3, q4⟩ := HZ.out rfl
    have E1 := Lib.hid e1
    have E2 := Lib.hid e2
    have E3 := Lib.hid e3
    have Q1 := Lib.hid q1
    have Q2 := Lib.hid q2
    have Q3 := Lib.hid q3
    have Q4 := Lib.hid q4
    clear e1 e2 e3 q1 q2 q3 q4 HZ
    have hyy : (y == y) = true := by simp
    have qBx0 := Bx5.b0
    have qBx1 := Bx5.b1
    have qBx2 := Bx5.lt
    go_wp2_with fail
    refine (Q1.out _ _ x5.net).mono ?_
    rintro e w6 ⟨rfl, bb⟩
    have hs6 := bb.size
    have C6 := belowNext C5 bb
    have x6 := x5.next bb
    have Bx6 := Bx5.next bb
    clear qBx0 qBx1 qBx2
    clear bb C5 x5 Bx5
    have qBx0 := Bx6.b0
    have qBx1 := Bx6.b1
    have qBx2 := Bx6.lt
    go_wp2_with fail
    refine (Q2.out _ _ x6.net).mono ?_
    rintro e w7 ⟨xA, gA, rfl, oA, lA, bb⟩
    have hs7 := bb.size
    have C7 := belowNext C6 bb
    have x7 := x6.next bb
    have Bx7 := Bx6.next bb
    clear qBx0 qBx1 qBx2
    clear bb C6 x6 Bx6
    have lxA := oA.lt
    obtain ⟨sA1, sA2, rfl⟩ := oA.shape
    have qBx0 := Bx7.b0
    have qBx1 := Bx7.b1
    have qBx2 := Bx7.lt
    go_wp2_with fail
    refine (Q3.out _ _ x7.net).mono ?_
    rintro e w8 ⟨xB, gB, rfl, oB, lB, bb⟩
    have hs8 := bb.size
    have C8 := belowNext C7 bb
    have x8 := x7.next bb
    have Bx8 := Bx7.next bb
    have A8 := oA.next bb
    clear qBx0 qBx1 qBx2
    clear bb C7 x7 Bx7 oA
    have lxB := oB.lt
    obtain ⟨sB1, sB2, rfl⟩ := oB.shape
    have qBx0 := Bx8.b0
    have qBx1 := Bx8.b1
    have qBx2 := Bx8.lt
    go_wp2_with fail
    refine (Q4.out _ _ x8.net).mono ?_
    rintro e w9 ⟨xC3, gC3, rfl, oC3, lC3, bb⟩
    have hs9 := bb.size
    have C9 := belowNext C8 bb
    have x9 := x8.next bb
    have Bx9 := Bx8.next bb
    have A9 := A8.next bb
    have B9 := oB.next bb
    clear qBx0 qBx1 qBx2
    clear bb C8 x8 Bx8 A8 oB
    have lxC3 := oC3.lt
    obtain ⟨sC31, sC32, rfl⟩ := oC3.shape
    have qBx0 := Bx9.b0
    have qBx1 := Bx9.b1
    have qBx2 := Bx9.lt
    go_wp2_with fail
    refine (hasInt_yes _ _ c1 d1 ra 0 w9.heap.size (A9.cs (.inr rfl) (Nat.le_refl _)) E1.out).mono ?_
    rintro e w10 ⟨rfl, bb⟩
    have hs10 := bb.size
    have C10 := belowNext C9 bb
    have x10 := x9.next bb
    have Bx10 := Bx9.next bb
    have A10 := A9.next bb
    have B10 := B9.next bb
    have C310 := oC3.next bb
    clear qBx0 qBx1 qBx2
    clear bb C9 x9 Bx9 A9 B9 oC3
    have qBx0 := Bx10.b0
    have qBx1 := Bx10.b1
    have qBx2 := Bx10.lt
    go_wp2_with fail
    refine (hasInt_yes _ _ c2 d2 x 0 w10.heap.size (B10.cs (.inr rfl) (Nat.le_refl _)) E2.out).mono ?_
    rintro e w11 ⟨rfl, bb⟩
    have hs11 := bb.size
    have C11 := belowNext C10 bb
    have x11 := x10.next bb
    have Bx11 := Bx10.next bb
    have A11 := A10.next bb
    have B11 := B10.next bb
    have C311 := C310.next bb
    clear qBx0 qBx1 qBx2
    clear bb C10 x10 Bx10 A10 B10 C310
    have qBx0 := Bx11.b0
    have qBx1 := Bx11.b1
    have qBx2 := Bx11.lt
    go_wp2_with fail
    refine (hasInt_yes _ _ c3 d3 x 0 w11.heap.size (C311.cs (.inr rfl) (Nat.le_refl _)) E3.out).mono ?_
    rintro e w12 ⟨rfl, bb⟩
    have hs12 := bb.size
    have C12 := belowNext C11 bb
    have x12 := x11.next bb
    have Bx12 := Bx11.next bb
    have A12 := A11.next bb
    have B12 := B11.next bb
    have C312 := C311.next bb
    clear qBx0 qBx1 qBx2
    clear bb C11 x11 Bx11 A11 B11 C311
    have qBx0 := Bx12.b0
    have qBx1 := Bx12.b1
    have qBx2 := Bx12.lt
    go_wp2_with fail
    go_ret
    exact ⟨rfl, C12⟩
  · have hrc' : (rc != 0) = true := by simpa using hrc
    have qBx0 := Bx5.b0
    have qBx1 := Bx5.b1
    have qBx2 := Bx5.lt
    go_wp2_with fail
    go_ret
    exact ⟨rfl, C5⟩

set_option maxRecDepth 100000 in
theorem lifted (os : Os) (started : os.Started) (H : Type) (enc : TypeId × Value → H) :
    ReturnsInHanded {} Try.checked os 4 .any (Rows.fnPipeEndsSpec.pre6 enc Try.prog Try.f4 Rows.fnPipeEndsRow.domain false) (Rows.fnPipeEndsSpec.post enc Try.prog Try.f4 false true false false) := by
  refine returnsInHanded_of_change (C := Try.checked) own started (by kernel_rfl) Try.func4
    (ChangeSpec.witness6 (enc := enc) (C := Try.checked) false ⟨#[], #[.slice none 0 0], []⟩ 8 (by kernel_rfl) (by kernel_rfl) (by kernel_rfl) (by kernel_rfl)) ?_
  intro W base args ds gs before hval0 hW hcnd _
  have hval : ∀ (j : Nat) t v, Try.f4.params[j]? = some t → args[j]? = some v → Value.okWide Try.prog W .any base t v := hval0
  have hW' := hW
  obtain ⟨p, q, hA0, hV, rfl, hfz, hnd⟩ := hW
  have hA : DataW.TrodAll enc Try.prog W 0 (fun _ => true) true Try.f4.params.toList args.toList ds p := hA0
  rw [Try.params4] at hA hval
  obtain ⟨v0, vs0, d0, ds0, p0, q0, hargs, rfl, rfl, h0, r0⟩ := trodAll_cons hA
  obtain ⟨rfl, rfl, rfl⟩ := trodAll_nil r0
  obtain rfl : args = #[v0] := by cases args; simp_all
  obtain ⟨rfl, rfl⟩ := trodVars_none hV
  have hc := open_code (hval 0 22 v0 rfl rfl) h0
  refine (walk v0 W hc).mono fun e W' ⟨he, hg⟩ => ?_
  subst he
  exact ⟨_, rfl, law.law_post hW' hg laidOut (by kernel_rfl) rfl rfl (by kernel_rfl) Try.underlying4⟩

theorem over : Rows.fnPipeEndsRow.holds Try.pinned (OpenSpec.ofChange Rows.fnPipeEndsSpec) :=
  OpenClaim.holds_of_wide 4 Try.f4 rfl rfl rfl rfl rfl rfl rfl ⟨rfl, rfl, rfl, rfl, rfl⟩ rfl rfl rfl rfl rfl (by kernel_rfl) Try.func4 (by kernel_rfl)
    (of_decide_eq_true (by kernel_rfl)) (by unfold Func.isWrapper; first | (rw [if_pos (by decide +kernel)]; kernel_rfl) | (rw [if_neg (by decide +kernel)]; exact ⟨rfl, rfl⟩))
    (fun os started H enc _ => lifted os started H enc)

theorem proved : Rows.FnPipeEndsSaid :=
  over
#print axioms proved
end Go.Proofs.Ytdmcggnhnkaoeaa.fnPipeEnds
