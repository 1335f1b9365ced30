/-
  FnGaps returns true at every slice of bytes, and leaves it as it was. No condition.
-/
import Derived.Test.YtlcegdamjbpfpaaRows
import Derived.Test.YtlcegdamjbpfpaaLaw
import Derived.Test.YtlcegdamjbpfpaaCode
import Derived.Test.YtlcegdamjbpfpaaLikeI
import Derived.Test.YtlcegdamjbpfpaaTxM
import Derived.Test.YtlcegdamjbpfpaaLfm
import Derived.Test.YtlcegdamjbpfpaaDyM
import Derived.Test.YtlcegdamjbpfpaaDrM
import Derived.WalkKit
import Derived.ProofKit
import Derived.OpenShut
import Derived.Lib.Hide
import Derived.Deep.QuietTactic
import Derived.BigQuiet
import Derived.OwnWalk
import Derived.Outline
import Derived.Deep.RegionHeld3
import Derived.Deep.RegionHeldLaw
import Derived.IntWalk
namespace Go.Proofs.Ytlcegdamjbpfpaa.fnGaps
open Go.ChangeShapes Go.WideShapes Go.ChangeAt Go.RowKit Go.Proofs.Ytlcegdamjbpfpaa.draw Go.Proofs.Ytlcegdamjbpfpaa.mem
set_option linter.unusedVariables false

theorem own : ownKnob Try.prog.godebug = none := by kernel_rfl
theorem laidOut : laidOutB Try.prog = true := by kernel_rfl

theorem own_at {w : World} {p : Option Addr} {n c b : Nat} {d : Nat → Int} (h : OwnS w (.slice p n c) n 1 (fun i _ => .int .i64 (d i)) b) {k : Nat} (hk : k < n) : p = some ⟨b, 0, none⟩ ∧ b < w.heap.size ∧ w.cell? ⟨b, k, none⟩ = some (.int .i64 (d k)) := by
  obtain ⟨p', cap, hv, h1, h2, h3⟩ := h.ex
  injection hv with e1 _ e3
  subst e1
  rcases h3 with h3 | ⟨h3, h4⟩
  · omega
  · refine ⟨h3, h4.lt, ?_⟩
    have := h4.cell k 0 hk (by omega)
    simpa using this
theorem codeUp {w : World} {cv : Value} {len B C : Nat} (h : CodeAt w cv len B) (hB : B ≤ C) : CodeAt w cv len C := by
  rcases h with h | ⟨cb, co, cap, h1, h2, h3⟩
  · exact .inl h
  · exact .inr ⟨cb, co, cap, h1, by omega, h3⟩
theorem gapFacts (n : Nat) (N : Nat → Nod) (m : Nat) (P : Nat → Pip) (K : Nat) (D : Nat → Int) (a b : Int) (hN : ∀ i, i < n → (N i).s.size ≤ 9223372036854775807) (hK : K ≤ 2000000) :
    ∃ (ra rc : Int), (∀ w v va, NetAt w v n N m P 0 w.heap.size → Sl w va K D 0 w.heap.size → Calls Try.prog 32 #[v, va, .int .i64 a, .int .i64 b] w (IIPost w ra rc)) ∧ (∀ w v va, NetAt w v n N m P 0 w.heap.size → Sl w va K D 0 w.heap.size → Calls Try.prog 31 #[v, va, .int .i64 a, .int .i64 b] w (IIPost w ra rc)) ∧
      (rc = 0 → 1 ≤ n ∧ ∃ low : Int, (∀ w v va, NetAt w v n N m P 0 w.heap.size → Sl w va K D 0 w.heap.size → Calls Try.prog 34 #[v, va] w (IIPost w low 0)) ∧ (∀ w v va, NetAt w v n N m P 0 w.heap.size → Sl w va K D 0 w.heap.size → Calls Try.prog 33 #[v, va] w (IIPost w low 0)) ∧
        ∀ c : Int, 0 ≤ c → c < n → ∃ p q r : Int, (∀ w v va, NetAt w v n N m P 0 w.heap.size → Sl w va K D 0 w.heap.size → Calls Try.prog 32 #[v, va, .int .i64 a, .int .i64 c] w (IIPost w p 0)) ∧ (∀ w v va, NetAt w v n N m P 0 w.heap.size → Sl w va K D 0 w.heap.size → Calls Try.prog 32 #[v, va, .int .i64 c, .int .i64 b] w (IIPost w q 0)) ∧
          (∀ w v va, NetAt w v n N m P 0 w.heap.size → Sl w va K D 0 w.heap.size → Calls Try.prog 32 #[v, va, .int .i64 low, .int .i64 c] w (IIPost w r 0)) ∧ p + q = ra ∧ r ≤ 0 ∧ -1000000000000000 ≤ ra ∧ ra ≤ 1000000000000000) := by
  refine ⟨gpA n N m P K D a b, gpC n N m P K D a b, fun w v va h hv => gapBetweenI_any w v n N m P 0 _ h (Nat.le_refl _) hN va K D 0 _ hv (Nat.le_refl _) (by omega) a b, fun w v va h hv => gapBetweenS_any w v n N m P 0 _ h (Nat.le_refl _) hN va K D 0 _ hv (Nat.le_refl _) (by omega) a b, fun hc => ?_⟩
  have hparts : flC n N m P K D = 0 ∧ inR a 0 (n - 1) = true ∧ inR b 0 (n - 1) = true ∧ conB n N m P = true := by
    have h := hc
    unfold gpC at h
    split at h
    · next h1 =>
      split at h
      · next h2 =>
        rw [Bool.and_eq_true] at h2
        split at h
        · next h3 => exact ⟨h1, h2.1, h2.2, h3⟩
        · omega
      · omega
    · next h1 => exact absurd h h1
  obtain ⟨hfl, ha, hb, hcon⟩ := hparts
  obtain ⟨hB, hKm, hf⟩ := flC_ok hfl
  subst hKm
  obtain ⟨hn1, hn24, hm40⟩ := net_sz hB
  have hfr := flB_rng hf
  have ha2 := inR_iff.1 ha
  have hb2 := inR_iff.1 hb
  have gC : ∀ x y : Int, inR x 0 (n - 1) = true → inR y 0 (n - 1) = true → gpC n N K P K D x y = 0 := fun x y hx hy => by
    unfold gpC
    rw [if_pos hfl, hx, hy, hcon]
    rfl
  have gA : ∀ x y : Int, inR x 0 (n - 1) = true → inR y 0 (n - 1) = true → gpA n N K P K D x y = lvl n P K D y 0 x := fun x y hx hy => by
    unfold gpA
    rw [gC x y hx hy]
    rfl
  have gcall : ∀ x y : Int, inR x 0 (n - 1) = true → inR y 0 (n - 1) = true → ∀ w v va, NetAt w v n N K P 0 w.heap.size → Sl w va K D 0 w.heap.size → Calls Try.prog 32 #[v, va, .int .i64 x, .int .i64 y] w (IIPost w (lvl n P K D y 0 x) 0) := fun x y hx hy w v va h hv => by
    have := gapBetweenI_any w v n N K P 0 _ h (Nat.le_refl _) hN va K D 0 _ hv (Nat.le_refl _) (by omega) x y
    rw [gC x y hx hy, gA x y hx hy] at this
    exact this
  have lC : lwC n N K P K D = 0 := by
    unfold lwC
    rw [if_pos hfl, hcon]
    rfl
  have lA : lwA n N K P K D = ((bst (fun j => lvl n P K D 0 0 ((j : Nat) : Int)) (n - 1) : Nat) : Int) := by
    unfold lwA
    rw [lC]
    rfl
  have hle := bst_le (fun j => lvl n P K D 0 0 ((j : Nat) : Int)) (n - 1)
  have hmin := bst_min (fun j => lvl n P K D 0 0 ((j : Nat) : Int)) (n - 1)
  generalize bst (fun j => lvl n P K D 0 0 ((j : Nat) : Int)) (n - 1) = lo at *
  refine ⟨hn1, (lo : Int), fun w v va h hv => ?_, fun w v va h hv => ?_, fun c c0 c1 => ?_⟩
  · have := lowestNodeI_any w v n N K P 0 _ h (Nat.le_refl _) hN va K D 0 _ hv (Nat.le_refl _) (by omega)
    rw [lC, lA] at this
    exact this
  · have := lowestNodeS_any w v n N K P 0 _ h (Nat.le_refl _) hN va K D 0 _ hv (Nat.le_refl _) (by omega)
    rw [lC, lA] at this
    exact this
  · have hci : inR c 0 (n - 1) = true := inR_iff.2 ⟨c0, by omega⟩
    have hlo : inR (lo : Int) 0 (n - 1) = true := inR_iff.2 ⟨Int.natCast_nonneg _, by omega⟩
    refine ⟨_, _, _, gcall a c ha hci, gcall c b hci hb, gcall lo c hlo hci, ?_, ?_, ?_, ?_⟩
    · rw [gA a b ha hb]
      unfold lvl
      omega
    · obtain ⟨C, rfl⟩ := Int.eq_ofNat_of_zero_le c0
      have := hmin C (by omega)
      unfold lvl at this ⊢
      omega
    all_goals
      rw [gA a b ha hb]
      have := lvl_bnd (x := D) (root := b) (level := 0) (z := a) hB hn24 hfr ⟨hb2.1, by omega⟩ ⟨ha2.1, by omega⟩
      omega

set_option maxRecDepth 100000 in
set_option maxHeartbeats 20000000 in
theorem walk (v : Value) (w : World) (hc : CodeArg w v) :
    Calls Try.prog 11 #[v] w fun e w' => e = .returned (.bool true) ∧ Below w.heap.size w w' := by
  obtain ⟨p, len, cap, rfl, hlen, hcode⟩ := hc
  by_cases h4 : (4096 : Int) < len
  · clear hcode
    go_enter Try.func11, Try.ntmps11
    go_wp2_with (go_at_call 35; refine (draw.big_any _ _ _ _).mono ?_; rintro e w' ⟨rfl, rfl⟩)
    go_ret
    exact ⟨rfl, Below.refl _ _⟩
  have hc := hcode (by omega)
  clear hcode
  go_enter Try.func11, Try.ntmps11
  go_wp2_with (go_at_call 35; refine (draw.big_any _ _ _ _).mono ?_; rintro e w' ⟨rfl, rfl⟩)
  refine (draw.drawGapBetween w _ len hc).mono ?_
  rintro e w1 ⟨v, n, m, N, P, b1, b2, vl, K, D, a, b, rfl, hn, hm, hK, hnm, o1, l1, l2, hL1, C1⟩
  obtain ⟨ra, rc, ti, ts, hz⟩ := gapFacts n N m P K D a b hnm (by omega)
  have TI := Lib.hid ti
  have TS := Lib.hid ts
  have HZ := Lib.hid hz
  have HCD := Lib.hid hc
  clear ti ts hz hc
  obtain ⟨pl, cl, rfl⟩ := draw.sl_sh hL1
  have hb2 : (rc != rc) = false := by simp
  have hb3 : (ra != ra) = false := by simp
  have lxx := o1.lts
  obtain ⟨sx1, sx2, sx3, sx4, rfl⟩ := o1.shape
  go_wp2_with fail
  have bb := mem.below_new w1 (.cells #[.slice sx1 n sx2, .slice sx3 m sx4] 33)
  have B_x := boxed w1 (.slice sx1 n sx2) (.slice sx3 m sx4) 33
  have hs2 := bb.size
  have C2 := belowNext C1 bb
  have L2 := hL1.next bb
  have x2 := o1.next bb
  clear bb C1 hL1 o1
  generalize hW2 : w1.alloc (Obj.cells #[.slice sx1 n sx2, .slice sx3 m sx4] 33) = w2 at *
  clear hW2
  have Bx2 := B_x
  clear B_x
  have lBx := Bx2.lt
  refine (TI.out _ _ _ x2.net L2.zero).mono ?_
  rintro e w3 ⟨rfl, bb⟩
  have hs3 := bb.size
  have C3 := belowNext C2 bb
  have L3 := L2.next bb
  have x3 := x2.next bb
  have Bx3 := Bx2.next bb
  clear bb C2 L2 x2 Bx2
  have qBx0 := Bx3.b0
  have qBx1 := Bx3.b1
  have qBx2 := Bx3.lt
  go_wp2_with fail
  refine (TS.out _ _ _ x3.net L3.zero).mono ?_
  rintro e w4 ⟨rfl, bb⟩
  have hs4 := bb.size
  have C4 := belowNext C3 bb
  have L4 := L3.next bb
  have x4 := x3.next bb
  have Bx4 := Bx3.next bb
  clear qBx0 qBx1 qBx2
  clear bb C3 L3 x3 Bx3
  by_cases hrc : rc = 0
  · subst hrc
    obtain ⟨hn1, low, q1, q2, q3⟩ := HZ.out (by trivial)
    have Q1 := Lib.hid q1
    have Q2 := Lib.hid q2
    have Q3 := Lib.hid q3
    clear q1 q2 q3
    clear HZ TI TS
    have nI : (1 : Int) ≤ ((n : Nat) : Int) := by omega
    have qBx0 := Bx4.b0
    have qBx1 := Bx4.b1
    have qBx2 := Bx4.lt
    go_wp2_with fail
    have hAny : ∀ X : World, Below w4.heap.size w4 X → (fun w' => w'.cell? ⟨w1.heap.size, 0, none⟩ = some (.slice sx1 n sx2)) X := fun X h => (Bx4.below h Bx4.lt).b0
    have K0 : Below w4.heap.size w4 w4.drew := ⟨rfl, rfl, rfl, Nat.le_refl _, fun _ _ => rfl⟩
    have HCK : CodeAt w4.drew (.slice p len cap) len w4.heap.size := codeUp (codeAt_below HCD.out (C4.trans (K0.mono (by omega)))) (by omega)
    go_region_held3 (fun w' => w'.cell? ⟨w1.heap.size, 0, none⟩ = some (.slice sx1 n sx2)) (first | exact hAny _ K0 | exact hAny _ KX | exact hAny _ KY)
      (first | (go_at_call 40; refine (roll_any w4.drew _ len HCK 701).mono ?_; rintro e wa ⟨hh, rfl, hdc, hba⟩; have KX : Below w4.heap.size w4 wa := K0.trans hba; have HCA : CodeAt wa (.slice p len cap) len w4.heap.size := codeAt_below HCK hba) | (go_at_call 41; refine (dice_any wa _ w4.heap.size _ len 0 hh n hdc HCA (Nat.le_refl _) nI (by omega)).mono ?_; rintro e wb ⟨r, ri, rh, rfl, r0, r1, hdc2, hob⟩; have KY : Below w4.heap.size w4 wb := KX.trans (draw.only_below hob (Nat.le_refl _))))
    obtain ⟨w5, hwb⟩ : ∃ w', w' = wb := ⟨_, rfl⟩
    subst hwb
    have bb := KY
    clear hAny K0 KX KY HCK HCA hdc hdc2 hob hba
    have hs5 := bb.size
    have C5 := belowNext C4 bb
    have L5 := L4.next bb
    have x5 := x4.next bb
    have Bx5 := Bx4.next bb
    clear qBx0 qBx1 qBx2
    clear bb C4 L4 x4 Bx4
    obtain ⟨pp, qq, rr, q4, q5, q6, hsum, hr, hr0, hr1⟩ := Q3.out r r0 r1
    have Q4 := Lib.hid q4
    have Q5 := Lib.hid q5
    have Q6 := Lib.hid q6
    clear q4 q5 q6
    clear Q3
    have qBx0 := Bx5.b0
    have qBx1 := Bx5.b1
    have qBx2 := Bx5.lt
    go_wp2_with fail
    refine (Q4.out _ _ _ x5.net L5.zero).mono ?_
    rintro e w6 ⟨rfl, bb⟩
    have hs6 := bb.size
    have C6 := belowNext C5 bb
    have L6 := L5.next bb
    have x6 := x5.next bb
    have Bx6 := Bx5.next bb
    clear qBx0 qBx1 qBx2
    clear bb C5 L5 x5 Bx5
    have qBx0 := Bx6.b0
    have qBx1 := Bx6.b1
    have qBx2 := Bx6.lt
    go_wp2_with fail
    refine (Q5.out _ _ _ x6.net L6.zero).mono ?_
    rintro e w7 ⟨rfl, bb⟩
    have hs7 := bb.size
    have C7 := belowNext C6 bb
    have L7 := L6.next bb
    have x7 := x6.next bb
    have Bx7 := Bx6.next bb
    clear qBx0 qBx1 qBx2
    clear bb C6 L6 x6 Bx6
    have qBx0 := Bx7.b0
    have qBx1 := Bx7.b1
    have qBx2 := Bx7.lt
    go_wp2_with fail
    refine (Q1.out _ _ _ x7.net L7.zero).mono ?_
    rintro e w8 ⟨rfl, bb⟩
    have hs8 := bb.size
    have C8 := belowNext C7 bb
    have L8 := L7.next bb
    have x8 := x7.next bb
    have Bx8 := Bx7.next bb
    clear qBx0 qBx1 qBx2
    clear bb C7 L7 x7 Bx7
    have qBx0 := Bx8.b0
    have qBx1 := Bx8.b1
    have qBx2 := Bx8.lt
    go_wp2_with fail
    refine (Q2.out _ _ _ x8.net L8.zero).mono ?_
    rintro e w9 ⟨rfl, bb⟩
    have hs9 := bb.size
    have C9 := belowNext C8 bb
    have L9 := L8.next bb
    have x9 := x8.next bb
    have Bx9 := Bx8.next bb
    clear qBx0 qBx1 qBx2
    clear bb C8 L8 x8 Bx8
    have qBx0 := Bx9.b0
    have qBx1 := Bx9.b1
    have qBx2 := Bx9.lt
    go_wp2_with fail
    refine (Q6.out _ _ _ x9.net L9.zero).mono ?_
    rintro e w10 ⟨rfl, bb⟩
    have hs10 := bb.size
    have C10 := belowNext C9 bb
    have L10 := L9.next bb
    have x10 := x9.next bb
    have Bx10 := Bx9.next bb
    clear qBx0 qBx1 qBx2
    clear bb C9 L9 x9 Bx9
    have hb4 : (pp + qq == ra) = true := by rw [beq_iff_eq]; exact hsum
    have hw1 : pp + qq ≤ 9000000000000000000 := by omega
    have hw2 : -9000000000000000000 ≤ pp + qq := by omega
    have hb5 : (low == low) = true := by simp
    have qBx0 := Bx10.b0
    have qBx1 := Bx10.b1
    have qBx2 := Bx10.lt
    go_wp2_with fail
    go_ret
    exact ⟨rfl, C10⟩
  · have hrc' : (rc != 0) = true := by simpa using hrc
    have qBx0 := Bx4.b0
    have qBx1 := Bx4.b1
    have qBx2 := Bx4.lt
    go_wp2_with fail
    go_ret
    exact ⟨rfl, C4⟩

set_option maxRecDepth 100000 in
theorem lifted (os : Os) (started : os.Started) (H : Type) (enc : TypeId × Value → H) :
    ReturnsInHanded {} Try.checked os 11 .any (Rows.fnGapsSpec.pre6 enc Try.prog Try.f11 Rows.fnGapsRow.domain false) (Rows.fnGapsSpec.post enc Try.prog Try.f11 false true false false) := by
  refine returnsInHanded_of_change (C := Try.checked) own started (by kernel_rfl) Try.func11
    (ChangeSpec.witness6 (enc := enc) (C := Try.checked) false ⟨#[], #[.slice none 0 0], []⟩ 8 (by kernel_rfl) (by kernel_rfl) (by kernel_rfl) (by kernel_rfl)) ?_
  intro W base args ds gs before hval0 hW hcnd _
  have hval : ∀ (j : Nat) t v, Try.f11.params[j]? = some t → args[j]? = some v → Value.okWide Try.prog W .any base t v := hval0
  have hW' := hW
  obtain ⟨p, q, hA0, hV, rfl, hfz, hnd⟩ := hW
  have hA : DataW.TrodAll enc Try.prog W 0 (fun _ => true) true Try.f11.params.toList args.toList ds p := hA0
  rw [Try.params11] at hA hval
  obtain ⟨v0, vs0, d0, ds0, p0, q0, hargs, rfl, rfl, h0, r0⟩ := trodAll_cons hA
  obtain ⟨rfl, rfl, rfl⟩ := trodAll_nil r0
  obtain rfl : args = #[v0] := by cases args; simp_all
  obtain ⟨rfl, rfl⟩ := trodVars_none hV
  have hc := open_code (hval 0 50 v0 rfl rfl) h0
  refine (walk v0 W hc).mono fun e W' ⟨he, hg⟩ => ?_
  subst he
  exact ⟨_, rfl, law.law_post hW' hg laidOut (by kernel_rfl) rfl rfl (by kernel_rfl) Try.underlying4⟩

theorem over : Rows.fnGapsRow.holds Try.pinned (OpenSpec.ofChange Rows.fnGapsSpec) :=
  OpenClaim.holds_of_wide 11 Try.f11 rfl rfl rfl rfl rfl rfl rfl ⟨rfl, rfl, rfl, rfl, rfl⟩ rfl rfl rfl rfl rfl (by kernel_rfl) Try.func11 (by kernel_rfl)
    (of_decide_eq_true (by kernel_rfl)) (by unfold Func.isWrapper; first | (rw [if_pos (by decide +kernel)]; kernel_rfl) | (rw [if_neg (by decide +kernel)]; exact ⟨rfl, rfl⟩))
    (fun os started H enc _ => lifted os started H enc)

theorem proved : Rows.FnGapsSaid :=
  over
#print axioms proved
end Go.Proofs.Ytlcegdamjbpfpaa.fnGaps
