/-
  FnShortestPaths returns true at every slice of bytes, and leaves it as it was. No condition.
-/
import Derived.Test.YtjjjdahegcjmaaaRows
import Derived.Test.YtjjjdahegcjmaaaLaw
import Derived.Test.YtjjjdahegcjmaaaCode
import Derived.Test.YtjjjdahegcjmaaaLikeI
import Derived.Test.YtjjjdahegcjmaaaPaM
import Derived.Test.YtjjjdahegcjmaaaDrM
import Derived.WalkKit
import Derived.ProofKit
import Derived.OpenShut
import Derived.Lib.Hide
import Derived.Deep.QuietTactic
import Derived.BigQuiet
import Derived.OwnWalk
import Derived.Outline
import Derived.Deep.RegionHeld3
import Derived.Deep.RegionHeldLaw
import Derived.IntWalk
namespace Go.Proofs.Ytjjjdahegcjmaaa.fnShortestPaths
open Go.ChangeShapes Go.WideShapes Go.ChangeAt Go.RowKit Go.Proofs.Ytjjjdahegcjmaaa.draw Go.Proofs.Ytjjjdahegcjmaaa.mem
set_option linter.unusedVariables false

theorem own : ownKnob Try.prog.godebug = none := by kernel_rfl
theorem laidOut : laidOutB Try.prog = true := by kernel_rfl

theorem own_at {w : World} {p : Option Addr} {n c b : Nat} {d : Nat → Int} (h : OwnS w (.slice p n c) n 1 (fun i _ => .int .i64 (d i)) b) {k : Nat} (hk : k < n) : p = some ⟨b, 0, none⟩ ∧ b < w.heap.size ∧ w.cell? ⟨b, k, none⟩ = some (.int .i64 (d k)) := by
  obtain ⟨p', cap, hv, h1, h2, h3⟩ := h.ex
  injection hv with e1 _ e3
  subst e1
  rcases h3 with h3 | ⟨h3, h4⟩
  · omega
  · refine ⟨h3, h4.lt, ?_⟩
    have := h4.cell k 0 hk (by omega)
    simpa using this
theorem pathFacts (n : Nat) (N : Nat → Nod) (m : Nat) (P : Nat → Pip) (x y : Int) (hN : ∀ i, i < n → (N i).s.size ≤ 9223372036854775807) (hn : n ≤ 1000) (hm : m ≤ 1000) :
    ∃ (rn : Nat) (rd : Nat → Int) (rc : Int), rn ≤ 1000 ∧
      (∀ w v, NetAt w v n N m P 0 w.heap.size → Calls Try.prog 30 #[v, .int .i64 x, .int .i64 y] w (LIPost w rn rd rc)) ∧ (∀ w v, NetAt w v n N m P 0 w.heap.size → Calls Try.prog 29 #[v, .int .i64 x, .int .i64 y] w (LIPost w rn rd rc)) ∧
      (rc = 0 → ∃ (nd : Nat → Int) (en : Nat) (ed : Nat → Int), en ≤ 1000 ∧ nd 0 = x ∧ nd rn = y ∧
        (∀ k, k < rn → ∀ w v, NetAt w v n N m P 0 w.heap.size → Calls Try.prog 48 #[v, .int .i64 (rd k), .int .i64 (nd k)] w (IIPost w (nd (k + 1)) 0)) ∧
        (∀ w v, NetAt w v n N m P 0 w.heap.size → Calls Try.prog 28 #[v, .int .i64 x] w (LIPost w en ed 0)) ∧ (∀ w v, NetAt w v n N m P 0 w.heap.size → Calls Try.prog 27 #[v, .int .i64 x] w (LIPost w en ed 0))) := by
  refine ⟨spN n N m P x y, spD n P m x y, spC n N m P x y, ?_, fun w v h => shortestPathI_any w v n N m P 0 _ h (Nat.le_refl _) hN x y, fun w v h => shortestPathS_any w v n N m P 0 _ h (Nat.le_refl _) hN x y, fun hc => ?_⟩
  · by_cases hc : spC n N m P x y = 0
    · have h := hc
      unfold spC at h
      split at h
      · next h2 =>
        obtain ⟨hB, X0, Y0, rfl, hX, rfl, hY⟩ := spC_zero h2
        cases hv : vhas (vis n P m ((X0 : Nat) : Int)) ((Y0 : Nat) : Int)
        · rw [hv] at h; cases h
        · have := (vis_ok (P := P) (m := m) (x := ((X0 : Nat) : Int)) hB ⟨Int.natCast_nonneg _, by omega⟩).plen hB hv
          unfold spN
          rw [if_pos hc]
          unfold spL
          omega
      · next h2 => exact absurd h h2
    · unfold spN
      rw [if_neg hc]
      omega
  have hz : codeB (netB n N m P) (inR x 0 (n - 1) && inR y 0 (n - 1)) = 0 ∧ vhas (vis n P m x) y = true := by
    have h := hc
    unfold spC at h
    split at h
    · next h1 =>
      refine ⟨h1, ?_⟩
      split at h
      · assumption
      · cases h
    · next h1 => exact absurd h h1
  have hrn : spN n N m P x y = (spL n P m x y).length := if_pos hc
  obtain ⟨hB, X0, Y0, rfl, hX, rfl, hY⟩ := spC_zero hz.1
  have hxr : 0 ≤ ((X0 : Nat) : Int) ∧ ((X0 : Nat) : Int) ≤ (n : Int) - 1 := ⟨Int.natCast_nonneg _, by omega⟩
  have ok := vis_ok (P := P) (m := m) hB hxr
  have hcx : ndC n N m P ((X0 : Nat) : Int) = 0 := by unfold ndC; rw [hB, inR_iff.2 hxr]; rfl
  have hnn : ndN n N m P ((X0 : Nat) : Int) = n := if_pos hcx
  rw [hrn]
  refine ⟨fun k => anc P (vis n P m ((X0 : Nat) : Int)) ((Y0 : Nat) : Int) ((spL n P m ((X0 : Nat) : Int) ((Y0 : Nat) : Int)).length - k), n, fun k => vval (·.en) (vis n P m ((X0 : Nat) : Int)) ((k : Nat) : Int), hn, ?_, ?_, fun k hk w v h => ?_, fun w v h => ?_, fun w v h => ?_⟩
  · show anc P _ _ (_ - 0) = _
    rw [Nat.sub_zero]
    exact ok.anc_end hB hz.2
  · show anc P _ _ (_ - _) = _
    rw [Nat.sub_self]
    rfl
  · obtain ⟨a, Z, h1, ha, h2, hZ, he, ho⟩ := sp_walk hB hxr hz.2 hk
    have := otherEndI_any w v n N m P 0 _ h (Nat.le_refl _) hN ((a : Nat) : Int) ((Z : Nat) : Int)
    have hcode : oeC n N m P ((a : Nat) : Int) ((Z : Nat) : Int) = 0 := by
      unfold oeC
      rw [hB, inR_iff.2 ⟨Int.natCast_nonneg _, by omega⟩, inR_iff.2 ⟨Int.natCast_nonneg _, by omega⟩, if_pos (by rfl), if_pos (by simpa using he)]
    have hval : oeV n N m P ((a : Nat) : Int) ((Z : Nat) : Int) = othV (P a) (Z : Int) := by
      unfold oeV
      rw [if_pos hcode, Int.toNat_natCast]
    rw [hcode, hval, ho] at this
    dsimp only
    rw [h1, h2]
    exact this
  · have := entriesFromI_any w v n N m P 0 _ h (Nat.le_refl _) hN ((X0 : Nat) : Int)
    rw [hcx, hnn] at this
    exact this
  · have := entriesFromS_any w v n N m P 0 _ h (Nat.le_refl _) hN ((X0 : Nat) : Int)
    rw [hcx, hnn] at this
    exact this

set_option maxRecDepth 100000 in
set_option maxHeartbeats 20000000 in
theorem walk (v : Value) (w : World) (hc : CodeArg w v) :
    Calls Try.prog 13 #[v] w fun e w' => e = .returned (.bool true) ∧ Below w.heap.size w w' := by
  obtain ⟨p, len, cap, rfl, hlen, hcode⟩ := hc
  by_cases h4 : (4096 : Int) < len
  · clear hcode
    go_enter Try.func13, Try.ntmps13
    go_wp2_with (go_at_call 41; refine (draw.big_any _ _ _ _).mono ?_; rintro e w' ⟨rfl, rfl⟩)
    go_ret
    exact ⟨rfl, Below.refl _ _⟩
  have hc := hcode (by omega)
  clear hcode
  go_enter Try.func13, Try.ntmps13
  go_wp2_with (go_at_call 41; refine (draw.big_any _ _ _ _).mono ?_; rintro e w' ⟨rfl, rfl⟩)
  refine (draw.drawShortestPath w _ len hc).mono ?_
  rintro e w1 ⟨v, n, m, N, P, b1, b2, x, y, rfl, hn, hm, hnm, o1, l1, l2, C1⟩
  obtain ⟨rn, rd, rc, hrn, ti, ts, hz⟩ := pathFacts n N m P x y hnm hn hm
  have TI := Lib.hid ti
  have TS := Lib.hid ts
  have HZ := Lib.hid hz
  clear ti ts hz
  clear hc
  have hb2 : (rc != rc) = false := by simp
  have lxx := o1.lts
  obtain ⟨sx1, sx2, sx3, sx4, rfl⟩ := o1.shape
  go_wp2_with fail
  have bb := mem.below_new w1 (.cells #[.slice sx1 n sx2, .slice sx3 m sx4] 30)
  have B_x := boxed w1 (.slice sx1 n sx2) (.slice sx3 m sx4) 30
  have hs2 := bb.size
  have C2 := belowNext C1 bb
  have x2 := o1.next bb
  clear bb C1 o1
  generalize hW2 : w1.alloc (Obj.cells #[.slice sx1 n sx2, .slice sx3 m sx4] 30) = w2 at *
  clear hW2
  have Bx2 := B_x
  clear B_x
  have lBx := Bx2.lt
  refine (TI.out _ _ x2.net).mono ?_
  rintro e w3 ⟨xA, gA, rfl, oA, lA, bb⟩
  have hs3 := bb.size
  have C3 := belowNext C2 bb
  have x3 := x2.next bb
  have Bx3 := Bx2.next bb
  clear bb C2 x2 Bx2
  have lxA := oA.lt
  obtain ⟨sA1, sA2, rfl⟩ := oA.shape
  have qBx0 := Bx3.b0
  have qBx1 := Bx3.b1
  have qBx2 := Bx3.lt
  go_wp2_with fail
  refine (TS.out _ _ x3.net).mono ?_
  rintro e w4 ⟨xB, gB, rfl, oB, lB, bb⟩
  have hs4 := bb.size
  have C4 := belowNext C3 bb
  have x4 := x3.next bb
  have Bx4 := Bx3.next bb
  have A4 := oA.next bb
  clear qBx0 qBx1 qBx2
  clear bb C3 x3 Bx3 oA
  have lxB := oB.lt
  obtain ⟨sB1, sB2, rfl⟩ := oB.shape
  have qBx0 := Bx4.b0
  have qBx1 := Bx4.b1
  have qBx2 := Bx4.lt
  go_wp2_with fail
  refine (likeInts_any _ _ _ rn rd 0 w4.heap.size 0 w4.heap.size (A4.cs (.inr rfl) (Nat.le_refl _)) (oB.cs (.inr rfl) (Nat.le_refl _))).mono ?_
  rintro e w5 ⟨rfl, bb⟩
  have hs5 := bb.size
  have C5 := belowNext C4 bb
  have x5 := x4.next bb
  have Bx5 := Bx4.next bb
  have A5 := A4.next bb
  have B5 := oB.next bb
  clear qBx0 qBx1 qBx2
  clear bb C4 x4 Bx4 A4 oB
  clear B5
  by_cases hrc : rc = 0
  · subst hrc
    obtain ⟨nd, en, ed, hen, e0, e1, q1, q2, q3⟩ := HZ.out rfl
    have E0 := Lib.hid e0
    have E1 := Lib.hid e1
    have Q1 := Lib.hid q1
    have Q2 := Lib.hid q2
    have Q3 := Lib.hid q3
    clear e0 e1 q1 q2 q3
    clear HZ
    have qBx0 := Bx5.b0
    have qBx1 := Bx5.b1
    have qBx2 := Bx5.lt
    go_wp2_with fail
    clear qBx0 qBx1 qBx2
    go_loopw [11, 10] (fun i a wr => ∃ k : Nat, i = .int .i64 k ∧ a = .int .i64 (nd k) ∧ k ≤ rn ∧ Below w5.heap.size w5 wr) (fun i _ _ => rn - (intOf i).toNat)
    case atStart => exact ⟨0, rfl, by rw [E0.out], Nat.zero_le _, Below.refl _ _⟩
    case round =>
      obtain ⟨k, rfl, rfl, hk, bb⟩ := hrel
      obtain ⟨w6, hwb⟩ : ∃ w', w' = wr := ⟨_, rfl⟩
      subst hwb
      have CL := bb
      have hs6 := bb.size
      have C6 := belowNext C5 bb
      have x6 := x5.next bb
      have Bx6 := Bx5.next bb
      have A6 := A5.next bb
      clear bb C5 x5 Bx5 A5
      by_cases hlt : k < rn
      · have hkI : (k : Int) < rn := by omega
        obtain ⟨rfl, hgA, hq⟩ := own_at A6 hlt
        have qBx0 := Bx6.b0
        have qBx1 := Bx6.b1
        have qBx2 := Bx6.lt
        go_wp2_with fail
        have hAny : ∀ X : World, Below w6.heap.size w6 X → (fun w' => w'.cell? ⟨w1.heap.size, 0, none⟩ = some (.slice sx1 n sx2) ∧ w'.cell? ⟨w1.heap.size, 1, none⟩ = some (.slice sx3 m sx4) ∧ w'.cell? ⟨gA, k, none⟩ = some (.int .i64 (rd k))) X := fun X h => ⟨(Bx6.below h Bx6.lt).b0, (Bx6.below h Bx6.lt).b1, (h.cell (p := ⟨gA, k, none⟩) hgA).trans hq⟩
        have K0 : Below w6.heap.size w6 w6.drew := ⟨rfl, rfl, rfl, Nat.le_refl _, fun _ _ => rfl⟩
        go_region_held3 (fun w' => w'.cell? ⟨w1.heap.size, 0, none⟩ = some (.slice sx1 n sx2) ∧ w'.cell? ⟨w1.heap.size, 1, none⟩ = some (.slice sx3 m sx4) ∧ w'.cell? ⟨gA, k, none⟩ = some (.int .i64 (rd k))) (first | exact hAny _ K0 | exact hAny _ KX)
          (first | (go_at_call 48; refine (Q1.out k hlt _ _ (x6.below K0 (Nat.le_refl _)).net).mono ?_; rintro e wx ⟨rfl, ba⟩; have KX : Below w6.heap.size w6 wx := K0.trans (ba.mono (Nat.le_refl _))))
        obtain ⟨w7, hwb⟩ : ∃ w', w' = wx := ⟨_, rfl⟩
        subst hwb
        have bb := KX
        clear hAny K0 KX ba hq hgA
        have hs7 := bb.size
        have C7 := belowNext C6 bb
        have x7 := x6.next bb
        have Bx7 := Bx6.next bb
        have A7 := A6.next bb
        have L7 := belowNext CL bb
        clear qBx0 qBx1 qBx2
        clear bb C6 x6 Bx6 A6 CL
        have qBx0 := Bx7.b0
        have qBx1 := Bx7.b1
        have qBx2 := Bx7.lt
        go_wp2_with fail
        go_roundw
        case rel => exact ⟨k + 1, by go_num, rfl, hlt, L7⟩
        case measure => simp [intOf]; omega
      · obtain rfl : k = rn := by omega
        have hyy : (nd k == y) = true := by rw [E1.out]; simp
        have qBx0 := Bx6.b0
        have qBx1 := Bx6.b1
        have qBx2 := Bx6.lt
        go_wp2_with fail
        refine (Q2.out _ _ x6.net).mono ?_
        rintro e w7 ⟨xD, gD, rfl, oD, lD, bb⟩
        have hs7 := bb.size
        have C7 := belowNext C6 bb
        have x7 := x6.next bb
        have Bx7 := Bx6.next bb
        have A7 := A6.next bb
        have L7 := belowNext CL bb
        clear qBx0 qBx1 qBx2
        clear bb C6 x6 Bx6 A6 CL
        have lxD := oD.lt
        obtain ⟨sD1, sD2, rfl⟩ := oD.shape
        have qBx0 := Bx7.b0
        have qBx1 := Bx7.b1
        have qBx2 := Bx7.lt
        go_wp2_with fail
        refine (Q3.out _ _ x7.net).mono ?_
        rintro e w8 ⟨xE, gE, rfl, oE, lE, bb⟩
        have hs8 := bb.size
        have C8 := belowNext C7 bb
        have x8 := x7.next bb
        have Bx8 := Bx7.next bb
        have A8 := A7.next bb
        have L8 := belowNext L7 bb
        have D8 := oD.next bb
        clear qBx0 qBx1 qBx2
        clear bb C7 x7 Bx7 A7 L7 oD
        have lxE := oE.lt
        obtain ⟨sE1, sE2, rfl⟩ := oE.shape
        have qBx0 := Bx8.b0
        have qBx1 := Bx8.b1
        have qBx2 := Bx8.lt
        go_wp2_with fail
        refine (likeInts_any _ _ _ en ed 0 w8.heap.size 0 w8.heap.size (D8.cs (.inr rfl) (Nat.le_refl _)) (oE.cs (.inr rfl) (Nat.le_refl _))).mono ?_
        rintro e w9 ⟨rfl, bb⟩
        have hs9 := bb.size
        have C9 := belowNext C8 bb
        have x9 := x8.next bb
        have Bx9 := Bx8.next bb
        have A9 := A8.next bb
        have L9 := belowNext L8 bb
        have D9 := D8.next bb
        have E9 := oE.next bb
        clear qBx0 qBx1 qBx2
        clear bb C8 x8 Bx8 A8 L8 D8 oE
        have qBx0 := Bx9.b0
        have qBx1 := Bx9.b1
        have qBx2 := Bx9.lt
        go_wp2_with fail
        go_ret
        exact ⟨rfl, C9⟩
  · have hrc' : (rc != 0) = true := by simpa using hrc
    have qBx0 := Bx5.b0
    have qBx1 := Bx5.b1
    have qBx2 := Bx5.lt
    go_wp2_with fail
    go_ret
    exact ⟨rfl, C5⟩

set_option maxRecDepth 100000 in
theorem lifted (os : Os) (started : os.Started) (H : Type) (enc : TypeId × Value → H) :
    ReturnsInHanded {} Try.checked os 13 .any (Rows.fnShortestPathsSpec.pre6 enc Try.prog Try.f13 Rows.fnShortestPathsRow.domain false) (Rows.fnShortestPathsSpec.post enc Try.prog Try.f13 false true false false) := by
  refine returnsInHanded_of_change (C := Try.checked) own started (by kernel_rfl) Try.func13
    (ChangeSpec.witness6 (enc := enc) (C := Try.checked) false ⟨#[], #[.slice none 0 0], []⟩ 8 (by kernel_rfl) (by kernel_rfl) (by kernel_rfl) (by kernel_rfl)) ?_
  intro W base args ds gs before hval0 hW hcnd _
  have hval : ∀ (j : Nat) t v, Try.f13.params[j]? = some t → args[j]? = some v → Value.okWide Try.prog W .any base t v := hval0
  have hW' := hW
  obtain ⟨p, q, hA0, hV, rfl, hfz, hnd⟩ := hW
  have hA : DataW.TrodAll enc Try.prog W 0 (fun _ => true) true Try.f13.params.toList args.toList ds p := hA0
  rw [Try.params13] at hA hval
  obtain ⟨v0, vs0, d0, ds0, p0, q0, hargs, rfl, rfl, h0, r0⟩ := trodAll_cons hA
  obtain ⟨rfl, rfl, rfl⟩ := trodAll_nil r0
  obtain rfl : args = #[v0] := by cases args; simp_all
  obtain ⟨rfl, rfl⟩ := trodVars_none hV
  have hc := open_code (hval 0 47 v0 rfl rfl) h0
  refine (walk v0 W hc).mono fun e W' ⟨he, hg⟩ => ?_
  subst he
  exact ⟨_, rfl, law.law_post hW' hg laidOut (by kernel_rfl) rfl rfl (by kernel_rfl) Try.underlying4⟩

theorem over : Rows.fnShortestPathsRow.holds Try.pinned (OpenSpec.ofChange Rows.fnShortestPathsSpec) :=
  OpenClaim.holds_of_wide 13 Try.f13 rfl rfl rfl rfl rfl rfl rfl ⟨rfl, rfl, rfl, rfl, rfl⟩ rfl rfl rfl rfl rfl (by kernel_rfl) Try.func13 (by kernel_rfl)
    (of_decide_eq_true (by kernel_rfl)) (by unfold Func.isWrapper; first | (rw [if_pos (by decide +kernel)]; kernel_rfl) | (rw [if_neg (by decide +kernel)]; exact ⟨rfl, rfl⟩))
    (fun os started H enc _ => lifted os started H enc)

theorem proved : Rows.FnShortestPathsSaid :=
  over
#print axioms proved
end Go.Proofs.Ytjjjdahegcjmaaa.fnShortestPaths
