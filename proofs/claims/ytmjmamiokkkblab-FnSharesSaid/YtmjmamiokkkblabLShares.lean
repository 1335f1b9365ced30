/-
  FnShares returns true at every slice of bytes, and leaves it as it was. No condition.
-/
import Derived.Test.YtmjmamiokkkblabRows
import Derived.Test.YtmjmamiokkkblabLaw
import Derived.Test.YtmjmamiokkkblabCode
import Derived.Test.YtmjmamiokkkblabShF
import Derived.Test.YtmjmamiokkkblabDrS
import Derived.WalkKit
import Derived.ProofKit
import Derived.OpenShut
import Derived.Lib.Hide
import Derived.Deep.QuietTactic
import Derived.BigQuiet
import Derived.OwnWalk
import Derived.Outline
import Derived.Deep.RegionHeld3
import Derived.Deep.RegionHeldLaw
import Derived.IntWalk
namespace Go.Proofs.Ytmjmamiokkkblab.fnShares
open Go.ChangeShapes Go.WideShapes Go.ChangeAt Go.RowKit Go.Proofs.Ytmjmamiokkkblab.draw Go.Proofs.Ytmjmamiokkkblab.mem Go.Proofs.Ytmjmamiokkkblab.share
set_option linter.unusedVariables false

theorem own : ownKnob Try.prog.godebug = none := by kernel_rfl
theorem laidOut : laidOutB Try.prog = true := by kernel_rfl

set_option maxRecDepth 100000 in
set_option maxHeartbeats 20000000 in
theorem walk (v : Value) (w : World) (hc : CodeArg w v) :
    Calls Try.prog 3 #[v] w fun e w' => e = .returned (.bool true) ∧ Below w.heap.size w w' := by
  obtain ⟨p, len, cap, rfl, hlen, hcode⟩ := hc
  by_cases h4 : (4096 : Int) < len
  · clear hcode
    go_enter Try.func3, Try.ntmps3
    go_wp2_with (go_at_call 5; refine (draw.big_any _ _ _ _).mono ?_; rintro e w' ⟨rfl, rfl⟩)
    go_ret
    exact ⟨rfl, Below.refl _ _⟩
  have hc := hcode (by omega)
  clear hcode
  go_enter Try.func3, Try.ntmps3
  go_wp2_with (go_at_call 5; refine (draw.big_any _ _ _ _).mono ?_; rintro e w' ⟨rfl, rfl⟩)
  refine (draw.sharesDraw w _ len hc).mono ?_
  rintro e w1 ⟨vR, T, n, d, g, rfl, hn, R1, lg, C1⟩
  clear hc
  obtain ⟨pR, cR, rfl⟩ := R1.shape
  generalize hNN : NN T n d = nn
  generalize hcd : code T n d = c
  have hn64 : nn ≤ 64 := by rw [← hNN]; exact NN_le T n d
  have HN := Lib.hid hNN
  have HCD := Lib.hid hcd
  clear hNN hcd
  have hb2 : (c != c) = false := by simp
  go_wp2_with fail
  refine (shares_any _ _ T n d _ _ R1.sl (Nat.le_refl _) (by omega)).mono ?_
  rintro e w2 hp
  obtain ⟨vA, bA, rfl, bb, lA, A1⟩ := hp.res' HN.out HCD.out
  clear hp
  have hs2 := bb.size
  have C2 := belowNext C1 bb
  have R2 := R1.next bb
  clear bb C1 R1
  obtain ⟨pA, cA, rfl⟩ := A1.shape
  go_wp2_with fail
  refine (shares_spec _ _ T n d _ _ R2.sl (Nat.le_refl _) (by omega)).mono ?_
  rintro e w3 hp
  obtain ⟨vB, bB, rfl, bb, lB, B1⟩ := hp.res' HN.out HCD.out
  clear hp
  have hs3 := bb.size
  have C3 := belowNext C2 bb
  have R3 := R2.next bb
  have A3 := A1.next bb
  clear bb C2 R2 A1
  obtain ⟨pB, cB, rfl⟩ := B1.shape
  go_wp2_with fail
  refine (likeInts_sl _ _ _ nn (shr T d n) _ _ _ _ A3.sl B1.sl (by omega)).mono ?_
  rintro e w4 ⟨rfl, bb⟩
  have hs4 := bb.size
  have C4 := belowNext C3 bb
  have R4 := R3.next bb
  have A4 := A3.next bb
  have B4 := B1.next bb
  clear bb C3 R3 A3 B1
  clear B4
  by_cases hrc : c = 0
  · subst hrc
    have hz := HCD.out
    obtain rfl : n = nn := by rw [← HN.out]; exact (if_pos hz).symm
    obtain ⟨z1, z2, z3, z4, z5, z6, z7⟩ := code_facts hz
    obtain ⟨y1, y2⟩ := shr_facts hz
    have Y2 := Lib.hid y2
    have Z5 := Lib.hid z5
    have SR := Lib.hid (sums_of z5 (by omega))
    have SA := Lib.hid (sums_of (fun k hk => (y2 k hk).1) (by omega))
    have hle := Lib.hid (fun k hk => (le_tot (fun j hj => (z5 j hj).1) n (Nat.le_refl _)).2 k hk : ∀ k, k < n → d k ≤ tot d n)
    clear y2 z5 HN HCD hz
    obtain ⟨rfl, rowA, ltA⟩ := A4.own z1
    obtain ⟨rfl, rowR, ltR⟩ := R4.own z1
    have RA := Lib.hid rowA
    have RR := Lib.hid rowR
    clear rowA rowR
    have htt : (tot (shr T d n) n == T) = true := by simp [y1]
    clear y1
    go_wp2_with fail
    refine (sumL_any _ _ n d _ _ R4.sl SR.out (by omega)).mono ?_
    rintro e w' ⟨rfl, hww⟩
    subst hww
    go_wp2_with fail
    go_loopw [10] (fun i wr => ∃ k m : Nat, i = .int .i64 k ∧ k ≤ n ∧ wr = w4.drewN m) (fun i _ => n - (intOf i).toNat)
    case atStart => exact ⟨0, 0, rfl, Nat.zero_le _, rfl⟩
    case round =>
      obtain ⟨k, mm, rfl, hk, hw⟩ := hrel
      have HWR := Lib.hid hw
      by_cases hlt : k < n
      · have hkI : (k : Int) < n := by omega
        have c1 : wr.cell? ⟨bA, k, none⟩ = some (.int .i64 (shr T d n k)) := by rw [hw]; exact (RA.out.drewN mm).cell k hlt
        have c2 : wr.cell? ⟨g, k, none⟩ = some (.int .i64 (d k)) := by rw [hw]; exact (RR.out.drewN mm).cell k hlt
        obtain ⟨⟨s0, s1⟩, ⟨q0, q1⟩, hs0⟩ := Y2.out k hlt
        have hdk := Z5.out k hlt
        have hdt := hle.out k hlt
        clear hw
        by_cases hwh : tot d n < 100000
        · have m1 := num.mul_bd (a := shr T d n k) (b := tot d n) (m := 1000000000) (k := 100000) (by omega) s1 (by omega) (by omega)
          have m2 := num.mul_bd (a := T) (b := d k) (m := 1000000000) (k := 100000) (by omega) (by omega) (by omega) (by omega)
          have m3 := Int.mul_nonneg s0 (show 0 ≤ tot d n by omega)
          have m4 := Int.mul_nonneg z3 hdk.1
          have e1 : IntKind.i64.wrap (shr T d n k * tot d n) = shr T d n k * tot d n := IntWalk.i64_in _ (by omega)
          have e2 : IntKind.i64.wrap (T * d k) = T * d k := IntWalk.i64_in _ (by omega)
          have e3 : IntKind.i64.wrap (shr T d n k * tot d n - T * d k) = shr T d n k * tot d n - T * d k := IntWalk.i64_in _ (by omega)
          have hsz := size_any (shr T d n k * tot d n - T * d k) (by omega) (by omega)
          have hab := absI_lt q0 q1
          have hge : decide (tot d n ≤ absI (shr T d n k * tot d n - T * d k)) = false := by simpa using hab
          have HSZ := Lib.hid hsz
          clear hsz hab m1 m2 m3 m4
          by_cases hd0 : d k = 0
          · have t1 : (d k == 0) = true := by simpa using hd0
            have t2 : (shr T d n k != 0) = false := by simpa using hs0 hd0
            clear hs0 q0 q1 hd0 hdt
            go_wp2_with fail
            go_quiet ((go_at_call 11; exact Calls.quiet_of_same ((HSZ.out _).mono fun e w' h => ⟨h.1, h.2.symm⟩)))
            go_wp2_with fail
            go_roundw
            case rel => exact ⟨k + 1, mm + nq, by go_num, hlt, by rw [HWR.out]; exact (World.drewN_drewN _ _ _)⟩
            case measure => simp [intOf]; omega
          · have t1 : (d k == 0) = false := by simpa using hd0
            clear hs0 q0 q1 hd0 hdt
            go_wp2_with fail
            go_quiet ((go_at_call 11; exact Calls.quiet_of_same ((HSZ.out _).mono fun e w' h => ⟨h.1, h.2.symm⟩)))
            go_wp2_with fail
            go_roundw
            case rel => exact ⟨k + 1, mm + nq, by go_num, hlt, by rw [HWR.out]; exact (World.drewN_drewN _ _ _)⟩
            case measure => simp [intOf]; omega
        · have hwh' : decide (tot d n < 100000) = false := by simpa using hwh
          by_cases hd0 : d k = 0
          · have t1 : (d k == 0) = true := by simpa using hd0
            have t2 : (shr T d n k != 0) = false := by simpa using hs0 hd0
            clear hs0 q0 q1 hd0 hdt
            go_wp2_with fail
            go_quiet (fail)
            go_wp2_with fail
            go_roundw
            case rel => exact ⟨k + 1, mm + nq, by go_num, hlt, by rw [HWR.out]; exact (World.drewN_drewN _ _ _)⟩
            case measure => simp [intOf]; omega
          · have t1 : (d k == 0) = false := by simpa using hd0
            clear hs0 q0 q1 hd0 hdt
            go_wp2_with fail
            go_quiet (fail)
            go_wp2_with fail
            go_roundw
            case rel => exact ⟨k + 1, mm + nq, by go_num, hlt, by rw [HWR.out]; exact (World.drewN_drewN _ _ _)⟩
            case measure => simp [intOf]; omega
      · obtain rfl : k = n := by omega
        clear hw
        have hA : Res wr (.slice (some ⟨bA, 0, none⟩) k cA) k (shr T d k) bA := by rw [HWR.out]; exact A4.drewN mm
        go_wp2_with fail
        refine (sumL_any _ _ k (shr T d k) _ _ hA.sl SA.out (by omega)).mono ?_
        rintro e w' ⟨rfl, hww⟩
        subst hww
        go_wp2_with fail
        go_ret
        exact ⟨rfl, by rw [HWR.out]; exact below_drewN C4 _⟩
  · have hrc' : (c != 0) = true := by simpa using hrc
    go_wp2_with fail
    go_ret
    exact ⟨rfl, C4⟩

set_option maxRecDepth 100000 in
theorem lifted (os : Os) (started : os.Started) (H : Type) (enc : TypeId × Value → H) :
    ReturnsInHanded {} Try.checked os 3 .any (Rows.fnSharesSpec.pre6 enc Try.prog Try.f3 Rows.fnSharesRow.domain false) (Rows.fnSharesSpec.post enc Try.prog Try.f3 false true false false) := by
  refine returnsInHanded_of_change (C := Try.checked) own started (by kernel_rfl) Try.func3
    (ChangeSpec.witness6 (enc := enc) (C := Try.checked) false ⟨#[], #[.slice none 0 0], []⟩ 8 (by kernel_rfl) (by kernel_rfl) (by kernel_rfl) (by kernel_rfl)) ?_
  intro W base args ds gs before hval0 hW hcnd _
  have hval : ∀ (j : Nat) t v, Try.f3.params[j]? = some t → args[j]? = some v → Value.okWide Try.prog W .any base t v := hval0
  have hW' := hW
  obtain ⟨p, q, hA0, hV, rfl, hfz, hnd⟩ := hW
  have hA : DataW.TrodAll enc Try.prog W 0 (fun _ => true) true Try.f3.params.toList args.toList ds p := hA0
  rw [Try.params3] at hA hval
  obtain ⟨v0, vs0, d0, ds0, p0, q0, hargs, rfl, rfl, h0, r0⟩ := trodAll_cons hA
  obtain ⟨rfl, rfl, rfl⟩ := trodAll_nil r0
  obtain rfl : args = #[v0] := by cases args; simp_all
  obtain ⟨rfl, rfl⟩ := trodVars_none hV
  have hc := open_code (hval 0 22 v0 rfl rfl) h0
  refine (walk v0 W hc).mono fun e W' ⟨he, hg⟩ => ?_
  subst he
  exact ⟨_, rfl, law.law_post hW' hg laidOut (by kernel_rfl) rfl rfl (by kernel_rfl) Try.underlying4⟩

theorem over : Rows.fnSharesRow.holds Try.pinned (OpenSpec.ofChange Rows.fnSharesSpec) :=
  OpenClaim.holds_of_wide 3 Try.f3 rfl rfl rfl rfl rfl rfl rfl ⟨rfl, rfl, rfl, rfl, rfl⟩ rfl rfl rfl rfl rfl (by kernel_rfl) Try.func3 (by kernel_rfl)
    (of_decide_eq_true (by kernel_rfl)) (by unfold Func.isWrapper; first | (rw [if_pos (by decide +kernel)]; kernel_rfl) | (rw [if_neg (by decide +kernel)]; exact ⟨rfl, rfl⟩))
    (fun os started H enc _ => lifted os started H enc)

theorem proved : Rows.FnSharesSaid :=
  over
#print axioms proved
end Go.Proofs.Ytmjmamiokkkblab.fnShares
