/-
  FnSplits returns true at every slice of bytes, and leaves it as it was. No condition.
-/
import Derived.Test.YtpgindeoiibgpaaRows
import Derived.Test.YtpgindeoiibgpaaLaw
import Derived.Test.YtpgindeoiibgpaaCode
import Derived.Test.YtpgindeoiibgpaaRsa
import Derived.Test.YtpgindeoiibgpaaRdw
import Derived.WalkKit
import Derived.ProofKit
import Derived.OpenShut
import Derived.Lib.Hide
import Derived.Deep.QuietTactic
import Derived.BigQuiet
import Derived.OwnWalk
import Derived.Outline
import Derived.Deep.RegionHeld3
import Derived.Deep.RegionHeldLaw
import Derived.IntWalk
namespace Go.Proofs.Ytpgindeoiibgpaa.fnSplits
open Go.ChangeShapes Go.WideShapes Go.ChangeAt Go.RowKit Go.Proofs.Ytpgindeoiibgpaa.draw Go.Proofs.Ytpgindeoiibgpaa.mem Go.Proofs.Ytpgindeoiibgpaa.num Go.Proofs.Ytpgindeoiibgpaa.share Go.Proofs.Ytpgindeoiibgpaa.rst
set_option linter.unusedVariables false

theorem own : ownKnob Try.prog.godebug = none := by kernel_rfl
theorem laidOut : laidOutB Try.prog = true := by kernel_rfl

set_option maxRecDepth 100000 in
set_option maxHeartbeats 20000000 in
theorem walk (v : Value) (w : World) (hc : CodeArg w v) :
    Calls Try.prog 4 #[v] w fun e w' => e = .returned (.bool true) ∧ Below w.heap.size w w' := by
  obtain ⟨p, len, cap, rfl, hlen, hcode⟩ := hc
  by_cases h4 : (4096 : Int) < len
  · clear hcode
    go_enter Try.func4, Try.ntmps4
    go_wp2_with (go_at_call 12; refine (draw.big_any _ _ _ _).mono ?_; rintro e w' ⟨rfl, rfl⟩)
    go_ret
    exact ⟨rfl, Below.refl _ _⟩
  have hc := hcode (by omega)
  clear hcode
  go_enter Try.func4, Try.ntmps4
  go_wp2_with (go_at_call 12; refine (draw.big_any _ _ _ _).mono ?_; rintro e w' ⟨rfl, rfl⟩)
  refine (draw.splitDraw w _ len hc).mono ?_
  rintro e w1 ⟨vR, f, n, d, g, rfl, hn, R1, lg, hf0, hf1, C1⟩
  clear hc
  obtain ⟨pR, cR, rfl⟩ := R1.shape
  obtain ⟨r, hr⟩ := rst.drop_ex n d f
  have HR := Lib.hid hr
  clear hr
  generalize hcd : rst.dropC n d f = c
  have HCD := Lib.hid hcd
  clear hcd
  have hb1 : (r != r) = false := by simp
  have hb2 : (c != c) = false := by simp
  generalize hNN : (if rst.dropC n d f = 0 then n else 0) = nn
  have hn64 : nn ≤ 64 := by rw [← hNN]; exact rst.split_n n d f
  have HN := Lib.hid hNN
  clear hNN
  go_wp2_with fail
  refine (rst.SplitFlow_any _ _ n d _ _ f r R1.sl (by omega) (Nat.le_refl _) HR.out).mono ?_
  rintro e w2 ⟨vA, bA, rfl, bb, lA, A1⟩
  rw [HCD.out]
  rw [HN.out] at A1
  have hs2 := bb.size
  have C2 := belowNext C1 bb
  have R2 := R1.next bb
  clear bb C1 R1
  obtain ⟨pA, cA, rfl⟩ := A1.shape
  go_wp2_with fail
  refine (rst.sSplitFlow_any _ _ n d _ _ f r R2.sl (by omega) (Nat.le_refl _) HR.out).mono ?_
  rintro e w3 ⟨vB, bB, rfl, bb, lB, B1⟩
  rw [HCD.out]
  rw [HN.out] at B1
  have hs3 := bb.size
  have C3 := belowNext C2 bb
  have R3 := R2.next bb
  have A3 := A1.next bb
  clear bb C2 R2 A1
  obtain ⟨pB, cB, rfl⟩ := B1.shape
  go_wp2_with fail
  refine (likeInts_sl _ _ _ nn (rst.pts d n f r) _ _ _ _ A3.sl B1.sl (by omega)).mono ?_
  rintro e w4 ⟨rfl, bb⟩
  have hs4 := bb.size
  have C4 := belowNext C3 bb
  have R4 := R3.next bb
  have A4 := A3.next bb
  have B4 := B1.next bb
  clear bb C3 R3 A3 B1
  clear B4
  by_cases hrc : c = 0
  · subst hrc
    obtain rfl : n = nn := by rw [← HN.out]; exact (if_pos HCD.out).symm
    obtain ⟨n0, n8, hRe, ⟨f0, f1⟩, hI⟩ := rst.dropC_facts HCD.out HR.out
    have r0 := hI.ge
    have r1 := hI.le
    obtain ⟨y1, y2⟩ := rst.pts_facts hRe n0 ⟨f0, f1⟩ hI
    have hbd := rst.fls_bd hRe r0 (show r ≤ 1000000000000000000 by omega)
    have SA := Lib.hid (sums_of (d := rst.pts d n f r) (n := n) (fun k hk => by have := y2 k hk; have := hbd k hk; omega) (by omega))
    have htt : (tot (rst.pts d n f r) n == f) = true := by simp [y1]
    have Y2 := Lib.hid y2
    have RE := Lib.hid hRe
    have HBD := Lib.hid hbd
    clear hRe hI y1 y2 hbd
    go_wp2_with fail
    refine (rst.DropFor_any _ _ n d _ _ f r R4.sl (by omega) (Nat.le_refl _) HR.out).mono ?_
    rintro e w5 ⟨rfl, bb⟩
    rw [HCD.out]
    have hs5 := bb.size
    have C5 := belowNext C4 bb
    have R5 := R4.next bb
    have A5 := A4.next bb
    clear bb C4 R4 A4
    obtain ⟨rfl, rowA, ltA⟩ := A5.own n0
    obtain ⟨rfl, rowR, ltR⟩ := R5.own n0
    have RA := Lib.hid rowA
    have RR := Lib.hid rowR
    clear rowA rowR
    go_wp2_with fail
    go_loopw [11] (fun i wr => ∃ k : Nat, i = .int .i64 k ∧ k ≤ n ∧ Below w5.heap.size w5 wr) (fun i _ => n - (intOf i).toNat)
    case atStart => exact ⟨0, rfl, Nat.zero_le _, Below.refl _ _⟩
    case round =>
      obtain ⟨k, rfl, hk, hw⟩ := hrel
      have HWR := Lib.hid hw
      have hws := hw.size
      by_cases hlt : k < n
      · have hkI : (k : Int) < n := by omega
        have c1 : wr.cell? ⟨bA, k, none⟩ = some (.int .i64 (rst.pts d n f r k)) := (RA.out.below hw ltA).cell k hlt
        have c2 : wr.cell? ⟨g, k, none⟩ = some (.int .i64 (d k)) := (RR.out.below hw ltR).cell k hlt
        obtain ⟨p0, p1, p2⟩ := Y2.out k hlt
        have hdk := RE.out k hlt
        have hbk := HBD.out k hlt
        have hxx : rst.fls d r k = rst.flw (d k) r := rfl
        rw [hxx] at p1 p2 hbk
        clear hxx
        have FV := Lib.hid (rst.flow_yes (k := d k) (x := r) hdk ⟨r0, by omega⟩)
        clear hw
        go_wp2_with fail
        refine (rst.FlowFor_any _ _ _).mono ?_
        rintro e w2 ⟨rfl, bb⟩
        rw [← FV.out.1, ← FV.out.2]
        have hs2 := bb.size
        have c3 := (bb.cell (p := ⟨bA, k, none⟩) (by show bA < _; omega)).trans c1
        have HW2 := Lib.hid (HWR.out.trans (bb.mono hws))
        clear bb c1 c2
        go_wp2_with fail
        go_roundw
        case rel => exact ⟨k + 1, by go_num, hlt, HW2.out⟩
        case measure => simp [intOf]; omega
      · obtain rfl : n = k := by omega
        have hkI : ¬ ((n : Int) < n) := by omega
        have hA : Hid (Res wr (.slice (some ⟨bA, 0, none⟩) n cA) n (rst.pts d n f r) bA) := Lib.hid (A5.below hw (Nat.le_refl _))
        clear hw
        go_wp2_with fail
        refine (sumL_any _ _ n (rst.pts d n f r) _ _ hA.out.sl SA.out (by omega)).mono ?_
        rintro e w' ⟨rfl, hww⟩
        subst hww
        go_wp2_with fail
        go_ret
        exact ⟨rfl, C5.trans (HWR.out.mono C5.size)⟩
  · have hrc' : (c != 0) = true := by simpa using hrc
    go_wp2_with fail
    go_ret
    exact ⟨rfl, C4⟩

set_option maxRecDepth 100000 in
theorem lifted (os : Os) (started : os.Started) (H : Type) (enc : TypeId × Value → H) :
    ReturnsInHanded {} Try.checked os 4 .any (Rows.fnSplitsSpec.pre6 enc Try.prog Try.f4 Rows.fnSplitsRow.domain false) (Rows.fnSplitsSpec.post enc Try.prog Try.f4 false true false false) := by
  refine returnsInHanded_of_change (C := Try.checked) own started (by kernel_rfl) Try.func4
    (ChangeSpec.witness6 (enc := enc) (C := Try.checked) false ⟨#[], #[.slice none 0 0], []⟩ 8 (by kernel_rfl) (by kernel_rfl) (by kernel_rfl) (by kernel_rfl)) ?_
  intro W base args ds gs before hval0 hW hcnd _
  have hval : ∀ (j : Nat) t v, Try.f4.params[j]? = some t → args[j]? = some v → Value.okWide Try.prog W .any base t v := hval0
  have hW' := hW
  obtain ⟨p, q, hA0, hV, rfl, hfz, hnd⟩ := hW
  have hA : DataW.TrodAll enc Try.prog W 0 (fun _ => true) true Try.f4.params.toList args.toList ds p := hA0
  rw [Try.params4] at hA hval
  obtain ⟨v0, vs0, d0, ds0, p0, q0, hargs, rfl, rfl, h0, r0⟩ := trodAll_cons hA
  obtain ⟨rfl, rfl, rfl⟩ := trodAll_nil r0
  obtain rfl : args = #[v0] := by cases args; simp_all
  obtain ⟨rfl, rfl⟩ := trodVars_none hV
  have hc := open_code (hval 0 22 v0 rfl rfl) h0
  refine (walk v0 W hc).mono fun e W' ⟨he, hg⟩ => ?_
  subst he
  exact ⟨_, rfl, law.law_post hW' hg laidOut (by kernel_rfl) rfl rfl (by kernel_rfl) Try.underlying4⟩

theorem over : Rows.fnSplitsRow.holds Try.pinned (OpenSpec.ofChange Rows.fnSplitsSpec) :=
  OpenClaim.holds_of_wide 4 Try.f4 rfl rfl rfl rfl rfl rfl rfl ⟨rfl, rfl, rfl, rfl, rfl⟩ rfl rfl rfl rfl rfl (by kernel_rfl) Try.func4 (by kernel_rfl)
    (of_decide_eq_true (by kernel_rfl)) (by unfold Func.isWrapper; first | (rw [if_pos (by decide +kernel)]; kernel_rfl) | (rw [if_neg (by decide +kernel)]; exact ⟨rfl, rfl⟩))
    (fun os started H enc _ => lifted os started H enc)

theorem proved : Rows.FnSplitsSaid :=
  over
#print axioms proved
end Go.Proofs.Ytpgindeoiibgpaa.fnSplits
