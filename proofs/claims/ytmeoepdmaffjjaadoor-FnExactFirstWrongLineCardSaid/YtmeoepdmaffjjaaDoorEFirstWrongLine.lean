/-
  The tied card of FnExactFirstWrongLine: it returns true at every argument, and leaves its arguments as they were, where the library's listed variables start as its text lays them. The card ties that to the program's text (a pruned copy of the project).
-/
import Derived.Test.YtmeoepdmaffjjaaDoorCards
import Derived.Test.YtmeoepdmaffjjaaDoorTie
import Derived.Test.YtmeoepdmaffjjaaDoorLaw
import Derived.Test.YtmeoepdmaffjjaaDoorRdM
import Derived.WalkKit
import Derived.ProofKit
import Derived.OpenShut
import Derived.ChangeMaps5
import Derived.Deep.DeepHandedRow
import Derived.Deep.DeepWitnessRowRef
import Derived.Lib.LaidTab
import Derived.LaidLaws
import Derived.LaidSub
import Derived.Stop.LaidErr
import Derived.HandedShaped
import Derived.Shelf.Vars
import Derived.Lib.SmallJoins
import Derived.OwnWalk
import Derived.Lib.Hide
import Derived.Deep.RegionHeld3
namespace Go.Proofs.YtmeoepdmaffjjaaDoor.fnExactFirstWrongLine
open Go.ChangeShapes Go.WideShapes Go.ChangeAt Go.RowKit
set_option linter.unusedVariables false

theorem own : ownKnob Tryd.prog.godebug = none := by kernel_rfl
theorem laidOut : laidOutB Tryd.prog = true := by kernel_rfl

theorem star : "*" ++ "errors.errorString" = "*errors.errorString" := by decide
theorem rowErr (u : TypeId) (h : Tryd.prog.typeName? 3 u = some "*errors.errorString") : u = 128 :=
  typeName_ptr_named (nm := "errors.errorString") (by rw [star]; kernel_rfl) (by kernel_rfl) (by decide) u (by rw [star]; exact h)
theorem env_of {w : World} (hL : laidMetH Tryd.prog Rows.fnExactFirstWrongLineRow.laid w) (hsh : w.ShapedOpen Tryd.prog) : text.Env w := by
  refine ⟨?_, ?_, ?_, ?_⟩
  · have h := laidMetH.filter (fun x => x.1 == "internal/strconv.uint64pow10") hL
    have e : (Rows.fnExactFirstWrongLineRow.laid.filter (fun x => x.1 == "internal/strconv.uint64pow10")) = [("internal/strconv.uint64pow10", Lib.tabData .u64 Lib.pow10Tab)] := by kernel_rfl
    rw [e] at h
    exact Lib.tabIs_of_head (rest := []) (g := 5) (t := 123) (e := 100) (n := 20) (by kernel_rfl) (by kernel_rfl) Tryd.underlying123 Tryd.underlying100 (by kernel_rfl) (by kernel_rfl) h
  · exact Go.Proofs.cell_of_shapedOpen_int (zero := #[.int .i64 0]) (t := 3) hsh (of_decide_eq_true (by kernel_rfl)) (by kernel_rfl) rfl (by kernel_rfl) (by kernel_rfl) Tryd.underlying3
  · have h := laidMetH.filter (fun x => x.1 == "strconv.ErrSyntax") hL
    have e : (Rows.fnExactFirstWrongLineRow.laid.filter (fun x => x.1 == "strconv.ErrSyntax")) = [("strconv.ErrSyntax", Rows.laid_strconv_ErrSyntax)] := by kernel_rfl
    rw [e] at h
    obtain ⟨a0, s0, hv0, -, -, -⟩ := laid_sentinel h (show Tryd.prog.globalNamed "strconv.ErrSyntax" = some 3 by kernel_rfl) (show (Tryd.prog.globals[3]?).map (·.type) = some 84 by kernel_rfl) Tryd.underlying84 rowErr Tryd.underlying128 Tryd.underlying130 rfl rfl Tryd.underlying9 (by kernel_rfl) (by kernel_rfl)
    exact ⟨_, _, hv0⟩
  · have h := laidMetH.filter (fun x => x.1 == "strconv.ErrRange") hL
    have e : (Rows.fnExactFirstWrongLineRow.laid.filter (fun x => x.1 == "strconv.ErrRange")) = [("strconv.ErrRange", Rows.laid_strconv_ErrRange)] := by kernel_rfl
    rw [e] at h
    obtain ⟨a0, s0, hv0, -, -, -⟩ := laid_sentinel h (show Tryd.prog.globalNamed "strconv.ErrRange" = some 4 by kernel_rfl) (show (Tryd.prog.globals[4]?).map (·.type) = some 84 by kernel_rfl) Tryd.underlying84 rowErr Tryd.underlying128 Tryd.underlying130 rfl rfl Tryd.underlying9 (by kernel_rfl) (by kernel_rfl)
    exact ⟨_, _, hv0⟩

open Go.Proofs.YtmeoepdmaffjjaaDoor.mem Go.Proofs.YtmeoepdmaffjjaaDoor.text in
set_option maxHeartbeats 4000000 in
set_option maxRecDepth 100000 in
theorem walk (s : ByteArray) (w0 : s.size ≤ maxLen) (w : World) (hL : laidMetH Tryd.prog Rows.fnExactFirstWrongLineRow.laid w) (hsh : w.ShapedOpen Tryd.prog) :
    Calls Tryd.prog 3 #[.string s] w fun e w' => e = .returned (.bool true) ∧ Below w.heap.size w w' := by
  have HE := Lib.hid (env_of hL hsh)
  have hs : s.size ≤ 9223372036854775807 := by simpa [maxLen] using w0
  clear hL hsh w0
  by_cases hbig : 1048576 < (s.size : Int)
  · go_enter Tryd.func3, Tryd.ntmps3
    go_wp2_with fail
    go_ret
    exact ⟨rfl, Below.refl _ _⟩
  by_cases h4 : 4000 < s.size
  · go_enter Tryd.func3, Tryd.ntmps3
    go_wp2_with fail
    refine (sFirstWrong_big w s h4).mono ?_
    rintro e w1 ⟨rfl, b1⟩
    have B1 := Lib.hid b1
    clear b1
    go_wp2_with fail
    refine (firstWrong_big w1 s h4).mono ?_
    rintro e w2 ⟨rfl, b2⟩
    have B2 := Lib.hid (B1.out.trans (b2.mono B1.out.size))
    clear b2
    go_wp2_with fail
    go_ret
    exact ⟨rfl, B2.out⟩
  have h4b : s.size ≤ 4000 := by omega
  go_enter Tryd.func3, Tryd.ntmps3
  go_wp2_with fail
  refine (sFirstWrong_any w s h4b).mono ?_
  rintro e w1 ⟨y, rfl, hy, b1⟩
  have B1 := Lib.hid b1
  have HY := Lib.hid hy
  clear b1 hy
  go_wp2_with fail
  refine (firstWrong_any w1 s (env_below HE.out B1.out) h4b).mono ?_
  rintro e w2 ⟨x, rfl, hx, b2⟩
  obtain rfl := fw_eq hx HY.out
  have B2 := Lib.hid (B1.out.trans (b2.mono B1.out.size))
  clear b2 hx HY
  go_wp2_with fail
  go_ret
  exact ⟨rfl, B2.out⟩

noncomputable def low : Nat := (World.holding Tryd.prog default ⟨#[], #[], []⟩).heap.size
/-- a world for the witness: the settled one, with the listed variables as their initialisers lay them -/
noncomputable def laidWorld (os : Os) : World :=
  let w0 := (World.holding Tryd.prog os ⟨#[.cells #[.string ⟨#[118, 97, 108, 117, 101, 32, 111, 117, 116, 32, 111, 102, 32, 114, 97, 110, 103, 101]⟩] 130, .cells #[.string ⟨#[105, 110, 118, 97, 108, 105, 100, 32, 115, 121, 110, 116, 97, 120]⟩] 130], #[], []⟩)
  { w0 with heap := (((((((w0.heap).modify 6 fun
      | .cells _ t frozen => .cells #[.int .u8 0, .int .u8 1, .int .u8 28, .int .u8 2, .int .u8 29, .int .u8 14, .int .u8 24, .int .u8 3, .int .u8 30, .int .u8 22, .int .u8 20, .int .u8 15, .int .u8 25, .int .u8 17, .int .u8 4, .int .u8 8, .int .u8 31, .int .u8 27, .int .u8 13, .int .u8 23, .int .u8 21, .int .u8 19, .int .u8 16, .int .u8 7, .int .u8 26, .int .u8 12, .int .u8 18, .int .u8 6, .int .u8 11, .int .u8 5, .int .u8 10, .int .u8 9] t frozen
      | o => o).modify 7 fun
      | .cells _ t frozen => .cells #[.int .u8 0, .int .u8 1, .int .u8 56, .int .u8 2, .int .u8 57, .int .u8 49, .int .u8 28, .int .u8 3, .int .u8 61, .int .u8 58, .int .u8 42, .int .u8 50, .int .u8 38, .int .u8 29, .int .u8 17, .int .u8 4, .int .u8 62, .int .u8 47, .int .u8 59, .int .u8 36, .int .u8 45, .int .u8 43, .int .u8 51, .int .u8 22, .int .u8 53, .int .u8 39, .int .u8 33, .int .u8 30, .int .u8 24, .int .u8 18, .int .u8 12, .int .u8 5, .int .u8 63, .int .u8 55, .int .u8 48, .int .u8 27, .int .u8 60, .int .u8 41, .int .u8 37, .int .u8 16, .int .u8 46, .int .u8 35, .int .u8 44, .int .u8 21, .int .u8 52, .int .u8 32, .int .u8 23, .int .u8 11, .int .u8 54, .int .u8 26, .int .u8 40, .int .u8 15, .int .u8 34, .int .u8 20, .int .u8 31, .int .u8 10, .int .u8 25, .int .u8 14, .int .u8 19, .int .u8 9, .int .u8 13, .int .u8 8, .int .u8 7, .int .u8 6] t frozen
      | o => o).modify 5 fun
      | .cells _ t frozen => .cells #[.int .u64 1, .int .u64 10, .int .u64 100, .int .u64 1000, .int .u64 10000, .int .u64 100000, .int .u64 1000000, .int .u64 10000000, .int .u64 100000000, .int .u64 1000000000, .int .u64 10000000000, .int .u64 100000000000, .int .u64 1000000000000, .int .u64 10000000000000, .int .u64 100000000000000, .int .u64 1000000000000000, .int .u64 10000000000000000, .int .u64 100000000000000000, .int .u64 1000000000000000000, .int .u64 10000000000000000000] t frozen
      | o => o).modify 2 fun
      | .cells _ t frozen => .cells #[.int .u8 128, .int .u8 191, .int .u8 160, .int .u8 191, .int .u8 128, .int .u8 159, .int .u8 144, .int .u8 191, .int .u8 128, .int .u8 143, .int .u8 0, .int .u8 0, .int .u8 0, .int .u8 0, .int .u8 0, .int .u8 0, .int .u8 0, .int .u8 0, .int .u8 0, .int .u8 0, .int .u8 0, .int .u8 0, .int .u8 0, .int .u8 0, .int .u8 0, .int .u8 0, .int .u8 0, .int .u8 0, .int .u8 0, .int .u8 0, .int .u8 0, .int .u8 0] t frozen
      | o => o).modify 4 fun
      | .cells _ t frozen => .cells #[.iface 128 (.pointer (some ⟨low + 0, 0, none⟩))] t frozen
      | o => o).modify 3 fun
      | .cells _ t frozen => .cells #[.iface 128 (.pointer (some ⟨low + 1, 0, none⟩))] t frozen
      | o => o).modify 1 fun
      | .cells _ t frozen => .cells ((Go.Pinned.utf8FirstZ.map (fun (n : Nat) => (Value.int .u8 (n : Int)))).toArray) t frozen
      | o => o }
theorem laid_met (os : Os) : laidMet Tryd.prog Rows.fnExactFirstWrongLineRow.laid ((laidWorld os).forCall (fun _ _ => 0) ⟨#[], #[.string ⟨#[]⟩], []⟩).memory :=
  laidMet_of_run (ps := [.cell 6 0, .cell 6 1, .cell 6 2, .cell 6 3, .cell 6 4, .cell 6 5, .cell 6 6, .cell 6 7, .cell 6 8, .cell 6 9, .cell 6 10, .cell 6 11, .cell 6 12, .cell 6 13, .cell 6 14, .cell 6 15, .cell 6 16, .cell 6 17, .cell 6 18, .cell 6 19, .cell 6 20, .cell 6 21, .cell 6 22, .cell 6 23, .cell 6 24, .cell 6 25, .cell 6 26, .cell 6 27, .cell 6 28, .cell 6 29, .cell 6 30, .cell 6 31, .cell 7 0, .cell 7 1, .cell 7 2, .cell 7 3, .cell 7 4, .cell 7 5, .cell 7 6, .cell 7 7, .cell 7 8, .cell 7 9, .cell 7 10, .cell 7 11, .cell 7 12, .cell 7 13, .cell 7 14, .cell 7 15, .cell 7 16, .cell 7 17, .cell 7 18, .cell 7 19, .cell 7 20, .cell 7 21, .cell 7 22, .cell 7 23, .cell 7 24, .cell 7 25, .cell 7 26, .cell 7 27, .cell 7 28, .cell 7 29, .cell 7 30, .cell 7 31, .cell 7 32, .cell 7 33, .cell 7 34, .cell 7 35, .cell 7 36, .cell 7 37, .cell 7 38, .cell 7 39, .cell 7 40, .cell 7 41, .cell 7 42, .cell 7 43, .cell 7 44, .cell 7 45, .cell 7 46, .cell 7 47, .cell 7 48, .cell 7 49, .cell 7 50, .cell 7 51, .cell 7 52, .cell 7 53, .cell 7 54, .cell 7 55, .cell 7 56, .cell 7 57, .cell 7 58, .cell 7 59, .cell 7 60, .cell 7 61, .cell 7 62, .cell 7 63, .cell 5 0, .cell 5 1, .cell 5 2, .cell 5 3, .cell 5 4, .cell 5 5, .cell 5 6, .cell 5 7, .cell 5 8, .cell 5 9, .cell 5 10, .cell 5 11, .cell 5 12, .cell 5 13, .cell 5 14, .cell 5 15, .cell 5 16, .cell 5 17, .cell 5 18, .cell 5 19, .cell 2 0, .cell 2 1, .cell 2 2, .cell 2 3, .cell 2 4, .cell 2 5, .cell 2 6, .cell 2 7, .cell 2 8, .cell 2 9, .cell 2 10, .cell 2 11, .cell 2 12, .cell 2 13, .cell 2 14, .cell 2 15, .cell 2 16, .cell 2 17, .cell 2 18, .cell 2 19, .cell 2 20, .cell 2 21, .cell 2 22, .cell 2 23, .cell 2 24, .cell 2 25, .cell 2 26, .cell 2 27, .cell 2 28, .cell 2 29, .cell 2 30, .cell 2 31, .cell 4 0, .cell (low + 0) 0, .cell 3 0, .cell (low + 1) 0, .cell 1 0, .cell 1 1, .cell 1 2, .cell 1 3, .cell 1 4, .cell 1 5, .cell 1 6, .cell 1 7, .cell 1 8, .cell 1 9, .cell 1 10, .cell 1 11, .cell 1 12, .cell 1 13, .cell 1 14, .cell 1 15, .cell 1 16, .cell 1 17, .cell 1 18, .cell 1 19, .cell 1 20, .cell 1 21, .cell 1 22, .cell 1 23, .cell 1 24, .cell 1 25, .cell 1 26, .cell 1 27, .cell 1 28, .cell 1 29, .cell 1 30, .cell 1 31, .cell 1 32, .cell 1 33, .cell 1 34, .cell 1 35, .cell 1 36, .cell 1 37, .cell 1 38, .cell 1 39, .cell 1 40, .cell 1 41, .cell 1 42, .cell 1 43, .cell 1 44, .cell 1 45, .cell 1 46, .cell 1 47, .cell 1 48, .cell 1 49, .cell 1 50, .cell 1 51, .cell 1 52, .cell 1 53, .cell 1 54, .cell 1 55, .cell 1 56, .cell 1 57, .cell 1 58, .cell 1 59, .cell 1 60, .cell 1 61, .cell 1 62, .cell 1 63, .cell 1 64, .cell 1 65, .cell 1 66, .cell 1 67, .cell 1 68, .cell 1 69, .cell 1 70, .cell 1 71, .cell 1 72, .cell 1 73, .cell 1 74, .cell 1 75, .cell 1 76, .cell 1 77, .cell 1 78, .cell 1 79, .cell 1 80, .cell 1 81, .cell 1 82, .cell 1 83, .cell 1 84, .cell 1 85, .cell 1 86, .cell 1 87, .cell 1 88, .cell 1 89, .cell 1 90, .cell 1 91, .cell 1 92, .cell 1 93, .cell 1 94, .cell 1 95, .cell 1 96, .cell 1 97, .cell 1 98, .cell 1 99, .cell 1 100, .cell 1 101, .cell 1 102, .cell 1 103, .cell 1 104, .cell 1 105, .cell 1 106, .cell 1 107, .cell 1 108, .cell 1 109, .cell 1 110, .cell 1 111, .cell 1 112, .cell 1 113, .cell 1 114, .cell 1 115, .cell 1 116, .cell 1 117, .cell 1 118, .cell 1 119, .cell 1 120, .cell 1 121, .cell 1 122, .cell 1 123, .cell 1 124, .cell 1 125, .cell 1 126, .cell 1 127, .cell 1 128, .cell 1 129, .cell 1 130, .cell 1 131, .cell 1 132, .cell 1 133, .cell 1 134, .cell 1 135, .cell 1 136, .cell 1 137, .cell 1 138, .cell 1 139, .cell 1 140, .cell 1 141, .cell 1 142, .cell 1 143, .cell 1 144, .cell 1 145, .cell 1 146, .cell 1 147, .cell 1 148, .cell 1 149, .cell 1 150, .cell 1 151, .cell 1 152, .cell 1 153, .cell 1 154, .cell 1 155, .cell 1 156, .cell 1 157, .cell 1 158, .cell 1 159, .cell 1 160, .cell 1 161, .cell 1 162, .cell 1 163, .cell 1 164, .cell 1 165, .cell 1 166, .cell 1 167, .cell 1 168, .cell 1 169, .cell 1 170, .cell 1 171, .cell 1 172, .cell 1 173, .cell 1 174, .cell 1 175, .cell 1 176, .cell 1 177, .cell 1 178, .cell 1 179, .cell 1 180, .cell 1 181, .cell 1 182, .cell 1 183, .cell 1 184, .cell 1 185, .cell 1 186, .cell 1 187, .cell 1 188, .cell 1 189, .cell 1 190, .cell 1 191, .cell 1 192, .cell 1 193, .cell 1 194, .cell 1 195, .cell 1 196, .cell 1 197, .cell 1 198, .cell 1 199, .cell 1 200, .cell 1 201, .cell 1 202, .cell 1 203, .cell 1 204, .cell 1 205, .cell 1 206, .cell 1 207, .cell 1 208, .cell 1 209, .cell 1 210, .cell 1 211, .cell 1 212, .cell 1 213, .cell 1 214, .cell 1 215, .cell 1 216, .cell 1 217, .cell 1 218, .cell 1 219, .cell 1 220, .cell 1 221, .cell 1 222, .cell 1 223, .cell 1 224, .cell 1 225, .cell 1 226, .cell 1 227, .cell 1 228, .cell 1 229, .cell 1 230, .cell 1 231, .cell 1 232, .cell 1 233, .cell 1 234, .cell 1 235, .cell 1 236, .cell 1 237, .cell 1 238, .cell 1 239, .cell 1 240, .cell 1 241, .cell 1 242, .cell 1 243, .cell 1 244, .cell 1 245, .cell 1 246, .cell 1 247, .cell 1 248, .cell 1 249, .cell 1 250, .cell 1 251, .cell 1 252, .cell 1 253, .cell 1 254, .cell 1 255]) 8 (by kernel_rfl) (by kernel_rfl) (by kernel_rfl)
theorem reads (os : Os) {H : Type} (enc : TypeId × Value → H) : ∃ places, DataW.whole enc Tryd.prog ((laidWorld os).forCall (fun _ _ => 0) ⟨#[], #[.string ⟨#[]⟩], []⟩).memory Tryd.f3.params.toList Rows.fnExactFirstWrongLineSpec.vars false #[.string ⟨#[]⟩].toList 8 = some ([.lit (.string [])], [], places) :=
  ⟨[], by kernel_rfl⟩

set_option maxRecDepth 100000 in
theorem lifted (os : Os) (started : os.Started) (H : Type) (enc : TypeId × Value → H) (F : Stop.Interp) :
    ReturnsInHanded {} Tryd.checked os 3 .any ((OpenSpec.ofChange Rows.fnExactFirstWrongLineSpec).preRow enc Tryd.prog Tryd.f3 Rows.fnExactFirstWrongLineRow.domain false Rows.fnExactFirstWrongLineRow.laid) (((OpenSpec.ofChange Rows.fnExactFirstWrongLineSpec).at F).post enc Tryd.prog Tryd.f3 false true false false) := by
  obtain ⟨places, hx⟩ := reads os enc
  refine returnsInHanded_of_row (C := Tryd.checked) (s := OpenSpec.ofChange Rows.fnExactFirstWrongLineSpec) own started (by kernel_rfl) Tryd.func3
    (witness_row_atRef (enc := enc) (C := Tryd.checked) false (laidWorld os) #[.string ⟨#[]⟩] rfl (by kernel_rfl) (by kernel_rfl) (by kernel_rfl)
      (OpenSpec.preRow_of_cond 8 hx (by kernel_rfl) (fun k hk => by cases hk) (by kernel_rfl) (laid_met os))) ?_
  intro W base args ds gs before hval0 hW h5 h6 h7 hL h9 h10
  have hW' := hW
  obtain ⟨p, q, hA0, hV, rfl, hfz, hnd⟩ := hW
  have hA : DataW.TrodAll enc Tryd.prog W 0 (fun _ => true) true Tryd.f3.params.toList args.toList ds p := hA0
  have hval : ∀ (j : Nat) t v, Tryd.f3.params[j]? = some t → args[j]? = some v → Value.okWide Tryd.prog W .any base t v := hval0
  rw [Tryd.params3] at hA hval
  obtain ⟨v0, vs0, d0, ds0, p0, q0, hargs, rfl, rfl, h0, r0⟩ := trodAll_cons hA
  obtain ⟨rfl, rfl, rfl⟩ := trodAll_nil r0
  obtain rfl : args = #[v0] := by cases args; simp_all
  obtain ⟨rfl, rfl⟩ := trodVars_none hV
  obtain ⟨a0, rfl, rfl, rfl, w0⟩ := Go.ChangeMaps.open_string Tryd.underlying9 (hval 0 9 v0 rfl rfl) h0
  refine (walk a0 w0 W hL h9).mono fun e W' ⟨he, hg⟩ => ?_
  subst he
  exact ⟨_, rfl, law.law_post hW' hg laidOut (by kernel_rfl) rfl rfl (by kernel_rfl) Tryd.underlying4⟩

theorem said : Rows.FnExactFirstWrongLineSaid :=
  OpenClaim.holds_of_cond 3 Tryd.f3 rfl rfl rfl rfl rfl rfl rfl ⟨rfl, rfl, rfl, rfl, rfl⟩ rfl rfl rfl rfl rfl (by kernel_rfl) Tryd.func3 (by kernel_rfl)
    (of_decide_eq_true (by kernel_rfl)) (by unfold Func.isWrapper; first | (rw [if_pos (by decide +kernel)]; kernel_rfl) | (rw [if_neg (by decide +kernel)]; exact ⟨rfl, rfl⟩))
    (fun os started H enc _ F => by rw [OpenClaim.pre_eq_preRow]; exact lifted os started H enc F)

theorem plain (f : FuncId) (fn : Func) (hf : Tryd.pinned.checked.prog.funcNamed "loop.example/g00852/laws.FnExactFirstWrongLine" = some f) (hfn : Tryd.pinned.checked.prog.funcs[f]? = some fn) :
    true = Tryd.pinned.checked.prog.looks [] ∧ ∀ (j : Nat) t, fn.params[j]? = some t → Tryd.pinned.checked.prog.wantsStandIn t = false := by
  obtain rfl : f = 3 := Option.some.inj ((show Tryd.prog.funcNamed "loop.example/g00852/laws.FnExactFirstWrongLine" = some 3 by kernel_rfl).symm.trans hf) |>.symm
  obtain rfl : fn = Tryd.f3 := (Option.some.inj (Tryd.func3.symm.trans hfn)).symm
  refine ⟨by kernel_rfl, fun j t ht => ?_⟩
  rw [Tryd.params3] at ht
  have hm := Array.mem_of_getElem? ht
  simp only [List.mem_toArray, List.mem_cons, List.not_mem_nil, or_false] at hm
  rcases hm with rfl
  · exact (show Tryd.prog.wantsStandIn 9 = false by kernel_rfl)

theorem proved : Rows.FnExactFirstWrongLineCardSaid :=
  Claim7.holds_tied_plain_at .later [] _ _ _ _ said (fun _ h => by cases h) (by kernel_rfl) (fun _ h => by cases h) fnExactFirstWrongLine_row_tie rfl ⟨rfl, rfl⟩ (by kernel_rfl) rfl plain (by kernel_rfl)
#print axioms proved
end Go.Proofs.YtmeoepdmaffjjaaDoor.fnExactFirstWrongLine
