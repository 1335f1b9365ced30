/-
  The tied card of FnNetworkText: it returns true at every argument, and leaves its arguments as they were, where the library's listed variables start as its text lays them. The card ties that to the program's text (a pruned copy of the project).
-/
import Derived.Test.YtbenloeomjdkcaaGreatDoorCards
import Derived.Test.YtbenloeomjdkcaaGreatDoorTie
import Derived.Test.YtbenloeomjdkcaaGreatDoorLaw
import Derived.Test.YtbenloeomjdkcaaGreatDoorWnt
import Derived.WalkKit
import Derived.ProofKit
import Derived.OpenShut
import Derived.ChangeMaps5
import Derived.Deep.DeepHandedRow
import Derived.Deep.DeepWitnessRowRef
import Derived.Lib.LaidTab
import Derived.LaidLaws
import Derived.LaidSub
import Derived.Stop.LaidErr
import Derived.HandedShaped
import Derived.Shelf.Vars
import Derived.Lib.SmallJoins
import Derived.OwnWalk
import Derived.Lib.Hide
import Derived.Deep.RegionHeld3
namespace Go.Proofs.YtbenloeomjdkcaaGreatDoor.fnNetworkText
open Go.ChangeShapes Go.WideShapes Go.ChangeAt Go.RowKit
set_option linter.unusedVariables false

theorem own : ownKnob Tryz.prog.godebug = none := by kernel_rfl
theorem laidOut : laidOutB Tryz.prog = true := by kernel_rfl

theorem star : "*" ++ "errors.errorString" = "*errors.errorString" := by decide
theorem rowErr (u : TypeId) (h : Tryz.prog.typeName? 3 u = some "*errors.errorString") : u = 152 :=
  typeName_ptr_named (nm := "errors.errorString") (by rw [star]; kernel_rfl) (by kernel_rfl) (by decide) u (by rw [star]; exact h)
theorem env_of {w : World} (hL : laidMetH Tryz.prog Rows.fnNetworkTextRow.laid w) (hsh : w.ShapedOpen Tryz.prog) : text.Env w := by
  refine ⟨?_, ?_, ?_, ?_⟩
  · have h := laidMetH.filter (fun x => x.1 == "internal/strconv.uint64pow10") hL
    have e : (Rows.fnNetworkTextRow.laid.filter (fun x => x.1 == "internal/strconv.uint64pow10")) = [("internal/strconv.uint64pow10", Lib.tabData .u64 Lib.pow10Tab)] := by kernel_rfl
    rw [e] at h
    exact Lib.tabIs_of_head (rest := []) (g := 1) (t := 129) (e := 116) (n := 20) (by kernel_rfl) (by kernel_rfl) Tryz.underlying129 Tryz.underlying116 (by kernel_rfl) (by kernel_rfl) h
  · exact Go.Proofs.cell_of_shapedOpen_int (zero := #[.int .i64 0]) (t := 3) hsh (of_decide_eq_true (by kernel_rfl)) (by kernel_rfl) rfl (by kernel_rfl) (by kernel_rfl) Tryz.underlying3
  · have h := laidMetH.filter (fun x => x.1 == "strconv.ErrSyntax") hL
    have e : (Rows.fnNetworkTextRow.laid.filter (fun x => x.1 == "strconv.ErrSyntax")) = [("strconv.ErrSyntax", Rows.laid_strconv_ErrSyntax)] := by kernel_rfl
    rw [e] at h
    obtain ⟨a0, s0, hv0, -, -, -⟩ := laid_sentinel h (show Tryz.prog.globalNamed "strconv.ErrSyntax" = some 4 by kernel_rfl) (show (Tryz.prog.globals[4]?).map (·.type) = some 57 by kernel_rfl) Tryz.underlying57 rowErr Tryz.underlying152 Tryz.underlying154 rfl rfl Tryz.underlying9 (by kernel_rfl) (by kernel_rfl)
    exact ⟨_, _, hv0⟩
  · have h := laidMetH.filter (fun x => x.1 == "strconv.ErrRange") hL
    have e : (Rows.fnNetworkTextRow.laid.filter (fun x => x.1 == "strconv.ErrRange")) = [("strconv.ErrRange", Rows.laid_strconv_ErrRange)] := by kernel_rfl
    rw [e] at h
    obtain ⟨a0, s0, hv0, -, -, -⟩ := laid_sentinel h (show Tryz.prog.globalNamed "strconv.ErrRange" = some 5 by kernel_rfl) (show (Tryz.prog.globals[5]?).map (·.type) = some 57 by kernel_rfl) Tryz.underlying57 rowErr Tryz.underlying152 Tryz.underlying154 rfl rfl Tryz.underlying9 (by kernel_rfl) (by kernel_rfl)
    exact ⟨_, _, hv0⟩

set_option maxHeartbeats 2000000 in
theorem walk (v : Value) (w : World) (hc : draw.CodeArg w v) (hL : laidMetH Tryz.prog Rows.fnNetworkTextRow.laid w) (hsh : w.ShapedOpen Tryz.prog) :
    Calls Tryz.prog 4 #[v] w fun e w' => e = .returned (.bool true) ∧ Below w.heap.size w w' :=
  ntext.walk v w hc (env_of hL hsh)

noncomputable def low : Nat := (World.holding Tryz.prog default ⟨#[], #[], []⟩).heap.size
/-- a world for the witness: the settled one, with the listed variables as their initialisers lay them -/
noncomputable def laidWorld (os : Os) : World :=
  let w0 := (World.holding Tryz.prog os ⟨#[.cells #[.string ⟨#[118, 97, 108, 117, 101, 32, 111, 117, 116, 32, 111, 102, 32, 114, 97, 110, 103, 101]⟩] 154, .cells #[.string ⟨#[105, 110, 118, 97, 108, 105, 100, 32, 115, 121, 110, 116, 97, 120]⟩] 154], #[], []⟩)
  { w0 with heap := (((((((w0.heap).modify 6 fun
      | .cells _ t frozen => .cells #[.int .u8 0, .int .u8 1, .int .u8 28, .int .u8 2, .int .u8 29, .int .u8 14, .int .u8 24, .int .u8 3, .int .u8 30, .int .u8 22, .int .u8 20, .int .u8 15, .int .u8 25, .int .u8 17, .int .u8 4, .int .u8 8, .int .u8 31, .int .u8 27, .int .u8 13, .int .u8 23, .int .u8 21, .int .u8 19, .int .u8 16, .int .u8 7, .int .u8 26, .int .u8 12, .int .u8 18, .int .u8 6, .int .u8 11, .int .u8 5, .int .u8 10, .int .u8 9] t frozen
      | o => o).modify 7 fun
      | .cells _ t frozen => .cells #[.int .u8 0, .int .u8 1, .int .u8 56, .int .u8 2, .int .u8 57, .int .u8 49, .int .u8 28, .int .u8 3, .int .u8 61, .int .u8 58, .int .u8 42, .int .u8 50, .int .u8 38, .int .u8 29, .int .u8 17, .int .u8 4, .int .u8 62, .int .u8 47, .int .u8 59, .int .u8 36, .int .u8 45, .int .u8 43, .int .u8 51, .int .u8 22, .int .u8 53, .int .u8 39, .int .u8 33, .int .u8 30, .int .u8 24, .int .u8 18, .int .u8 12, .int .u8 5, .int .u8 63, .int .u8 55, .int .u8 48, .int .u8 27, .int .u8 60, .int .u8 41, .int .u8 37, .int .u8 16, .int .u8 46, .int .u8 35, .int .u8 44, .int .u8 21, .int .u8 52, .int .u8 32, .int .u8 23, .int .u8 11, .int .u8 54, .int .u8 26, .int .u8 40, .int .u8 15, .int .u8 34, .int .u8 20, .int .u8 31, .int .u8 10, .int .u8 25, .int .u8 14, .int .u8 19, .int .u8 9, .int .u8 13, .int .u8 8, .int .u8 7, .int .u8 6] t frozen
      | o => o).modify 1 fun
      | .cells _ t frozen => .cells #[.int .u64 1, .int .u64 10, .int .u64 100, .int .u64 1000, .int .u64 10000, .int .u64 100000, .int .u64 1000000, .int .u64 10000000, .int .u64 100000000, .int .u64 1000000000, .int .u64 10000000000, .int .u64 100000000000, .int .u64 1000000000000, .int .u64 10000000000000, .int .u64 100000000000000, .int .u64 1000000000000000, .int .u64 10000000000000000, .int .u64 100000000000000000, .int .u64 1000000000000000000, .int .u64 10000000000000000000] t frozen
      | o => o).modify 3 fun
      | .cells _ t frozen => .cells #[.int .u8 128, .int .u8 191, .int .u8 160, .int .u8 191, .int .u8 128, .int .u8 159, .int .u8 144, .int .u8 191, .int .u8 128, .int .u8 143, .int .u8 0, .int .u8 0, .int .u8 0, .int .u8 0, .int .u8 0, .int .u8 0, .int .u8 0, .int .u8 0, .int .u8 0, .int .u8 0, .int .u8 0, .int .u8 0, .int .u8 0, .int .u8 0, .int .u8 0, .int .u8 0, .int .u8 0, .int .u8 0, .int .u8 0, .int .u8 0, .int .u8 0, .int .u8 0] t frozen
      | o => o).modify 5 fun
      | .cells _ t frozen => .cells #[.iface 152 (.pointer (some ⟨low + 0, 0, none⟩))] t frozen
      | o => o).modify 4 fun
      | .cells _ t frozen => .cells #[.iface 152 (.pointer (some ⟨low + 1, 0, none⟩))] t frozen
      | o => o).modify 2 fun
      | .cells _ t frozen => .cells ((Go.Pinned.utf8FirstZ.map (fun (n : Nat) => (Value.int .u8 (n : Int)))).toArray) t frozen
      | o => o }
theorem laid_met (os : Os) : laidMet Tryz.prog Rows.fnNetworkTextRow.laid ((laidWorld os).forCall (fun _ _ => 0) ⟨#[], #[.slice none 0 0], []⟩).memory :=
  laidMet_of_run (ps := [.cell 6 0, .cell 6 1, .cell 6 2, .cell 6 3, .cell 6 4, .cell 6 5, .cell 6 6, .cell 6 7, .cell 6 8, .cell 6 9, .cell 6 10, .cell 6 11, .cell 6 12, .cell 6 13, .cell 6 14, .cell 6 15, .cell 6 16, .cell 6 17, .cell 6 18, .cell 6 19, .cell 6 20, .cell 6 21, .cell 6 22, .cell 6 23, .cell 6 24, .cell 6 25, .cell 6 26, .cell 6 27, .cell 6 28, .cell 6 29, .cell 6 30, .cell 6 31, .cell 7 0, .cell 7 1, .cell 7 2, .cell 7 3, .cell 7 4, .cell 7 5, .cell 7 6, .cell 7 7, .cell 7 8, .cell 7 9, .cell 7 10, .cell 7 11, .cell 7 12, .cell 7 13, .cell 7 14, .cell 7 15, .cell 7 16, .cell 7 17, .cell 7 18, .cell 7 19, .cell 7 20, .cell 7 21, .cell 7 22, .cell 7 23, .cell 7 24, .cell 7 25, .cell 7 26, .cell 7 27, .cell 7 28, .cell 7 29, .cell 7 30, .cell 7 31, .cell 7 32, .cell 7 33, .cell 7 34, .cell 7 35, .cell 7 36, .cell 7 37, .cell 7 38, .cell 7 39, .cell 7 40, .cell 7 41, .cell 7 42, .cell 7 43, .cell 7 44, .cell 7 45, .cell 7 46, .cell 7 47, .cell 7 48, .cell 7 49, .cell 7 50, .cell 7 51, .cell 7 52, .cell 7 53, .cell 7 54, .cell 7 55, .cell 7 56, .cell 7 57, .cell 7 58, .cell 7 59, .cell 7 60, .cell 7 61, .cell 7 62, .cell 7 63, .cell 1 0, .cell 1 1, .cell 1 2, .cell 1 3, .cell 1 4, .cell 1 5, .cell 1 6, .cell 1 7, .cell 1 8, .cell 1 9, .cell 1 10, .cell 1 11, .cell 1 12, .cell 1 13, .cell 1 14, .cell 1 15, .cell 1 16, .cell 1 17, .cell 1 18, .cell 1 19, .cell 3 0, .cell 3 1, .cell 3 2, .cell 3 3, .cell 3 4, .cell 3 5, .cell 3 6, .cell 3 7, .cell 3 8, .cell 3 9, .cell 3 10, .cell 3 11, .cell 3 12, .cell 3 13, .cell 3 14, .cell 3 15, .cell 3 16, .cell 3 17, .cell 3 18, .cell 3 19, .cell 3 20, .cell 3 21, .cell 3 22, .cell 3 23, .cell 3 24, .cell 3 25, .cell 3 26, .cell 3 27, .cell 3 28, .cell 3 29, .cell 3 30, .cell 3 31, .cell 5 0, .cell (low + 0) 0, .cell 4 0, .cell (low + 1) 0, .cell 2 0, .cell 2 1, .cell 2 2, .cell 2 3, .cell 2 4, .cell 2 5, .cell 2 6, .cell 2 7, .cell 2 8, .cell 2 9, .cell 2 10, .cell 2 11, .cell 2 12, .cell 2 13, .cell 2 14, .cell 2 15, .cell 2 16, .cell 2 17, .cell 2 18, .cell 2 19, .cell 2 20, .cell 2 21, .cell 2 22, .cell 2 23, .cell 2 24, .cell 2 25, .cell 2 26, .cell 2 27, .cell 2 28, .cell 2 29, .cell 2 30, .cell 2 31, .cell 2 32, .cell 2 33, .cell 2 34, .cell 2 35, .cell 2 36, .cell 2 37, .cell 2 38, .cell 2 39, .cell 2 40, .cell 2 41, .cell 2 42, .cell 2 43, .cell 2 44, .cell 2 45, .cell 2 46, .cell 2 47, .cell 2 48, .cell 2 49, .cell 2 50, .cell 2 51, .cell 2 52, .cell 2 53, .cell 2 54, .cell 2 55, .cell 2 56, .cell 2 57, .cell 2 58, .cell 2 59, .cell 2 60, .cell 2 61, .cell 2 62, .cell 2 63, .cell 2 64, .cell 2 65, .cell 2 66, .cell 2 67, .cell 2 68, .cell 2 69, .cell 2 70, .cell 2 71, .cell 2 72, .cell 2 73, .cell 2 74, .cell 2 75, .cell 2 76, .cell 2 77, .cell 2 78, .cell 2 79, .cell 2 80, .cell 2 81, .cell 2 82, .cell 2 83, .cell 2 84, .cell 2 85, .cell 2 86, .cell 2 87, .cell 2 88, .cell 2 89, .cell 2 90, .cell 2 91, .cell 2 92, .cell 2 93, .cell 2 94, .cell 2 95, .cell 2 96, .cell 2 97, .cell 2 98, .cell 2 99, .cell 2 100, .cell 2 101, .cell 2 102, .cell 2 103, .cell 2 104, .cell 2 105, .cell 2 106, .cell 2 107, .cell 2 108, .cell 2 109, .cell 2 110, .cell 2 111, .cell 2 112, .cell 2 113, .cell 2 114, .cell 2 115, .cell 2 116, .cell 2 117, .cell 2 118, .cell 2 119, .cell 2 120, .cell 2 121, .cell 2 122, .cell 2 123, .cell 2 124, .cell 2 125, .cell 2 126, .cell 2 127, .cell 2 128, .cell 2 129, .cell 2 130, .cell 2 131, .cell 2 132, .cell 2 133, .cell 2 134, .cell 2 135, .cell 2 136, .cell 2 137, .cell 2 138, .cell 2 139, .cell 2 140, .cell 2 141, .cell 2 142, .cell 2 143, .cell 2 144, .cell 2 145, .cell 2 146, .cell 2 147, .cell 2 148, .cell 2 149, .cell 2 150, .cell 2 151, .cell 2 152, .cell 2 153, .cell 2 154, .cell 2 155, .cell 2 156, .cell 2 157, .cell 2 158, .cell 2 159, .cell 2 160, .cell 2 161, .cell 2 162, .cell 2 163, .cell 2 164, .cell 2 165, .cell 2 166, .cell 2 167, .cell 2 168, .cell 2 169, .cell 2 170, .cell 2 171, .cell 2 172, .cell 2 173, .cell 2 174, .cell 2 175, .cell 2 176, .cell 2 177, .cell 2 178, .cell 2 179, .cell 2 180, .cell 2 181, .cell 2 182, .cell 2 183, .cell 2 184, .cell 2 185, .cell 2 186, .cell 2 187, .cell 2 188, .cell 2 189, .cell 2 190, .cell 2 191, .cell 2 192, .cell 2 193, .cell 2 194, .cell 2 195, .cell 2 196, .cell 2 197, .cell 2 198, .cell 2 199, .cell 2 200, .cell 2 201, .cell 2 202, .cell 2 203, .cell 2 204, .cell 2 205, .cell 2 206, .cell 2 207, .cell 2 208, .cell 2 209, .cell 2 210, .cell 2 211, .cell 2 212, .cell 2 213, .cell 2 214, .cell 2 215, .cell 2 216, .cell 2 217, .cell 2 218, .cell 2 219, .cell 2 220, .cell 2 221, .cell 2 222, .cell 2 223, .cell 2 224, .cell 2 225, .cell 2 226, .cell 2 227, .cell 2 228, .cell 2 229, .cell 2 230, .cell 2 231, .cell 2 232, .cell 2 233, .cell 2 234, .cell 2 235, .cell 2 236, .cell 2 237, .cell 2 238, .cell 2 239, .cell 2 240, .cell 2 241, .cell 2 242, .cell 2 243, .cell 2 244, .cell 2 245, .cell 2 246, .cell 2 247, .cell 2 248, .cell 2 249, .cell 2 250, .cell 2 251, .cell 2 252, .cell 2 253, .cell 2 254, .cell 2 255]) 8 (by kernel_rfl) (by kernel_rfl) (by kernel_rfl)
theorem reads (os : Os) {H : Type} (enc : TypeId × Value → H) : ∃ places, DataW.whole enc Tryz.prog ((laidWorld os).forCall (fun _ _ => 0) ⟨#[], #[.slice none 0 0], []⟩).memory Tryz.f4.params.toList Rows.fnNetworkTextSpec.vars false #[.slice none 0 0].toList 8 = some ([.nil], [], places) :=
  ⟨[], by kernel_rfl⟩

set_option maxRecDepth 100000 in
theorem lifted (os : Os) (started : os.Started) (H : Type) (enc : TypeId × Value → H) (F : Stop.Interp) :
    ReturnsInHanded {} Tryz.checked os 4 .any ((OpenSpec.ofChange Rows.fnNetworkTextSpec).preRow enc Tryz.prog Tryz.f4 Rows.fnNetworkTextRow.domain false Rows.fnNetworkTextRow.laid) (((OpenSpec.ofChange Rows.fnNetworkTextSpec).at F).post enc Tryz.prog Tryz.f4 false true false false) := by
  obtain ⟨places, hx⟩ := reads os enc
  refine returnsInHanded_of_row (C := Tryz.checked) (s := OpenSpec.ofChange Rows.fnNetworkTextSpec) own started (by kernel_rfl) Tryz.func4
    (witness_row_atRef (enc := enc) (C := Tryz.checked) false (laidWorld os) #[.slice none 0 0] rfl (by kernel_rfl) (by kernel_rfl) (by kernel_rfl)
      (OpenSpec.preRow_of_cond 8 hx (by kernel_rfl) (fun k hk => by cases hk) (by kernel_rfl) (laid_met os))) ?_
  intro W base args ds gs before hval0 hW h5 h6 h7 hL h9 h10
  have hW' := hW
  obtain ⟨p, q, hA0, hV, rfl, hfz, hnd⟩ := hW
  have hA : DataW.TrodAll enc Tryz.prog W 0 (fun _ => true) true Tryz.f4.params.toList args.toList ds p := hA0
  have hval : ∀ (j : Nat) t v, Tryz.f4.params[j]? = some t → args[j]? = some v → Value.okWide Tryz.prog W .any base t v := hval0
  rw [Tryz.params4] at hA hval
  obtain ⟨v0, vs0, d0, ds0, p0, q0, hargs, rfl, rfl, h0, r0⟩ := trodAll_cons hA
  obtain ⟨rfl, rfl, rfl⟩ := trodAll_nil r0
  obtain rfl : args = #[v0] := by cases args; simp_all
  obtain ⟨rfl, rfl⟩ := trodVars_none hV
  have hc := draw.open_code (hval 0 31 v0 rfl rfl) h0
  refine (walk v0 W hc hL h9).mono fun e W' ⟨he, hg⟩ => ?_
  subst he
  exact ⟨_, rfl, law.law_post hW' hg laidOut (by kernel_rfl) rfl rfl (by kernel_rfl) Tryz.underlying4⟩

theorem said : Rows.FnNetworkTextSaid :=
  OpenClaim.holds_of_cond 4 Tryz.f4 rfl rfl rfl rfl rfl rfl rfl ⟨rfl, rfl, rfl, rfl, rfl⟩ rfl rfl rfl rfl rfl (by kernel_rfl) Tryz.func4 (by kernel_rfl)
    (of_decide_eq_true (by kernel_rfl)) (by unfold Func.isWrapper; first | (rw [if_pos (by decide +kernel)]; kernel_rfl) | (rw [if_neg (by decide +kernel)]; exact ⟨rfl, rfl⟩))
    (fun os started H enc _ F => by rw [OpenClaim.pre_eq_preRow]; exact lifted os started H enc F)

theorem plain (f : FuncId) (fn : Func) (hf : Tryz.pinned.checked.prog.funcNamed "loop.example/g00852/laws.FnNetworkText" = some f) (hfn : Tryz.pinned.checked.prog.funcs[f]? = some fn) :
    true = Tryz.pinned.checked.prog.looks [] ∧ ∀ (j : Nat) t, fn.params[j]? = some t → Tryz.pinned.checked.prog.wantsStandIn t = false := by
  obtain rfl : f = 4 := Option.some.inj ((show Tryz.prog.funcNamed "loop.example/g00852/laws.FnNetworkText" = some 4 by kernel_rfl).symm.trans hf) |>.symm
  obtain rfl : fn = Tryz.f4 := (Option.some.inj (Tryz.func4.symm.trans hfn)).symm
  refine ⟨by kernel_rfl, fun j t ht => ?_⟩
  rw [Tryz.params4] at ht
  have hm := Array.mem_of_getElem? ht
  simp only [List.mem_toArray, List.mem_cons, List.not_mem_nil, or_false] at hm
  rcases hm with rfl
  · exact (show Tryz.prog.wantsStandIn 31 = false by kernel_rfl)

theorem proved : Rows.FnNetworkTextCardSaid :=
  Claim7.holds_tied_plain_at .later [] _ _ _ _ said (fun _ h => by cases h) (by kernel_rfl) (fun _ h => by cases h) fnNetworkText_row_tie rfl ⟨rfl, rfl⟩ (by kernel_rfl) rfl plain (by kernel_rfl)
#print axioms proved
end Go.Proofs.YtbenloeomjdkcaaGreatDoor.fnNetworkText
