/-
  The tied card of FnExactNodeLine: it returns true at every argument, and leaves its arguments as they were, where the library's listed variables start as its text lays them. The card ties that to the program's text (a pruned copy of the project).
-/
import Derived.Test.YtemjeoelglkhkaaDoorCards
import Derived.Test.YtemjeoelglkhkaaDoorTie
import Derived.Test.YtemjeoelglkhkaaDoorLaw
import Derived.Test.YtemjeoelglkhkaaDoorTxB
import Derived.Test.YtemjeoelglkhkaaDoorNetE
import Derived.WalkKit
import Derived.ProofKit
import Derived.OpenShut
import Derived.ChangeMaps5
import Derived.Deep.DeepHandedRow
import Derived.Deep.DeepWitnessRowRef
import Derived.Lib.LaidTab
import Derived.LaidLaws
import Derived.LaidSub
import Derived.Stop.LaidErr
import Derived.HandedShaped
import Derived.Lib.SmallJoins
import Derived.OwnWalk
import Derived.Lib.Hide
import Derived.Deep.RegionHeld3
namespace Go.Proofs.YtemjeoelglkhkaaDoor.fnExactNodeLine
open Go.ChangeShapes Go.WideShapes Go.ChangeAt Go.RowKit
set_option linter.unusedVariables false

theorem own : ownKnob Tryd.prog.godebug = none := by kernel_rfl
theorem laidOut : laidOutB Tryd.prog = true := by kernel_rfl

theorem pow_of {w : World} (hL : laidMetH Tryd.prog Rows.fnExactNodeLineRow.laid w) : text.Pow w := by
  have h := laidMetH.filter (fun x => x.1 == "internal/strconv.uint64pow10") hL
  have e : (Rows.fnExactNodeLineRow.laid.filter (fun x => x.1 == "internal/strconv.uint64pow10")) = [("internal/strconv.uint64pow10", Lib.tabData .u64 Lib.pow10Tab)] := by kernel_rfl
  rw [e] at h
  exact Lib.tabIs_of_head (rest := []) (g := 0) (t := 138) (e := 126) (n := 20) (by kernel_rfl) (by kernel_rfl) Tryd.underlying138 Tryd.underlying126 (by kernel_rfl) (by kernel_rfl) h

open Go.Proofs.YtemjeoelglkhkaaDoor.mem in
set_option maxHeartbeats 1000000 in
theorem walk (x : mem.Nod) (w : World) (hs : x.s.size ≤ 9223372036854775807) (hL : laidMetH Tryd.prog Rows.fnExactNodeLineRow.laid w) :
    Calls Tryd.prog 3 #[.agg #[.string x.s, .int .i64 x.lo, .int .i64 x.hi]] w fun e w' => e = .returned (.bool true) ∧ Below w.heap.size w w' := by
  have HP := Lib.hid (pow_of hL)
  clear hL
  have A1 := text.boxedN w x 23
  have C1 : Below w.heap.size w (w.alloc (.cells #[.string x.s, .int .i64 x.lo, .int .i64 x.hi] 23)) := below_new w _
  have hs1 : w.heap.size + 1 ≤ (w.alloc (.cells #[.string x.s, .int .i64 x.lo, .int .i64 x.hi] 23)).heap.size := by simp
  go_enter Tryd.func3, Tryd.ntmps3
  go_wp2_with fail
  refine (szNode_any _ _ _ _ 1048576 (by omega) (by omega) hs).mono ?_
  rintro e w2 ⟨r, rfl, hr, b2⟩
  have A2 := A1.below b2 (by omega)
  have C2 := C1.trans (b2.mono (by omega))
  have hs2 := Nat.le_trans hs1 b2.size
  clear A1 C1 hs1 b2
  rcases hr with rfl | ⟨hr0, hr1, _⟩
  · go_wp2_with fail
    go_ret
    exact ⟨rfl, C2⟩
  have q0 : w2.cell? ⟨w.heap.size, 0, none⟩ = some (.string x.s) := A2.cell 0 (by omega)
  have q1 : w2.cell? ⟨w.heap.size, 1, none⟩ = some (.int .i64 x.lo) := A2.cell 1 (by omega)
  have q2 : w2.cell? ⟨w.heap.size, 2, none⟩ = some (.int .i64 x.hi) := A2.cell 2 (by omega)
  go_wp2_with fail
  refine (toNode_any _ _ _ _).mono ?_
  rintro e w3 ⟨rfl, b3⟩
  have A3 := A2.below b3 (by omega)
  have C3 := C2.trans (b3.mono (by omega))
  have hs3 := Nat.le_trans hs2 b3.size
  clear A2 C2 b3 q0 q1 q2
  go_wp2_with fail
  refine (text.sNodeLine_any x _ hs).mono ?_
  rintro e w4 ⟨rfl, b4⟩
  have A4 := A3.below b4 (by omega)
  have C4 := C3.trans (b4.mono (by omega))
  have hs4 := Nat.le_trans hs3 b4.size
  clear A3 C3 b4
  have q0 : w4.cell? ⟨w.heap.size, 0, none⟩ = some (.string x.s) := A4.cell 0 (by omega)
  have q1 : w4.cell? ⟨w.heap.size, 1, none⟩ = some (.int .i64 x.lo) := A4.cell 1 (by omega)
  have q2 : w4.cell? ⟨w.heap.size, 2, none⟩ = some (.int .i64 x.hi) := A4.cell 2 (by omega)
  go_wp2_with fail
  refine (toNode_any _ _ _ _).mono ?_
  rintro e w5 ⟨rfl, b5⟩
  have C5 := C4.trans (b5.mono (by omega))
  have hs5 := Nat.le_trans hs4 b5.size
  clear A4 C4 b5 q0 q1 q2
  go_wp2_with fail
  refine (text.nodeLine_any x _ hs (text.pow_below HP.out C5)).mono ?_
  rintro e w6 ⟨rfl, b6⟩
  have C6 := C5.trans (b6.mono (by omega))
  clear C5 b6
  go_wp2_with fail
  go_ret
  exact ⟨rfl, C6⟩

/-- a world for the witness: the settled one, with the listed variables as their initialisers lay them -/
noncomputable def laidWorld (os : Os) : World :=
  let w0 := (World.holding Tryd.prog os ⟨#[], #[], []⟩)
  { w0 with heap := (((w0.heap).modify 2 fun
      | .cells _ t frozen => .cells #[.int .u8 0, .int .u8 1, .int .u8 28, .int .u8 2, .int .u8 29, .int .u8 14, .int .u8 24, .int .u8 3, .int .u8 30, .int .u8 22, .int .u8 20, .int .u8 15, .int .u8 25, .int .u8 17, .int .u8 4, .int .u8 8, .int .u8 31, .int .u8 27, .int .u8 13, .int .u8 23, .int .u8 21, .int .u8 19, .int .u8 16, .int .u8 7, .int .u8 26, .int .u8 12, .int .u8 18, .int .u8 6, .int .u8 11, .int .u8 5, .int .u8 10, .int .u8 9] t frozen
      | o => o).modify 3 fun
      | .cells _ t frozen => .cells #[.int .u8 0, .int .u8 1, .int .u8 56, .int .u8 2, .int .u8 57, .int .u8 49, .int .u8 28, .int .u8 3, .int .u8 61, .int .u8 58, .int .u8 42, .int .u8 50, .int .u8 38, .int .u8 29, .int .u8 17, .int .u8 4, .int .u8 62, .int .u8 47, .int .u8 59, .int .u8 36, .int .u8 45, .int .u8 43, .int .u8 51, .int .u8 22, .int .u8 53, .int .u8 39, .int .u8 33, .int .u8 30, .int .u8 24, .int .u8 18, .int .u8 12, .int .u8 5, .int .u8 63, .int .u8 55, .int .u8 48, .int .u8 27, .int .u8 60, .int .u8 41, .int .u8 37, .int .u8 16, .int .u8 46, .int .u8 35, .int .u8 44, .int .u8 21, .int .u8 52, .int .u8 32, .int .u8 23, .int .u8 11, .int .u8 54, .int .u8 26, .int .u8 40, .int .u8 15, .int .u8 34, .int .u8 20, .int .u8 31, .int .u8 10, .int .u8 25, .int .u8 14, .int .u8 19, .int .u8 9, .int .u8 13, .int .u8 8, .int .u8 7, .int .u8 6] t frozen
      | o => o).modify 0 fun
      | .cells _ t frozen => .cells #[.int .u64 1, .int .u64 10, .int .u64 100, .int .u64 1000, .int .u64 10000, .int .u64 100000, .int .u64 1000000, .int .u64 10000000, .int .u64 100000000, .int .u64 1000000000, .int .u64 10000000000, .int .u64 100000000000, .int .u64 1000000000000, .int .u64 10000000000000, .int .u64 100000000000000, .int .u64 1000000000000000, .int .u64 10000000000000000, .int .u64 100000000000000000, .int .u64 1000000000000000000, .int .u64 10000000000000000000] t frozen
      | o => o }
theorem laid_met (os : Os) : laidMet Tryd.prog Rows.fnExactNodeLineRow.laid ((laidWorld os).forCall (fun _ _ => 0) ⟨#[], #[.agg #[.string ⟨#[]⟩, .int .i64 0, .int .i64 0]], []⟩).memory :=
  laidMet_of_run' 8 (by kernel_rfl) (by kernel_rfl)
theorem reads (os : Os) {H : Type} (enc : TypeId × Value → H) : ∃ places, DataW.whole enc Tryd.prog ((laidWorld os).forCall (fun _ _ => 0) ⟨#[], #[.agg #[.string ⟨#[]⟩, .int .i64 0, .int .i64 0]], []⟩).memory Tryd.f3.params.toList Rows.fnExactNodeLineSpec.vars false #[.agg #[.string ⟨#[]⟩, .int .i64 0, .int .i64 0]].toList 8 = some ([.agg [.lit (.string []), .lit (.int .i64 0), .lit (.int .i64 0)]], [], places) :=
  ⟨[], by kernel_rfl⟩

set_option maxRecDepth 100000 in
theorem lifted (os : Os) (started : os.Started) (H : Type) (enc : TypeId × Value → H) (F : Stop.Interp) :
    ReturnsInHanded {} Tryd.checked os 3 .any ((OpenSpec.ofChange Rows.fnExactNodeLineSpec).preRow enc Tryd.prog Tryd.f3 Rows.fnExactNodeLineRow.domain false Rows.fnExactNodeLineRow.laid) (((OpenSpec.ofChange Rows.fnExactNodeLineSpec).at F).post enc Tryd.prog Tryd.f3 false true false false) := by
  obtain ⟨places, hx⟩ := reads os enc
  refine returnsInHanded_of_row (C := Tryd.checked) (s := OpenSpec.ofChange Rows.fnExactNodeLineSpec) own started (by kernel_rfl) Tryd.func3
    (witness_row_at (enc := enc) (C := Tryd.checked) false (laidWorld os) #[.agg #[.string ⟨#[]⟩, .int .i64 0, .int .i64 0]] rfl (by kernel_rfl) (by kernel_rfl) (by kernel_rfl)
      (OpenSpec.preRow_of_cond 8 hx (by kernel_rfl) (fun k hk => by cases hk) (by kernel_rfl) (laid_met os))) ?_
  intro W base args ds gs before hval0 hW h5 h6 h7 hL h9 h10
  have hW' := hW
  obtain ⟨p, q, hA0, hV, rfl, hfz, hnd⟩ := hW
  have hA : DataW.TrodAll enc Tryd.prog W 0 (fun _ => true) true Tryd.f3.params.toList args.toList ds p := hA0
  have hval : ∀ (j : Nat) t v, Tryd.f3.params[j]? = some t → args[j]? = some v → Value.okWide Tryd.prog W .any base t v := hval0
  rw [Tryd.params3] at hA hval
  obtain ⟨v0, vs0, d0, ds0, p0, q0, hargs, rfl, rfl, h0, r0⟩ := trodAll_cons hA
  obtain ⟨rfl, rfl, rfl⟩ := trodAll_nil r0
  obtain rfl : args = #[v0] := by cases args; simp_all
  obtain ⟨rfl, rfl⟩ := trodVars_none hV
  obtain ⟨x0, x1, x2, y0, y1, y2, nn, rfl, rfl, rfl, g0, g1, g2⟩ := Go.Joins.open_agg3 Tryd.underlying23 (by kernel_rfl) (by kernel_rfl) (hval 0 23 v0 rfl rfl) h0
  obtain ⟨s, e0, _, hsz⟩ := DataW.trod_string Tryd.underlying9 g0
  obtain ⟨a, e1, _, _⟩ := DataW.trod_int Tryd.underlying2 g1
  obtain ⟨b, e2, _, _⟩ := DataW.trod_int Tryd.underlying2 g2
  simp only [List.cons.injEq, and_true] at e0 e1 e2
  subst e0 e1 e2
  refine (walk ⟨s, a, b⟩ W (by simpa [maxLen] using hsz) hL).mono fun e W' ⟨he, hg⟩ => ?_
  subst he
  exact ⟨_, rfl, law.law_post hW' hg laidOut (by kernel_rfl) rfl rfl (by kernel_rfl) Tryd.underlying4⟩

theorem said : Rows.FnExactNodeLineSaid :=
  OpenClaim.holds_of_cond 3 Tryd.f3 rfl rfl rfl rfl rfl rfl rfl ⟨rfl, rfl, rfl, rfl, rfl⟩ rfl rfl rfl rfl rfl (by kernel_rfl) Tryd.func3 (by kernel_rfl)
    (of_decide_eq_true (by kernel_rfl)) (by unfold Func.isWrapper; first | (rw [if_pos (by decide +kernel)]; kernel_rfl) | (rw [if_neg (by decide +kernel)]; exact ⟨rfl, rfl⟩))
    (fun os started H enc _ F => by rw [OpenClaim.pre_eq_preRow]; exact lifted os started H enc F)

theorem plain (f : FuncId) (fn : Func) (hf : Tryd.pinned.checked.prog.funcNamed "loop.example/g00852/laws.FnExactNodeLine" = some f) (hfn : Tryd.pinned.checked.prog.funcs[f]? = some fn) :
    true = Tryd.pinned.checked.prog.looks [] ∧ ∀ (j : Nat) t, fn.params[j]? = some t → Tryd.pinned.checked.prog.wantsStandIn t = false := by
  obtain rfl : f = 3 := Option.some.inj ((show Tryd.prog.funcNamed "loop.example/g00852/laws.FnExactNodeLine" = some 3 by kernel_rfl).symm.trans hf) |>.symm
  obtain rfl : fn = Tryd.f3 := (Option.some.inj (Tryd.func3.symm.trans hfn)).symm
  refine ⟨by kernel_rfl, fun j t ht => ?_⟩
  rw [Tryd.params3] at ht
  have hm := Array.mem_of_getElem? ht
  simp only [List.mem_toArray, List.mem_cons, List.not_mem_nil, or_false] at hm
  rcases hm with rfl
  · exact (show Tryd.prog.wantsStandIn 23 = false by kernel_rfl)

theorem proved : Rows.FnExactNodeLineCardSaid :=
  Claim7.holds_tied_plain_at .later [] _ _ _ _ said (fun _ h => by cases h) (by kernel_rfl) (fun _ h => by cases h) fnExactNodeLine_row_tie rfl ⟨rfl, rfl⟩ (by kernel_rfl) rfl plain (by kernel_rfl)
#print axioms proved
end Go.Proofs.YtemjeoelglkhkaaDoor.fnExactNodeLine
