/-
  The tied card of FnThousandths: it returns true at every argument, and leaves its arguments as they were, where the library's listed variables start as its text lays them. The card ties that to the program's text (a pruned copy of the project).
-/
import Derived.Test.YthijndeppniaoaaDoorCards
import Derived.Test.YthijndeppniaoaaDoorTie
import Derived.Test.YthijndeppniaoaaDoorLaw
import Derived.Test.YthijndeppniaoaaDoorDrawT
import Derived.WalkKit
import Derived.ProofKit
import Derived.OpenShut
import Derived.ChangeMaps5
import Derived.Deep.DeepHandedRow
import Derived.Deep.DeepWitnessRowRef
import Derived.Lib.LaidTab
import Derived.LaidLaws
import Derived.LaidSub
import Derived.Stop.LaidErr
import Derived.HandedShaped
namespace Go.Proofs.YthijndeppniaoaaDoor.fnThousandths
open Go.ChangeShapes Go.WideShapes Go.ChangeAt Go.RowKit
set_option linter.unusedVariables false

theorem own : ownKnob Tryd.prog.godebug = none := by kernel_rfl
theorem laidOut : laidOutB Tryd.prog = true := by kernel_rfl

theorem star : "*" ++ "errors.errorString" = "*errors.errorString" := by decide
theorem rowErr (u : TypeId) (h : Tryd.prog.typeName? 3 u = some "*errors.errorString") : u = 82 :=
  typeName_ptr_named (nm := "errors.errorString") (by rw [star]; kernel_rfl) (by kernel_rfl) (by decide) u (by rw [star]; exact h)
theorem env_of {w : World} (hL : laidMetH Tryd.prog Rows.fnThousandthsRow.laid w) (hsh : w.ShapedOpen Tryd.prog) : text.Env w := by
  refine ⟨?_, ?_, ?_, ?_⟩
  · have h := laidMetH.filter (fun x => x.1 == "internal/strconv.uint64pow10") hL
    have e : (Rows.fnThousandthsRow.laid.filter (fun x => x.1 == "internal/strconv.uint64pow10")) = [("internal/strconv.uint64pow10", Lib.tabData .u64 Lib.pow10Tab)] := by kernel_rfl
    rw [e] at h
    exact Lib.tabIs_of_head (rest := []) (g := 0) (t := 66) (e := 51) (n := 20) (by kernel_rfl) (by kernel_rfl) Tryd.underlying66 Tryd.underlying51 (by kernel_rfl) (by kernel_rfl) h
  · exact Tryd.laysM145.s1_3 w hsh
  · have h := laidMetH.filter (fun x => x.1 == "strconv.ErrSyntax") hL
    have e : (Rows.fnThousandthsRow.laid.filter (fun x => x.1 == "strconv.ErrSyntax")) = [("strconv.ErrSyntax", Rows.laid_strconv_ErrSyntax)] := by kernel_rfl
    rw [e] at h
    obtain ⟨a0, s0, hv0, -, -, -⟩ := laid_sentinel h (show Tryd.prog.globalNamed "strconv.ErrSyntax" = some 2 by kernel_rfl) (show (Tryd.prog.globals[2]?).map (·.type) = some 38 by kernel_rfl) Tryd.underlying38 rowErr Tryd.underlying82 Tryd.underlying84 rfl rfl Tryd.underlying9 (by kernel_rfl) (by kernel_rfl)
    exact ⟨_, _, hv0⟩
  · have h := laidMetH.filter (fun x => x.1 == "strconv.ErrRange") hL
    have e : (Rows.fnThousandthsRow.laid.filter (fun x => x.1 == "strconv.ErrRange")) = [("strconv.ErrRange", Rows.laid_strconv_ErrRange)] := by kernel_rfl
    rw [e] at h
    obtain ⟨a0, s0, hv0, -, -, -⟩ := laid_sentinel h (show Tryd.prog.globalNamed "strconv.ErrRange" = some 3 by kernel_rfl) (show (Tryd.prog.globals[3]?).map (·.type) = some 38 by kernel_rfl) Tryd.underlying38 rowErr Tryd.underlying82 Tryd.underlying84 rfl rfl Tryd.underlying9 (by kernel_rfl) (by kernel_rfl)
    exact ⟨_, _, hv0⟩

set_option maxHeartbeats 2000000 in
theorem walk (v : Value) (w : World) (hc : draw.CodeArg w v) (hL : laidMetH Tryd.prog Rows.fnThousandthsRow.laid w) (hsh : w.ShapedOpen Tryd.prog) :
    Calls Tryd.prog 3 #[v] w fun e w' => e = .returned (.bool true) ∧ Below w.heap.size w w' := by
  have HE := Lib.hid (env_of hL hsh)
  clear hL hsh
  obtain ⟨p, len, cap, rfl, hlen, hcode⟩ := hc
  by_cases h4 : (4096 : Int) < len
  · go_enter Tryd.func3, Tryd.ntmps3
    go_wp2_with (go_at_call 4; refine (draw.big_any _ _ _ _).mono ?_; rintro e w' ⟨rfl, rfl⟩)
    go_ret
    exact ⟨rfl, Below.refl _ _⟩
  have hc := hcode (by omega)
  clear hcode
  go_enter Tryd.func3, Tryd.ntmps3
  go_wp2_with (go_at_call 4; refine (draw.big_any _ _ _ _).mono ?_; rintro e w' ⟨rfl, rfl⟩)
  refine (draw.drawThText_any w _ len hc).mono ?_
  rintro e w1 ⟨n, rfl, hn, b1⟩
  have HC := Lib.hid (draw.codeAt_mono (draw.codeAt_below hc b1) b1.size)
  have B1 := Lib.hid b1
  have E1 := Lib.hid (text.env_below HE.out b1)
  clear hc b1
  go_wp2_with fail
  refine (text.Thousandths_any n w1 E1.out.pow).mono ?_
  rintro e w2 ⟨rfl, b2⟩
  have B2 := Lib.hid b2
  have E2 := Lib.hid (text.env_below E1.out b2)
  have hl := draw.thB_len n
  clear b2
  go_wp2_with fail
  refine (text.Read_any _ w2 (by simp [ByteArray.size]; omega) E2.out).mono ?_
  rintro e w3 ⟨x, ok, rfl, r3, b3⟩
  obtain ⟨f1, f2⟩ := draw.law_facts r3
  have B3 := Lib.hid b3
  have E3 := Lib.hid (text.env_below E2.out b3)
  have HC3 := Lib.hid (draw.codeAt_mono (draw.codeAt_below (draw.codeAt_below HC.out B2.out) (B3.out.mono B2.out.size)) (Nat.le_trans B2.out.size B3.out.size))
  clear r3 b3
  go_wp2_with fail
  refine (draw.drawRead_any w3 _ len HC3.out).mono ?_
  rintro e w4 ⟨u, rfl, hu, b4⟩
  have B4 := Lib.hid b4
  have E4 := Lib.hid (text.env_below E3.out b4)
  clear b4
  go_wp2_with fail
  refine (text.Read_any u w4 (by omega) E4.out).mono ?_
  rintro e w5 ⟨y, two, rfl, r5, b5⟩
  have R5 := Lib.hid r5
  have B5 := Lib.hid b5
  have E5 := Lib.hid (text.env_below E4.out b5)
  clear r5 b5
  go_wp2_with fail
  refine (text.sRead_any u w5 (by omega)).mono ?_
  rintro e w6 ⟨z, three, rfl, r6, b6⟩
  obtain ⟨rfl, rfl⟩ := text.reads_uniq R5.out r6
  have B6 := Lib.hid b6
  have E6 := Lib.hid (text.env_below E5.out b6)
  have BB := Lib.hid (text.below_2 (text.below_2 (text.below_2 (text.below_2 (text.below_2 B1.out B2.out) B3.out) B4.out) B5.out) B6.out)
  clear r6 b6
  go_wp2_with fail
  refine (text.sThousandths_any n w6).mono ?_
  rintro e w7 ⟨rfl, b7⟩
  have B7 := Lib.hid b7
  have E7 := Lib.hid (text.env_below E6.out b7)
  clear b7
  have f3 : (!ok || x == n) = true := by
    cases ok with
    | false => rfl
    | true => simp [f2 rfl]
  cases two with
  | false =>
    cases ok with
    | false =>
      have he : text.thTextB n = [] := by simpa using f1
      clear f1 f2 f3
      go_wp2_with fail
      go_ret
      exact ⟨rfl, text.below_2 BB.out B7.out⟩
    | true =>
      have he : ¬ text.thTextB n = [] := by simpa using f1
      have hx : (x == n) = true := by simpa using f3
      have he2 : (text.thTextB n).isEmpty = false := by simpa using he
      clear f1 f2 f3
      go_wp2_with fail
      go_ret
      exact ⟨rfl, text.below_2 BB.out B7.out⟩
  | true =>
    cases ok with
    | false =>
      have he : text.thTextB n = [] := by simpa using f1
      clear f1 f2 f3
      have hy : text.thTextB y = u.data.toList := by
        rcases R5.out with ⟨_, h1, h2⟩ | ⟨h0, _⟩
        · exact (text.thB_of_big h1).trans h2
        · cases h0
      have hy2 : (text.thTextB y == u.toList) = true := by rw [beq_iff_eq, Go.ByteArray.toList_eq]; exact hy
      clear hy
      go_wp2_with (go_at_call 6; refine (text.Thousandths_any _ _ E7.out.pow).mono ?_; rintro e w8 ⟨rfl, b8⟩; have B8 := Lib.hid b8; clear b8)
      go_ret
      exact ⟨rfl, text.below_2 (text.below_2 BB.out B7.out) B8.out⟩
    | true =>
      have he : ¬ text.thTextB n = [] := by simpa using f1
      have hx : (x == n) = true := by simpa using f3
      have he2 : (text.thTextB n).isEmpty = false := by simpa using he
      clear f1 f2 f3
      have hy : text.thTextB y = u.data.toList := by
        rcases R5.out with ⟨_, h1, h2⟩ | ⟨h0, _⟩
        · exact (text.thB_of_big h1).trans h2
        · cases h0
      have hy2 : (text.thTextB y == u.toList) = true := by rw [beq_iff_eq, Go.ByteArray.toList_eq]; exact hy
      clear hy
      go_wp2_with (go_at_call 6; refine (text.Thousandths_any _ _ E7.out.pow).mono ?_; rintro e w8 ⟨rfl, b8⟩; have B8 := Lib.hid b8; clear b8)
      go_ret
      exact ⟨rfl, text.below_2 (text.below_2 BB.out B7.out) B8.out⟩

noncomputable def low : Nat := (World.holding Tryd.prog default ⟨#[], #[], []⟩).heap.size
/-- a world for the witness: the settled one, with the listed variables as their initialisers lay them -/
noncomputable def laidWorld (os : Os) : World :=
  let w0 := (World.holding Tryd.prog os ⟨#[.cells #[.string ⟨#[118, 97, 108, 117, 101, 32, 111, 117, 116, 32, 111, 102, 32, 114, 97, 110, 103, 101]⟩] 84, .cells #[.string ⟨#[105, 110, 118, 97, 108, 105, 100, 32, 115, 121, 110, 116, 97, 120]⟩] 84], #[], []⟩)
  { w0 with heap := (((((w0.heap).modify 4 fun
      | .cells _ t frozen => .cells #[.int .u8 0, .int .u8 1, .int .u8 28, .int .u8 2, .int .u8 29, .int .u8 14, .int .u8 24, .int .u8 3, .int .u8 30, .int .u8 22, .int .u8 20, .int .u8 15, .int .u8 25, .int .u8 17, .int .u8 4, .int .u8 8, .int .u8 31, .int .u8 27, .int .u8 13, .int .u8 23, .int .u8 21, .int .u8 19, .int .u8 16, .int .u8 7, .int .u8 26, .int .u8 12, .int .u8 18, .int .u8 6, .int .u8 11, .int .u8 5, .int .u8 10, .int .u8 9] t frozen
      | o => o).modify 5 fun
      | .cells _ t frozen => .cells #[.int .u8 0, .int .u8 1, .int .u8 56, .int .u8 2, .int .u8 57, .int .u8 49, .int .u8 28, .int .u8 3, .int .u8 61, .int .u8 58, .int .u8 42, .int .u8 50, .int .u8 38, .int .u8 29, .int .u8 17, .int .u8 4, .int .u8 62, .int .u8 47, .int .u8 59, .int .u8 36, .int .u8 45, .int .u8 43, .int .u8 51, .int .u8 22, .int .u8 53, .int .u8 39, .int .u8 33, .int .u8 30, .int .u8 24, .int .u8 18, .int .u8 12, .int .u8 5, .int .u8 63, .int .u8 55, .int .u8 48, .int .u8 27, .int .u8 60, .int .u8 41, .int .u8 37, .int .u8 16, .int .u8 46, .int .u8 35, .int .u8 44, .int .u8 21, .int .u8 52, .int .u8 32, .int .u8 23, .int .u8 11, .int .u8 54, .int .u8 26, .int .u8 40, .int .u8 15, .int .u8 34, .int .u8 20, .int .u8 31, .int .u8 10, .int .u8 25, .int .u8 14, .int .u8 19, .int .u8 9, .int .u8 13, .int .u8 8, .int .u8 7, .int .u8 6] t frozen
      | o => o).modify 0 fun
      | .cells _ t frozen => .cells #[.int .u64 1, .int .u64 10, .int .u64 100, .int .u64 1000, .int .u64 10000, .int .u64 100000, .int .u64 1000000, .int .u64 10000000, .int .u64 100000000, .int .u64 1000000000, .int .u64 10000000000, .int .u64 100000000000, .int .u64 1000000000000, .int .u64 10000000000000, .int .u64 100000000000000, .int .u64 1000000000000000, .int .u64 10000000000000000, .int .u64 100000000000000000, .int .u64 1000000000000000000, .int .u64 10000000000000000000] t frozen
      | o => o).modify 3 fun
      | .cells _ t frozen => .cells #[.iface 82 (.pointer (some ⟨low + 0, 0, none⟩))] t frozen
      | o => o).modify 2 fun
      | .cells _ t frozen => .cells #[.iface 82 (.pointer (some ⟨low + 1, 0, none⟩))] t frozen
      | o => o }
theorem laid_met (os : Os) : laidMet Tryd.prog Rows.fnThousandthsRow.laid ((laidWorld os).forCall (fun _ _ => 0) ⟨#[], #[.slice none 0 0], []⟩).memory :=
  laidMet_of_run (ps := [.cell 4 0, .cell 4 1, .cell 4 2, .cell 4 3, .cell 4 4, .cell 4 5, .cell 4 6, .cell 4 7, .cell 4 8, .cell 4 9, .cell 4 10, .cell 4 11, .cell 4 12, .cell 4 13, .cell 4 14, .cell 4 15, .cell 4 16, .cell 4 17, .cell 4 18, .cell 4 19, .cell 4 20, .cell 4 21, .cell 4 22, .cell 4 23, .cell 4 24, .cell 4 25, .cell 4 26, .cell 4 27, .cell 4 28, .cell 4 29, .cell 4 30, .cell 4 31, .cell 5 0, .cell 5 1, .cell 5 2, .cell 5 3, .cell 5 4, .cell 5 5, .cell 5 6, .cell 5 7, .cell 5 8, .cell 5 9, .cell 5 10, .cell 5 11, .cell 5 12, .cell 5 13, .cell 5 14, .cell 5 15, .cell 5 16, .cell 5 17, .cell 5 18, .cell 5 19, .cell 5 20, .cell 5 21, .cell 5 22, .cell 5 23, .cell 5 24, .cell 5 25, .cell 5 26, .cell 5 27, .cell 5 28, .cell 5 29, .cell 5 30, .cell 5 31, .cell 5 32, .cell 5 33, .cell 5 34, .cell 5 35, .cell 5 36, .cell 5 37, .cell 5 38, .cell 5 39, .cell 5 40, .cell 5 41, .cell 5 42, .cell 5 43, .cell 5 44, .cell 5 45, .cell 5 46, .cell 5 47, .cell 5 48, .cell 5 49, .cell 5 50, .cell 5 51, .cell 5 52, .cell 5 53, .cell 5 54, .cell 5 55, .cell 5 56, .cell 5 57, .cell 5 58, .cell 5 59, .cell 5 60, .cell 5 61, .cell 5 62, .cell 5 63, .cell 0 0, .cell 0 1, .cell 0 2, .cell 0 3, .cell 0 4, .cell 0 5, .cell 0 6, .cell 0 7, .cell 0 8, .cell 0 9, .cell 0 10, .cell 0 11, .cell 0 12, .cell 0 13, .cell 0 14, .cell 0 15, .cell 0 16, .cell 0 17, .cell 0 18, .cell 0 19, .cell 3 0, .cell (low + 0) 0, .cell 2 0, .cell (low + 1) 0]) 8 (by kernel_rfl) (by kernel_rfl) (by kernel_rfl)
theorem reads (os : Os) {H : Type} (enc : TypeId × Value → H) : ∃ places, DataW.whole enc Tryd.prog ((laidWorld os).forCall (fun _ _ => 0) ⟨#[], #[.slice none 0 0], []⟩).memory Tryd.f3.params.toList Rows.fnThousandthsSpec.vars false #[.slice none 0 0].toList 8 = some ([.nil], [], places) :=
  ⟨[], by kernel_rfl⟩

set_option maxRecDepth 100000 in
theorem lifted (os : Os) (started : os.Started) (H : Type) (enc : TypeId × Value → H) (F : Stop.Interp) :
    ReturnsInHanded {} Tryd.checked os 3 .any ((OpenSpec.ofChange Rows.fnThousandthsSpec).preRow enc Tryd.prog Tryd.f3 Rows.fnThousandthsRow.domain false Rows.fnThousandthsRow.laid) (((OpenSpec.ofChange Rows.fnThousandthsSpec).at F).post enc Tryd.prog Tryd.f3 false true false false) := by
  obtain ⟨places, hx⟩ := reads os enc
  refine returnsInHanded_of_row (C := Tryd.checked) (s := OpenSpec.ofChange Rows.fnThousandthsSpec) own started (by kernel_rfl) Tryd.func3
    (witness_row_atRef (enc := enc) (C := Tryd.checked) false (laidWorld os) #[.slice none 0 0] rfl (by kernel_rfl) (by kernel_rfl) (by kernel_rfl)
      (OpenSpec.preRow_of_cond 8 hx (by kernel_rfl) (fun k hk => by cases hk) (by kernel_rfl) (laid_met os))) ?_
  intro W base args ds gs before hval0 hW h5 h6 h7 hL h9 h10
  have hW' := hW
  obtain ⟨p, q, hA0, hV, rfl, hfz, hnd⟩ := hW
  have hA : DataW.TrodAll enc Tryd.prog W 0 (fun _ => true) true Tryd.f3.params.toList args.toList ds p := hA0
  have hval : ∀ (j : Nat) t v, Tryd.f3.params[j]? = some t → args[j]? = some v → Value.okWide Tryd.prog W .any base t v := hval0
  rw [Tryd.params3] at hA hval
  obtain ⟨v0, vs0, d0, ds0, p0, q0, hargs, rfl, rfl, h0, r0⟩ := trodAll_cons hA
  obtain ⟨rfl, rfl, rfl⟩ := trodAll_nil r0
  obtain rfl : args = #[v0] := by cases args; simp_all
  obtain ⟨rfl, rfl⟩ := trodVars_none hV
  have hc := draw.open_code (hval 0 22 v0 rfl rfl) h0
  refine (walk v0 W hc hL h9).mono fun e W' ⟨he, hg⟩ => ?_
  subst he
  exact ⟨_, rfl, law.law_post hW' hg laidOut (by kernel_rfl) rfl rfl (by kernel_rfl) Tryd.underlying4⟩

theorem said : Rows.FnThousandthsSaid :=
  OpenClaim.holds_of_cond 3 Tryd.f3 rfl rfl rfl rfl rfl rfl rfl ⟨rfl, rfl, rfl, rfl, rfl⟩ rfl rfl rfl rfl rfl (by kernel_rfl) Tryd.func3 (by kernel_rfl)
    (of_decide_eq_true (by kernel_rfl)) (by unfold Func.isWrapper; first | (rw [if_pos (by decide +kernel)]; kernel_rfl) | (rw [if_neg (by decide +kernel)]; exact ⟨rfl, rfl⟩))
    (fun os started H enc _ F => by rw [OpenClaim.pre_eq_preRow]; exact lifted os started H enc F)

theorem plain (f : FuncId) (fn : Func) (hf : Tryd.pinned.checked.prog.funcNamed "loop.example/g00852/laws.FnThousandths" = some f) (hfn : Tryd.pinned.checked.prog.funcs[f]? = some fn) :
    true = Tryd.pinned.checked.prog.looks [] ∧ ∀ (j : Nat) t, fn.params[j]? = some t → Tryd.pinned.checked.prog.wantsStandIn t = false := by
  obtain rfl : f = 3 := Option.some.inj ((show Tryd.prog.funcNamed "loop.example/g00852/laws.FnThousandths" = some 3 by kernel_rfl).symm.trans hf) |>.symm
  obtain rfl : fn = Tryd.f3 := (Option.some.inj (Tryd.func3.symm.trans hfn)).symm
  refine ⟨by kernel_rfl, fun j t ht => ?_⟩
  rw [Tryd.params3] at ht
  have hm := Array.mem_of_getElem? ht
  simp only [List.mem_toArray, List.mem_cons, List.not_mem_nil, or_false] at hm
  rcases hm with rfl
  · exact (show Tryd.prog.wantsStandIn 22 = false by kernel_rfl)

theorem proved : Rows.FnThousandthsCardSaid :=
  Claim7.holds_tied_plain_at .later [] _ _ _ _ said (fun _ h => by cases h) (by kernel_rfl) (fun _ h => by cases h) fnThousandths_row_tie rfl ⟨rfl, rfl⟩ (by kernel_rfl) rfl plain (by kernel_rfl)
#print axioms proved
end Go.Proofs.YthijndeppniaoaaDoor.fnThousandths
