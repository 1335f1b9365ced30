/-
  FnExactIsNode returns true at every argument, and leaves its arguments as they were. No condition.
-/
import Derived.Test.YtnjdnbjddjcioaaRows
import Derived.Test.YtnjdnbjddjcioaaNetV
import Derived.Test.YtnjdnbjddjcioaaNetE
import Derived.Test.YtnjdnbjddjcioaaLaw
import Derived.WalkKit
import Derived.ProofKit
import Derived.OpenShut
import Derived.Lib.SmallJoins
import Derived.Lib.Hide
import Derived.OwnWalk
namespace Go.Proofs.Ytnjdnbjddjcioaa.fnExactIsNode
open Go.Joins Go.ChangeShapes Go.WideShapes Go.ChangeAt Go.RowKit Go.Proofs.Ytnjdnbjddjcioaa.mem
set_option linter.unusedVariables false

theorem own : ownKnob Try.prog.godebug = none := by kernel_rfl
theorem laidOut : laidOutB Try.prog = true := by kernel_rfl

set_option maxHeartbeats 2000000 in
theorem walk (x : Nod) (w : World) (hs : x.s.size ≤ 9223372036854775807) :
    Calls Try.prog 6 #[.agg #[.string x.s, .int .i64 x.lo, .int .i64 x.hi]] w fun e w' => e = .returned (.bool true) ∧ Below w.heap.size w w' := by
  have A1 : Ob (w.alloc (.cells #[.string x.s, .int .i64 x.lo, .int .i64 x.hi] 44)) w.heap.size 3 (fun k => match k with
    | 0 => .string x.s
    | 1 => .int .i64 x.lo
    | _ => .int .i64 x.hi) := Ob.new w _ _ 3 _ rfl (by intro k hk; rcases (by omega : k = 0 ∨ k = 1 ∨ k = 2) with rfl | rfl | rfl <;> rfl)
  have C1 : Below w.heap.size w (w.alloc (.cells #[.string x.s, .int .i64 x.lo, .int .i64 x.hi] 44)) := below_new w _
  have hs1 : w.heap.size + 1 ≤ (w.alloc (.cells #[.string x.s, .int .i64 x.lo, .int .i64 x.hi] 44)).heap.size := by simp
  have hb : (nodB x != nodB x) = false := by simp
  go_enter Try.func6, Try.ntmps6
  go_wp2_with fail
  refine (szNode_any _ _ _ _ 1048576 (by omega) (by omega) hs).mono ?_
  rintro e w2 ⟨r, rfl, hr, b2⟩
  have A2 := A1.below b2 (by omega)
  have C2 := C1.trans (b2.mono (by omega))
  have hs2 := Nat.le_trans hs1 b2.size
  clear A1 C1 hs1 b2
  rcases hr with rfl | ⟨hr0, hr1, _⟩
  · go_wp2_with fail
    go_ret
    exact ⟨rfl, C2⟩
  have q0 : w2.cell? ⟨w.heap.size, 0, none⟩ = some (.string x.s) := A2.cell 0 (by omega)
  have q1 : w2.cell? ⟨w.heap.size, 1, none⟩ = some (.int .i64 x.lo) := A2.cell 1 (by omega)
  have q2 : w2.cell? ⟨w.heap.size, 2, none⟩ = some (.int .i64 x.hi) := A2.cell 2 (by omega)
  go_wp2_with fail
  refine (toNode_any _ _ _ _).mono ?_
  rintro e w3 ⟨rfl, b3⟩
  have A3 := A2.below b3 (by omega)
  have C3 := C2.trans (b3.mono (by omega))
  have hs3 := Nat.le_trans hs2 b3.size
  clear A2 C2 b3 q0 q1 q2
  go_wp2_with fail
  refine (sIsNode_any x _ hs).mono ?_
  rintro e w4 ⟨rfl, b4⟩
  have A4 := A3.below b4 (by omega)
  have C4 := C3.trans (b4.mono (by omega))
  have hs4 := Nat.le_trans hs3 b4.size
  clear A3 C3 b4
  have q0 : w4.cell? ⟨w.heap.size, 0, none⟩ = some (.string x.s) := A4.cell 0 (by omega)
  have q1 : w4.cell? ⟨w.heap.size, 1, none⟩ = some (.int .i64 x.lo) := A4.cell 1 (by omega)
  have q2 : w4.cell? ⟨w.heap.size, 2, none⟩ = some (.int .i64 x.hi) := A4.cell 2 (by omega)
  go_wp2_with fail
  refine (toNode_any _ _ _ _).mono ?_
  rintro e w5 ⟨rfl, b5⟩
  have C5 := C4.trans (b5.mono (by omega))
  have hs5 := Nat.le_trans hs4 b5.size
  clear A4 C4 b5 q0 q1 q2
  go_wp2_with fail
  refine (isNode_any x _ hs).mono ?_
  rintro e w6 ⟨rfl, b6⟩
  have C6 := C5.trans (b6.mono (by omega))
  clear C5 b6
  go_wp2_with fail
  go_ret
  exact ⟨rfl, C6⟩

set_option maxRecDepth 100000 in
theorem lifted (os : Os) (started : os.Started) (H : Type) (enc : TypeId × Value → H) :
    ReturnsInHanded {} Try.checked os 6 .any (Rows.fnExactIsNodeSpec.pre6 enc Try.prog Try.f6 Rows.fnExactIsNodeRow.domain false) (Rows.fnExactIsNodeSpec.post enc Try.prog Try.f6 false true false false) := by
  refine returnsInHanded_of_change (C := Try.checked) own started (by kernel_rfl) Try.func6
    (ChangeSpec.witness6 (enc := enc) (C := Try.checked) false ⟨#[], #[.agg #[.string ⟨#[]⟩, .int .i64 0, .int .i64 0]], []⟩ 8 (by kernel_rfl) (by kernel_rfl) (by kernel_rfl) (by kernel_rfl)) ?_
  intro W base args ds gs before hval0 hW hcnd _
  have hval : ∀ (j : Nat) t v, Try.f6.params[j]? = some t → args[j]? = some v → Value.okWide Try.prog W .any base t v := hval0
  have hW' := hW
  obtain ⟨p, q, hA0, hV, rfl, hfz, hnd⟩ := hW
  have hA : DataW.TrodAll enc Try.prog W 0 (fun _ => true) true Try.f6.params.toList args.toList ds p := hA0
  rw [Try.params6] at hA hval
  obtain ⟨v0, vs0, d0, ds0, p0, q0, hargs, rfl, rfl, h0, r0⟩ := trodAll_cons hA
  obtain ⟨rfl, rfl, rfl⟩ := trodAll_nil r0
  obtain rfl : args = #[v0] := by cases args; simp_all
  obtain ⟨rfl, rfl⟩ := trodVars_none hV
  obtain ⟨x0, x1, x2, y0, y1, y2, nn, rfl, rfl, rfl, g0, g1, g2⟩ := open_agg3 Try.underlying44 (by kernel_rfl) (by kernel_rfl) (hval 0 44 v0 rfl rfl) h0
  obtain ⟨s, e0, _, hsz⟩ := DataW.trod_string Try.underlying9 g0
  obtain ⟨a, e1, _, _⟩ := DataW.trod_int Try.underlying2 g1
  obtain ⟨b, e2, _, _⟩ := DataW.trod_int Try.underlying2 g2
  simp only [List.cons.injEq, and_true] at e0 e1 e2
  subst e0 e1 e2
  refine (walk ⟨s, a, b⟩ W (by simpa [maxLen] using hsz)).mono fun e W' ⟨he, hg⟩ => ?_
  subst he
  exact ⟨_, rfl, law.law_post hW' hg laidOut (by kernel_rfl) rfl rfl (by kernel_rfl) Try.underlying4⟩

theorem over : Rows.fnExactIsNodeRow.holds Try.pinned (OpenSpec.ofChange Rows.fnExactIsNodeSpec) :=
  OpenClaim.holds_of_wide 6 Try.f6 rfl rfl rfl rfl rfl rfl rfl ⟨rfl, rfl, rfl, rfl, rfl⟩ rfl rfl rfl rfl rfl (by kernel_rfl) Try.func6 (by kernel_rfl)
    (of_decide_eq_true (by kernel_rfl)) (by unfold Func.isWrapper; first | (rw [if_pos (by decide +kernel)]; kernel_rfl) | (rw [if_neg (by decide +kernel)]; exact ⟨rfl, rfl⟩))
    (fun os started H enc _ => lifted os started H enc)

theorem proved : Rows.FnExactIsNodeSaid :=
  over
#print axioms proved
end Go.Proofs.Ytnjdnbjddjcioaa.fnExactIsNode
