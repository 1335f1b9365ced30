/-
  The program's FirstWrongLine. Conditions: as each states.
-/
import Derived.Test.YtmeoepdmaffjjaaGreatDoorRows
import Derived.Test.YtmeoepdmaffjjaaGreatDoorPk
import Derived.WalkKit
import Derived.ProofKit
import Derived.Lib.Hide
import Derived.OwnWalk
namespace Go.Proofs.YtmeoepdmaffjjaaGreatDoor.text
open Go.RowKit Go.Proofs.YtmeoepdmaffjjaaGreatDoor.mem
set_option linter.unusedVariables false
set_option maxRecDepth 100000

/-- the first wrong line of a text, as the program answers -/
def FWAns (s : List UInt8) (x : Int) : Prop :=
  (x = -1 ∧ ∃ n N m P ls, ls ≠ [] ∧ Chain n N m P ls ∧ s = glue ls) ∨
  ∃ n N m P ls rest, x = (ls.length : Nat) ∧ Chain n N m P ls ∧ s = glue ls ++ rest ∧ NoStep n N m P ls rest
set_option maxHeartbeats 4000000 in
theorem firstWrong_any (w : World) (s : ByteArray) (hE : Env w) (hs : s.size ≤ 4000) :
    Calls Tryz.prog 14 #[.string s] w fun e w' => ∃ x : Int, e = .returned (.tuple #[.int .i64 x, .int .i64 0]) ∧ FWAns s.data.toList x ∧ Below w.heap.size w w' := by
  have hmf : ∀ (fn : Fn) (first cap : Array Value) (w : World), (Instr.makeFunc fn first cap).run Tryz.prog w = .ok (.func fn first cap) w := fun _ _ _ _ => rfl
  have P2 := Ob.new w #[.slice none 0 0, .slice none 0 0, .int .i64 0, .slice none 0 0] 39 4 (parC (.slice none 0 0) (.slice none 0 0) 0 (.slice none 0 0)) rfl (fun k hk => by
    rcases (by omega : k = 0 ∨ k = 1 ∨ k = 2 ∨ k = 3) with rfl | rfl | rfl | rfl <;> rfl)
  have C2 := below_new w (.cells #[.slice none 0 0, .slice none 0 0, .int .i64 0, .slice none 0 0] 39)
  have hz : (w.alloc (.cells #[.slice none 0 0, .slice none 0 0, .int .i64 0, .slice none 0 0] 39)).heap.size = w.heap.size + 1 := by simp
  have HE := Lib.hid hE
  clear hE
  have hsI : (s.size : Int) ≤ 4000 := by omega
  go_enter Tryz.func14, Tryz.ntmps14
  go_wp2_with fail
  generalize hW : w.alloc (Obj.cells #[.slice none 0 0, .slice none 0 0, .int .i64 0, .slice none 0 0] 39) = w2 at *
  clear hW
  replace hz := Nat.le_antisymm_iff.1 hz
  refine (acceptsText_any w w2 w.heap.size (.slice none 0 0) s P2 HE.out C2 (by omega) (by omega)).mono ?_
  have CH := Lib.hid C2
  have hb2 : ∀ X : World, Upd (· = w.heap.size) w2 X → Below w.heap.size w X := fun X u => CH.out.trans (u.below (by omega) (by rintro q _ rfl; omega))
  have HB2 := Lib.hid hb2
  clear C2 hb2 P2
  rintro e w3 (⟨rfl, U3, n, N, m, P, ls, rest, d1, d2, d3, d4⟩ | ⟨n, N, m, P, ls, p1, c1, p2, c2, vW, d0, d1, d2, rfl, O2, R2, R3, U3⟩)
  · have H := Lib.hid (.inr ⟨n, N, m, P, ls, rest, rfl, d1, d2, d4⟩ : FWAns s.data.toList (ls.length : Nat))
    have HB := Lib.hid (HB2.out w3 U3)
    clear d1 d2 d4 U3
    go_wp2_with fail
    go_ret2
    exact ⟨_, rfl, H.out, HB.out⟩
  · have H := Lib.hid (⟨n, N, m, P, ls, d0, d1, d2⟩ : ∃ n N m P ls, ls ≠ [] ∧ Chain n N m P ls ∧ s.data.toList = glue ls)
    have HB := Lib.hid (HB2.out w3 U3)
    clear d0 d1 d2 U3 O2 R2 R3
    go_wp2_with fail
    go_ret2
    exact ⟨_, rfl, .inl ⟨rfl, H.out⟩, HB.out⟩
end Go.Proofs.YtmeoepdmaffjjaaGreatDoor.text
