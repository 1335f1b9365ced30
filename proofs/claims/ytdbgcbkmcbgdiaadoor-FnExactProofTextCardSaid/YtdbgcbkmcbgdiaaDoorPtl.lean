/-
  Chapter 12: the lines of a proof's text, both. Conditions: the numbers are of bounded size; the library's table of powers of ten is as its text lays it.
-/
import Derived.Test.YtdbgcbkmcbgdiaaDoorRows
import Derived.Test.YtdbgcbkmcbgdiaaDoorCpd
import Derived.Test.YtdbgcbkmcbgdiaaDoorText
import Derived.Test.YtdbgcbkmcbgdiaaDoorShelfF
import Derived.WalkKit
import Derived.ProofKit
import Derived.Lib.Hide
import Derived.Lib.LaidTab
import Derived.Lib.ItoaLen
import Derived.Lib.AppendIntMem
import Derived.Laws.Concat
import Derived.OwnWalk
namespace Go.Proofs.YtdbgcbkmcbgdiaaDoor.text
open Go.RowKit Go.Proofs.YtdbgcbkmcbgdiaaDoor.mem
set_option linter.unusedVariables false
set_option maxRecDepth 100000

theorem var_below {P : Program} {w w' : World} {n : String} {cs : Array Value} (h : w.var? P n = some cs) (hb : Below w.heap.size w w') : w'.var? P n = some cs := by
  unfold World.var? at h ⊢
  cases hg : P.globalNamed n with
  | none => simp [hg] at h
  | some g =>
    simp only [hg, Option.bind_some] at h ⊢
    have hlt : g < w.heap.size := by
      rcases Nat.lt_or_ge g w.heap.size with h1 | h1
      · exact h1
      · simp [Array.getElem?_eq_none h1] at h
    rw [hb.block g hlt]
    exact h
/-- the library's table of powers of ten -/
def Pow (w : World) : Prop := Lib.TabIs Tryd.prog w "internal/strconv.uint64pow10" .u64 Lib.pow10Tab
theorem pow_below {w w' : World} (h : Pow w) (hb : Below w.heap.size w w') : Pow w' := var_below h hb
theorem itoaF_any (x : Int) (w : World) (h0 : -9223372036854775808 ≤ x) (h1 : x ≤ 9223372036854775807) (hp : Pow w) :
    Calls Tryd.prog 36 #[.int .i64 x, .int .i64 10] w (StrPost w (Lib.itoa x)) := by
  refine (Tryd.strconv_FormatInt_10 x h0 h1 w hp).mono ?_
  rintro e w' ⟨rfl, k, os, rfl⟩
  exact ⟨rfl, Lib.below_grow _ _ (Nat.le_refl _) _ _⟩
theorem decI (z : Int) (m : Nat) (w : World) (h0 : z = (m : Int)) (h1 : m ≤ 9223372036854775807) : Calls Tryd.prog 30 #[.int .i64 z] w (StrPost w (Lib.decDigits m)) := by
  subst h0
  exact dec_any m m w (Nat.le_refl _) h1
theorem itoa_neg' {x : Int} {u : Nat} (h : x < 0) (e : -x = (u : Int)) : Lib.itoa x = 45 :: Lib.decDigits u := by
  unfold Lib.itoa
  rw [if_pos h]
  congr 2
  omega
theorem itoa_pos' {x : Int} {u : Nat} (h : ¬ x < 0) (e : x = (u : Int)) : Lib.itoa x = Lib.decDigits u := by
  unfold Lib.itoa
  rw [if_neg h]
  congr 1
  omega
set_option maxHeartbeats 4000000 in
theorem sNumber_any (x : Int) (w : World) (h0 : -1000000000000000000 ≤ x) (h1 : x ≤ 1000000000000000000) :
    Calls Tryd.prog 16 #[.int .i64 x] w (StrPost w (Lib.itoa x)) := by
  by_cases hx : x < 0
  · obtain ⟨u, hu⟩ : ∃ u : Nat, -x = (u : Int) := ⟨x.natAbs, by omega⟩
    have hw : IntKind.i64.wrap (-x) = (u : Int) := by rw [IntWalk.i64_in _ (by omega)]; exact hu
    have HR := Lib.hid (itoa_neg' hx hu)
    have hl := dec_length u (by omega)
    have hu2 : u ≤ 9223372036854775807 := by omega
    clear hu
    go_enter Tryd.func16, Tryd.ntmps16
    go_wp2_with (go_at_call 30; refine (decI _ u _ rfl hu2).mono ?_; rintro e w1 ⟨rfl, hb⟩)
    go_ret
    exact ⟨ret_str (by rw [HR.out]; exact ByteArray.mk_append_mk [45] (Lib.decDigits u)), hb⟩
  · obtain ⟨u, hu⟩ : ∃ u : Nat, x = (u : Int) := ⟨x.natAbs, by omega⟩
    have HR := Lib.hid (itoa_pos' hx hu)
    have hu2 : u ≤ 9223372036854775807 := by omega
    have HU := Lib.hid hu
    clear hu
    go_enter Tryd.func16, Tryd.ntmps16
    go_wp2_with (go_at_call 30; refine (decI _ u _ HU.out hu2).mono ?_; rintro e w1 ⟨rfl, hb⟩)
    go_ret
    exact ⟨ret_str (by rw [HR.out]), hb⟩
/-- a line's bytes -/
def lnP (s : List UInt8) (x : Int) : List UInt8 := s ++ (61 :: (Lib.itoa x ++ [10]))
theorem lnP_len (s : List UInt8) {x : Int} (h0 : -1000000000000000000 ≤ x) (h1 : x ≤ 1000000000000000000) : (lnP s x).length ≤ s.length + 23 := by
  have := Lib.itoa_length_le x (by omega) (by omega)
  unfold lnP
  simp only [List.length_append, List.length_cons, List.length_nil]
  omega
theorem catLn (s : ByteArray) (d : List UInt8) : (s ++ ByteArray.mk #[61] ++ ByteArray.mk d.toArray ++ ByteArray.mk #[10]) = ByteArray.mk (s.data.toList ++ (61 :: (d ++ [10]))).toArray := by
  apply ByteArray.ext
  simp [ByteArray.data_append]
set_option maxHeartbeats 4000000 in
theorem proofLine_any (s : ByteArray) (x : Int) (w : World) (hs : s.size ≤ 100) (h0 : -1000000000000000000 ≤ x) (h1 : x ≤ 1000000000000000000) (hp : Pow w) :
    Calls Tryd.prog 22 #[.string s, .int .i64 x] w (StrPost w (lnP s.data.toList x)) := by
  have HP := Lib.hid hp
  have hl := Lib.itoa_length_le x (by omega) (by omega)
  clear hp
  go_enter Tryd.func22, Tryd.ntmps22
  go_wp2_with (go_at_call 36; refine (itoaF_any x _ (by omega) (by omega) HP.out).mono ?_; rintro e w1 ⟨rfl, hb⟩)
  go_ret
  exact ⟨ret_str (catLn s _), hb⟩
end Go.Proofs.YtdbgcbkmcbgdiaaDoor.text
