/-
  The model's reading of words as numbers. Condition: at most eight words.
-/
import Derived.Test.YtmeoepdmaffjjaaGreatDoorRows
import Derived.Test.YtmeoepdmaffjjaaGreatDoorSq
import Derived.Test.YtmeoepdmaffjjaaGreatDoorVal2
import Derived.Test.YtmeoepdmaffjjaaGreatDoorOwn
import Derived.WalkKit
import Derived.ProofKit
import Derived.Lib.Hide
import Derived.OwnWalk
namespace Go.Proofs.YtmeoepdmaffjjaaGreatDoor.text
open Go.RowKit Go.Proofs.YtmeoepdmaffjjaaGreatDoor.mem
set_option linter.unusedVariables false
set_option maxRecDepth 100000

structure Wd (w : World) (v : Value) (ws : List ByteArray) : Prop where
  ex : ∃ p cap, v = .slice p ws.length cap ∧ (ws = [] ∨ ∃ bw o, p = some ⟨bw, o, none⟩ ∧ bw < w.heap.size ∧ ∀ (i : Nat) x, ws[i]? = some x → w.cell? ⟨bw, o + i, none⟩ = some (.string x))
/-- word j is the decimal text of d j -/
def IsDec (d : Nat → Int) (j : Nat) (x : ByteArray) : Prop := ∃ m : Nat, d j = m ∧ m < 1000000000000000000 ∧ Lib.decDigits m = x.data.toList
def NsPost (w : World) (ws : List ByteArray) (e : Ending) (w' : World) : Prop :=
  ((e = .returned (.tuple #[.slice none 0 0, .bool false]) ∧ ∃ (j : Nat) (x : ByteArray), ws[j]? = some x ∧ ∀ m, m < 1000000000000000000 → Lib.decDigits m ≠ x.data.toList) ∨
   ∃ v g d, e = .returned (.tuple #[v, .bool true]) ∧ Own w' v ws.length d g ∧ w.heap.size ≤ g ∧ ∀ (j : Nat) x, ws[j]? = some x → IsDec d j x) ∧ Below w.heap.size w w'
theorem cell_i1 (w : World) (x : Int) : (w.alloc (.cells #[.int .i64 x] 2)).cell? ⟨w.heap.size, 0, none⟩ = some (.int .i64 x) := by
  have := heap_alloc_new w (Obj.cells #[.int .i64 x] 2)
  simp only [World.cell?, this]
  simp
set_option maxHeartbeats 2000000 in
theorem numbers_any (w : World) (v : Value) (ws : List ByteArray) (h : Wd w v ws) (hn : ws.length ≤ 8) (hsz : ∀ x ∈ ws, x.size ≤ 9223372036854775807) :
    Calls Tryz.prog 37 #[v] w (NsPost w ws) := by
  obtain ⟨p, cap, rfl, hc⟩ := h.ex
  have HC := Lib.hid hc
  have HZ := Lib.hid hsz
  have O0 := Own.nilled w (fun _ => 0)
  have C0 := below_new w (.cells #[] 2)
  clear h hc hsz
  go_enter Tryz.func37, Tryz.ntmps37
  go_wp2_with fail
  go_loopw [5, 4, 6, 7] (fun i out _ _ wr => ∃ (k g : Nat) (d : Nat → Int) (out' : Value), i = .int .i64 k ∧ out' = out ∧ k ≤ ws.length ∧ Own wr out' k d g ∧ w.heap.size ≤ g ∧ (∀ j x, j < k → ws[j]? = some x → IsDec d j x) ∧ Below w.heap.size w wr) (fun i _ _ _ _ => ws.length - (intOf i).toNat)
  case atStart => exact ⟨0, _, _, _, rfl, rfl, Nat.zero_le _, O0, Nat.le_refl _, fun j x hj => by omega, C0⟩
  case round =>
    obtain ⟨k, g, d, out, rfl, rfl, hk, hO, hg, hd, hB⟩ := hrel
    obtain ⟨co, rfl⟩ := hO.shape
    have HO := Lib.hid hO
    have HD := Lib.hid hd
    have HB := Lib.hid hB
    have hsr := hB.size
    clear hO hd hB
    by_cases hlt : k < ws.length
    · rcases HC.out with h0 | ⟨bw, o, rfl, hb, hcell⟩
      · rw [h0] at hlt
        simp at hlt
      obtain ⟨x, hx⟩ : ∃ x, ws[k]? = some x := ⟨ws[k], List.getElem?_eq_getElem hlt⟩
      have c1 : wr.cell? ⟨bw, o + k, none⟩ = some (.string x) := (HB.out.cell (p := ⟨bw, o + k, none⟩) hb).trans (hcell k x hx)
      have hkI : (k : Int) < ws.length := by omega
      have hxz := HZ.out x (List.mem_of_getElem? hx)
      have HX := Lib.hid hx
      clear hx hcell
      go_wp2_with fail
      refine (value_any x wr hxz).mono ?_
      rintro e w2 ⟨m, ok, rfl, hm, ht, hf, b2⟩
      have HT := Lib.hid ht
      have HF := Lib.hid hf
      have HB2 := Lib.hid (HB.out.trans (b2.mono hsr))
      have O2 := HO.out.keep (b2.block g HO.out.lt)
      have hs2 := Nat.le_trans hsr b2.size
      have hgl := O2.lt
      clear b2 ht hf
      cases ok
      · clear O2
        go_wp2_with fail
        refine bodyPost_ret (v := .tuple #[.slice none 0 0, .bool false]) (by simp [results, Tryz.results37, go_sem]) rfl ⟨.inl ⟨rfl, k, x, HX.out, HF.out (by trivial)⟩, HB2.out⟩
      · obtain ⟨v5, w5, g5, hr, ap⟩ := app_run (w2.alloc (.cells #[.int .i64 m] 2)) _ k d g m w2.heap.size (O2.alloc _) (cell_i1 w2 m) (by omega)
        have Y := Lib.hid (ap.below (B := w.heap.size) hg (by rw [szal]; omega))
        have AP := Lib.hid ap.own
        have HB5 := Lib.hid ((HB2.out.trans ((below_new w2 (.cells #[.int .i64 m] 2)).mono hs2)).trans Y.out.1)
        clear ap O2
        go_wp2_with (at_builtin; refine mem.wpList_appT hr rfl _ _ rfl rfl rfl rfl ?_)
        go_roundw
        case rel => exact ⟨k + 1, g5, _, v5, by go_num, rfl, hlt, AP.out, Y.out.2, fun j y hj hy => by
          rcases (by omega : j < k ∨ j = k) with hj | rfl
          · obtain ⟨m', h1, h2⟩ := HD.out j y hj hy
            exact ⟨m', by unfold upd; rw [if_neg (by omega)]; exact h1, h2⟩
          · obtain rfl : y = x := by
              have := hy.symm.trans HX.out
              injection this
            exact ⟨m, by unfold upd; rw [if_pos rfl], hm, HT.out (by trivial)⟩, HB5.out⟩
        case measure => simp [intOf]; omega
    · obtain rfl : k = ws.length := by omega
      go_wp2_with fail
      refine bodyPost_ret (v := .tuple #[.slice (some ⟨g, 0, none⟩) ws.length co, .bool true]) (by simp [results, Tryz.results37, go_sem]) rfl ⟨.inr ⟨_, g, d, rfl, HO.out, hg, fun j x hx => HD.out j x (List.getElem?_eq_some_iff.1 hx).1 hx⟩, HB.out⟩
end Go.Proofs.YtmeoepdmaffjjaaGreatDoor.text
