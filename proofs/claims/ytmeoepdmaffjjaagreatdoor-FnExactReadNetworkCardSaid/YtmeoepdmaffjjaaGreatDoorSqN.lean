/-
  The model's splitting of a string at its newlines. Condition: the string has at most 2^20 bytes.
-/
import Derived.Test.YtmeoepdmaffjjaaGreatDoorRows
import Derived.Test.YtmeoepdmaffjjaaGreatDoorTxB
import Derived.Test.YtmeoepdmaffjjaaGreatDoorSpN
import Derived.Test.YtmeoepdmaffjjaaGreatDoorSq
import Derived.WalkKit
import Derived.ProofKit
import Derived.Lib.Hide
import Derived.OwnWalk
namespace Go.Proofs.YtmeoepdmaffjjaaGreatDoor.nl
open Go.RowKit Go.Proofs.YtmeoepdmaffjjaaGreatDoor.mem Go.Proofs.YtmeoepdmaffjjaaGreatDoor.text
set_option linter.unusedVariables false
set_option maxRecDepth 100000
theorem no_newline {L : List UInt8} {f k : Nat} (h : ∀ j, f ≤ j → j < k → L[j]? ≠ some 10) : (10 : UInt8) ∉ (L.drop f).take (k - f) := by
  intro hm
  obtain ⟨i, hi⟩ := List.mem_iff_getElem?.1 hm
  have hlt : i < k - f := by
    have := (List.getElem?_eq_some_iff.1 hi).1
    simp only [List.length_take] at this
    omega
  rw [List.getElem?_take, if_pos hlt, List.getElem?_drop] at hi
  exact h (f + i) (by omega) (by omega) hi
theorem drop_cut {L : List UInt8} {f k : Nat} (hf : f ≤ k) (h : L[k]? = some 10) : L.drop f = (L.drop f).take (k - f) ++ 10 :: L.drop (k + 1) := by
  have hk := (List.getElem?_eq_some_iff.1 h).1
  have e : (L.drop f).drop (k - f) = 10 :: L.drop (k + 1) := by
    rw [List.drop_drop, show f + (k - f) = k by omega, List.drop_eq_getElem_cons hk]
    congr 1
    exact (List.getElem?_eq_some_iff.1 h).2
  rw [← e, List.take_append_drop]
theorem split_step {L : List UInt8} {f k : Nat} (hf : f ≤ k) (h : L[k]? = some 10) (hn : ∀ j, f ≤ j → j < k → L[j]? ≠ some 10) : sp L.length (L.drop f) = (L.drop f).take (k - f) :: sp L.length (L.drop (k + 1)) := by
  have hk := (List.getElem?_eq_some_iff.1 h).1
  obtain ⟨m, hm⟩ : ∃ m, L.length = m + 1 := ⟨L.length - 1, by omega⟩
  rw [hm, drop_cut hf h, sp_one (no_newline hn)]
  congr 1
  · rw [← drop_cut hf h]
  · exact sp_big _ _ _ (by simp; omega) (by simp; omega)
theorem split_last {L : List UInt8} {f : Nat} (hn : ∀ j, f ≤ j → j < L.length → L[j]? ≠ some 10) : sp L.length (L.drop f) = [(L.drop f).take (L.length - f)] := by
  have e : (L.drop f).take (L.length - f) = L.drop f := List.take_of_length_le (by simp)
  have := no_newline hn
  rw [e] at this ⊢
  exact sp_end this
/-- how far the splitting has come -/
structure Split (L : List UInt8) (k f : Nat) (bs : List ByteArray) : Prop where
  ex : (k ≤ L.length ∧ f ≤ k ∧ bs.length ≤ k ∧ sp L.length L = bs.map (·.data.toList) ++ sp L.length (L.drop f) ∧ ∀ j, f ≤ j → j < k → L[j]? ≠ some 10) ∨ (k = L.length + 1 ∧ sp L.length L = bs.map (·.data.toList))

set_option maxHeartbeats 2000000 in
theorem split_any (w : World) (s : ByteArray) (hs : s.size ≤ 1048576) :
    Calls Tryz.prog 35 #[.string s, .int .u8 10] w fun e w' => ∃ v bs, e = .returned v ∧ Words w.heap.size w' v bs ∧ bs.map (·.data.toList) = sp s.data.toList.length s.data.toList ∧ Below w.heap.size w w' := by
  have hL : s.data.toList.length = s.size := Array.length_toList
  have HL := Lib.hid hL
  have W0 : Words w.heap.size (w.alloc (.cells #[] 9)) (.slice (some ⟨w.heap.size, 0, none⟩) 0 0) [] := words_new w [] (by simp)
  have C0 := below_new w (.cells #[] 9)
  clear hL
  go_enter Tryz.func35, Tryz.ntmps35
  go_wp2_with fail
  go_loopw [7, 5, 6] (fun i out fr wr => ∃ (k f : Nat) (out' : Value) (bs : List ByteArray), i = .int .i64 k ∧ fr = .int .i64 f ∧ out' = out ∧ Words w.heap.size wr out' bs ∧ Split s.data.toList k f bs ∧ Below w.heap.size w wr) (fun i _ _ _ => s.size + 1 - (intOf i).toNat)
  case atStart => exact ⟨0, 0, _, [], rfl, rfl, rfl, W0, ⟨.inl ⟨Nat.zero_le _, Nat.le_refl _, Nat.le_refl _, by simp, fun j h1 h2 => by omega⟩⟩, C0⟩
  case round =>
    obtain ⟨k, f, out, bs, rfl, rfl, rfl, hW, hS, hB⟩ := hrel
    obtain ⟨po, co, rfl⟩ := RowE.shape hW
    have HW := Lib.hid hW
    have HB := Lib.hid hB
    have hsz : w.heap.size ≤ wr.heap.size := hB.size
    rcases hS.ex with ⟨h1, h2, h3, h4, h5⟩ | ⟨h1, h4⟩
    · rw [HL.out] at h1
      have H4 := Lib.hid h4
      have H5 := Lib.hid h5
      clear hW hB hS h4 h5
      have app : ∀ (W1 : ∃ L', s.extract f k = L'), ∃ v' w', Sem.run Tryz.prog (Builtin.append_ #[37, 37] 37 #[.slice po bs.length co, .slice (some ⟨wr.heap.size, 0, none⟩) 1 1]) (wr.alloc (.cells #[.string (s.extract f k)] 9)) = .ok v' w' ∧ Words w.heap.size w' v' (bs ++ [s.extract f k]) ∧ Below w.heap.size w w' := fun _ => by
        obtain ⟨v', w', hr, hw', hu⟩ := words_app2 w.heap.size wr _ bs (s.extract f k) HW.out hsz (by omega)
        exact ⟨v', w', hr, hw', HB.out.trans (hu.below hsz (fun x _ e => (HW.out.own.lt x e.symm).1))⟩
      obtain ⟨v5, w5, hr, hw5, hb5⟩ := app ⟨_, rfl⟩
      have HW5 := Lib.hid hw5
      have HB5 := Lib.hid hb5
      clear app hw5 hb5
      have hfk : (f : Int) ≤ k := by omega
      have hks : (k : Int) ≤ s.size := by omega
      by_cases hlt : k < s.size
      · have hg : s.data.toList[k]? = some s[k] := by simp [ByteArray.getElem_eq_getElem_data]
        have HG := Lib.hid hg
        have hki : (k : Int) < s.size := by omega
        have hne : ((k : Int) == s.size) = false := by simp; omega
        clear hg
        by_cases hc : (s[k].toNat : Int) = 10
        · have h32 : s[k] = 10 := by
            apply UInt8.toNat_inj.1
            have : (10 : UInt8).toNat = 10 := rfl
            omega
          have st := split_step h2 (HG.out.trans (by rw [h32])) H5.out
          have HST := Lib.hid st
          clear st h32
          go_wp2_with (at_builtin; refine mem.wpList_appT hr rfl _ _ rfl rfl rfl rfl ?_)
          go_roundw
          case rel => exact ⟨k + 1, k + 1, v5, _, by go_num, by go_num, rfl, HW5.out, ⟨.inl ⟨by rw [HL.out]; omega, Nat.le_refl _, by simp; omega, by rw [H4.out, HST.out, List.map_append, List.map_cons, List.map_nil, extract_mid s f k (by omega), List.append_assoc]; rfl, fun j h1 h2 => by omega⟩⟩, HB5.out⟩
          case measure => simp [intOf]; omega
        · have hc' : ((s[k].toNat : Int) == 10) = false := by simpa using hc
          have hn32 : Hid (s.data.toList[k]? ≠ some 10) := Lib.hid (fun e => by
            rw [HG.out] at e
            injection e with e
            rw [e] at hc
            exact hc rfl)
          clear hc hr
          go_wp2_with fail
          go_roundw
          case rel => exact ⟨k + 1, f, _, bs, by go_num, rfl, rfl, HW.out, ⟨.inl ⟨by rw [HL.out]; omega, by omega, by omega, H4.out, fun j g1 g2 => by
            rcases (by omega : j < k ∨ j = k) with g | g
            · exact H5.out j g1 g
            · rw [g]; exact hn32.out⟩⟩, HB.out⟩
          case measure => simp [intOf]; omega
      · obtain rfl : k = s.size := by omega
        have st := split_last (L := s.data.toList) (f := f) (by rw [HL.out]; exact H5.out)
        have HST := Lib.hid st
        clear st
        go_wp2_with (at_builtin; refine mem.wpList_appT hr rfl _ _ rfl rfl rfl rfl ?_)
        go_roundw
        case rel => exact ⟨s.size + 1, s.size + 1, v5, _, by go_num, by go_num, rfl, HW5.out, ⟨.inr ⟨by rw [HL.out], by rw [H4.out, HST.out, List.map_append, List.map_cons, List.map_nil, extract_mid s f s.size (Nat.le_refl _), HL.out]⟩⟩, HB5.out⟩
        case measure => simp [intOf] <;> omega
    · rw [HL.out] at h1
      subst h1
      have H4 := Lib.hid h4
      clear hW hB hS h4
      go_wp2_with fail
      go_ret
      exact ⟨_, bs, rfl, HW.out, H4.out.symm, HB.out⟩
end Go.Proofs.YtmeoepdmaffjjaaGreatDoor.nl
