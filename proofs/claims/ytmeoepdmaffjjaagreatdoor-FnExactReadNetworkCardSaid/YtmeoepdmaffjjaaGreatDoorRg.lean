/-
  ReadNetwork: the program's answer is the model's. No condition.
-/
import Derived.Test.YtmeoepdmaffjjaaGreatDoorRows
import Derived.Test.YtmeoepdmaffjjaaGreatDoorRdM
namespace Go.Proofs.YtmeoepdmaffjjaaGreatDoor.text
open Go.RowKit Go.Proofs.YtmeoepdmaffjjaaGreatDoor.mem
set_option linter.unusedVariables false

theorem agreeRead {s : ByteArray} {e : Ending} {w1 : World} (h : SRAns s.data.toList e w1) : ∃ (n : Nat) (N : Nat → Nod) (m : Nat) (P : Nat → Pip) (f : Bool), n ≤ 1000 ∧ m ≤ 1000 ∧ (∃ v, e = .returned (.tuple #[v, .bool f]) ∧ NetAt w1 v n N m P 0 w1.heap.size) ∧ ∀ B e' w', RNAns B s e' w' → ∃ v b1 b2, e' = .returned (.tuple #[v, .bool f]) ∧ NetOwn w' v n N m P b1 b2 ∧ B ≤ b1 ∧ B ≤ b2 := by
  rcases h with ⟨v, n, N, m, P, hb, hl, rfl, hnet⟩ | ⟨hno, rfl⟩
  · have hz := net_sz hb
    refine ⟨n, N, m, P, true, by omega, by omega, ⟨v, rfl, hnet⟩, ?_⟩
    rintro B e' w' (⟨v', n', N', m', P', b1, b2, hb', hl', rfl, ho, h1, h2⟩ | ⟨hno, rfl⟩)
    · obtain ⟨rfl, rfl, a3, a4⟩ := netL_inj hb hb' (hl.trans hl'.symm)
      obtain ⟨v0, v1, rfl, g0, g1, g2⟩ := ho.ex
      exact ⟨_, b1, b2, rfl, ⟨v0, v1, rfl, g0.congr (fun i j hi hj => by unfold nodC; rw [a3 i hi]), g1.congr (fun i j hi hj => by unfold pipC; rw [a4 i hi]), g2⟩, h1, h2⟩
    · exact absurd hl (hno n N m P hb)
  · refine ⟨0, fun _ => ⟨⟨#[]⟩, 0, 0⟩, 0, fun _ => ⟨0, 0, 0, 0, 0⟩, false, by omega, by omega, ⟨_, rfl, ⟨_, _, rfl, Cs.none_ _ _ _ _ _, Cs.none_ _ _ _ _ _⟩⟩, ?_⟩
    rintro B e' w' (⟨v', n', N', m', P', b1, b2, hb', hl', rfl, ho, h1, h2⟩ | ⟨_, rfl⟩)
    · exact absurd hl' (hno _ _ _ _ hb')
    · exact ⟨_, B, B, rfl, ⟨_, _, rfl, OwnS.none_ _ _ _ _, OwnS.none_ _ _ _ _, .inl rfl⟩, Nat.le_refl _, Nat.le_refl _⟩
end Go.Proofs.YtmeoepdmaffjjaaGreatDoor.text
