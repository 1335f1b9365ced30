/-
  Several texts in one: Lvt, Lvg.
-/
import Derived.Test.YtebbnhnggjmbiaaRows
import Derived.Test.YtebbnhnggjmbiaaTvM
import Derived.Test.YtebbnhnggjmbiaaTsM
namespace Go.Proofs.Ytebbnhnggjmbiaa.mem
open Go.RowKit
set_option linter.unusedVariables false

theorem owns_sl0 {w : World} {v : Value} {n b : Nat} {d : Nat → Int} (h : OwnS w v n 1 (fun i _ => .int .i64 (d i)) b) : Sl w v n d 0 w.heap.size := by
  obtain ⟨p, cap, h1, h2, h3, h4 | ⟨h4, h5⟩⟩ := h.ex
  · exact ⟨p, cap, h1, .inl h4⟩
  · refine ⟨p, cap, h1, .inr ⟨b, 0, h4, Nat.zero_le _, h5.lt, fun k hk => ?_⟩⟩
    have := h5.cell k 0 hk (by omega)
    rw [Nat.mul_one, Nat.add_zero] at this
    rw [Nat.zero_add]
    exact this
theorem ownS_sh {w : World} {v : Value} {n z b : Nat} {c : Nat → Nat → Value} (h : OwnS w v n z c b) : ∃ p cap, v = .slice p n cap := by
  obtain ⟨p, cap, h1, _⟩ := h.ex
  exact ⟨p, cap, h1⟩
theorem ffC_ok2 {n : Nat} {N : Nat → Nod} {m : Nat} {P : Nat → Pip} {K : Nat} {d : Nat → Int} (h : ffC n N m P K d = 0) : flB (fflN n P m d) m = true := by
  unfold ffC at h
  split at h
  · split at h
    · split at h
      · next h1 => exact h1
      · omega
    · omega
  · next h1 => exact absurd h h1
end Go.Proofs.Ytebbnhnggjmbiaa.mem

namespace Go.Proofs.Ytebbnhnggjmbiaa.mem
open Go.RowKit
set_option linter.unusedVariables false

theorem agreeForestLevels (n : Nat) (N : Nat → Nod) (m : Nat) (P : Nat → Pip) (K : Nat) (d : Nat → Int) (r : Int) (l : Int) (hN : ∀ i, i < n → (N i).s.size ≤ 9223372036854775807) (_hn : n ≤ 2000000) (hm : m ≤ 2000000) (hK : K ≤ 2000000) :
    ∃ rn rd rc, rn ≤ 2000000 ∧ (∀ w v va, NetAt w v n N m P 0 w.heap.size → Sl w va K d 0 w.heap.size → Calls Try.prog 31 #[v, va, .int .i64 r, .int .i64 l] w (LIPost w rn rd rc)) ∧ (∀ w v va, NetAt w v n N m P 0 w.heap.size → Sl w va K d 0 w.heap.size → Calls Try.prog 30 #[v, va, .int .i64 r, .int .i64 l] w (LIPost w rn rd rc)) :=
  ⟨fvN n N m P K d r l, fun j => lvl n P m d r l (j : Nat), fvC n N m P K d r l, fvN_le n N m P K d r l _hn, fun w v va h hv => forestLevelsI_any w v n N m P 0 _ h (Nat.le_refl _) hN va K d 0 _ hv (Nat.le_refl _) (by omega) r l, fun w v va h hv => forestLevelsS_any w v n N m P 0 _ h (Nat.le_refl _) hN va K d 0 _ hv (Nat.le_refl _) (by omega) r l⟩
end Go.Proofs.Ytebbnhnggjmbiaa.mem
