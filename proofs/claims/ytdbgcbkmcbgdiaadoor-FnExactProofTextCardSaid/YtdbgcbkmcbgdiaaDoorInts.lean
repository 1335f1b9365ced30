/-
  Slices of integers: what they read as; contracts of the laws' own helpers toInt64S, eqInt64S, markInt64S, heldInt64S. Conditions: as each states.
-/
import Derived.Test.YtdbgcbkmcbgdiaaDoorRows
import Derived.Test.YtdbgcbkmcbgdiaaDoorMem
import Derived.Test.YtdbgcbkmcbgdiaaDoorMake
import Derived.WalkKit
import Derived.ProofKit
import Derived.Lib.Hide
import Derived.Deep.QuietTactic
import Derived.BigQuiet
namespace Go.Proofs.YtdbgcbkmcbgdiaaDoor.mem
open Go.RowKit
set_option linter.unusedVariables false

/-- v is a slice of n integers d 0, d 1, ..; its block, if it has elements, is one from lo on and below hi -/
structure Sl (w : World) (v : Value) (n : Nat) (d : Nat → Int) (lo hi : Nat) : Prop where
  ex : ∃ p cap, v = .slice p n cap ∧ (n = 0 ∨ ∃ b o, p = some ⟨b, o, none⟩ ∧ lo ≤ b ∧ b < hi ∧ ∀ k, k < n → w.cell? ⟨b, o + k, none⟩ = some (.int .i64 (d k)))
theorem Sl.below {w w' : World} {v : Value} {n : Nat} {d : Nat → Int} {lo hi B : Nat} (h : Sl w v n d lo hi) (g : Below B w w') (hB : hi ≤ B) : Sl w' v n d lo hi := by
  obtain ⟨p, cap, rfl, h | ⟨b, o, rfl, h1, h2, h3⟩⟩ := h
  · exact ⟨p, cap, rfl, .inl h⟩
  · exact ⟨_, cap, rfl, .inr ⟨b, o, rfl, h1, h2, fun k hk => (g.cell (p := ⟨b, o + k, none⟩) (by show b < B; omega)).trans (h3 k hk)⟩⟩
theorem Sl.only {w w' : World} {v : Value} {n c : Nat} {d : Nat → Int} {lo hi : Nat} (h : Sl w v n d lo hi) (g : Only c w w') (hc : c < lo ∨ hi ≤ c) : Sl w' v n d lo hi := by
  obtain ⟨p, cap, rfl, h | ⟨b, o, rfl, h1, h2, h3⟩⟩ := h
  · exact ⟨p, cap, rfl, .inl h⟩
  · exact ⟨_, cap, rfl, .inr ⟨b, o, rfl, h1, h2, fun k hk => (g.cell (a := ⟨b, o + k, none⟩) (by show b ≠ c; omega)).trans (h3 k hk)⟩⟩
theorem Sl.drewN {w : World} {v : Value} {n : Nat} {d : Nat → Int} {lo hi : Nat} (h : Sl w v n d lo hi) (m : Nat) : Sl (w.drewN m) v n d lo hi := by
  obtain ⟨p, cap, rfl, h | ⟨b, o, rfl, h1, h2, h3⟩⟩ := h
  · exact ⟨p, cap, rfl, .inl h⟩
  · exact ⟨_, cap, rfl, .inr ⟨b, o, rfl, h1, h2, h3⟩⟩
theorem Sl.mono {w : World} {v : Value} {n : Nat} {d : Nat → Int} {lo hi lo' hi' : Nat} (h : Sl w v n d lo hi) (h1 : lo' ≤ lo) (h2 : hi ≤ hi') : Sl w v n d lo' hi' := by
  obtain ⟨p, cap, rfl, h | ⟨b, o, rfl, g1, g2, g3⟩⟩ := h
  · exact ⟨p, cap, rfl, .inl h⟩
  · exact ⟨_, cap, rfl, .inr ⟨b, o, rfl, by omega, by omega, g3⟩⟩
theorem Sl.congr {w : World} {v : Value} {n : Nat} {d d' : Nat → Int} {lo hi : Nat} (h : Sl w v n d lo hi) (e : ∀ k, k < n → d k = d' k) : Sl w v n d' lo hi := by
  obtain ⟨p, cap, rfl, h | ⟨b, o, rfl, g1, g2, g3⟩⟩ := h
  · exact ⟨p, cap, rfl, .inl h⟩
  · exact ⟨_, cap, rfl, .inr ⟨b, o, rfl, g1, g2, fun k hk => by rw [← e k hk]; exact g3 k hk⟩⟩
theorem Row.sl {w : World} {b n cap : Nat} {d : Nat → Int} (h : Row w b n d) {lo hi : Nat} (h1 : lo ≤ b) (h2 : b < hi) : Sl w (.slice (some ⟨b, 0, none⟩) n cap) n d lo hi :=
  ⟨_, cap, rfl, .inr ⟨b, 0, rfl, h1, h2, fun k hk => by rw [Nat.zero_add]; exact h.cell k hk⟩⟩

def CopyPost (w : World) (n : Nat) (d : Nat → Int) (e : Ending) (w' : World) : Prop :=
  e = .returned (.slice (some ⟨w.heap.size, 0, none⟩) n n) ∧ Row w' w.heap.size n d ∧ Below w.heap.size w w' ∧ w'.heap.size = w.heap.size + 1

theorem ret_sl {a b n m : Nat} (h : a = b) : Ending.returned (.slice (some ⟨a, 0, none⟩) n m) = .returned (.slice (some ⟨b, 0, none⟩) n m) := by rw [h]
theorem ret_i {k : IntKind} {a b : Int} (h : a = b) : Ending.returned (.int k a) = .returned (.int k b) := by rw [h]

set_option maxHeartbeats 1000000 in
theorem copy_any (w : World) (v : Value) (n : Nat) (d : Nat → Int) (lo hi : Nat) (h : Sl w v n d lo hi) (hn : n ≤ 2000000) (hhi : hi ≤ w.heap.size) :
    Calls Tryd.prog 19 #[v] w (CopyPost w n d) := by
  obtain ⟨p, cap, rfl, hc⟩ := h
  have hmk := fun W => make_int64 W n hn
  have HC := Lib.hid hc
  clear hc
  go_enter Tryd.func19, Tryd.ntmps19
  go_wp2_with fail
  generalize hW : w.alloc (Obj.cells (zeros n) 2) = W1
  have f1 : Row W1 w.heap.size n (fun _ => 0) := by rw [← hW]; exact row_made w n _
  have f2 : Below w.heap.size w W1 := by rw [← hW]; exact (Below.refl _ _).alloc (Nat.le_refl _) _
  have f4 : W1.heap.size = w.heap.size + 1 := by rw [← hW]; simp
  have F1 := Lib.hid f1
  have F2 := Lib.hid f2
  have F4 := Lib.hid f4
  clear f1 f2 f4 hW hmk
  generalize hO : w.heap.size = ob at *
  have HOB := Lib.hid hO
  clear hO
  go_loopw [4] (fun i wr => ∃ k : Nat, i = .int .i64 k ∧ k ≤ n ∧ Row wr ob n (fun j => if j < k then d j else 0) ∧ Only ob W1 wr) (fun i _ => n - (intOf i).toNat)
  case atStart => exact ⟨0, rfl, Nat.zero_le _, F1.out.congr (fun k hk => by simp), Only.refl _ _⟩
  case round =>
    obtain ⟨k, rfl, hk, hrow, honly⟩ := hrel
    have HW := Lib.hid hrow
    have HO := Lib.hid honly
    by_cases hlt : k < n
    · rcases HC.out with h0 | ⟨b, o, rfl, g1, g2, g3⟩
      · omega
      have fr := hrow.free k hlt
      have ck := hrow.cell k hlt
      have hne : b ≠ ob := by omega
      have cs : wr.cell? ⟨b, o + k, none⟩ = some (.int .i64 (d k)) :=
        ((honly.cell (a := ⟨b, o + k, none⟩) hne).trans (F2.out.cell (p := ⟨b, o + k, none⟩) (by show b < ob; omega))).trans (g3 k hlt)
      clear hrow honly g3
      go_wp2_with fail
      go_roundw
      case rel =>
        have hs := (HW.out.set k (d k) hlt).congr (d' := fun j => if j < k + 1 then d j else 0) (fun j hj => by
          unfold upd
          by_cases e : j = k
          · rw [if_pos e, if_pos (by omega), e]
          · rw [if_neg e]
            show (if j < k then d j else 0) = _
            by_cases e2 : j < k
            · rw [if_pos e2, if_pos (by omega)]
            · rw [if_neg e2, if_neg (by omega)])
        exact ⟨k + 1, by go_num, hlt, hs, HO.out.setCell _ _⟩
      case measure => simp [intOf]; omega
    · clear hrow honly
      go_wp2_with fail
      go_ret
      refine ⟨ret_sl HOB.out.symm, ?_, ?_, ?_⟩
      · rw [HOB.out]; exact HW.out.congr (fun j hj => if_pos (by omega))
      · rw [HOB.out]; exact F2.out.trans (HO.out.below (Nat.le_refl _))
      · rw [← HO.out.size, F4.out, HOB.out]

set_option maxHeartbeats 1000000 in
/-- two slices that read the same: eqInt64S says so -/
theorem eq_any (w : World) (v u : Value) (n : Nat) (d : Nat → Int) (lo hi lo' hi' : Nat) (h : Sl w v n d lo hi) (g : Sl w u n d lo' hi') (hn : n ≤ 2000000) :
    Calls Tryd.prog 26 #[v, u] w fun e w' => e = .returned (.bool true) ∧ ∃ m, w' = w.drewN m := by
  obtain ⟨p, cap, rfl, hc⟩ := h
  obtain ⟨p', cap', rfl, hc'⟩ := g
  have HC := Lib.hid hc
  have HC' := Lib.hid hc'
  clear hc hc'
  have hbb : ((n : Int) == n) = true := by simp
  go_enter Tryd.func26, Tryd.ntmps26
  go_wp2_with fail
  go_loopw [5] (fun i wr => ∃ k m : Nat, i = .int .i64 k ∧ k ≤ n ∧ wr = w.drewN m) (fun i _ => n - (intOf i).toNat)
  case atStart => exact ⟨0, 0, rfl, Nat.zero_le _, rfl⟩
  case round =>
    obtain ⟨k, m, rfl, hk, hw⟩ := hrel
    have HWR := Lib.hid hw
    by_cases hlt : k < n
    · rcases HC.out with h0 | ⟨b, o, rfl, g1, g2, g3⟩
      · omega
      rcases HC'.out with h0 | ⟨b', o', rfl, g1', g2', g3'⟩
      · omega
      have c1 : wr.cell? ⟨b, o + k, none⟩ = some (.int .i64 (d k)) := by rw [hw]; exact g3 k hlt
      have c2 : wr.cell? ⟨b', o' + k, none⟩ = some (.int .i64 (d k)) := by rw [hw]; exact g3' k hlt
      have hkn : (k : Int) < (n : Int) := by omega
      have hdd : (d k != d k) = false := by simp
      clear hw g3 g3'
      go_wp2_with fail
      go_quiet (fail)
      go_wp2_with fail
      go_roundw
      case rel => exact ⟨k + 1, m + nq, by go_num, hlt, by rw [HWR.out]; exact (World.drewN_drewN _ _ _)⟩
      case measure => simp [intOf]; omega
    · clear hw
      go_wp2_with fail
      go_ret
      exact ⟨rfl, m, HWR.out⟩

end Go.Proofs.YtdbgcbkmcbgdiaaDoor.mem
