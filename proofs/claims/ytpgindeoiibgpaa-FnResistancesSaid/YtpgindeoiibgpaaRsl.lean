/-
  Answers that are slices of integers, nil or in new memory: marking and comparing them. Condition: fewer than two million elements.
-/
import Derived.Test.YtpgindeoiibgpaaRows
import Derived.Test.YtpgindeoiibgpaaInts
import Derived.Test.YtpgindeoiibgpaaSum
import Derived.Deep.QuietTactic
import Derived.BigQuiet
import Derived.Laws.EntriesVeiled
import Derived.IntWalk
import Derived.Test.YtpgindeoiibgpaaLaw
import Derived.WalkKit
import Derived.ProofKit
import Derived.OpenShut
import Derived.Lib.Hide
namespace Go.Proofs.Ytpgindeoiibgpaa.mem
open Go.ChangeShapes Go.WideShapes Go.ChangeAt Go.RowKit
set_option linter.unusedVariables false
set_option maxRecDepth 100000

/-- v is nil, or a slice from the start of block b: N elements S 0, .. -/
structure Res (w : World) (v : Value) (N : Nat) (S : Nat → Int) (b : Nat) : Prop where
  ex : (N = 0 ∧ v = .slice none 0 0) ∨ ∃ cap, v = .slice (some ⟨b, 0, none⟩) N cap ∧ Row w b N S ∧ b < w.heap.size
theorem Res.sl {w : World} {v : Value} {N b : Nat} {S : Nat → Int} (h : Res w v N S b) : Sl w v N S 0 w.heap.size := by
  obtain ⟨rfl, rfl⟩ | ⟨cap, rfl, h1, h2⟩ := h.ex
  · exact ⟨_, _, rfl, .inl rfl⟩
  · exact h1.sl (Nat.zero_le _) h2
theorem Res.only {w w' : World} {v : Value} {N b c : Nat} {S : Nat → Int} (h : Res w v N S b) (g : Only c w w') (hne : N = 0 ∨ b ≠ c) : Res w' v N S b := by
  obtain ⟨rfl, rfl⟩ | ⟨cap, rfl, h1, h2⟩ := h.ex
  · exact ⟨.inl ⟨rfl, rfl⟩⟩
  · refine ⟨.inr ⟨cap, rfl, ?_, by rw [← g.size]; exact h2⟩⟩
    rcases hne with rfl | hne
    · exact ⟨fun k hk => by omega, fun k hk => by omega⟩
    · exact h1.only g hne
theorem Res.below {w w' : World} {v : Value} {N b B : Nat} {S : Nat → Int} (h : Res w v N S b) (g : Below B w w') (hB : w.heap.size ≤ B) : Res w' v N S b := by
  obtain ⟨rfl, rfl⟩ | ⟨cap, rfl, h1, h2⟩ := h.ex
  · exact ⟨.inl ⟨rfl, rfl⟩⟩
  · exact ⟨.inr ⟨cap, rfl, h1.below g (by omega), Nat.lt_of_lt_of_le h2 g.size⟩⟩
theorem Res.drewN {w : World} {v : Value} {N b : Nat} {S : Nat → Int} (h : Res w v N S b) (m : Nat) : Res (w.drewN m) v N S b := by
  obtain ⟨rfl, rfl⟩ | ⟨cap, rfl, h1, h2⟩ := h.ex
  · exact ⟨.inl ⟨rfl, rfl⟩⟩
  · exact ⟨.inr ⟨cap, rfl, h1.drewN m, h2⟩⟩
theorem Res.lt {w : World} {v : Value} {N b : Nat} {S : Nat → Int} (h : Res w v N S b) : N = 0 ∨ b < w.heap.size := by
  obtain ⟨rfl, rfl⟩ | ⟨cap, rfl, h1, h2⟩ := h.ex
  · exact .inl rfl
  · exact .inr h2

set_option maxHeartbeats 1000000 in
theorem mark_nil (k : Int) (w : World) : Calls Try.prog 33 #[.slice none 0 0, .int .i64 k] w fun e w' => e = .returned (.int .i64 k) ∧ w = w' := by
  go_enter Try.func33, Try.ntmps33
  go_wp2_with fail
  go_loop [1, 5] (fun q i => q = .int .i64 k ∧ i = .int .i64 0) (fun _ _ => 0)
  case atStart => exact ⟨rfl, rfl⟩
  case round =>
    obtain ⟨rfl, rfl⟩ := hrel
    go_wp2_with fail
    go_ret
    exact ⟨rfl, rfl⟩
theorem mark_res (w : World) (v : Value) (N b : Nat) (S : Nat → Int) (k : Int) (h : Res w v N S b) (hn : N ≤ 2000000) (k0 : 0 ≤ k) (k1 : k ≤ 1000000000000) :
    Calls Try.prog 33 #[v, .int .i64 k] w fun e w' => e = .returned (.int .i64 (k + N)) ∧ Res w' v N (fun j => k + j) b ∧ Only b w w' := by
  obtain ⟨rfl, rfl⟩ | ⟨cap, rfl, h1, h2⟩ := h.ex
  · refine (mark_nil k w).mono ?_
    rintro e w' ⟨rfl, rfl⟩
    exact ⟨ret_i (by simp), ⟨.inl ⟨rfl, rfl⟩⟩, Only.refl _ _⟩
  · refine (mark_any w b N cap S k h1 hn k0 k1).mono ?_
    rintro e w' ⟨rfl, r, o⟩
    exact ⟨rfl, ⟨.inr ⟨cap, rfl, r, by rw [← o.size]; exact h2⟩⟩, o⟩

theorem below_only {B b : Nat} {w0 w w' : World} (h : Below B w0 w) (g : Only b w w') (hb : B ≤ b) : Below B w0 w' := h.trans (g.below hb)
theorem below_dr {B : Nat} {w w' : World} (h : Below B w w') (n : Nat) : Below B w (w'.drewN n) := ⟨h.os, h.tape, h.output, h.size, h.block⟩

/-- what a []int64 reads as -/
def IntsArg (W : World) (v : Value) : Prop := ∃ n d, n ≤ 9223372036854775807 ∧ Sl W v n d 0 W.heap.size
theorem cells_i64 : Try.prog.cellsOf 2 = 1 := by kernel_rfl
theorem open_ints64 {H : Type} {enc : TypeId × Value → H} {W : World} {v : Value} {d : DataW H} {p : List MemPlace} {b0 : Nat}
    (hval : Value.okWide Try.prog W .any b0 24 v) (h : DataW.Trod enc Try.prog W 0 (fun _ => true) true 24 v d p) : IntsArg W v := by
  obtain ⟨a0, len, cap, rfl⟩ := okWide_slice Try.underlying24 hval
  obtain ⟨fuel, hf⟩ := h
  rcases open_ints Try.underlying24 Try.underlying2 cells_i64 hf with ⟨hcs, hx⟩ | ⟨a, len', cap', zs, hcs, _, hl, hm, hz, hx, hcell, hwz⟩
  · simp [Value.cells] at hcs
    obtain ⟨rfl, rfl, rfl⟩ := hcs
    exact ⟨0, fun _ => 0, by omega, ⟨_, _, rfl, .inl rfl⟩⟩
  · simp [Value.cells] at hcs
    obtain ⟨rfl, rfl, rfl⟩ := hcs
    simp only [if_true] at hz
    have hm' : cap ≤ 9223372036854775807 := by simpa [maxLen] using hm
    refine ⟨len, fun k => zs.getD k 0, by omega, ?_⟩
    rcases Nat.eq_zero_or_pos len with rfl | hpos
    · exact ⟨_, _, rfl, .inl rfl⟩
    · have h0 := hcell 0 (by omega)
      have hsp : a.spot = none := by
        cases hs : a.spot with
        | none => rfl
        | some s =>
          simp only [World.cell?, Addr.add, hs, if_true, Option.isSome_some] at h0
          split at h0 <;> simp_all
      obtain ⟨cb, co, sp⟩ := a
      simp only at hsp
      subst hsp
      refine ⟨_, _, rfl, .inr ⟨cb, co, rfl, Nat.zero_le _, World.block_lt_of_cell? W _ h0, fun k hk => ?_⟩⟩
      have hk' := hcell k (by omega)
      have hadd : (⟨cb, co, none⟩ : Addr).add k = ⟨cb, co + k, none⟩ := by unfold Addr.add; split <;> simp_all
      rw [hadd] at hk'
      exact hk'
theorem below_drewN {B : Nat} {w w' : World} (h : Below B w w') (n : Nat) : Below B w (w'.drewN n) := ⟨h.os, h.tape, h.output, h.size, h.block⟩
theorem belowNext {W w w' : World} (h : Below W.heap.size W w) (g : Below w.heap.size w w') : Below W.heap.size W w' := h.trans (g.mono h.size)
theorem eq_all (w : World) (v u : Value) (n : Nat) (d : Nat → Int) (lo hi lo' hi' : Nat) (h : Sl w v n d lo hi) (g : Sl w u n d lo' hi') (hn : n ≤ 2000000) :
    Calls Try.prog 31 #[v, u] w fun e w' => e = .returned (.bool true) ∧ (∀ B, Below B w w') ∧ (w'.heap.size ≤ w.heap.size ∧ w.heap.size ≤ w'.heap.size) := by
  refine (eq_any w v u n d lo hi lo' hi' h g hn).mono ?_
  rintro e w' ⟨rfl, m, rfl⟩
  exact ⟨rfl, fun B => ⟨rfl, rfl, rfl, Nat.le_refl _, fun k hk => rfl⟩, Nat.le_refl _, Nat.le_refl _⟩
theorem Res.next {w w' : World} {v : Value} {N b : Nat} {S : Nat → Int} (h : Res w v N S b) (g : Below w.heap.size w w') : Res w' v N S b := h.below g (Nat.le_refl _)
theorem Res.shape {w : World} {v : Value} {N b : Nat} {S : Nat → Int} (h : Res w v N S b) : ∃ p cap, v = .slice p N cap := by
  obtain ⟨rfl, rfl⟩ | ⟨cap, rfl, h1, h2⟩ := h.ex
  · exact ⟨_, _, rfl⟩
  · exact ⟨_, _, rfl⟩
theorem Res.own {w : World} {p : Option Addr} {N b c : Nat} {S : Nat → Int} (h : Res w (.slice p N c) N S b) (hn : 0 < N) : p = some ⟨b, 0, none⟩ ∧ Row w b N S ∧ b < w.heap.size := by
  obtain ⟨h0, h1⟩ | ⟨cap, he, h1, h2⟩ := h.ex
  · omega
  · injection he with e1 _ _
    exact ⟨e1, h1, h2⟩

theorem sumL_any (w : World) (v : Value) (n : Nat) (d : Nat → Int) (lo hi : Nat) (h : Sl w v n d lo hi) (hs : share.Sums d n) (hn : n ≤ 1000000) :
    Calls Try.prog 22 #[v] w fun e w' => e = .returned (.int .i64 (share.tot d n)) ∧ w = w' := by
  obtain ⟨p, cap, rfl, hc⟩ := h
  have HC := Lib.hid hc
  have HS := Lib.hid hs
  clear hc hs
  go_enter Try.func22, Try.ntmps22
  go_wp2_with fail
  go_loop [3, 4] (fun q i => ∃ j : Nat, q = .int .i64 (share.tot d j) ∧ i = .int .i64 j ∧ j ≤ n) (fun _ i => n - (intOf i).toNat)
  case atStart => exact ⟨0, rfl, rfl, Nat.zero_le _⟩
  case round =>
    obtain ⟨j, rfl, rfl, hj⟩ := hrel
    by_cases hlt : j < n
    · rcases HC.out with h0 | ⟨b, o, rfl, g1, g2, g3⟩
      · omega
      have c1 := g3 j hlt
      have s1 := HS.out j hj
      have s2 := HS.out (j + 1) hlt
      have e2 : share.tot d (j + 1) = share.tot d j + d j := rfl
      have s3 : 0 ≤ share.tot d j + d j ∧ share.tot d j + d j ≤ 1000000000000 := by omega
      clear g3 s2 e2
      go_wp2_with fail
      go_round
      case rel => exact ⟨j + 1, rfl, by go_num, hlt⟩
      case measure => simp [intOf]; omega
    · obtain rfl : j = n := by omega
      go_wp2_with fail
      go_ret
      exact ⟨rfl, rfl⟩
theorem likeInts_sl (w : World) (v u : Value) (n : Nat) (d : Nat → Int) (lo hi lo' hi' : Nat) (h : Sl w v n d lo hi) (g : Sl w u n d lo' hi') (hn : n ≤ 1000000) :
    Calls Try.prog 20 #[v, u] w fun e w' => e = .returned (.bool true) ∧ Below w.heap.size w w' := by
  obtain ⟨p, cap, rfl, hc⟩ := h
  obtain ⟨p', cap', rfl, hc'⟩ := g
  have HC := Lib.hid hc
  have HC' := Lib.hid hc'
  clear hc hc'
  have hbb : ((n : Int) != n) = false := by simp
  go_enter Try.func20, Try.ntmps20
  go_wp2_with fail
  go_loopw [5] (fun i wr => ∃ k m : Nat, i = .int .i64 k ∧ k ≤ n ∧ wr = w.drewN m) (fun i _ => n - (intOf i).toNat)
  case atStart => exact ⟨0, 0, rfl, Nat.zero_le _, rfl⟩
  case round =>
    obtain ⟨k, m, rfl, hk, hw⟩ := hrel
    have HWR := Lib.hid hw
    by_cases hlt : k < n
    · rcases HC.out with h0 | ⟨b, o, rfl, g1, g2, g3⟩
      · omega
      rcases HC'.out with h0 | ⟨b', o', rfl, g1', g2', g3'⟩
      · omega
      have c1 : wr.cell? ⟨b, o + k, none⟩ = some (.int .i64 (d k)) := by rw [hw]; exact g3 k hlt
      have c2 : wr.cell? ⟨b', o' + k, none⟩ = some (.int .i64 (d k)) := by rw [hw]; exact g3' k hlt
      have hkn : (k : Int) < (n : Int) := by omega
      have hdd : (d k != d k) = false := by simp
      clear hw g3 g3'
      go_wp2_with fail
      go_quiet (fail)
      go_wp2_with fail
      go_roundw
      case rel => exact ⟨k + 1, m + nq, by go_num, hlt, by rw [HWR.out]; exact (World.drewN_drewN _ _ _)⟩
      case measure => simp [intOf]; omega
    · clear hw
      go_wp2_with fail
      go_ret
      exact ⟨rfl, by rw [HWR.out]; exact (below_drewN (Below.refl _ _) _)⟩
end Go.Proofs.Ytpgindeoiibgpaa.mem
