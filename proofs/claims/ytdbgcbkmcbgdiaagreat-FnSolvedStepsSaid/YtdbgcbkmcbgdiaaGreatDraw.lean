/-
  Contracts of the source of drawn numbers: a number from 0 to n - 1, and what becomes of memory. Conditions: the source lies in memory as l01From lays it.
-/
import Derived.Test.YtdbgcbkmcbgdiaaGreatRows
import Derived.WalkKit
import Derived.ProofKit
import Derived.Lib.Hide
import Derived.RegionTactic
import Derived.BigRegion
import Derived.Deep.QuietTactic
import Derived.BigQuiet
namespace Go.Proofs.YtdbgcbkmcbgdiaaGreat.draw
open Go.RowKit
set_option linter.unusedVariables false

/-- a slice of bytes that reads as bytes, of len elements, below block B -/
def CodeAt (w : World) (cv : Value) (len B : Nat) : Prop :=
  (∃ p cap, cv = .slice p 0 cap ∧ len = 0) ∨ ∃ cb co cap, cv = .slice (some ⟨cb, co, none⟩) len cap ∧ cb < B ∧ len ≤ 140737488351232 ∧ ∀ k, k < len → ∃ x : Nat, x ≤ 255 ∧ w.cell? ⟨cb, co + k, none⟩ = some (.int .u8 x)

structure Src (w : World) (b : Nat) (cv : Value) (len : Nat) (i s : Int) : Prop where
  c0 : w.cell? ⟨b, 0, none⟩ = some cv
  c1 : w.cell? ⟨b, 1, none⟩ = some (.int .i64 i)
  c2 : w.cell? ⟨b, 2, none⟩ = some (.int .i64 s)
  f1 : w.frozen? ⟨b, 1, none⟩ = false
  f2 : w.frozen? ⟨b, 2, none⟩ = false
  i0 : 0 ≤ i
  i1 : i ≤ len
  s0 : 0 ≤ s
  s1 : s < 2147483647

/-- block b alone has been written -/
structure Only (b : Nat) (w w' : World) : Prop where
  os : w'.os = w.os
  tape : w'.tape = w.tape
  output : w'.output = w.output
  size : w.heap.size = w'.heap.size
  block : ∀ k, k ≠ b → w'.heap[k]? = w.heap[k]?

theorem Only.refl (b : Nat) (w : World) : Only b w w := ⟨rfl, rfl, rfl, rfl, fun _ _ => rfl⟩
theorem Only.trans {b : Nat} {w1 w2 w3 : World} (h : Only b w1 w2) (k : Only b w2 w3) : Only b w1 w3 :=
  ⟨k.os.trans h.os, k.tape.trans h.tape, k.output.trans h.output, h.size.trans k.size, fun i hi => (k.block i hi).trans (h.block i hi)⟩
theorem Only.drewN {b : Nat} {w1 w2 : World} (h : Only b w1 w2) (n : Nat) : Only b w1 (w2.drewN n) :=
  ⟨h.os, h.tape, h.output, h.size, h.block⟩
theorem Only.drew {b : Nat} {w1 w2 : World} (h : Only b w1 w2) : Only b w1 w2.drew :=
  ⟨h.os, h.tape, h.output, h.size, h.block⟩
theorem Only.setCell {b : Nat} {w1 w2 : World} (h : Only b w1 w2) (o : Nat) (v : Value) : Only b w1 (w2.setCell ⟨b, o, none⟩ v) :=
  h.trans ⟨rfl, rfl, rfl, by simp [World.setCell], fun k hk => Below.heap_setCell _ _ _ _ hk⟩

def NextPost (w : World) (b : Nat) (cv : Value) (len : Nat) (n : Int) (e : Ending) (w' : World) : Prop :=
  ∃ v i s : Int, e = .returned (.int .i64 v) ∧ 0 ≤ v ∧ (v < n ∨ v = 0) ∧ Src w' b cv len i s ∧ Only b w w'

theorem next_small (w : World) (b : Nat) (cv : Value) (len : Nat) (i s n : Int) (h : Src w b cv len i s) (hn : n ≤ 1) :
    Calls Tryz.prog 41 #[.pointer (some ⟨b, 0, none⟩), .int .i64 n] w (NextPost w b cv len n) := by
  go_enter Tryz.func41, Tryz.ntmps41
  go_wp2
  go_ret
  exact ⟨0, i, s, rfl, by omega, by omega, h, Only.refl _ _⟩

theorem step_bd {s : Int} (h0 : 0 ≤ s) (h1 : s < 2147483647) : 0 ≤ (s * 48271 + 7) % 2147483647 ∧ (s * 48271 + 7) % 2147483647 < 2147483647 := by omega

theorem src_step {w : World} {b : Nat} {cv : Value} {len : Nat} {i s : Int} (h : Src w b cv len i s) (s' : Int) (k0 : 0 ≤ s') (k1 : s' < 2147483647) : Src (w.setCell ⟨b, 2, none⟩ (.int .i64 s')) b cv len i s' := by
  obtain ⟨c0, c1, c2, f1, f2, i0, i1, s0, s1⟩ := h
  constructor <;> first | omega | assumption | go_simp
theorem src_tick {w : World} {b : Nat} {cv : Value} {len : Nat} {i s : Int} (h : Src w b cv len i s) (i' : Int) (k0 : 0 ≤ i') (k1 : i' ≤ len) : Src (w.setCell ⟨b, 1, none⟩ (.int .i64 i')) b cv len i' s := by
  obtain ⟨c0, c1, c2, f1, f2, i0, i1, s0, s1⟩ := h
  constructor <;> first | omega | assumption | go_simp
theorem src_drawn {w : World} {b : Nat} {cv : Value} {len : Nat} {i s : Int} (h : Src w b cv len i s) (n : Nat) : Src (w.drewN n) b cv len i s := by
  obtain ⟨c0, c1, c2, f1, f2, i0, i1, s0, s1⟩ := h
  exact ⟨c0, c1, c2, f1, f2, i0, i1, s0, s1⟩
theorem src_only {w w' : World} {b c : Nat} {cv : Value} {len : Nat} {i s : Int} (h : Src w b cv len i s) (g : ∀ a : Addr, a.block = b → w'.heap[a.block]? = w.heap[a.block]?) : Src w' b cv len i s := by
  obtain ⟨c0, c1, c2, f1, f2, i0, i1, s0, s1⟩ := h
  exact ⟨(World.cell?_of_block (g _ rfl)).trans c0, (World.cell?_of_block (g _ rfl)).trans c1, (World.cell?_of_block (g _ rfl)).trans c2, (World.frozen?_of_block (g _ rfl)).trans f1, (World.frozen?_of_block (g _ rfl)).trans f2, i0, i1, s0, s1⟩

theorem rem_bd {x n : Int} (h : 0 ≤ x) (hn : 1 < n) : 0 ≤ x % n ∧ x % n < n := ⟨Int.emod_nonneg _ (by omega), Int.emod_lt_of_pos _ (by omega)⟩

set_option maxHeartbeats 1000000 in
theorem next_big (w : World) (b B : Nat) (cv : Value) (len : Nat) (i s n : Int) (h : Src w b cv len i s) (hc : CodeAt w cv len B) (hB : B ≤ b) (hn : 1 < n) (hn2 : n ≤ 9223372036854775807) :
    Calls Tryz.prog 41 #[.pointer (some ⟨b, 0, none⟩), .int .i64 n] w (NextPost w b cv len n) := by
  have hS := Lib.hid h
  obtain ⟨c0, c1, c2, f1, f2, i0, i1, s0, s1⟩ := h
  have hstep := step_bd s0 s1
  rcases hc with ⟨p0, cap0, rfl, rfl⟩ | ⟨cb, co, cap, rfl, hcb, hlen, hcells⟩
  · go_enter Tryz.func41, Tryz.ntmps41
    go_wp2
    go_quiet (fail)
    go_wp2
    go_ret
    exact ⟨_, i, _, rfl, (rem_bd (by omega) hn).1, .inl (rem_bd (by omega) hn).2, src_drawn (src_step hS.out _ hstep.1 hstep.2) _, ((Only.refl _ _).setCell _ _).drewN _⟩
  · by_cases hlt : i < len
    · obtain ⟨k, rfl⟩ := Int.eq_ofNat_of_zero_le i0
      obtain ⟨x, hx, hcell⟩ := hcells k (by omega)
      clear hcells
      have hne : cb ≠ b := by omega
      have hne' : b ≠ cb := by omega
      by_cases h256 : n ≤ 256
      · by_cases hev : ((k : Int) + 1) % 2 = 0
        · go_enter Tryz.func41, Tryz.ntmps41
          go_wp2
          go_quiet (fail)
          go_wp2
          go_quiet (fail)
          go_wp2
          go_quiet (fail)
          go_wp2
          go_ret
          exact ⟨_, _, _, rfl, (rem_bd (by omega) hn).1, .inl (rem_bd (by omega) hn).2, src_drawn (src_tick (src_drawn (src_step hS.out _ hstep.1 hstep.2) _) _ (by omega) (by omega)) _, ((((Only.refl _ _).setCell _ _).drewN _).setCell _ _).drewN _⟩

        · go_enter Tryz.func41, Tryz.ntmps41
          go_wp2
          go_quiet (fail)
          go_wp2
          go_quiet (fail)
          go_wp2
          go_ret
          exact ⟨_, _, _, rfl, (rem_bd (by omega) hn).1, .inl (rem_bd (by omega) hn).2, (src_tick (src_drawn (src_step hS.out _ hstep.1 hstep.2) _) _ (by omega) (by omega)), (((Only.refl _ _).setCell _ _).drewN _).setCell _ _⟩

      · go_enter Tryz.func41, Tryz.ntmps41
        go_wp2
        go_quiet (fail)
        go_wp2
        go_quiet (fail)
        go_wp2
        go_ret
        exact ⟨_, _, _, rfl, (rem_bd (by omega) hn).1, .inl (rem_bd (by omega) hn).2, (src_tick (src_drawn (src_step hS.out _ hstep.1 hstep.2) _) _ (by omega) (by omega)), (((Only.refl _ _).setCell _ _).drewN _).setCell _ _⟩

    · go_enter Tryz.func41, Tryz.ntmps41
      go_wp2
      go_quiet (fail)
      go_wp2
      go_ret
      exact ⟨_, i, _, rfl, (rem_bd (by omega) hn).1, .inl (rem_bd (by omega) hn).2, src_drawn (src_step hS.out _ hstep.1 hstep.2) _, ((Only.refl _ _).setCell _ _).drewN _⟩

end Go.Proofs.YtdbgcbkmcbgdiaaGreat.draw
