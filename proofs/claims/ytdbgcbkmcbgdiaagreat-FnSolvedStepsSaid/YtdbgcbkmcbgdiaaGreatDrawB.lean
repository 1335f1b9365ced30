/-
  Contracts of the draws of numbers: how a source is made, and numbers drawn from it. Conditions: the source lies in memory as l01From lays it.
-/
import Derived.Test.YtdbgcbkmcbgdiaaGreatRows
import Derived.Test.YtdbgcbkmcbgdiaaGreatDraw
import Derived.WalkKit
import Derived.ProofKit
import Derived.Lib.Hide
import Derived.RegionTactic
import Derived.BigRegion
import Derived.Deep.QuietTactic
import Derived.BigQuiet
namespace Go.Proofs.YtdbgcbkmcbgdiaaGreat.draw
open Go.RowKit
set_option linter.unusedVariables false

theorem next_any (w : World) (b B : Nat) (cv : Value) (len : Nat) (i s n : Int) (h : Src w b cv len i s) (hc : CodeAt w cv len B) (hB : B ≤ b) (hn2 : n ≤ 9223372036854775807) :
    Calls Tryz.prog 41 #[.pointer (some ⟨b, 0, none⟩), .int .i64 n] w (NextPost w b cv len n) := by
  by_cases hn : n ≤ 1
  · exact next_small w b cv len i s n h hn
  · exact next_big w b B cv len i s n h hc hB (by omega) hn2

theorem codeAt_below {w w' : World} {cv : Value} {len B : Nat} (h : CodeAt w cv len B) (hb : Below B w w') : CodeAt w' cv len B := by
  rcases h with h | ⟨cb, co, cap, h1, h2, h3, h4⟩
  · exact .inl h
  · refine .inr ⟨cb, co, cap, h1, h2, h3, fun k hk => ?_⟩
    obtain ⟨x, hx, hc⟩ := h4 k hk
    exact ⟨x, hx, (hb.cell (p := ⟨cb, co + k, none⟩) h2).trans hc⟩

def FromPost (w : World) (cv : Value) (len : Nat) (e : Ending) (w' : World) : Prop :=
  ∃ s : Int, e = .returned (.pointer (some ⟨w.heap.size, 0, none⟩)) ∧ Src w' w.heap.size cv len 0 s ∧ Below w.heap.size w w' ∧ w'.heap.size = w.heap.size + 1

theorem src_new (w : World) (cv : Value) (len : Nat) (s : Int) (s0 : 0 ≤ s) (s1 : s < 2147483647) : Src (w.alloc (.cells #[cv, .int .i64 0, .int .i64 s] 106)) w.heap.size cv len 0 s := by
  constructor <;> first | omega | (go_simp; done)

def FromRel (w : World) (cv : Value) (len : Nat) (i : Value) (wr : World) : Prop :=
  ∃ (k : Nat) (s : Int), i = .int .i64 k ∧ k ≤ len ∧ k ≤ 64 ∧ Src wr w.heap.size cv len 0 s ∧ Below w.heap.size w wr ∧ wr.heap.size = w.heap.size + 1

theorem below_new (w : World) (o : Obj) : Below w.heap.size w (w.alloc o) := (Below.refl _ _).alloc (Nat.le_refl _) o

theorem seed_bd {s : Int} {x : Nat} (h0 : 0 ≤ s) (h1 : s < 2147483647) : 0 ≤ (s * 41 + x) % 2147483647 ∧ (s * 41 + x) % 2147483647 < 2147483647 := by omega

set_option maxHeartbeats 1000000 in
theorem from_any (w : World) (cv : Value) (len : Nat) (hc : CodeAt w cv len w.heap.size) :
    Calls Tryz.prog 38 #[cv] w (FromPost w cv len) := by
  have hC := Lib.hid hc
  rcases hc with ⟨p0, cap0, rfl, rfl⟩ | ⟨cb, co, cap, rfl, hcb, hlen, hcells⟩
  · go_enter Tryz.func38, Tryz.ntmps38
    go_wp2
    go_loopw [4] (fun i wr => FromRel w (.slice p0 0 cap0) 0 i wr) (fun i _ => 64 - (intOf i).toNat)
    case atStart => exact ⟨0, _, rfl, by omega, by omega, src_new w _ 0 _ (by omega) (by omega), below_new _ _, by simp⟩
    case round =>
      obtain ⟨k, s, rfl, hk, hk2, hsrc, hbel, hsz⟩ := hrel
      obtain rfl : k = 0 := by omega
      have hsz' := Lib.hid hsz
      clear hsz
      go_wp2
      go_ret
      exact ⟨s, rfl, hsrc, hbel, hsz'.out⟩
  · have hC2 := Lib.hid hcells
    clear hcells
    go_enter Tryz.func38, Tryz.ntmps38
    go_wp2
    go_loopw [4] (fun i wr => FromRel w (.slice (some ⟨cb, co, none⟩) len cap) len i wr) (fun i _ => 64 - (intOf i).toNat)
    case atStart => exact ⟨0, _, rfl, by omega, by omega, src_new w _ _ _ (by omega) (by omega), below_new _ _, by simp⟩
    case round =>
      obtain ⟨k, s, rfl, hk, hk2, hsrc, hbel, hsz⟩ := hrel
      have hS := Lib.hid hsrc
      have hsz' := Lib.hid hsz
      obtain ⟨c0, c1, c2, f1, f2, i0, i1, s0, s1⟩ := hsrc
      by_cases hlt : k < len
      · by_cases h64 : k < 64
        · obtain ⟨x, hx, hcell0⟩ := hC2.out k hlt
          have hcell := (hbel.cell (p := ⟨cb, co + k, none⟩) hcb).trans hcell0
          have hsb := seed_bd (x := x) s0 s1
          clear hcell0 hsz
          go_wp2
          go_region
          go_wp2
          go_roundw
          case rel => exact ⟨k + 1, _, by go_num, by omega, by omega, src_drawn (src_step hS.out _ hsb.1 hsb.2) 1, (hbel.setCell (Nat.le_refl _) _).drew, by rw [← hsz'.out]; simp [World.setCell]⟩
          case measure => simp [intOf]; omega
        · clear hsz
          go_wp2
          go_ret
          exact ⟨s, rfl, hS.out, hbel, hsz'.out⟩
      · clear hsz
        go_wp2
        go_ret
        exact ⟨s, rfl, hS.out, hbel, hsz'.out⟩

/-- what a draw leaves: nothing that was there has turned -/
theorem only_below {b B : Nat} {w w' : World} (h : Only b w w') (hB : B ≤ b) : Below B w w' :=
  ⟨h.os, h.tape, h.output, by rw [h.size]; exact Nat.le_refl _, fun k hk => h.block k (by omega)⟩
theorem only_src {b c : Nat} {w w' : World} {cv : Value} {len : Nat} {i s : Int} (h : Src w b cv len i s) (g : Only c w w') (hne : b ≠ c) : Src w' b cv len i s :=
  src_only (c := c) h (fun a ha => g.block _ (by omega))
theorem src_alloc {w : World} {b : Nat} {cv : Value} {len : Nat} {i s : Int} (h : Src w b cv len i s) (hb : b < w.heap.size) (o : Obj) : Src (w.alloc o) b cv len i s :=
  src_only (c := b) h (fun a ha => Below.heap_alloc _ _ _ (by omega))
theorem src_lt {w : World} {b : Nat} {cv : Value} {len : Nat} {i s : Int} (h : Src w b cv len i s) : b < w.heap.size := World.block_lt_of_cell? w _ h.c0

/-- a number drawn: it may be whatever; the source lies as it did, nothing else has turned -/
def NumPost (w : World) (b : Nat) (cv : Value) (len : Nat) (B : Nat) (e : Ending) (w' : World) : Prop :=
  ∃ v i s : Int, e = .returned (.int .i64 v) ∧ -9223372036854775808 ≤ v ∧ v ≤ 9223372036854775807 ∧ Src w' b cv len i s ∧ Below B w w'


theorem cell_new {w w2 : World} {c : Array Value} {t : TypeId} {b k : Nat} {v : Value} (h : Only b (w.alloc (.cells c t)) w2) (hb : b ≠ w.heap.size) (hk : c[k]? = some v) : w2.cell? ⟨w.heap.size, k, none⟩ = some v := by
  have e := h.block w.heap.size (by omega)
  rw [heap_alloc_new w _] at e
  simp [World.cell?, e, hk]

end Go.Proofs.YtdbgcbkmcbgdiaaGreat.draw
