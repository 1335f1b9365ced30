/-
  The draw of a network and a node, by another's. Conditions: as each states.
-/
import Derived.Test.YtdmcggnhnkaoeaaRows
import Derived.Test.YtdmcggnhnkaoeaaDrH
import Derived.WalkKit
import Derived.ProofKit
import Derived.Lib.Hide
import Derived.OwnWalk
import Derived.Outline
import Derived.Deep.RegionHeld3
import Derived.Deep.Cut
import Derived.Deep.RegionWith
namespace Go.Proofs.Ytdmcggnhnkaoeaa.draw
open Go.RowKit
set_option linter.unusedVariables false

set_option maxRecDepth 100000 in
set_option maxHeartbeats 4000000 in
theorem neighDraw (w : World) (cv : Value) (len : Nat) (hc : CodeAt w cv len w.heap.size) : Calls Try.prog 25 #[cv] w (NetIdxPost w) := by
  have HC := Lib.hid hc
  have R1 := mem.boxed w (.slice none 0 0) (.slice none 0 0) 27
  have C1 := mem.below_new w (.cells #[.slice none 0 0, .slice none 0 0] 27)
  have hsz : (w.alloc (.cells #[.slice none 0 0, .slice none 0 0] 27)).heap.size = w.heap.size + 1 := by simp
  go_enter Try.func25, Try.ntmps25
  go_wp2_with fail
  generalize hW : w.alloc (.cells #[.slice none 0 0, .slice none 0 0] 27) = Wa at *
  clear hW hc
  replace hsz := Nat.le_antisymm_iff.1 hsz
  refine (nodeDraw Wa cv len (by have := codeAt_below HC.out C1; rcases this with h | ⟨cb, co, cap, h1, h2, h3⟩; exact .inl h; exact .inr ⟨cb, co, cap, h1, by omega, h3⟩)).mono ?_
  rintro e w2 ⟨v, n, m, N, P, b1, b2, x, rfl, hn, hm, hnm, hO, l1, l2, x0, x1, B2⟩
  obtain ⟨p0, c0, p1, c1, rfl⟩ := hO.shape
  have R2 := R1.next B2
  have f0 := R2.b0
  have f1 := R2.b1
  have k0 := R2.free 0
  have k1 := R2.free 1
  have C2 := mem.belowNext C1 B2
  have hO2 := ((mem.Only.refl w.heap.size w2).setCell 0 (.slice p0 n c0)).setCell 1 (.slice p1 m c1)
  have HO := Lib.hid (hO.upd (mem.Upd.of_only hO2) (.inr (by omega)) (.inr (by omega)))
  have HB := Lib.hid (mem.below_only C2 hO2 (by omega))
  clear hO2 hO C1 C2 B2 R1 R2
  go_wp2_with fail
  refine bodyPost_ret (v := .tuple #[.agg #[.slice p0 n c0, .slice p1 m c1], .int .i64 x]) (by simp [results, Try.results25, go_sem, f0, f1]) rfl ⟨_, n, m, N, P, b1, b2, x, rfl, hn, hm, hnm, HO.out, by omega, by omega, x0, x1, HB.out⟩
end Go.Proofs.Ytdmcggnhnkaoeaa.draw
