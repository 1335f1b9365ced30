/-
  The draw of a total and its weights. Condition: as stated.
-/
import Derived.Test.YtmjmamiokkkblabRows
import Derived.Test.YtmjmamiokkkblabDrawB
import Derived.Test.YtmjmamiokkkblabRes
import Derived.Test.YtmjmamiokkkblabColl
import Derived.Test.YtmjmamiokkkblabMake
import Derived.Test.YtmjmamiokkkblabOwn
import Derived.WalkKit
import Derived.ProofKit
import Derived.Lib.Hide
import Derived.OwnWalk
import Derived.Outline
import Derived.Deep.Cut
namespace Go.Proofs.Ytmjmamiokkkblab.draw
open Go.RowKit
set_option linter.unusedVariables false
set_option maxRecDepth 100000

theorem _root_.Go.Proofs.Ytmjmamiokkkblab.mem.Res.only' {w w' : World} {v : Value} {N b c : Nat} {S : Nat → Int} (h : mem.Res w v N S b) (g : Only c w w') (hne : N = 0 ∨ b ≠ c) : mem.Res w' v N S b := h.only ⟨g.os, g.tape, g.output, g.size, g.block⟩ hne
theorem _root_.Go.Proofs.Ytmjmamiokkkblab.mem.Res.row {w : World} {p : Option Addr} {N b c : Nat} {S : Nat → Int} (h : mem.Res w (.slice p N c) N S b) (hn : 0 < N) : mem.Row w b N S ∧ b < w.heap.size := by
  obtain ⟨h0, h1⟩ | ⟨cap, he, h1, h2⟩ := h.ex
  · omega
  · exact ⟨h1, h2⟩
theorem _root_.Go.Proofs.Ytmjmamiokkkblab.mem.only_below' {b B : Nat} {w w' : World} (h : mem.Only b w w') (hB : B ≤ b) : Below B w w' := h.below hB
theorem belowNext {W w w' : World} (h : Below W.heap.size W w) (g : Below w.heap.size w w') : Below W.heap.size W w' := h.trans (g.mono h.size)
theorem tabX (W : World) (t : TypeId) (c : Array Value) (hc : ∀ j, j < c.size → ∃ y : Int, c[j]? = some (.int .i64 y)) (j : Nat) (hj : j < c.size) : ∃ y : Int, (W.alloc (.cells c t)).cell? ⟨W.heap.size, j, none⟩ = some (.int .i64 y) := by
  obtain ⟨y, hy⟩ := hc j hj
  refine ⟨y, ?_⟩
  have e := heap_alloc_new W (.cells c t)
  simp only [World.cell?, e]
  simpa using hy
/-- a total and weights have been drawn -/
def SharesDrawn (w : World) (e : Ending) (w' : World) : Prop :=
  ∃ (v : Value) (T : Int) (n : Nat) (d : Nat → Int) (g : Nat), e = .returned (.tuple #[.int .i64 T, v]) ∧ n ≤ 1000 ∧ mem.Res w' v n d g ∧ w.heap.size ≤ g ∧ Below w.heap.size w w'

set_option maxHeartbeats 8000000 in
theorem sharesDraw (w : World) (cv : Value) (len : Nat) (hc : CodeAt w cv len w.heap.size) : Calls Try.prog 6 #[cv] w (SharesDrawn w) := by
  have HC := Lib.hid hc
  go_enter Try.func6, Try.ntmps6
  go_wp2_with fail
  refine (from_any w cv len hc).mono ?_
  rintro e w1 ⟨s1, rfl, hS1, B1, z1⟩
  clear hc
  obtain ⟨b, hbe⟩ : ∃ b, b = w.heap.size := ⟨_, rfl⟩
  rw [← hbe] at hS1 z1 ⊢
  replace hbe := Nat.le_antisymm_iff.1 hbe
  replace z1 := Nat.le_antisymm_iff.1 z1
  have hlt1 := src_lt hS1
  have S2 := src_alloc hS1 hlt1 (.cells #[] 2)
  have C2 := belowNext B1 (below_new w1 (.cells #[] 2))
  have O2 := mem.Own.nilled w1 (fun _ => 0)
  have hsz : w1.heap.size < (w1.alloc (.cells #[] 2)).heap.size := by simp
  go_wp2_with fail
  generalize hW : w1.alloc (.cells #[] 2) = w2 at *
  clear hW hS1 B1
  refine (next_any w2 b w.heap.size cv len 0 s1 7 S2 (codeAt_below HC.out C2) (by omega) (by omega)).mono ?_
  rintro e w3 ⟨x, i3, s3, rfl, x0, x1, S3, o3⟩
  have O3 := O2.keep (o3.block w1.heap.size (by omega))
  have C3 := C2.trans (only_below o3 (by omega))
  have hx1 : IntKind.i64.wrap (1 + x) = 1 + x := IntWalk.i64_in _ (by omega)
  obtain ⟨c, rfl⟩ := Int.eq_ofNat_of_zero_le x0
  have hc1 : c ≤ 7 := by omega
  have hbg : b < w1.heap.size := hlt1
  generalize hg : w1.heap.size = g0 at *
  clear hg S2 C2 O2 o3
  have hg0 : w.heap.size ≤ g0 := by omega
  go_wp2_with fail
  go_loopw [6, 5] (fun i out wr => ∃ (k j g : Nat) (d : Nat → Int) (iv sv : Int) (out' : Value), i = .int .i64 k ∧ out' = out ∧ k + j = c + 1 ∧ mem.Own wr out' j d g ∧ w.heap.size ≤ g ∧ b ≠ g ∧ Src wr b cv len iv sv ∧ Below w.heap.size w wr) (fun i _ _ => (intOf i).toNat)
  case atStart => exact ⟨c + 1, 0, g0, _, i3, s3, _, by go_num, rfl, by omega, O3, hg0, by omega, S3, C3⟩
  case round =>
    obtain ⟨k, j, g, d, iv, sv, out, rfl, rfl, hkj, hO, hg, hne, hS, hB⟩ := hrel
    obtain ⟨co, rfl⟩ := hO.shape
    have HO := Lib.hid hO
    have HB := Lib.hid hB
    have HS := Lib.hid hS
    clear hO hB hS
    by_cases hk : 0 < k
    · have hkI : (0 : Int) < k := by omega
      go_wp2_with fail
      refine (next_any wr b w.heap.size cv len iv sv 4 HS.out (codeAt_below HC.out HB.out) (by omega) (by omega)).mono ?_
      rintro e wa ⟨x, ia, sa, rfl, xa0, xa1, Sa, oa⟩
      have Ba := HB.out.trans (only_below oa (by omega))
      go_wp2_with fail
      refine (next_any wa b w.heap.size cv len ia sa 50 Sa (codeAt_below HC.out Ba) (by omega) (by omega)).mono ?_
      rintro e wb ⟨y, ib, sb, rfl, y0, y1, Sb, ob⟩
      have Bb := Lib.hid (Ba.trans (only_below ob (by omega)))
      have Ob := (HO.out.keep (oa.block g hne.symm)).keep (ob.block g hne.symm)
      have hxy0 := Int.mul_nonneg xa0 y0
      have hxy1 : x * y ≤ 4 * 50 := Int.mul_le_mul (by omega) (by omega) y0 (by omega)
      have hmul : IntKind.i64.wrap (x * y) = x * y := IntWalk.i64_in _ (by omega)
      have hbl := src_lt Sb
      have hgl := Ob.lt
      have Sb' := Lib.hid (src_alloc Sb hbl (.cells #[.int .i64 (x * y)] 2))
      have O2 := Ob.alloc (.cells #[.int .i64 (x * y)] 2)
      obtain ⟨v5, w5, g5, hr, ap⟩ := mem.app_run (wb.alloc (.cells #[.int .i64 (x * y)] 2)) _ j d g (x * y) wb.heap.size O2 (mem.cell_new1 wb (x * y)) (by omega)
      have hsz : (wb.alloc (.cells #[.int .i64 (x * y)] 2)).heap.size = wb.heap.size + 1 := by simp
      have Y := Lib.hid (ap.below (B := w.heap.size) hg (by omega))
      have Z := Lib.hid (ap.other (c := b) hne (by omega))
      have hs5 : w.heap.size ≤ wb.heap.size := Bb.out.size
      have B5 := Lib.hid (belowNext Bb.out (below_new wb (.cells #[.int .i64 (x * y)] 2)) |>.trans Y.out.1)
      have AP := Lib.hid ap.own
      clear ap O2 Ob Sb Ba oa ob Sa hsz hxy0 hxy1
      go_wp2_with (at_builtin; refine mem.wpList_app hr rfl _ _ rfl rfl rfl rfl ?_)
      go_roundw
      case rel => exact ⟨k - 1, j + 1, g5, _, ib, sb, v5, by go_num, rfl, by omega, AP.out, Y.out.2, Z.out.2, src_only (c := 0) Sb'.out (fun a ha => by rw [ha]; exact Z.out.1), B5.out⟩
      case measure => simp [intOf]; omega
    · obtain rfl : k = 0 := by omega
      clear hk
      have hj : 0 < j := by omega
      have hj1 : j ≤ 1000 := by omega
      have hrow := HO.out.row
      have hgl := HO.out.lt
      have HR := Lib.hid (⟨.inr ⟨co, rfl, hrow, hgl⟩⟩ : mem.Res wr (.slice (some ⟨g, 0, none⟩) j co) j d g)
      clear hrow HO
      go_wp2_with fail
      refine (next_any wr b w.heap.size cv len iv sv 300 HS.out (codeAt_below HC.out HB.out) (by omega) (by omega)).mono ?_
      rintro e wa ⟨T, ia, sa, rfl, T0, T1, Sa, oa⟩
      have Ba := HB.out.trans (only_below oa (by omega))
      go_wp2_with fail
      refine (next_any wa b w.heap.size cv len ia sa 20 Sa (codeAt_below HC.out Ba) (by omega) (by omega)).mono ?_
      rintro e wb ⟨q, ib, sb, rfl, q0, q1, Sb, ob⟩
      have Bb := Ba.trans (only_below ob (by omega))
      have Rb := (HR.out.only' oa (.inr hne.symm)).only' ob (.inr hne.symm)
      clear Sa Ba oa ob HR HS HB
      have hlb := src_lt Sb
      have h3 : (3 : Int) ≤ 9223372036854775807 := by omega
      have hsb : w.heap.size ≤ wb.heap.size := Bb.size
      have hcs : ∀ j, j < (#[.int .i64 (-1), .int .i64 1000000000, .int .i64 1000000001] : Array Value).size → ∃ y : Int, (#[.int .i64 (-1), .int .i64 1000000000, .int .i64 1000000001] : Array Value)[j]? = some (.int .i64 y) := by
        intro j hj
        rcases (by simp at hj; omega : j = 0 ∨ j = 1 ∨ j = 2) with rfl | rfl | rfl
        all_goals exact ⟨_, rfl⟩
      by_cases e0 : q = 0
      · subst e0
        have Sc := src_alloc Sb hlb (.cells #[.int .i64 (-1), .int .i64 1000000000, .int .i64 1000000001] 2)
        have Bc := belowNext Bb (below_new wb (.cells #[.int .i64 (-1), .int .i64 1000000000, .int .i64 1000000001] 2))
        have Rc := Lib.hid (Rb.below (below_new wb (.cells #[.int .i64 (-1), .int .i64 1000000000, .int .i64 1000000001] 2)) (Nat.le_refl _))
        clear Bb Rb
        go_wp2_with fail
        refine (next_any (wb.alloc (.cells #[.int .i64 (-1), .int .i64 1000000000, .int .i64 1000000001] 2)) b w.heap.size cv len ib sb 3 Sc (codeAt_below HC.out Bc) (by omega) h3).mono ?_
        rintro e wd ⟨x, id, sd, rfl, x0, x1, Sd, od⟩
        obtain ⟨k, rfl⟩ := Int.eq_ofNat_of_zero_le x0
        have hk3 : k < 3 := by omega
        have hk3I : (k : Int) < 3 := by omega
        obtain ⟨y, hy⟩ := tabX wb 2 _ hcs k hk3
        have hy2 : wd.cell? ⟨wb.heap.size, k, none⟩ = some (.int .i64 y) := (World.cell?_of_block (od.block wb.heap.size (by omega))).trans hy
        have Bd := Bc.trans (only_below od (by omega))
        have Rd := Lib.hid (Rc.out.only' od (.inr hne.symm))
        clear hy hcs Sc Sd od Bc
        go_wp2_with fail
        refine bodyPost_ret (v := .tuple #[.int .i64 y, .slice (some ⟨g, 0, none⟩) j co]) (by simp [results, Try.results6, go_sem]) rfl ⟨_, y, j, d, g, rfl, hj1, Rd.out, hg, Bd⟩
      have n0 : (q == 0) = false := by simpa using e0
      by_cases e1 : q = 1
      · subst e1
        have Sc := src_alloc Sb hlb (.cells #[.int .i64 (-1), .int .i64 1000000000, .int .i64 1000000001] 2)
        have Bc := belowNext Bb (below_new wb (.cells #[.int .i64 (-1), .int .i64 1000000000, .int .i64 1000000001] 2))
        have Rc := Rb.below (below_new wb (.cells #[.int .i64 (-1), .int .i64 1000000000, .int .i64 1000000001] 2)) (Nat.le_refl _)
        clear Bb Rb
        go_wp2_with fail
        refine (next_any (wb.alloc (.cells #[.int .i64 (-1), .int .i64 1000000000, .int .i64 1000000001] 2)) b w.heap.size cv len ib sb 3 Sc (codeAt_below HC.out Bc) (by omega) h3).mono ?_
        rintro e wd ⟨x, id, sd, rfl, x0, x1, Sd, od⟩
        obtain ⟨k, rfl⟩ := Int.eq_ofNat_of_zero_le x0
        have hk3 : k < 3 := by omega
        have hk3I : (k : Int) < 3 := by omega
        obtain ⟨y, hy⟩ := tabX wb 2 _ hcs k hk3
        have hy2 : wd.cell? ⟨wb.heap.size, k, none⟩ = some (.int .i64 y) := (World.cell?_of_block (od.block wb.heap.size (by omega))).trans hy
        have Bd := Bc.trans (only_below od (by omega))
        have Rd := Rc.only' od (.inr hne.symm)
        obtain ⟨r, rl⟩ := Rd.row hj
        have g0 := r.cell 0 hj
        have f0 := r.free 0 hj
        have R2 := Lib.hid (r.set 0 y hj)
        have B2 := Lib.hid (Bd.trans (mem.only_below' (b := g) ((mem.Only.refl g wd).setCell 0 (.int .i64 y)) hg))
        have hzd : wd.heap.size ≤ (wd.setCell ⟨g, 0, none⟩ (.int .i64 y)).heap.size := Nat.le_of_eq ((mem.Only.refl g wd).setCell 0 (.int .i64 y)).size
        have hjI : (0 : Int) < j := by omega
        clear hy hcs Sc Sd od Bc Rc Rd Bd r
        go_wp2_with fail
        refine bodyPost_ret (v := .tuple #[.int .i64 T, .slice (some ⟨g, 0, none⟩) j co]) (by simp [results, Try.results6, go_sem]) rfl ⟨_, T, j, _, g, rfl, hj1, ⟨.inr ⟨co, rfl, R2.out, by omega⟩⟩, hg, B2.out⟩
      have n1 : (q == 1) = false := by simpa using e1
      by_cases e2 : q = 2
      · subst e2
        clear hcs
        have h2 : (2 : Int) ≤ 9223372036854775807 := by omega
        go_wp2_with fail
        refine (next_any wb b w.heap.size cv len ib sb 2 Sb (codeAt_below HC.out Bb) (by omega) h2).mono ?_
        rintro e wd ⟨x, id, sd, rfl, x0, x1, Sd, od⟩
        obtain ⟨k, rfl⟩ := Int.eq_ofNat_of_zero_le x0
        have hk2 : k < 2 := by omega
        obtain ⟨nn, hnn, hn1⟩ : ∃ nn : Nat, 64 + (k : Int) = nn ∧ 64 ≤ nn ∧ nn ≤ 65 := ⟨64 + k, by omega, by omega, by omega⟩
        have hw : IntKind.i64.wrap (64 + (k : Int)) = nn := by rw [IntWalk.i64_in _ (by omega)]; exact hnn
        have hmk := fun W => mem.make_int64 W nn (by omega)
        have Bd := Bb.trans (only_below od (by omega))
        have hzd := Nat.le_antisymm_iff.1 od.size
        have Be := belowNext Bd (below_new wd (.cells (mem.zeros nn) 2))
        have re := mem.row_made wd nn 2
        have g0 := re.cell 3 (by omega)
        have f0 := re.free 3 (by omega)
        have R2 := Lib.hid (re.set 3 1 (by omega))
        have hsz : wd.heap.size < (wd.alloc (.cells (mem.zeros nn) 2)).heap.size := by simp
        have hO := (mem.Only.refl wd.heap.size (wd.alloc (.cells (mem.zeros nn) 2))).setCell 3 (.int .i64 1)
        have hsz2 := Nat.lt_of_lt_of_le hsz (Nat.le_of_eq hO.size)
        have B2 := Lib.hid (Be.trans (mem.only_below' hO (by omega)))
        have hkI : (3 : Int) < (nn : Int) := by omega
        clear Sd od Be Bd Bb Rb re hO Sb
        go_upto_region 15 with (fail)
        generalize hW : wd.alloc (.cells (mem.zeros nn) 2) = we at *
        clear hW hmk
        go_wp2_with fail
        refine bodyPost_ret (v := .tuple #[.int .i64 T, .slice (some ⟨wd.heap.size, 0, none⟩) nn nn]) (by simp [results, Try.results6, go_sem]) rfl ⟨_, T, nn, _, wd.heap.size, rfl, by omega, ⟨.inr ⟨_, rfl, R2.out, hsz2⟩⟩, by omega, B2.out⟩
      have n2 : (q == 2) = false := by simpa using e2
      by_cases e3 : q = 3
      · subst e3
        clear hcs
        go_wp2_with fail
        refine bodyPost_ret (v := .tuple #[.int .i64 T, .slice none 0 0]) (by simp [results, Try.results6, go_sem]) rfl ⟨_, T, 0, d, g, rfl, by omega, ⟨.inl ⟨rfl, rfl⟩⟩, hg, Bb⟩
      have n3 : (q == 3) = false := by simpa using e3
      have RB := Lib.hid Rb
      clear hcs Rb
      go_wp2_with fail
      refine bodyPost_ret (v := .tuple #[.int .i64 T, .slice (some ⟨g, 0, none⟩) j co]) (by simp [results, Try.results6, go_sem]) rfl ⟨_, T, j, d, g, rfl, hj1, RB.out, hg, Bb⟩
end Go.Proofs.Ytmjmamiokkkblab.draw
