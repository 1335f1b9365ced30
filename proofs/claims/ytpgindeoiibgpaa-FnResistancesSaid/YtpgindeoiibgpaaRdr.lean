/-
  The draws of chapter 9: lists of resistances, drops, flows. Conditions: as each states.
-/
import Derived.Test.YtpgindeoiibgpaaRows
import Derived.Test.YtpgindeoiibgpaaDrawB
import Derived.Test.YtpgindeoiibgpaaRsl
import Derived.Test.YtpgindeoiibgpaaMake
import Derived.Test.YtpgindeoiibgpaaOwn
import Derived.WalkKit
import Derived.ProofKit
import Derived.Lib.Hide
import Derived.OwnWalk
import Derived.Outline
import Derived.Deep.Cut
import Derived.IntWalk
import Derived.Lib.MinMax
namespace Go.Proofs.Ytpgindeoiibgpaa.draw
open Go.RowKit
set_option linter.unusedVariables false
set_option maxRecDepth 100000

theorem below_nx {W w w' : World} (h : Below W.heap.size W w) (g : Below w.heap.size w w') : Below W.heap.size W w' := h.trans (g.mono h.size)
theorem cell_n1 (w : World) (x : Int) : (w.alloc (.cells #[.int .i64 x] 2)).cell? ⟨w.heap.size, 0, none⟩ = some (.int .i64 x) := by
  have e := heap_alloc_new w (.cells #[.int .i64 x] 2)
  simp only [World.cell?, e]
  rfl
/-- of what was there block b alone has been written -/
structure Upb (b : Nat) (w w' : World) : Prop where
  os : w'.os = w.os
  tape : w'.tape = w.tape
  output : w'.output = w.output
  size : w.heap.size ≤ w'.heap.size
  block : ∀ k, k < w.heap.size → k ≠ b → w'.heap[k]? = w.heap[k]?
theorem Upb.refl (b : Nat) (w : World) : Upb b w w := ⟨rfl, rfl, rfl, Nat.le_refl _, fun _ _ _ => rfl⟩
theorem Upb.trans {b : Nat} {w1 w2 w3 : World} (h : Upb b w1 w2) (k : Upb b w2 w3) : Upb b w1 w3 :=
  ⟨k.os.trans h.os, k.tape.trans h.tape, k.output.trans h.output, Nat.le_trans h.size k.size, fun i hi hb => (k.block i (Nat.lt_of_lt_of_le hi h.size) hb).trans (h.block i hi hb)⟩
theorem Upb.only {b : Nat} {w1 w2 w3 : World} (h : Upb b w1 w2) (k : Only b w2 w3) : Upb b w1 w3 :=
  h.trans ⟨k.os, k.tape, k.output, Nat.le_of_eq k.size, fun i _ hb => k.block i hb⟩
theorem Upb.belowTo {b B : Nat} {w1 w2 w3 : World} (h : Upb b w1 w2) (k : Below B w2 w3) (hB : w1.heap.size ≤ B) : Upb b w1 w3 :=
  ⟨k.os.trans h.os, k.tape.trans h.tape, k.output.trans h.output, Nat.le_trans h.size k.size, fun i hi hb => (k.block i (Nat.lt_of_lt_of_le hi hB)).trans (h.block i hi hb)⟩
theorem Upb.below {b B : Nat} {w w' : World} (h : Upb b w w') (hB : B ≤ b) (hw : B ≤ w.heap.size) : Below B w w' :=
  ⟨h.os, h.tape, h.output, h.size, fun k hk => h.block k (by omega) (by omega)⟩
theorem _root_.Go.Proofs.Ytpgindeoiibgpaa.mem.Res.upb {w w' : World} {v : Value} {N g b : Nat} {S : Nat → Int} (h : mem.Res w v N S g) (u : Upb b w w') (hne : g ≠ b) : mem.Res w' v N S g := by
  obtain ⟨rfl, rfl⟩ | ⟨cap, rfl, h1, h2⟩ := h.ex
  · exact ⟨.inl ⟨rfl, rfl⟩⟩
  · exact ⟨.inr ⟨cap, rfl, ⟨fun k hk => (World.cell?_of_block (a := ⟨g, k, none⟩) (u.block g h2 hne)).trans (h1.cell k hk), fun k hk => (World.frozen?_of_block (a := ⟨g, k, none⟩) (u.block g h2 hne)).trans (h1.free k hk)⟩, Nat.lt_of_lt_of_le h2 u.size⟩⟩
/-- a number between two bounds has been drawn -/
def NumIn (w : World) (b : Nat) (cv : Value) (len : Nat) (lo hi : Int) (e : Ending) (w' : World) : Prop :=
  ∃ v i s : Int, e = .returned (.int .i64 v) ∧ lo ≤ v ∧ v ≤ hi ∧ Src w' b cv len i s ∧ Upb b w w'

set_option maxHeartbeats 2000000 in
theorem l09DrawFlow_any (w : World) (b B : Nat) (cv : Value) (len : Nat) (i s : Int) (h : Src w b cv len i s) (hc : CodeAt w cv len B) (hB : B ≤ b) :
    Calls Try.prog 37 #[.pointer (some ⟨b, 0, none⟩)] w (NumIn w b cv len (-1) 30001) := by
  go_enter Try.func37, Try.ntmps37
  go_wp2_with fail
  refine (next_any w b B cv len i s 16 h hc hB (by omega)).mono ?_
  rintro e w1 ⟨v, i1, s1, rfl, v0, v1, h1, o1⟩
  have hc1 := codeAt_below hc (only_below o1 hB)
  have hlt := src_lt h1
  by_cases hv : v = 0
  · subst hv
    go_wp2_with fail
    refine (next_any _ b B cv len i1 s1 4 (src_alloc h1 hlt _) (codeAt_below hc1 ((Below.refl _ _).alloc (by omega) _)) hB (by omega)).mono ?_
    rintro e w2 ⟨v, i2, s2, rfl, u0, u1, h2, o2⟩
    obtain ⟨k, rfl⟩ := Int.eq_ofNat_of_zero_le u0
    have hcell : ∃ x : Int, -1 ≤ x ∧ x ≤ 30001 ∧ w2.cell? ⟨w1.heap.size, k, none⟩ = some (.int .i64 x) := by
      rcases (by omega : k = 0 ∨ k = 1 ∨ k = 2 ∨ k = 3) with rfl | rfl | rfl | rfl
      all_goals exact ⟨_, by omega, by omega, cell_new o2 (by omega) rfl⟩
    obtain ⟨x, x0, x1, hx⟩ := hcell
    have hk : (k : Int) < 4 := by omega
    have hU : Upb b w w2 := (((Upb.refl b w).only o1).belowTo (below_new w1 (.cells #[.int .i64 (-1), .int .i64 0, .int .i64 30000, .int .i64 30001] 2)) (Nat.le_of_eq o1.size)).only o2
    clear o1 o2
    go_wp2_with fail
    go_ret
    exact ⟨x, i2, s2, rfl, x0, x1, h2, hU⟩
  · have hvb : (v == 0) = false := by simpa using hv
    go_wp2_with fail
    refine (next_any _ b B cv len i1 s1 200 h1 hc1 hB (by omega)).mono ?_
    rintro e w2 ⟨v, i2, s2, rfl, u0, u1, h2, o2⟩
    have hU : Upb b w w2 := ((Upb.refl b w).only o1).only o2
    clear o1 o2
    go_wp2_with fail
    go_ret
    exact ⟨_, i2, s2, rfl, by omega, by omega, h2, hU⟩

set_option maxHeartbeats 2000000 in
theorem l09DrawDrop_any (w : World) (b B : Nat) (cv : Value) (len : Nat) (i s : Int) (h : Src w b cv len i s) (hc : CodeAt w cv len B) (hB : B ≤ b) :
    Calls Try.prog 51 #[.pointer (some ⟨b, 0, none⟩)] w (NumIn w b cv len (-1) 1000000000000000001) := by
  go_enter Try.func51, Try.ntmps51
  go_wp2_with fail
  refine (next_any w b B cv len i s 16 h hc hB (by omega)).mono ?_
  rintro e w1 ⟨v, i1, s1, rfl, v0, v1, h1, o1⟩
  have hc1 := codeAt_below hc (only_below o1 hB)
  have hlt := src_lt h1
  by_cases hv : v = 0
  · subst hv
    go_wp2_with fail
    refine (next_any _ b B cv len i1 s1 4 (src_alloc h1 hlt _) (codeAt_below hc1 ((Below.refl _ _).alloc (by omega) _)) hB (by omega)).mono ?_
    rintro e w2 ⟨v, i2, s2, rfl, u0, u1, h2, o2⟩
    obtain ⟨k, rfl⟩ := Int.eq_ofNat_of_zero_le u0
    have hcell : ∃ x : Int, -1 ≤ x ∧ x ≤ 1000000000000000001 ∧ w2.cell? ⟨w1.heap.size, k, none⟩ = some (.int .i64 x) := by
      rcases (by omega : k = 0 ∨ k = 1 ∨ k = 2 ∨ k = 3) with rfl | rfl | rfl | rfl
      all_goals exact ⟨_, by omega, by omega, cell_new o2 (by omega) rfl⟩
    obtain ⟨x, x0, x1, hx⟩ := hcell
    have hk : (k : Int) < 4 := by omega
    have hU : Upb b w w2 := (((Upb.refl b w).only o1).belowTo (below_new w1 (.cells #[.int .i64 (-1), .int .i64 0, .int .i64 1000000000000000000, .int .i64 1000000000000000001] 2)) (Nat.le_of_eq o1.size)).only o2
    clear o1 o2
    go_wp2_with fail
    go_ret
    exact ⟨x, i2, s2, rfl, x0, x1, h2, hU⟩
  · have hvb : (v == 0) = false := by simpa using hv
    go_wp2_with fail
    refine (next_any _ b B cv len i1 s1 5000 h1 hc1 hB (by omega)).mono ?_
    rintro e w2 ⟨v, i2, s2, rfl, u0, u1, h2, o2⟩
    have hU : Upb b w w2 := ((Upb.refl b w).only o1).only o2
    clear o1 o2
    go_wp2_with fail
    go_ret
    exact ⟨_, i2, s2, rfl, by omega, by omega, h2, hU⟩

/-- a list of resistances has been drawn -/
def ListIn (w : World) (b : Nat) (cv : Value) (len : Nat) (e : Ending) (w' : World) : Prop :=
  ∃ (v : Value) (n : Nat) (d : Nat → Int) (g : Nat) (i s : Int), e = .returned v ∧ n ≤ 9 ∧ mem.Res w' v n d g ∧ w.heap.size ≤ g ∧ Src w' b cv len i s ∧ Upb b w w'
def lenOf : Value → Nat
  | .slice _ n _ => n
  | _ => 0
set_option maxHeartbeats 8000000 in
theorem l09Draw_any (w : World) (b B : Nat) (cv : Value) (len : Nat) (i s : Int) (h : Src w b cv len i s) (hc : CodeAt w cv len B) (hB : B ≤ b) (hBw : B ≤ w.heap.size) :
    Calls Try.prog 36 #[.pointer (some ⟨b, 0, none⟩)] w (ListIn w b cv len) := by
  have HC := Lib.hid hc
  have hbw := src_lt h
  have S1 := src_alloc h hbw (.cells #[] 2)
  have U1 : Upb b w (w.alloc (.cells #[] 2)) := (Upb.refl b w).belowTo (below_new w _) (Nat.le_refl _)
  have O1 := mem.Own.nilled w (fun _ => 0)
  have hs1 : (w.alloc (.cells #[] 2)).heap.size = w.heap.size + 1 := by simp
  go_enter Try.func36, Try.ntmps36
  go_wp2_with fail
  generalize hW : w.alloc (.cells #[] 2) = w2 at *
  replace hs1 := Nat.le_antisymm_iff.1 hs1
  clear hW h hc
  refine (next_any w2 b B cv len i s 4 S1 (codeAt_below HC.out (U1.below hB hBw)) hB (by omega)).mono ?_
  rintro e w3 ⟨x, i3, s3, rfl, x0, x1, S3, o3⟩
  have O3 := O1.keep (o3.block w.heap.size (by omega))
  have U3 := U1.only o3
  have hx1 : IntKind.i64.wrap (1 + x) = 1 + x := IntWalk.i64_in _ (by omega)
  obtain ⟨c, rfl⟩ := Int.eq_ofNat_of_zero_le x0
  have hc1 : c ≤ 3 := by omega
  obtain ⟨g0, hg0⟩ : ∃ g, g = w.heap.size := ⟨_, rfl⟩
  rw [← hg0] at O3
  replace hg0 := Nat.le_antisymm_iff.1 hg0
  clear S1 U1 O1 o3
  go_wp2_with fail
  rw [← Nat.le_antisymm hg0.1 hg0.2]
  go_loopw [4, 3] (fun i out wr => ∃ (k j g : Nat) (d : Nat → Int) (iv sv : Int) (out' : Value), i = .int .i64 k ∧ out' = out ∧ k + j = c + 1 ∧ mem.Own wr out' j d g ∧ w.heap.size ≤ g ∧ b ≠ g ∧ Src wr b cv len iv sv ∧ Upb b w wr) (fun i _ _ => (intOf i).toNat)
  case atStart => exact ⟨c + 1, 0, g0, _, i3, s3, _, by go_num, rfl, by omega, O3, by omega, by omega, S3, U3⟩
  case round =>
    obtain ⟨k, j, g, d, iv, sv, out, rfl, rfl, hkj, hO, hg, hne, hS, hU⟩ := hrel
    obtain ⟨co, rfl⟩ := hO.shape
    have HO := Lib.hid hO
    have HU := Lib.hid hU
    have HS := Lib.hid hS
    clear hO hU hS
    by_cases hk : 0 < k
    · have hkI : (0 : Int) < k := by omega
      go_wp2_with fail
      refine (next_any wr b B cv len iv sv 12 HS.out (codeAt_below HC.out (HU.out.below hB hBw)) hB (by omega)).mono ?_
      rintro e wb ⟨y, ib, sb, rfl, y0, y1, Sb, ob⟩
      have Ub := Lib.hid (HU.out.only ob)
      have Ob := HO.out.keep (ob.block g hne.symm)
      have hadd : IntKind.i64.wrap (1 + y) = 1 + y := IntWalk.i64_in _ (by omega)
      have hbl := src_lt Sb
      have hgl := Ob.lt
      have Sb' := Lib.hid (src_alloc Sb hbl (.cells #[.int .i64 (1 + y)] 2))
      have O2 := Ob.alloc (.cells #[.int .i64 (1 + y)] 2)
      obtain ⟨v5, w5, g5, hr, ap⟩ := mem.app_run (wb.alloc (.cells #[.int .i64 (1 + y)] 2)) _ j d g (1 + y) wb.heap.size O2 (cell_n1 wb (1 + y)) (by omega)
      have hsz : (wb.alloc (.cells #[.int .i64 (1 + y)] 2)).heap.size = wb.heap.size + 1 := by simp
      have Y := Lib.hid (ap.below (B := w.heap.size) hg (by omega))
      have Z := Lib.hid (ap.other (c := b) hne (by omega))
      have AP := Lib.hid ap.own
      have hsw : w.heap.size ≤ wb.heap.size := Ub.out.size
      have U5 := Lib.hid ((Ub.out.belowTo (below_new wb (.cells #[.int .i64 (1 + y)] 2)) hsw).belowTo Y.out.1 (Nat.le_refl _))
      clear ap O2 Ob Sb ob hsz
      go_wp2_with (at_builtin; refine mem.wpList_app hr rfl _ _ rfl rfl rfl rfl ?_)
      go_roundw
      case rel => exact ⟨k - 1, j + 1, g5, _, ib, sb, v5, by go_num, rfl, by omega, AP.out, Y.out.2, Z.out.2, src_only (c := 0) Sb'.out (fun a ha => by rw [ha]; exact Z.out.1), U5.out⟩
      case measure => simp [intOf]; omega
    · obtain rfl : k = 0 := by omega
      clear hk
      have hj : 0 < j := by omega
      have hj9 : j ≤ 4 := by omega
      go_wp2_with fail
      refine (next_any wr b B cv len iv sv 20 HS.out (codeAt_below HC.out (HU.out.below hB hBw)) hB (by omega)).mono ?_
      rintro e wb ⟨q, ib, sb, rfl, q0, q1, Sb, ob⟩
      have Ub := HU.out.only ob
      have Ob := HO.out.keep (ob.block g hne.symm)
      clear HS HU HO ob
      have hlb := src_lt Sb
      have hsb : w.heap.size ≤ wb.heap.size := Ub.size
      have h3 : (3 : Int) ≤ 9223372036854775807 := by omega
      by_cases e0 : q = 0
      · subst e0
        have hcs : ∀ j, j < 3 → ∃ y : Int, (#[.int .i64 0, .int .i64 1000, .int .i64 1001] : Array Value)[j]? = some (.int .i64 y) := by
          intro j hj
          rcases (by omega : j = 0 ∨ j = 1 ∨ j = 2) with rfl | rfl | rfl
          all_goals exact ⟨_, rfl⟩
        have Sc := src_alloc Sb hlb (.cells #[.int .i64 0, .int .i64 1000, .int .i64 1001] 2)
        have Uc := Ub.belowTo (below_new wb (.cells #[.int .i64 0, .int .i64 1000, .int .i64 1001] 2)) hsb
        have Oc := Lib.hid (Ob.alloc (.cells #[.int .i64 0, .int .i64 1000, .int .i64 1001] 2))
        clear Ub Ob
        go_wp2_with fail
        refine (next_any (wb.alloc (.cells #[.int .i64 0, .int .i64 1000, .int .i64 1001] 2)) b B cv len ib sb 3 Sc (codeAt_below HC.out (Uc.below hB hBw)) hB h3).mono ?_
        rintro e wd ⟨x, id, sd, rfl, x0, x1, Sd, od⟩
        obtain ⟨k, rfl⟩ := Int.eq_ofNat_of_zero_le x0
        have hk3 : k < 3 := by omega
        have hk3I : (k : Int) < 3 := by omega
        obtain ⟨y, hy⟩ := hcs k hk3
        have hy2 : wd.cell? ⟨wb.heap.size, k, none⟩ = some (.int .i64 y) := cell_new od (by omega) hy
        have Ud := Uc.only od
        have Od := Oc.out.keep (od.block g hne.symm)
        have r := Od.row
        have g0 := r.cell 0 hj
        have f0 := r.free 0 hj
        have R2 := Lib.hid (r.set 0 y hj)
        have hol := (mem.Only.refl g wd).setCell 0 (.int .i64 y)
        have U2 := Lib.hid (Ud.belowTo (hol.below (B := w.heap.size) hg) (Nat.le_refl _))
        have S2 := Lib.hid (src_only (w' := wd.setCell ⟨g, 0, none⟩ (.int .i64 y)) (c := 0) Sd (fun a ha => by rw [ha]; exact hol.block b hne))
        have hgd := Od.lt
        have hz2 := hol.size
        have hz3 := Lib.hid (show g < (wd.setCell ⟨g, 0, none⟩ (.int .i64 y)).heap.size by omega)
        have hjI : (0 : Int) < j := by omega
        clear hy hcs Sc Sd od Uc Oc Od Ud r hz2 hol
        go_wp2_with fail
        go_ret
        exact ⟨_, j, _, g, id, sd, rfl, by omega, ⟨.inr ⟨co, rfl, R2.out, hz3.out⟩⟩, hg, S2.out, U2.out⟩
      have n0 : (q == 0) = false := by simpa using e0
      by_cases e1 : q = 1
      · subst e1
        have HSb := Lib.hid Sb
        have HUb := Lib.hid Ub
        have HOb := Lib.hid Ob
        clear Sb Ub Ob
        go_wp2_with fail
        go_loopw [3] (fun out wr => ∃ (j g : Nat) (d : Nat → Int) (iv sv : Int) (out' : Value), out' = out ∧ j ≤ 9 ∧ mem.Own wr out' j d g ∧ w.heap.size ≤ g ∧ b ≠ g ∧ Src wr b cv len iv sv ∧ Upb b w wr) (fun out _ => 9 - lenOf out)
        case atStart => exact ⟨j, g, d, ib, sb, _, rfl, by omega, HOb.out, hg, hne, HSb.out, HUb.out⟩
        case round =>
          clear HSb HUb HOb hg hne hlb hj hj9 hkj hsb
          obtain ⟨j, g, d, iv, sv, out, rfl, hj9, hO, hg, hne, hS, hU⟩ := hrel
          obtain ⟨co, rfl⟩ := hO.shape
          have HO := Lib.hid hO
          have HU := Lib.hid hU
          have HS := Lib.hid hS
          clear hO hU hS
          go_wp2_with fail
          refine (next_any _ b B cv len iv sv 2 HS.out (codeAt_below HC.out (HU.out.below hB hBw)) hB (by omega)).mono ?_
          rintro e wb ⟨y, ib, sb, rfl, y0, y1, Sb, ob⟩
          have Ub := Lib.hid (HU.out.only ob)
          have Ob := HO.out.keep (ob.block g hne.symm)
          have hbl := src_lt Sb
          have hgl := Ob.lt
          have hsw : w.heap.size ≤ wb.heap.size := Ub.out.size
          by_cases hlt : (j : Int) < 8 + y
          · 
            have Sb' := Lib.hid (src_alloc Sb hbl (.cells #[.int .i64 (5)] 2))
            have O2 := Ob.alloc (.cells #[.int .i64 (5)] 2)
            obtain ⟨v5, w5, g5, hr, ap⟩ := mem.app_run (wb.alloc (.cells #[.int .i64 (5)] 2)) _ j d g (5) wb.heap.size O2 (cell_n1 wb (5)) (by omega)
            have hsz : (wb.alloc (.cells #[.int .i64 (5)] 2)).heap.size = wb.heap.size + 1 := by simp
            have Y := Lib.hid (ap.below (B := w.heap.size) hg (by omega))
            have Z := Lib.hid (ap.other (c := b) hne (by omega))
            have AP := Lib.hid ap.own
            have U5 := Lib.hid ((Ub.out.belowTo (below_new wb (.cells #[.int .i64 5] 2)) hsw).belowTo Y.out.1 (Nat.le_refl _))
            have hjm : j < 9 := by omega
            clear ap O2 Ob Sb ob hsz
            go_wp2_with (at_builtin; refine mem.wpList_app hr rfl _ _ rfl rfl rfl rfl ?_)
            obtain ⟨c5, e5⟩ := AP.out.shape
            subst e5
            go_roundw
            case rel => exact ⟨j + 1, g5, _, ib, sb, _, rfl, by omega, AP.out, Y.out.2, Z.out.2, src_only (c := 0) Sb'.out (fun a ha => by rw [ha]; exact Z.out.1), U5.out⟩
            case measure => simp [lenOf]; omega
          · have HOb := Lib.hid Ob
            have HSb := Lib.hid Sb
            clear Ob Sb ob
            go_wp2_with fail
            go_ret
            exact ⟨_, j, d, g, ib, sb, rfl, hj9, ⟨.inr ⟨co, rfl, HOb.out.row, hgl⟩⟩, hg, HSb.out, Ub.out⟩
      have n1 : (q == 1) = false := by simpa using e1
      have HSb := Lib.hid Sb
      have HUb := Lib.hid Ub
      have HOb := Lib.hid Ob
      clear Sb Ub Ob
      by_cases e2 : q = 2
      · subst e2
        go_wp2_with fail
        go_ret
        exact ⟨_, 0, d, g, ib, sb, rfl, by omega, ⟨.inl ⟨rfl, rfl⟩⟩, hg, HSb.out, HUb.out⟩
      have n2 : (q == 2) = false := by simpa using e2
      go_wp2_with fail
      go_ret
      exact ⟨_, j, d, g, ib, sb, rfl, by omega, ⟨.inr ⟨co, rfl, HOb.out.row, HOb.out.lt⟩⟩, hg, HSb.out, HUb.out⟩
end Go.Proofs.Ytpgindeoiibgpaa.draw
