/-
  Several texts in one: Drf, Drb.
-/
import Derived.Test.YtcpglmiboikfmaaRows
import Derived.Test.YtcpglmiboikfmaaDr6
import Derived.WalkKit
import Derived.ProofKit
import Derived.Lib.Hide
import Derived.OwnWalk
import Derived.Outline
import Derived.Test.YtcpglmiboikfmaaDr7
import Derived.Test.YtcpglmiboikfmaaLfm
import Derived.Deep.RegionHeld3
import Derived.Deep.Cut
import Derived.Deep.RegionWith
namespace Go.Proofs.Ytcpglmiboikfmaa.draw
open Go.RowKit
set_option linter.unusedVariables false

/-- flows have been drawn -/
def FlPost (w : World) (b : Nat) (cv : Value) (len : Nat) (e : Ending) (w' : World) : Prop :=
  ∃ (vl : Value) (K : Nat) (D : Nat → Int) (i s : Int), e = .returned vl ∧ K ≤ 2000 ∧ mem.Sl w' vl K D w.heap.size w'.heap.size ∧ Src w' b cv len i s ∧ mem.Upd (· = b) w w'
set_option maxRecDepth 100000 in
set_option maxHeartbeats 8000000 in
theorem flows_any (w : World) (b B : Nat) (cv : Value) (len : Nat) (i s : Int) (h : Src w b cv len i s) (hc : CodeAt w cv len B) (hB' : B ≤ b) (p0 : Option Addr) (n c0 : Nat) (p1 : Option Addr) (m c1 : Nat) (hm : m ≤ 1000) :
    Calls Try.prog 45 #[.pointer (some ⟨b, 0, none⟩), .agg #[.slice p0 n c0, .slice p1 m c1]] w (FlPost w b cv len) := by
  have hlt := src_lt h
  have xA := mem.below_new w (.cells #[.slice p0 n c0, .slice p1 m c1] 27)
  have HC := Lib.hid (code_of hc (mem.Upd.of_below (X := (· = b)) xA) hB' hlt)
  have U0 := Lib.hid (mem.Upd.of_below xA (X := (· = b)))
  have T1 := mem.boxed w (.slice p0 n c0) (.slice p1 m c1) 27
  have xB := mem.below_new (w.alloc (.cells #[.slice p0 n c0, .slice p1 m c1] 27)) (.cells #[] 2)
  have F0 := mem.Own.nilled (w.alloc (.cells #[.slice p0 n c0, .slice p1 m c1] 27)) (fun _ => 0)
  have SA := src_alloc h hlt (.cells #[.slice p0 n c0, .slice p1 m c1] 27)
  have D0 : Fl (w.alloc (.cells #[.slice p0 n c0, .slice p1 m c1] 27)) b cv len ((w.alloc (.cells #[.slice p0 n c0, .slice p1 m c1] 27)).alloc (.cells #[] 2)) (.slice (some ⟨(w.alloc (.cells #[.slice p0 n c0, .slice p1 m c1] 27)).heap.size, 0, none⟩) 0 0) 0 := ⟨fun _ => 0, _, _, _, F0, fun j hj => by omega, Nat.le_refl _, src_upd SA (xB.block b (src_lt SA)), mem.Upd.of_below xB⟩
  have hza : (w.alloc (.cells #[.slice p0 n c0, .slice p1 m c1] 27)).heap.size = w.heap.size + 1 := by simp
  rw [hza] at D0
  clear F0 xB xA h hc SA
  go_enter Try.func45, Try.ntmps45
  go_wp2_with fail
  generalize hW : (w.alloc (.cells #[.slice p0 n c0, .slice p1 m c1] 27)).alloc (.cells #[] 2) = wb at *
  generalize hW2 : w.alloc (.cells #[.slice p0 n c0, .slice p1 m c1] 27) = wa at *
  generalize hv : Value.slice (some ⟨w.heap.size + 1, 0, none⟩) 0 0 = vl0 at *
  clear hW hW2 hv
  have hTl := T1.lt
  go_loopw [5, 6] (fun ov iv wr => ∃ (k : Nat) (ov' : Value), ov' = ov ∧ iv = .int .i64 k ∧ k ≤ m ∧ Fl wa b cv len wr ov' k) (fun _ iv _ => m - (intOf iv).toNat)
  case atStart => exact ⟨0, _, rfl, rfl, Nat.zero_le _, D0⟩
  case round =>
    obtain ⟨k, ov, rfl, rfl, hk, DF⟩ := hrel
    clear D0
    obtain ⟨D, g, i6, s6, hD, hDb, hg, hS6, hU6⟩ := DF.ex
    clear DF
    have T6 := T1.keep (hU6.block w.heap.size hTl (by omega))
    have q1 := T6.b1
    have k0' : (0 : Int) ≤ (k : Int) := Int.natCast_nonneg _
    by_cases hlt2 : k < m
    · have k1' : (k : Int) < (m : Int) := by omega
      go_wp2_with fail
      refine (next_any wr b B cv len i6 s6 60 hS6 (code_of HC.out hU6 hB' (by omega)) hB' (by omega)).mono ?_
      rintro e w7 ⟨v7, i7, s7, rfl, t7, ht7, hS7, o7⟩
      obtain ⟨co, rfl⟩ := hD.shape
      have hgb : g ≠ b := by omega
      have hD7 := hD.keep (o7.block g hgb)
      have hU7 := hU6.trans (upd_of o7)
      have hb1 : -4611686018427387904 ≤ v7 - 30 ∧ v7 - 30 ≤ 4611686018427387904 := by omega
      have lg := hD7.lt
      obtain ⟨v8, w8, g8, hr, ap⟩ := mem.app_run (w7.alloc (.cells #[.int .i64 (v7 - 30)] 2)) _ k _ g (v7 - 30) w7.heap.size (hD7.alloc _) (mem.cell_new1 w7 _) (by omega)
      have bl := ap.below (B := wa.heap.size) (by omega) (by rw [mem.szal]; omega)
      have xb : Below wa.heap.size w7 w8 := ((mem.below_new w7 _).mono hU7.size).trans bl.1
      have DF8 : Fl wa b cv len w8 v8 (k + 1) := ⟨_, g8, i7, s7, ap.own, fun j hj => by
        unfold mem.upd
        split
        · omega
        · exact hDb j (by omega), bl.2, src_upd hS7 (xb.block b (by omega)), upd_bel hU7 xb⟩
      clear hD hDb hS6 hU6 hS7 o7 hD7 hU7 ap bl xb T6 q1
      go_wp2_with (at_builtin; refine mem.wpList_app hr rfl _ _ rfl rfl rfl rfl ?_)
      clear hr
      go_roundw
      case rel => exact ⟨k + 1, _, rfl, by go_num, hlt2, DF8⟩
      case measure => simp [intOf]; omega
    · obtain rfl : m = k := by omega
      have k1' : ¬ ((m : Int) < (m : Int)) := by omega
      have lg := hD.lt
      have hC6 := code_of HC.out hU6 hB' (by omega)
      have hzr := hU6.size
      obtain ⟨co, rfl⟩ := hD.shape
      clear hDb
      go_wp2_with fail
      refine (next_any wr b B cv len i6 s6 30 hS6 hC6 hB' (by omega)).mono ?_
      rintro e wa' ⟨va, ia, sa, rfl, ta, hta, Sa, oa⟩
      have hVa := hD.keep (oa.block g (by omega))
      have Ua := hU6.trans (upd_of oa)
      have hza2 := oa.size
      have lga := hVa.lt
      clear hC6 hD hS6 hU6 oa T6 q1
      rcases (by omega : va = 0 ∨ va = 1 ∨ (va ≠ 0 ∧ va ≠ 1)) with rfl | rfl | hva
      · obtain ⟨vb, wz, gb, hr, ap⟩ := mem.app_run (wa'.alloc (.cells #[.int .i64 0] 2)) _ m _ g 0 wa'.heap.size (hVa.alloc _) (mem.cell_new1 wa' _) (by omega)
        have bl := ap.below (B := wa.heap.size) (by omega) (by rw [mem.szal]; omega)
        have xb : Below wa.heap.size wa' wz := ((mem.below_new wa' _).mono (by omega)).trans bl.1
        have hlz := ap.own.lt
        have HF := Lib.hid (And.intro (ap.own.sl.mono (show w.heap.size ≤ gb by omega) (show gb + 1 ≤ wz.heap.size by omega)) (And.intro (src_upd Sa (xb.block b (by omega))) (U0.out.trans (upd_bel Ua xb))))
        clear hVa Sa Ua ap bl xb
        go_wp2_with (at_builtin; refine mem.wpList_app hr rfl _ _ rfl rfl rfl rfl ?_)
        clear hr
        go_ret
        exact ⟨_, m + 1, _, _, _, rfl, by omega, HF.out.1, HF.out.2.1, HF.out.2.2⟩
      · rcases Nat.eq_zero_or_pos m with hm0 | hm0
        · subst hm0
          have HF := Lib.hid (And.intro (hVa.sl.mono (show w.heap.size ≤ g by omega) (show g + 1 ≤ wa'.heap.size by omega)) (And.intro Sa (U0.out.trans Ua)))
          clear hVa Sa Ua
          go_wp2_with fail
          go_ret
          exact ⟨_, 0, _, _, _, rfl, by omega, HF.out.1, HF.out.2.1, HF.out.2.2⟩
        · have hmI : (0 : Int) < (m : Int) := by omega
          have bA := mem.below_new wa' (.cells #[.int .i64 30000, .int .i64 30001, .int .i64 (-30000)] 2)
          have tA := tabI wa' 2 #[.int .i64 30000, .int .i64 30001, .int .i64 (-30000)] (by
            intro j hj
            rcases (by simp at hj; omega : j = 0 ∨ j = 1 ∨ j = 2) with rfl | rfl | rfl
            all_goals exact ⟨_, rfl⟩)
          have SA := src_alloc Sa (src_lt Sa) (.cells #[.int .i64 30000, .int .i64 30001, .int .i64 (-30000)] 2)
          have UA := Ua.trans (mem.Upd.of_below bA)
          have CA := code_of HC.out UA hB' (by omega)
          have HVA := Lib.hid (hVa.alloc (.cells #[.int .i64 30000, .int .i64 30001, .int .i64 (-30000)] 2))
          have hzA : (wa'.alloc (.cells #[.int .i64 30000, .int .i64 30001, .int .i64 (-30000)] 2)).heap.size = wa'.heap.size + 1 := by simp
          have lba := src_lt Sa
          have yzA := hVa.free 0
          clear Sa Ua hVa bA
          go_wp2_with fail
          refine (next_any _ b B cv len ia sa 3 SA CA hB' (by omega)).mono ?_
          rintro e wc ⟨vc, ic, sc, rfl, tc, htc, Sc, oc⟩
          have hzc := oc.size
          have HVc := Lib.hid (HVA.out.keep (oc.block g (by omega)))
          have Uc := UA.trans (upd_of oc)
          obtain ⟨x, rfl⟩ := Int.eq_ofNat_of_zero_le tc
          have hx : x < 3 := by omega
          have hx2 : (x : Int) < 3 := by omega
          obtain ⟨y, hy⟩ := tA x hx
          have hyc : wc.cell? ⟨wa'.heap.size, x, none⟩ = some (.int .i64 y) := by
            have e := oc.block wa'.heap.size (by omega)
            simp only [World.cell?] at hy ⊢
            rw [e]
            exact hy
          have yf := HVc.out.row.cell 0 hm0
          have yz := HVc.out.free 0
          have oX := (mem.Only.refl g wc).setCell 0 (.int .i64 y)
          have hVx := HVc.out.put1 0 y hm0
          have hlx := hVx.lt
          have HF := Lib.hid (And.intro (hVx.sl.mono (show w.heap.size ≤ g by omega) (show g + 1 ≤ _ from hlx)) (And.intro (src_upd Sc (oX.block b (by omega))) (U0.out.trans (upd_own Uc oX (by omega)))))
          clear tA SA CA UA HVA hy oc htc yzA HVc Sc Uc oX hVx hlx
          go_wp2_with fail
          go_ret
          exact ⟨_, m, _, _, _, rfl, by omega, HF.out.1, HF.out.2.1, HF.out.2.2⟩
      · obtain ⟨hv0, hv1⟩ := hva
        have hv0' : (va == 0) = false := by simpa using hv0
        have hv1' : (va == 1) = false := by simpa using hv1
        have HF := Lib.hid (And.intro (hVa.sl.mono (show w.heap.size ≤ g by omega) (show g + 1 ≤ wa'.heap.size by omega)) (And.intro Sa (U0.out.trans Ua)))
        clear hv0 hv1 hVa Sa Ua
        go_wp2_with fail
        go_ret
        exact ⟨_, m, _, _, _, rfl, by omega, HF.out.1, HF.out.2.1, HF.out.2.2⟩
end Go.Proofs.Ytcpglmiboikfmaa.draw

namespace Go.Proofs.Ytcpglmiboikfmaa.draw
open Go.RowKit
set_option linter.unusedVariables false

def NLLOnly (w : World) (e : Ending) (w' : World) : Prop :=
  ∃ (v : Value) (n m : Nat) (N : Nat → mem.Nod) (P : Nat → mem.Pip) (b1 b2 : Nat) (vk : Value) (K : Nat) (D : Nat → Int) (vl : Value) (L : Nat) (S : Nat → Int), e = .returned (.tuple #[v, vk, vl]) ∧ n ≤ 1000 ∧ m ≤ 1000 ∧ K ≤ 2000 ∧ L ≤ 2000 ∧ (∀ i, i < n → (N i).s.size ≤ 9223372036854775807) ∧ mem.NetOwn w' v n N m P b1 b2 ∧ w.heap.size ≤ b1 ∧ w.heap.size ≤ b2 ∧ mem.Sl w' vk K D w.heap.size w'.heap.size ∧ mem.Sl w' vl L S w.heap.size w'.heap.size ∧ Below w.heap.size w w'
theorem sl_upd {w w' : World} {v : Value} {n : Nat} {d : Nat → Int} {lo hi b : Nat} (h : mem.Sl w v n d lo hi) (u : mem.Upd (· = b) w w') (h1 : b < lo) (h2 : hi ≤ w.heap.size) : mem.Sl w' v n d lo hi := by
  obtain ⟨p, cap, rfl, h | ⟨c, o, rfl, g1, g2, g3⟩⟩ := h
  · exact ⟨p, cap, rfl, .inl h⟩
  · exact ⟨_, cap, rfl, .inr ⟨c, o, rfl, g1, g2, fun k hk => (World.cell?_of_block (u.block c (by omega) (by omega))).trans (g3 k hk)⟩⟩
theorem owns_slw {w : World} {v : Value} {n b lo : Nat} {d : Nat → Int} (h : mem.OwnS w v n 1 (fun i _ => .int .i64 (d i)) b) (hlo : lo ≤ b) : mem.Sl w v n d lo w.heap.size := by
  obtain ⟨p', cap, hv, h1, h2, h3⟩ := h.ex
  refine ⟨p', cap, hv, ?_⟩
  rcases h3 with h3 | ⟨h3, h4⟩
  · exact .inl h3
  · refine .inr ⟨b, 0, h3, hlo, h4.lt, fun k hk => ?_⟩
    have := h4.cell k 0 hk (by omega)
    simpa using this
theorem sl_drew {w : World} {v : Value} {n : Nat} {d : Nat → Int} {lo hi : Nat} (h : mem.Sl w v n d lo hi) : mem.Sl w.drew v n d lo hi := ⟨h.ex⟩
end Go.Proofs.Ytcpglmiboikfmaa.draw
