/-
  Several texts in one: Drf, Drb.
-/
import Derived.Test.YtpgcieefipjjfaaRows
import Derived.Test.YtpgcieefipjjfaaDr6
import Derived.WalkKit
import Derived.ProofKit
import Derived.Lib.Hide
import Derived.OwnWalk
import Derived.Outline
import Derived.Test.YtpgcieefipjjfaaDr7
import Derived.Test.YtpgcieefipjjfaaLfm
import Derived.Deep.RegionHeld3
import Derived.Deep.Cut
import Derived.Deep.RegionWith
namespace Go.Proofs.Ytpgcieefipjjfaa.draw
open Go.RowKit
set_option linter.unusedVariables false

/-- flows have been drawn -/
def FlPost (w : World) (b : Nat) (cv : Value) (len : Nat) (e : Ending) (w' : World) : Prop :=
  ∃ (vl : Value) (K : Nat) (D : Nat → Int) (i s : Int), e = .returned vl ∧ K ≤ 2000 ∧ mem.Sl w' vl K D w.heap.size w'.heap.size ∧ Src w' b cv len i s ∧ mem.Upd (· = b) w w'
set_option maxRecDepth 100000 in
set_option maxHeartbeats 8000000 in
theorem flows_any (w : World) (b B : Nat) (cv : Value) (len : Nat) (i s : Int) (h : Src w b cv len i s) (hc : CodeAt w cv len B) (hB' : B ≤ b) (p0 : Option Addr) (n c0 : Nat) (p1 : Option Addr) (m c1 : Nat) (hm : m ≤ 1000) :
    Calls Try.prog 101 #[.pointer (some ⟨b, 0, none⟩), .agg #[.slice p0 n c0, .slice p1 m c1]] w (FlPost w b cv len) := by
  have hlt := src_lt h
  have xA := mem.below_new w (.cells #[.slice p0 n c0, .slice p1 m c1] 33)
  have HC := Lib.hid (code_of hc (mem.Upd.of_below (X := (· = b)) xA) hB' hlt)
  have U0 := Lib.hid (mem.Upd.of_below xA (X := (· = b)))
  have T1 := mem.boxed w (.slice p0 n c0) (.slice p1 m c1) 33
  have xB := mem.below_new (w.alloc (.cells #[.slice p0 n c0, .slice p1 m c1] 33)) (.cells #[] 2)
  have F0 := mem.Own.nilled (w.alloc (.cells #[.slice p0 n c0, .slice p1 m c1] 33)) (fun _ => 0)
  have SA := src_alloc h hlt (.cells #[.slice p0 n c0, .slice p1 m c1] 33)
  have D0 : Fl (w.alloc (.cells #[.slice p0 n c0, .slice p1 m c1] 33)) b cv len ((w.alloc (.cells #[.slice p0 n c0, .slice p1 m c1] 33)).alloc (.cells #[] 2)) (.slice (some ⟨(w.alloc (.cells #[.slice p0 n c0, .slice p1 m c1] 33)).heap.size, 0, none⟩) 0 0) 0 := ⟨fun _ => 0, _, _, _, F0, fun j hj => by omega, Nat.le_refl _, src_upd SA (xB.block b (src_lt SA)), mem.Upd.of_below xB⟩
  have hza : (w.alloc (.cells #[.slice p0 n c0, .slice p1 m c1] 33)).heap.size = w.heap.size + 1 := by simp
  rw [hza] at D0
  clear F0 xB xA h hc SA
  go_enter Try.func101, Try.ntmps101
  go_wp2_with fail
  generalize hW : (w.alloc (.cells #[.slice p0 n c0, .slice p1 m c1] 33)).alloc (.cells #[] 2) = wb at *
  generalize hW2 : w.alloc (.cells #[.slice p0 n c0, .slice p1 m c1] 33) = wa at *
  generalize hv : Value.slice (some ⟨w.heap.size + 1, 0, none⟩) 0 0 = vl0 at *
  clear hW hW2 hv
  have hTl := T1.lt
  go_loopw [5, 6] (fun ov iv wr => ∃ (k : Nat) (ov' : Value), ov' = ov ∧ iv = .int .i64 k ∧ k ≤ m ∧ Fl wa b cv len wr ov' k) (fun _ iv _ => m - (intOf iv).toNat)
  case atStart => exact ⟨0, _, rfl, rfl, Nat.zero_le _, D0⟩
  case round =>
    obtain ⟨k, ov, rfl, rfl, hk, DF⟩ := hrel
    clear D0
    obtain ⟨D, g, i6, s6, hD, hDb, hg, hS6, hU6⟩ := DF.ex
    clear DF
    have T6 := T1.keep (hU6.block w.heap.size hTl (by omega))
    have q1 := T6.b1
    have k0' : (0 : Int) ≤ (k : Int) := Int.natCast_nonneg _
    by_cases hlt2 : k < m
    · have k1' : (k : Int) < (m : Int) := by omega
      go_wp2_with fail
      refine (next_any wr b B cv len i6 s6 60 hS6 (code_of HC.out hU6 hB' (by omega)) hB' (by omega)).mono ?_
      rintro e w7 ⟨v7, i7, s7, rfl, t7, ht7, hS7, o7⟩
      obtain ⟨co, rfl⟩ := hD.shape
      have hgb : g ≠ b := by omega
      have hD7 := hD.keep (o7.block g hgb)
      have hU7 := hU6.trans (upd_of o7)
      have hb1 : -4611686018427387904 ≤ v7 - 30 ∧ v7 - 30 ≤ 4611686018427387904 := by omega
      have lg := hD7.lt
      obtain ⟨v8, w8, g8, hr, ap⟩ := mem.app_run (w7.alloc (.cells #[.int .i64 (v7 - 30)] 2)) _ k _ g (v7 - 30) w7.heap.size (hD7.alloc _) (mem.cell_new1 w7 _) (by omega)
      have bl := ap.below (B := wa.heap.size) (by omega) (by rw [mem.szal]; omega)
      have xb : Below wa.heap.size w7 w8 := ((mem.below_new w7 _).mono hU7.size).trans bl.1
      have DF8 : Fl wa b cv len w8 v8 (k + 1) := ⟨_, g8, i7, s7, ap.own, fun j hj => by
        unfold mem.upd
        split
        · omega
        · exact hDb j (by omega), bl.2, src_upd hS7 (xb.block b (by omega)), upd_bel hU7 xb⟩
      clear hD hDb hS6 hU6 hS7 o7 hD7 hU7 ap bl xb T6 q1
      go_wp2_with (at_builtin; refine mem.wpList_app hr rfl _ _ rfl rfl rfl rfl ?_)
      clear hr
      go_roundw
      case rel => exact ⟨k + 1, _, rfl, by go_num, hlt2, DF8⟩
      case measure => simp [intOf]; omega
    · obtain rfl : m = k := by omega
      have k1' : ¬ ((m : Int) < (m : Int)) := by omega
      have lg := hD.lt
      have hC6 := code_of HC.out hU6 hB' (by omega)
      have hzr := hU6.size
      obtain ⟨co, rfl⟩ := hD.shape
      clear hDb
      go_wp2_with fail
      refine (next_any wr b B cv len i6 s6 30 hS6 hC6 hB' (by omega)).mono ?_
      rintro e wa' ⟨va, ia, sa, rfl, ta, hta, Sa, oa⟩
      have hVa := hD.keep (oa.block g (by omega))
      have Ua := hU6.trans (upd_of oa)
      have hza2 := oa.size
      have lga := hVa.lt
      clear hC6 hD hS6 hU6 oa T6 q1
      rcases (by omega : va = 0 ∨ va = 1 ∨ (va ≠ 0 ∧ va ≠ 1)) with rfl | rfl | hva
      · obtain ⟨vb, wz, gb, hr, ap⟩ := mem.app_run (wa'.alloc (.cells #[.int .i64 0] 2)) _ m _ g 0 wa'.heap.size (hVa.alloc _) (mem.cell_new1 wa' _) (by omega)
        have bl := ap.below (B := wa.heap.size) (by omega) (by rw [mem.szal]; omega)
        have xb : Below wa.heap.size wa' wz := ((mem.below_new wa' _).mono (by omega)).trans bl.1
        have hlz := ap.own.lt
        have HF := Lib.hid (And.intro (ap.own.sl.mono (show w.heap.size ≤ gb by omega) (show gb + 1 ≤ wz.heap.size by omega)) (And.intro (src_upd Sa (xb.block b (by omega))) (U0.out.trans (upd_bel Ua xb))))
        clear hVa Sa Ua ap bl xb
        go_wp2_with (at_builtin; refine mem.wpList_app hr rfl _ _ rfl rfl rfl rfl ?_)
        clear hr
        go_ret
        exact ⟨_, m + 1, _, _, _, rfl, by omega, HF.out.1, HF.out.2.1, HF.out.2.2⟩
      · rcases Nat.eq_zero_or_pos m with hm0 | hm0
        · subst hm0
          have HF := Lib.hid (And.intro (hVa.sl.mono (show w.heap.size ≤ g by omega) (show g + 1 ≤ wa'.heap.size by omega)) (And.intro Sa (U0.out.trans Ua)))
          clear hVa Sa Ua
          go_wp2_with fail
          go_ret
          exact ⟨_, 0, _, _, _, rfl, by omega, HF.out.1, HF.out.2.1, HF.out.2.2⟩
        · have hmI : (0 : Int) < (m : Int) := by omega
          have bA := mem.below_new wa' (.cells #[.int .i64 30000, .int .i64 30001, .int .i64 (-30000)] 2)
          have tA := tabI wa' 2 #[.int .i64 30000, .int .i64 30001, .int .i64 (-30000)] (by
            intro j hj
            rcases (by simp at hj; omega : j = 0 ∨ j = 1 ∨ j = 2) with rfl | rfl | rfl
            all_goals exact ⟨_, rfl⟩)
          have SA := src_alloc Sa (src_lt Sa) (.cells #[.int .i64 30000, .int .i64 30001, .int .i64 (-30000)] 2)
          have UA := Ua.trans (mem.Upd.of_below bA)
          have CA := code_of HC.out UA hB' (by omega)
          have HVA := Lib.hid (hVa.alloc (.cells #[.int .i64 30000, .int .i64 30001, .int .i64 (-30000)] 2))
          have hzA : (wa'.alloc (.cells #[.int .i64 30000, .int .i64 30001, .int .i64 (-30000)] 2)).heap.size = wa'.heap.size + 1 := by simp
          have lba := src_lt Sa
          have yzA := hVa.free 0
          clear Sa Ua hVa bA
          go_wp2_with fail
          refine (next_any _ b B cv len ia sa 3 SA CA hB' (by omega)).mono ?_
          rintro e wc ⟨vc, ic, sc, rfl, tc, htc, Sc, oc⟩
          have hzc := oc.size
          have HVc := Lib.hid (HVA.out.keep (oc.block g (by omega)))
          have Uc := UA.trans (upd_of oc)
          obtain ⟨x, rfl⟩ := Int.eq_ofNat_of_zero_le tc
          have hx : x < 3 := by omega
          have hx2 : (x : Int) < 3 := by omega
          obtain ⟨y, hy⟩ := tA x hx
          have hyc : wc.cell? ⟨wa'.heap.size, x, none⟩ = some (.int .i64 y) := by
            have e := oc.block wa'.heap.size (by omega)
            simp only [World.cell?] at hy ⊢
            rw [e]
            exact hy
          have yf := HVc.out.row.cell 0 hm0
          have yz := HVc.out.free 0
          have oX := (mem.Only.refl g wc).setCell 0 (.int .i64 y)
          have hVx := HVc.out.put1 0 y hm0
          have hlx := hVx.lt
          have HF := Lib.hid (And.intro (hVx.sl.mono (show w.heap.size ≤ g by omega) (show g + 1 ≤ _ from hlx)) (And.intro (src_upd Sc (oX.block b (by omega))) (U0.out.trans (upd_own Uc oX (by omega)))))
          clear tA SA CA UA HVA hy oc htc yzA HVc Sc Uc oX hVx hlx
          go_wp2_with fail
          go_ret
          exact ⟨_, m, _, _, _, rfl, by omega, HF.out.1, HF.out.2.1, HF.out.2.2⟩
      · obtain ⟨hv0, hv1⟩ := hva
        have hv0' : (va == 0) = false := by simpa using hv0
        have hv1' : (va == 1) = false := by simpa using hv1
        have HF := Lib.hid (And.intro (hVa.sl.mono (show w.heap.size ≤ g by omega) (show g + 1 ≤ wa'.heap.size by omega)) (And.intro Sa (U0.out.trans Ua)))
        clear hv0 hv1 hVa Sa Ua
        go_wp2_with fail
        go_ret
        exact ⟨_, m, _, _, _, rfl, by omega, HF.out.1, HF.out.2.1, HF.out.2.2⟩
end Go.Proofs.Ytpgcieefipjjfaa.draw

namespace Go.Proofs.Ytpgcieefipjjfaa.draw
open Go.RowKit
set_option linter.unusedVariables false

def NLLOnly (w : World) (e : Ending) (w' : World) : Prop :=
  ∃ (v : Value) (n m : Nat) (N : Nat → mem.Nod) (P : Nat → mem.Pip) (b1 b2 : Nat) (vk : Value) (K : Nat) (D : Nat → Int) (vl : Value) (L : Nat) (S : Nat → Int), e = .returned (.tuple #[v, vk, vl]) ∧ n ≤ 1000 ∧ m ≤ 1000 ∧ K ≤ 2000 ∧ L ≤ 2000 ∧ (∀ i, i < n → (N i).s.size ≤ 9223372036854775807) ∧ mem.NetOwn w' v n N m P b1 b2 ∧ w.heap.size ≤ b1 ∧ w.heap.size ≤ b2 ∧ mem.Sl w' vk K D w.heap.size w'.heap.size ∧ mem.Sl w' vl L S w.heap.size w'.heap.size ∧ Below w.heap.size w w'
theorem sl_upd {w w' : World} {v : Value} {n : Nat} {d : Nat → Int} {lo hi b : Nat} (h : mem.Sl w v n d lo hi) (u : mem.Upd (· = b) w w') (h1 : b < lo) (h2 : hi ≤ w.heap.size) : mem.Sl w' v n d lo hi := by
  obtain ⟨p, cap, rfl, h | ⟨c, o, rfl, g1, g2, g3⟩⟩ := h
  · exact ⟨p, cap, rfl, .inl h⟩
  · exact ⟨_, cap, rfl, .inr ⟨c, o, rfl, g1, g2, fun k hk => (World.cell?_of_block (u.block c (by omega) (by omega))).trans (g3 k hk)⟩⟩
theorem owns_slw {w : World} {v : Value} {n b lo : Nat} {d : Nat → Int} (h : mem.OwnS w v n 1 (fun i _ => .int .i64 (d i)) b) (hlo : lo ≤ b) : mem.Sl w v n d lo w.heap.size := by
  obtain ⟨p', cap, hv, h1, h2, h3⟩ := h.ex
  refine ⟨p', cap, hv, ?_⟩
  rcases h3 with h3 | ⟨h3, h4⟩
  · exact .inl h3
  · refine .inr ⟨b, 0, h3, hlo, h4.lt, fun k hk => ?_⟩
    have := h4.cell k 0 hk (by omega)
    simpa using this
theorem sl_drew {w : World} {v : Value} {n : Nat} {d : Nat → Int} {lo hi : Nat} (h : mem.Sl w v n d lo hi) : mem.Sl w.drew v n d lo hi := ⟨h.ex⟩
set_option maxRecDepth 100000 in
set_option maxHeartbeats 4000000 in
theorem drawIsBalanced (w : World) (cv : Value) (len : Nat) (hc : CodeAt w cv len w.heap.size) : Calls Try.prog 49 #[cv] w (NLLOnly w) := by
  have HC := Lib.hid hc
  have R1 := mem.boxed w (.slice none 0 0) (.slice none 0 0) 33
  have C1 := mem.below_new w (.cells #[.slice none 0 0, .slice none 0 0] 33)
  have hsz : (w.alloc (.cells #[.slice none 0 0, .slice none 0 0] 33)).heap.size = w.heap.size + 1 := by simp
  go_enter Try.func49, Try.ntmps49
  go_wp2_with fail
  generalize hW : w.alloc (.cells #[.slice none 0 0, .slice none 0 0] 33) = Wa at *
  clear hW hc
  replace hsz := Nat.le_antisymm_iff.1 hsz
  refine (from_any Wa cv len (by have := codeAt_below HC.out C1; rcases this with h | ⟨cb, co, cap, h1, h2, h3⟩; exact .inl h; exact .inr ⟨cb, co, cap, h1, by omega, h3⟩)).mono ?_
  rintro e w1 ⟨s1, rfl, hS1, B1, z1⟩
  obtain ⟨b, hbe⟩ : ∃ b, b = Wa.heap.size := ⟨_, rfl⟩
  rw [← hbe] at hS1 z1 ⊢
  replace hbe := Nat.le_antisymm_iff.1 hbe
  replace z1 := Nat.le_antisymm_iff.1 z1
  have C2 := mem.belowNext C1 B1
  have R2 := R1.next B1
  clear B1 C1 R1
  go_wp2_with fail
  refine (six_any w1 b w.heap.size cv len 0 s1 hS1 (codeAt_below HC.out C2) (by omega)).mono ?_
  rintro e w2 ⟨v, n, m, N, P, b1, b2, vl, K, D, i2, s2, rfl, hn, hm, hK, hnm, hO, l1, l2, hL, hS2, U2⟩
  obtain ⟨p0, c0, p1, c1, rfl⟩ := hO.shape
  obtain ⟨pl, cl, rfl⟩ := sl_sh hL
  obtain ⟨rn, rd, rc, hrn, ts⟩ : ∃ (rn : Nat) (rd : Nat → Int) (rc : Int), rn ≤ 1000 ∧ ∀ w v va, mem.NetAt w v n N m P 0 w.heap.size → mem.Sl w va K D 0 w.heap.size → Calls Try.prog 53 #[v, va] w (mem.LIPost w rn rd rc) := ⟨mem.ffN n N m P K D, mem.fflN n P m D, mem.ffC n N m P K D, by unfold mem.ffN; split <;> omega, fun w v va h hv => mem.forestFlowsS_any w v n N m P 0 _ h (Nat.le_refl _) hnm va K D 0 _ hv (Nat.le_refl _) (by omega)⟩
  have TS := Lib.hid ts
  have xN := mem.below_new w2 (.cells #[.slice p0 n c0, .slice p1 m c1] 33)
  have C3 := (C2.trans (U2.below (by omega) (by rintro x _ rfl; omega))).trans (xN.mono (by have := U2.size; omega))
  have R3 := (R2.keep (U2.block w.heap.size (by omega) (by omega))).next xN
  have T3 := mem.boxed w2 (.slice p0 n c0) (.slice p1 m c1) 33
  have O3 := hO.next xN
  have S3 := src_alloc hS2 (src_lt hS2) (.cells #[.slice p0 n c0, .slice p1 m c1] 33)
  have L3 := hL.below xN (Nat.le_refl _)
  have hz3 : (w2.alloc (.cells #[.slice p0 n c0, .slice p1 m c1] 33)).heap.size = w2.heap.size + 1 := by simp
  have hb2 := src_lt hS2
  have hbT : b ≠ w2.heap.size := by omega
  have hbR : b ≠ w.heap.size := by omega
  have hTR : w2.heap.size ≠ w.heap.size := by omega
  have hl1 : b < b1 := by omega
  have hl2 : b < b2 := by omega
  have hU := U2.size
  clear C2 R2 hO hS2 hS1 U2 hL xN ts
  have t0 := T3.b0
  have t1 := T3.b1
  go_wp2_with fail
  generalize hW : w2.alloc (.cells #[.slice p0 n c0, .slice p1 m c1] 33) = W3 at *
  clear hW
  refine (TS.out _ _ _ O3.net ((L3.mono (Nat.zero_le _) (by omega)) : mem.Sl W3 _ _ _ 0 W3.heap.size)).mono ?_
  rintro e w4 ⟨xA, gA, rfl, oA, lA, bb⟩
  obtain ⟨pA, cA, rfl⟩ := oA.shape
  have lts := oA.lt
  have hz4 := bb.size
  have C4 := Lib.hid (C3.trans (bb.mono (by omega)))
  have R4 := R3.next bb
  have T4 := T3.next bb
  have O4 := Lib.hid (O3.next bb)
  have S4 := src_upd S3 (bb.block b (by omega))
  have HL4 := Lib.hid (L3.below bb (by omega))
  have HA4 := Lib.hid (owns_slw oA lA)
  clear C3 R3 T3 O3 S3 L3 bb TS t0 t1 oA
  by_cases hrc : rc = 0
  · subst hrc
    have t0 := T4.b0
    have t1 := T4.b1
    go_wp2_with fail
    refine (next_any w4 b w.heap.size cv len i2 s2 4 S4 (codeAt_below HC.out C4.out) (by omega) (by omega)).mono ?_
    rintro e w5 ⟨v5, i5, s5, rfl, t5, ht5, S5, o5⟩
    have hz5 := o5.size
    have C5 := Lib.hid (C4.out.trans (only_below o5 (by omega)))
    have R5 := R4.keep (o5.block w.heap.size (by omega))
    have T5 := T4.keep (o5.block w2.heap.size (by omega))
    have O5 := Lib.hid (O4.out.upd (upd_of o5) (.inr (by omega)) (.inr (by omega)))
    have HL5 := Lib.hid (sl_upd HL4.out (upd_of o5) (by omega) (by omega))
    have HA5 := Lib.hid (sl_upd HA4.out (upd_of o5) (by omega) (by omega))
    clear C4 R4 T4 O4 S4 HL4 HA4 o5 t0 t1
    by_cases hv5 : v5 = 0
    · subst hv5
      go_wp2_with fail
      have t0 := T5.b0
      have t1 := T5.b1
      have f0 := R5.b0
      have f1 := R5.b1
      have k0 := R5.free 0
      have k1 := R5.free 1
      have HCd := Lib.hid (code_of (b := b) (B := w.heap.size) (codeAt_below HC.out C5.out) ⟨rfl, rfl, rfl, Nat.le_refl _, fun _ _ _ => rfl⟩ (by omega) (src_lt S5) : CodeAt w5.drew cv len w.heap.size)
      have hTT := T5.lt
      have hRR := R5.lt
      go_region_held3 (fun w' => w'.cell? ⟨w2.heap.size, 0, none⟩ = some (.slice p0 n c0) ∧ w'.cell? ⟨w2.heap.size, 1, none⟩ = some (.slice p1 m c1)) (first | exact ⟨t0, t1⟩ | exact ⟨TX.b0, TX.b1⟩ | exact ⟨((((mem.Only.refl w.heap.size _).setCell _ _).setCell _ _).cell (a := ⟨w2.heap.size, 0, none⟩) hTR).trans TX.b0, ((((mem.Only.refl w.heap.size _).setCell _ _).setCell _ _).cell (a := ⟨w2.heap.size, 1, none⟩) hTR).trans TX.b1⟩ | go_keep)
        (first | (go_at_call 101; refine (flows_any _ b w.heap.size cv len i5 s5 (src_upd S5 rfl : Src w5.drew b cv len i5 s5) HCd.out (by omega) p0 n c0 p1 m c1 hm).mono ?_; rintro e wx ⟨vx, Kx, Dx, ix, sx, rfl, hKx, hLx, hSx, Ux⟩; have TX := (T5.keep (Ux.block w2.heap.size hTT (by omega)) : mem.Ob wx w2.heap.size 2 _); have RX := (R5.keep (Ux.block w.heap.size hRR (by omega)) : mem.Ob wx w.heap.size 2 _); have fx0 := RX.b0; have fx1 := RX.b1; have kx0 := RX.free 0; have kx1 := RX.free 1))
      obtain ⟨px, cx, rfl⟩ := sl_sh hLx
      have hzx := Ux.size
      have hzd : w5.drew.heap.size = w5.heap.size := rfl
      have hO := ((mem.Only.refl w.heap.size wx).setCell 0 (.slice p0 n c0)).setCell 1 (.slice p1 m c1)
      have HO := Lib.hid ((O5.out.drew.upd Ux (.inr (by omega)) (.inr (by omega))).upd (mem.Upd.of_only hO) (.inr (by omega)) (.inr (by omega)))
      have HB := Lib.hid (mem.below_only ((mem.below_dw C5.out).trans (Ux.below (by omega) (by rintro x _ rfl; omega))) hO (by omega))
      have HLX := Lib.hid ((hLx.only hO (.inl (by show w.heap.size < w5.heap.size; omega))).mono (show w.heap.size ≤ w5.heap.size by omega) (Nat.le_of_eq hO.size))
      have HLL := Lib.hid (((sl_upd (w := w5.drew) (sl_drew HL5.out) Ux (by omega) (by show _ ≤ w5.heap.size; omega)).only hO (.inl (by omega))).mono (show w.heap.size ≤ w1.heap.size by omega) (show _ ≤ _ from Nat.le_trans (show w2.heap.size ≤ wx.heap.size by have : w5.heap.size ≤ wx.heap.size := hzx; omega) (Nat.le_of_eq hO.size)))
      clear hO Ux TX RX O5 HL5 hLx hSx
      go_wp2_with fail
      refine bodyPost_ret (v := .tuple #[.agg #[.slice p0 n c0, .slice p1 m c1], .slice px Kx cx, .slice pl K cl]) (by simp [results, Try.results49, go_sem, fx0, fx1]) rfl ⟨_, n, m, N, P, b1, b2, _, Kx, Dx, _, K, D, rfl, hn, hm, hKx, hK, hnm, HO.out, by omega, by omega, HLX.out, HLL.out, HB.out⟩
    · have hv5' : (v5 == 0) = false := by simpa using hv5
      have t0 := T5.b0
      have t1 := T5.b1
      have f0 := R5.b0
      have f1 := R5.b1
      have k0 := R5.free 0
      have k1 := R5.free 1
      have hO := ((mem.Only.refl w.heap.size w5).setCell 0 (.slice p0 n c0)).setCell 1 (.slice p1 m c1)
      have HO := Lib.hid (O5.out.upd (mem.Upd.of_only hO) (.inr (by omega)) (.inr (by omega)))
      have HB := Lib.hid (mem.below_only C5.out hO (by omega))
      have HLX := Lib.hid ((HA5.out.only hO (.inl (by omega))).mono (show w.heap.size ≤ W3.heap.size by omega) (Nat.le_trans (show w4.heap.size ≤ w5.heap.size by omega) (Nat.le_of_eq hO.size)))
      have HLL := Lib.hid ((HL5.out.only hO (.inl (by omega))).mono (show w.heap.size ≤ w1.heap.size by omega) (Nat.le_trans (show w2.heap.size ≤ w5.heap.size by omega) (Nat.le_of_eq hO.size)))
      clear hO T5 R5 O5 C5 HL5 HA5 S5 hv5
      go_wp2_with fail
      refine bodyPost_ret (v := .tuple #[.agg #[.slice p0 n c0, .slice p1 m c1], .slice pA rn cA, .slice pl K cl]) (by simp [results, Try.results49, go_sem, f0, f1]) rfl ⟨_, n, m, N, P, b1, b2, _, rn, rd, _, K, D, rfl, hn, hm, by omega, hK, hnm, HO.out, by omega, by omega, HLX.out, HLL.out, HB.out⟩
  · have hrc' : (rc != 0) = true := by simpa using hrc
    have t0 := T4.b0
    have t1 := T4.b1
    go_wp2_with fail
    have t0 := T4.b0
    have t1 := T4.b1
    have f0 := R4.b0
    have f1 := R4.b1
    have k0 := R4.free 0
    have k1 := R4.free 1
    have HCd := Lib.hid (code_of (b := b) (B := w.heap.size) (codeAt_below HC.out C4.out) ⟨rfl, rfl, rfl, Nat.le_refl _, fun _ _ _ => rfl⟩ (by omega) (src_lt S4) : CodeAt w4.drew cv len w.heap.size)
    have hTT := T4.lt
    have hRR := R4.lt
    go_region_held3 (fun w' => w'.cell? ⟨w2.heap.size, 0, none⟩ = some (.slice p0 n c0) ∧ w'.cell? ⟨w2.heap.size, 1, none⟩ = some (.slice p1 m c1)) (first | exact ⟨t0, t1⟩ | exact ⟨TX.b0, TX.b1⟩ | exact ⟨((((mem.Only.refl w.heap.size _).setCell _ _).setCell _ _).cell (a := ⟨w2.heap.size, 0, none⟩) hTR).trans TX.b0, ((((mem.Only.refl w.heap.size _).setCell _ _).setCell _ _).cell (a := ⟨w2.heap.size, 1, none⟩) hTR).trans TX.b1⟩ | go_keep)
      (first | (go_at_call 101; refine (flows_any _ b w.heap.size cv len i2 s2 (src_upd S4 rfl : Src w4.drew b cv len i2 s2) HCd.out (by omega) p0 n c0 p1 m c1 hm).mono ?_; rintro e wx ⟨vx, Kx, Dx, ix, sx, rfl, hKx, hLx, hSx, Ux⟩; have TX := (T4.keep (Ux.block w2.heap.size hTT (by omega)) : mem.Ob wx w2.heap.size 2 _); have RX := (R4.keep (Ux.block w.heap.size hRR (by omega)) : mem.Ob wx w.heap.size 2 _); have fx0 := RX.b0; have fx1 := RX.b1; have kx0 := RX.free 0; have kx1 := RX.free 1))
    obtain ⟨px, cx, rfl⟩ := sl_sh hLx
    have hzx := Ux.size
    have hzd : w4.drew.heap.size = w4.heap.size := rfl
    have hO := ((mem.Only.refl w.heap.size wx).setCell 0 (.slice p0 n c0)).setCell 1 (.slice p1 m c1)
    have HO := Lib.hid ((O4.out.drew.upd Ux (.inr (by omega)) (.inr (by omega))).upd (mem.Upd.of_only hO) (.inr (by omega)) (.inr (by omega)))
    have HB := Lib.hid (mem.below_only ((mem.below_dw C4.out).trans (Ux.below (by omega) (by rintro x _ rfl; omega))) hO (by omega))
    have HLX := Lib.hid ((hLx.only hO (.inl (by show w.heap.size < w4.heap.size; omega))).mono (show w.heap.size ≤ w4.heap.size by omega) (Nat.le_of_eq hO.size))
    have HLL := Lib.hid (((sl_upd (w := w4.drew) (sl_drew HL4.out) Ux (by omega) (by show _ ≤ w4.heap.size; omega)).only hO (.inl (by omega))).mono (show w.heap.size ≤ w1.heap.size by omega) (show _ ≤ _ from Nat.le_trans (show w2.heap.size ≤ wx.heap.size by have : w4.heap.size ≤ wx.heap.size := hzx; omega) (Nat.le_of_eq hO.size)))
    clear hO Ux TX RX O4 HL4 hLx hSx
    go_wp2_with fail
    refine bodyPost_ret (v := .tuple #[.agg #[.slice p0 n c0, .slice p1 m c1], .slice px Kx cx, .slice pl K cl]) (by simp [results, Try.results49, go_sem, fx0, fx1]) rfl ⟨_, n, m, N, P, b1, b2, _, Kx, Dx, _, K, D, rfl, hn, hm, hKx, hK, hnm, HO.out, by omega, by omega, HLX.out, HLL.out, HB.out⟩
end Go.Proofs.Ytpgcieefipjjfaa.draw
