/-
  Several texts in one: Brl, LBri.
-/
import Derived.Test.YtpgcieefipjjfaaRows
import Derived.Test.YtpgcieefipjjfaaBri
import Derived.Test.YtpgcieefipjjfaaDrG
import Derived.WalkKit
import Derived.ProofKit
import Derived.Lib.Hide
import Derived.Deep.QuietTactic
import Derived.BigQuiet
import Derived.Deep.RegionHeld3
import Derived.OwnWalk
import Derived.Outline
import Derived.Test.YtpgcieefipjjfaaLaw
import Derived.Test.YtpgcieefipjjfaaCode
import Derived.Test.YtpgcieefipjjfaaLikeI
import Derived.OpenShut
import Derived.Deep.RegionHeldLaw
import Derived.IntWalk
namespace Go.Proofs.Ytpgcieefipjjfaa.mem
open Go.RowKit
set_option linter.unusedVariables false

theorem Sl.next {w w' : World} {v : Value} {n : Nat} {d : Nat → Int} {lo : Nat} (h : Sl w v n d lo w.heap.size) (g : Below w.heap.size w w') : Sl w' v n d lo w'.heap.size := (h.below g (Nat.le_refl _)).mono (Nat.le_refl _) g.size
theorem likeSl (w : World) (v u : Value) (n : Nat) (d e : Nat → Int) (lo hi lo' hi' : Nat) (h : Sl w v n d lo hi) (g : Sl w u n e lo' hi') (hde : ∀ k, k < n → e k = d k) (hn9 : n ≤ 1000000) :
    Calls Try.prog 35 #[v, u] w fun e w' => e = .returned (.bool true) ∧ Below w.heap.size w w' := by
  obtain ⟨p, cap, rfl, hc⟩ := h
  obtain ⟨p', cap', rfl, hc'⟩ := g
  have HC := Lib.hid hc
  have HC' := Lib.hid hc'
  have HE := Lib.hid hde
  clear hc hc' hde
  have hbb : ((n : Int) != n) = false := by simp
  go_enter Try.func35, Try.ntmps35
  go_wp2_with fail
  go_loopw [5] (fun i wr => ∃ k m : Nat, i = .int .i64 k ∧ k ≤ n ∧ wr = w.drewN m) (fun i _ => n - (intOf i).toNat)
  case atStart => exact ⟨0, 0, rfl, Nat.zero_le _, rfl⟩
  case round =>
    obtain ⟨k, m, rfl, hk, hw⟩ := hrel
    have HWR := Lib.hid hw
    by_cases hlt : k < n
    · rcases HC.out with h0 | ⟨b, o, rfl, g1, g2, g3⟩
      · omega
      rcases HC'.out with h0 | ⟨b', o', rfl, g1', g2', g3'⟩
      · omega
      have c1 : wr.cell? ⟨b, o + k, none⟩ = some (.int .i64 (d k)) := by rw [hw]; exact g3 k hlt
      have c2 : wr.cell? ⟨b', o' + k, none⟩ = some (.int .i64 (d k)) := by rw [hw, ← HE.out k hlt]; exact g3' k hlt
      have hkn : (k : Int) < (n : Int) := by omega
      have hdd : (d k != d k) = false := by simp
      clear hw g3 g3'
      go_wp2_with fail
      go_quiet (fail)
      go_wp2_with fail
      go_roundw
      case rel => exact ⟨k + 1, m + nq, by go_num, hlt, by rw [HWR.out]; exact (World.drewN_drewN _ _ _)⟩
      case measure => simp [intOf]; omega
    · clear hw
      go_wp2_with fail
      go_ret
      exact ⟨rfl, by rw [HWR.out]; exact below_self _ _ _⟩

/-- a list of K lists of m numbers -/
structure Rls (w : World) (v : Value) (K m : Nat) (Y : Nat → Nat → Int) : Prop where
  ex : ∃ (p : Option Addr) (cap g : Nat) (G C : Nat → Nat), v = .slice p K cap ∧ (K = 0 ∨ (p = some ⟨g, 0, none⟩ ∧ g < w.heap.size)) ∧ ∀ i, i < K → w.cell? ⟨g, i, none⟩ = some (.slice (some ⟨G i, 0, none⟩) m (C i)) ∧ Own w (.slice (some ⟨G i, 0, none⟩) m (C i)) m (Y i) (G i)
theorem Rls.next {w w' : World} {v : Value} {K m : Nat} {Y : Nat → Nat → Int} (h : Rls w v K m Y) (b : Below w.heap.size w w') : Rls w' v K m Y := by
  obtain ⟨p, cap, g, G, C, h1, h2, h3⟩ := h.ex
  refine ⟨p, cap, g, G, C, h1, ?_, fun i hi => ?_⟩
  · have := b.size
    rcases h2 with h2 | h2
    · exact .inl h2
    · exact .inr ⟨h2.1, by omega⟩
  · obtain ⟨e1, e2⟩ := h3 i hi
    have hg : g < w.heap.size := by
      rcases h2 with h2 | h2
      · omega
      · exact h2.2
    exact ⟨(b.cell (p := ⟨g, i, none⟩) hg).trans e1, e2.below b (Nat.le_refl _)⟩
theorem Rls.shape {w : World} {v : Value} {K m : Nat} {Y : Nat → Nat → Int} (h : Rls w v K m Y) : ∃ p cap, v = .slice p K cap := by
  obtain ⟨p, cap, _, _, _, h1, _⟩ := h.ex
  exact ⟨p, cap, h1⟩
theorem bas_rw {w : World} {v : Value} {K m B : Nat} {Y : Nat → Nat → Int} (h : Bas w v K m Y B) : Rls w v K m Y := by
  obtain ⟨G, C, h1, h2, _⟩ := h.ex
  obtain ⟨g, h3, _⟩ := h1.ownS
  obtain ⟨p, cap, rfl, _, _, h4⟩ := h3.ex
  refine ⟨p, cap, g, G, C, rfl, ?_, fun i hi => ⟨?_, (h2 i hi).1⟩⟩
  · rcases h4 with h4 | ⟨h4, h5⟩
    · exact .inl h4
    · exact .inr ⟨h4, h5.lt⟩
  · rcases h4 with h4 | ⟨h4, h5⟩
    · omega
    · have := h5.cell i 0 hi (by omega)
      simpa using this
theorem Rls.at_ {w : World} {p : Option Addr} {cap K m : Nat} {Y : Nat → Nat → Int} (h : Rls w (.slice p K cap) K m Y) {i : Nat} (hi : i < K) : ∃ g q c, p = some ⟨g, 0, none⟩ ∧ g < w.heap.size ∧ w.cell? ⟨g, i, none⟩ = some (.slice (some ⟨q, 0, none⟩) m c) ∧ Own w (.slice (some ⟨q, 0, none⟩) m c) m (Y i) q := by
  obtain ⟨p', cap', g, G, C, h1, h2, h3⟩ := h.ex
  injection h1 with e1 _ _
  subst e1
  rcases h2 with h2 | h2
  · omega
  · exact ⟨g, G i, C i, h2.1, h2.2, h3 i hi⟩
set_option maxRecDepth 100000 in
set_option maxHeartbeats 4000000 in
theorem likeRows_any (w : World) (v u : Value) (K m : Nat) (Y : Nat → Nat → Int) (h : Rls w v K m Y) (g : Rls w u K m Y) (hK : K ≤ 1000000) (hm : m ≤ 1000000) :
    Calls Try.prog 38 #[v, u] w fun e w' => e = .returned (.bool true) ∧ Below w.heap.size w w' := by
  obtain ⟨p, cap, rfl⟩ := h.shape
  obtain ⟨p', cap', rfl⟩ := g.shape
  have HC := Lib.hid h
  have HC' := Lib.hid g
  clear h g
  have hbb : ((K : Int) != K) = false := by simp
  go_enter Try.func38, Try.ntmps38
  go_wp2_with fail
  go_loopw [5] (fun i wr => ∃ k : Nat, i = .int .i64 k ∧ k ≤ K ∧ Below w.heap.size w wr) (fun i _ => K - (intOf i).toNat)
  case atStart => exact ⟨0, rfl, Nat.zero_le _, Below.refl _ _⟩
  case round =>
    obtain ⟨k, rfl, hk, hb⟩ := hrel
    have HB := Lib.hid hb
    have k0 : (0 : Int) ≤ (k : Int) := Int.natCast_nonneg _
    by_cases hlt : k < K
    · obtain ⟨g, q, c, rfl, hg, e1, e2⟩ := (HC.out.next hb).at_ hlt
      obtain ⟨g', q', c', rfl, hg', e1', e2'⟩ := (HC'.out.next hb).at_ hlt
      have hkn : (k : Int) < (K : Int) := by omega
      have E2 := Lib.hid e2
      have E2' := Lib.hid e2'
      clear hb e2 e2'
      go_wp2_with fail
      have hAny : ∀ X : World, Below wr.heap.size wr X → (fun w' => w'.cell? ⟨g, k, none⟩ = some (.slice (some ⟨q, 0, none⟩) m c) ∧ w'.cell? ⟨g', k, none⟩ = some (.slice (some ⟨q', 0, none⟩) m c')) X := fun X h => ⟨(h.cell (p := ⟨g, k, none⟩) hg).trans e1, (h.cell (p := ⟨g', k, none⟩) hg').trans e1'⟩
      have K0 : Below wr.heap.size wr wr.drew := ⟨rfl, rfl, rfl, Nat.le_refl _, fun _ _ => rfl⟩
      go_region_held3 (fun w' => w'.cell? ⟨g, k, none⟩ = some (.slice (some ⟨q, 0, none⟩) m c) ∧ w'.cell? ⟨g', k, none⟩ = some (.slice (some ⟨q', 0, none⟩) m c')) (first | exact hAny _ K0 | exact hAny _ K1)
        (first | (go_at_call 35; refine (likeSl _ _ _ m (Y k) (Y k) _ _ _ _ ((E2.out.below K0 (Nat.le_refl _)).sl) ((E2'.out.below K0 (Nat.le_refl _)).sl) (fun _ _ => rfl) hm).mono ?_; rintro e wx ⟨rfl, ba⟩; have K1 : Below wr.heap.size wr wx := K0.trans (ba.mono K0.size); clear ba))
      have HB2 := Lib.hid (HB.out.trans (K1.mono HB.out.size))
      clear hAny K0 K1 e1 e1'
      go_wp2_with fail
      go_roundw
      case rel => exact ⟨k + 1, by go_num, hlt, HB2.out⟩
      case measure => simp [intOf]; omega
    · clear hb
      go_wp2_with fail
      go_ret
      exact ⟨rfl, HB.out⟩
set_option maxRecDepth 100000 in
theorem hasInt_no (w : World) (v : Value) (n : Nat) (d : Nat → Int) (x : Int) (lo hi : Nat) (h : Sl w v n d lo hi) (hx : ∀ i, i < n → d i ≠ x) (hn : n ≤ 1000000) :
    Calls Try.prog 39 #[v, .int .i64 x] w fun e w' => e = .returned (.bool false) ∧ w = w' := by
  obtain ⟨p, cap, rfl, hc⟩ := h
  have HC := Lib.hid hc
  have HX := Lib.hid hx
  clear hc hx
  go_enter Try.func39, Try.ntmps39
  go_wp2_with fail
  go_loopw [5] (fun i wr => ∃ k : Nat, i = .int .i64 k ∧ k ≤ n ∧ wr = w) (fun i _ => n - (intOf i).toNat)
  case atStart => exact ⟨0, rfl, Nat.zero_le _, rfl⟩
  case round =>
    obtain ⟨k, rfl, hk, rfl⟩ := hrel
    by_cases hlt : k < n
    · rcases HC.out with h0 | ⟨b, o, rfl, g1, g2, g3⟩
      · omega
      have c1 : wr.cell? ⟨b, o + k, none⟩ = some (.int .i64 (d k)) := g3 k hlt
      have hkn : (k : Int) < (n : Int) := by omega
      have he := HX.out k hlt
      have hdd : (d k == x) = false := by simp [he]
      clear g3 he
      go_wp2_with fail
      go_roundw
      case rel => exact ⟨k + 1, by go_num, hlt, by trivial⟩
      case measure => simp [intOf]; omega
    · go_wp2_with fail
      go_ret
      exact ⟨rfl, rfl⟩
theorem brFacts (n : Nat) (N : Nat → Nod) (m : Nat) (P : Nat → Pip) (hN : ∀ i, i < n → (N i).s.size ≤ 9223372036854775807) (hm : m ≤ 1000) :
    ∃ (rn : Nat) (rd : Nat → Int) (rc : Int) (eb : Bool) (K : Nat) (Y : Nat → Nat → Int), rn ≤ 1000 ∧ K ≤ 1000 ∧ (∀ w v, NetAt w v n N m P 0 w.heap.size → Calls Try.prog 33 #[v] w (LIPost w rn rd rc)) ∧ (∀ w v, NetAt w v n N m P 0 w.heap.size → Calls Try.prog 34 #[v] w (LIPost w rn rd rc)) ∧
      (∀ w v, NetAt w v n N m P 0 w.heap.size → Calls Try.prog 36 #[v] w (BPost w eb)) ∧ (∀ w v, NetAt w v n N m P 0 w.heap.size → Calls Try.prog 37 #[v] w (BPost w eb)) ∧
      (∀ w v, NetAt w v n N m P 0 w.heap.size → Calls Try.prog 15 #[v] w (CBPost w K m Y rc)) ∧ (∀ w v, NetAt w v n N m P 0 w.heap.size → Calls Try.prog 13 #[v] w (CBPost w K m Y rc)) ∧
      (eb = true → rn = m) ∧ (∀ i, i < K → ∀ j, j < m → Y i j ≠ 0 → ∀ t, t < rn → rd t ≠ ((j : Nat) : Int)) := by
  have hl : (fl (brP n P m) m).length ≤ m := fl_le _ _
  have hcl := chN_le n P m
  refine ⟨brN n N m P, fd (brP n P m) m, cmC (netB n N m P), treeB n N m P, cbN n N m P, fun i => cyc P (fE n P m) (fD n P m) (chS n P m i), by unfold brN; split <;> omega, by unfold cbN; split <;> omega, fun w v h => bridgesOfI_any w v n N m P 0 _ h (Nat.le_refl _) hN, fun w v h => bridgesOfS_any w v n N m P 0 _ h (Nat.le_refl _) hN, fun w v h => isTreeI_any w v n N m P 0 _ h (Nat.le_refl _) hN, fun w v h => isTreeS_any w v n N m P 0 _ h (Nat.le_refl _) hN, fun w v h => cycleBasisI_any w v n N m P 0 _ h (Nat.le_refl _) hN, fun w v h => cycleBasisS_any w v n N m P 0 _ h (Nat.le_refl _) hN, tree_br, fun i hi j hj hne t ht he => ?_⟩
  unfold cbN at hi
  split at hi
  · next hB =>
    obtain ⟨hcm, _⟩ := chS_at hi
    unfold brN at ht
    rw [hB, if_pos (show cmC true = 0 from rfl)] at ht
    have hmem : (fl (brP n P m) m)[t] ∈ fl (brP n P m) m := List.getElem_mem ht
    have hfd : fd (brP n P m) m t = (((fl (brP n P m) m)[t] : Nat) : Int) := by
      unfold fd
      rw [List.getElem?_eq_getElem ht]
      rfl
    rw [hfd] at he
    have hj2 : (fl (brP n P m) m)[t] = j := by omega
    rw [hj2] at hmem
    exact hne (bridge_zero hB hj (fl_lt hmem).2 (fun z _ => (fo_net hB).cyc_dv (fo_r0 hB) (fo_r2 hB) hcm (fo_r1 hB _ hcm) _))
  · omega
end Go.Proofs.Ytpgcieefipjjfaa.mem
namespace Go.Proofs.Ytpgcieefipjjfaa.draw
open Go.RowKit
set_option linter.unusedVariables false
/-- a network has been drawn -/
def NetOnlyPost (w : World) (e : Ending) (w' : World) : Prop :=
  ∃ (v : Value) (n m : Nat) (N : Nat → mem.Nod) (P : Nat → mem.Pip) (b1 b2 : Nat), e = .returned v ∧ n ≤ 1000 ∧ m ≤ 1000 ∧ (∀ i, i < n → (N i).s.size ≤ 9223372036854775807) ∧ mem.NetOwn w' v n N m P b1 b2 ∧ w.heap.size ≤ b1 ∧ w.heap.size ≤ b2 ∧ Below w.heap.size w w'

set_option maxRecDepth 100000 in
set_option maxHeartbeats 4000000 in
theorem drawBridgesOf (w : World) (cv : Value) (len : Nat) (hc : CodeAt w cv len w.heap.size) : Calls Try.prog 32 #[cv] w (NetOnlyPost w) := by
  have HC := Lib.hid hc
  have R1 := mem.boxed w (.slice none 0 0) (.slice none 0 0) 33
  have C1 := mem.below_new w (.cells #[.slice none 0 0, .slice none 0 0] 33)
  have hsz : (w.alloc (.cells #[.slice none 0 0, .slice none 0 0] 33)).heap.size = w.heap.size + 1 := by simp
  go_enter Try.func32, Try.ntmps32
  go_wp2_with fail
  generalize hW : w.alloc (.cells #[.slice none 0 0, .slice none 0 0] 33) = Wa at *
  clear hW hc
  replace hsz := Nat.le_antisymm_iff.1 hsz
  refine (from_any Wa cv len (by have := codeAt_below HC.out C1; rcases this with h | ⟨cb, co, cap, h1, h2, h3⟩; exact .inl h; exact .inr ⟨cb, co, cap, h1, by omega, h3⟩)).mono ?_
  rintro e w1 ⟨s1, rfl, hS1, B1, z1⟩
  obtain ⟨b, hbe⟩ : ∃ b, b = Wa.heap.size := ⟨_, rfl⟩
  rw [← hbe] at hS1 z1 ⊢
  replace hbe := Nat.le_antisymm_iff.1 hbe
  replace z1 := Nat.le_antisymm_iff.1 z1
  have C2 := mem.belowNext C1 B1
  have R2 := R1.next B1
  clear B1 C1 R1
  go_wp2_with fail
  refine (any_ok w1 b w.heap.size cv len 0 s1 hS1 (codeAt_below HC.out C2) (by omega)).mono ?_
  rintro e w2 ⟨v, n, m, N, P, b1, b2, i2, s2, rfl, hn, hm, hnm, hO, l1, l2, hS2, U2⟩
  obtain ⟨p0, c0, p1, c1, rfl⟩ := hO.shape
  have C3 := C2.trans (U2.below (by omega) (by rintro x _ rfl; omega))
  have R3 := R2.keep (U2.block w.heap.size (by omega) (by omega))
  have f0 := R3.b0
  have f1 := R3.b1
  have k0 := R3.free 0
  have k1 := R3.free 1
  have hO2 := ((mem.Only.refl w.heap.size w2).setCell 0 (.slice p0 n c0)).setCell 1 (.slice p1 m c1)
  have HO := Lib.hid (hO.upd (mem.Upd.of_only hO2) (.inr (by omega)) (.inr (by omega)))
  have HB := Lib.hid (mem.below_only C3 hO2 (by omega))
  clear C2 R2 hO hS2 hS1 C3 R3 U2 hO2
  go_wp2_with fail
  refine bodyPost_ret (v := .agg #[.slice p0 n c0, .slice p1 m c1]) (by simp [results, Try.results32, go_sem, f0, f1]) rfl ⟨_, n, m, N, P, b1, b2, rfl, hn, hm, hnm, HO.out, by omega, by omega, HB.out⟩
end Go.Proofs.Ytpgcieefipjjfaa.draw

namespace Go.Proofs.Ytpgcieefipjjfaa.fnBridges
open Go.ChangeShapes Go.WideShapes Go.ChangeAt Go.RowKit Go.Proofs.Ytpgcieefipjjfaa.draw Go.Proofs.Ytpgcieefipjjfaa.mem
set_option linter.unusedVariables false

theorem own : ownKnob Try.prog.godebug = none := by kernel_rfl
theorem laidOut : laidOutB Try.prog = true := by kernel_rfl

theorem own_at {w : World} {p : Option Addr} {n c b : Nat} {d : Nat → Int} (h : OwnS w (.slice p n c) n 1 (fun i _ => .int .i64 (d i)) b) {k : Nat} (hk : k < n) : p = some ⟨b, 0, none⟩ ∧ b < w.heap.size ∧ w.cell? ⟨b, k, none⟩ = some (.int .i64 (d k)) := by
  obtain ⟨p', cap, hv, h1, h2, h3⟩ := h.ex
  injection hv with e1 _ e3
  subst e1
  rcases h3 with h3 | ⟨h3, h4⟩
  · omega
  · refine ⟨h3, h4.lt, ?_⟩
    have := h4.cell k 0 hk (by omega)
    simpa using this
theorem owns_sl {w : World} {v : Value} {n b : Nat} {d : Nat → Int} (h : OwnS w v n 1 (fun i _ => .int .i64 (d i)) b) : Sl w v n d 0 w.heap.size := by
  obtain ⟨p', cap, hv, h1, h2, h3⟩ := h.ex
  refine ⟨p', cap, hv, ?_⟩
  rcases h3 with h3 | ⟨h3, h4⟩
  · exact .inl h3
  · refine .inr ⟨b, 0, h3, Nat.zero_le _, h4.lt, fun k hk => ?_⟩
    have := h4.cell k 0 hk (by omega)
    simpa using this
set_option maxRecDepth 100000 in
set_option maxHeartbeats 20000000 in
theorem walk (v : Value) (w : World) (hc : CodeArg w v) :
    Calls Try.prog 7 #[v] w fun e w' => e = .returned (.bool true) ∧ Below w.heap.size w w' := by
  obtain ⟨p, len, cap, rfl, hlen, hcode⟩ := hc
  by_cases h4 : (4096 : Int) < len
  · clear hcode
    go_enter Try.func7, Try.ntmps7
    go_wp2_with (go_at_call 31; refine (draw.big_any _ _ _ _).mono ?_; rintro e w' ⟨rfl, rfl⟩)
    go_ret
    exact ⟨rfl, Below.refl _ _⟩
  have hc := hcode (by omega)
  clear hcode
  go_enter Try.func7, Try.ntmps7
  go_wp2_with (go_at_call 31; refine (draw.big_any _ _ _ _).mono ?_; rintro e w' ⟨rfl, rfl⟩)
  refine (draw.drawBridgesOf w _ len hc).mono ?_
  rintro e w1 ⟨v, n, m, N, P, b1, b2, rfl, hn, hm, hnm, o1, l1, l2, C1⟩
  obtain ⟨rn, rd, rc, eb, K, Y, hrn, hK, ti, ts, ei, es, ci, cs, h1, h2⟩ := brFacts n N m P hnm hm
  have TI := Lib.hid ti
  have TS := Lib.hid ts
  have EI := Lib.hid ei
  have ES := Lib.hid es
  have CI := Lib.hid ci
  have CS := Lib.hid cs
  have H1 := Lib.hid h1
  have H2 := Lib.hid h2
  clear ti ts ei es ci cs h1 h2
  clear hc
  have hb2 : (rc != rc) = false := by simp
  have hb3 : (eb != eb) = false := by simp
  have lxx := o1.lts
  obtain ⟨sx1, sx2, sx3, sx4, rfl⟩ := o1.shape
  go_wp2_with fail
  have bb := mem.below_new w1 (.cells #[.slice sx1 n sx2, .slice sx3 m sx4] 33)
  have B_x := boxed w1 (.slice sx1 n sx2) (.slice sx3 m sx4) 33
  have hs2 := bb.size
  have C2 := belowNext C1 bb
  have x2 := o1.next bb
  clear bb C1 o1
  generalize hW2 : w1.alloc (Obj.cells #[.slice sx1 n sx2, .slice sx3 m sx4] 33) = w2 at *
  clear hW2
  have Bx2 := B_x
  clear B_x
  have lBx := Bx2.lt
  refine (TI.out _ _  x2.net).mono ?_
  rintro e w3 ⟨xA, gA, rfl, oA, lA, bb⟩
  have hs3 := bb.size
  have C3 := belowNext C2 bb
  have x3 := x2.next bb
  have Bx3 := Bx2.next bb
  clear bb C2 x2 Bx2
  have lxA := oA.lt
  obtain ⟨sA1, sA2, rfl⟩ := oA.shape
  have qBx0 := Bx3.b0
  have qBx1 := Bx3.b1
  have qBx2 := Bx3.lt
  go_wp2_with fail
  refine (TS.out _ _  x3.net).mono ?_
  rintro e w4 ⟨xB, gB, rfl, oB, lB, bb⟩
  have hs4 := bb.size
  have C4 := belowNext C3 bb
  have x4 := x3.next bb
  have Bx4 := Bx3.next bb
  have A4 := oA.next bb
  clear qBx0 qBx1 qBx2
  clear bb C3 x3 Bx3 oA
  have lxB := oB.lt
  obtain ⟨sB1, sB2, rfl⟩ := oB.shape
  have qBx0 := Bx4.b0
  have qBx1 := Bx4.b1
  have qBx2 := Bx4.lt
  go_wp2_with fail
  have hAny : ∀ X : World, Below w4.heap.size w4 X → (fun w' => w'.cell? ⟨w1.heap.size, 0, none⟩ = some (.slice sx1 n sx2) ∧ w'.cell? ⟨w1.heap.size, 1, none⟩ = some (.slice sx3 m sx4)) X := fun X h => ⟨(Bx4.below h Bx4.lt).b0, (Bx4.below h Bx4.lt).b1⟩
  have K0 : Below w4.heap.size w4 w4.drew := ⟨rfl, rfl, rfl, Nat.le_refl _, fun _ _ => rfl⟩
  go_region_held3 (fun w' => w'.cell? ⟨w1.heap.size, 0, none⟩ = some (.slice sx1 n sx2) ∧ w'.cell? ⟨w1.heap.size, 1, none⟩ = some (.slice sx3 m sx4)) (first | exact hAny _ K0 | exact hAny _ K3 | exact hAny _ K2 | exact hAny _ K1)
    (first | (go_at_call 35; refine (likeInts_any _ _ _ rn rd 0 _ 0 _ ((A4.next K0).cs (.inr rfl) (Nat.le_refl _)) ((oB.next K0).cs (.inr rfl) (Nat.le_refl _))).mono ?_; rintro e wx1 ⟨rfl, ba⟩; have K1 : Below w4.heap.size w4 wx1 := K0.trans (ba.mono K0.size); clear ba) | (go_at_call 36; refine (EI.out _ _ (x4.below K1 (Nat.le_refl _)).net).mono ?_; rintro e wx2 ⟨rfl, ba⟩; have K2 : Below w4.heap.size w4 wx2 := K1.trans (ba.mono K1.size); clear ba) | (go_at_call 37; refine (ES.out _ _ (x4.below K2 (Nat.le_refl _)).net).mono ?_; rintro e wx3 ⟨rfl, ba⟩; have K3 : Below w4.heap.size w4 wx3 := K2.trans (ba.mono K2.size); clear ba))
  obtain ⟨w5, hwb⟩ : ∃ w', w' = wx3 := ⟨_, rfl⟩
  subst hwb
  have bb := K3
  clear hAny K0 K1 K2 K3
  have hs5 := bb.size
  have C5 := belowNext C4 bb
  have x5 := x4.next bb
  have Bx5 := Bx4.next bb
  have A5 := A4.next bb
  have B5 := oB.next bb
  clear qBx0 qBx1 qBx2
  clear bb C4 x4 Bx4 A4 oB
  clear B5
  by_cases hrc : rc = 0
  · subst hrc
    have qBx0 := Bx5.b0
    have qBx1 := Bx5.b1
    have qBx2 := Bx5.lt
    go_wp2_with fail
    refine (ES.out _ _  x5.net).mono ?_
    rintro e w6 ⟨rfl, bb⟩
    have hs6 := bb.size
    have C6 := belowNext C5 bb
    have x6 := x5.next bb
    have Bx6 := Bx5.next bb
    have A6 := A5.next bb
    clear qBx0 qBx1 qBx2
    clear bb C5 x5 Bx5 A5
    cases eb
    · skip
      clear H1
      have qBx0 := Bx6.b0
      have qBx1 := Bx6.b1
      have qBx2 := Bx6.lt
      go_wp2_with fail
      refine (CI.out _ _ x6.net).mono ?_
      rintro e w7 ⟨xR, rfl, rR, bb⟩
      have hs7 := bb.size
      have C7 := belowNext C6 bb
      have x7 := x6.next bb
      have Bx7 := Bx6.next bb
      have A7 := A6.next bb
      clear qBx0 qBx1 qBx2
      clear bb C6 x6 Bx6 A6
      have oR := bas_rw rR
      clear rR
      obtain ⟨sR1, sR2, rfl⟩ := oR.shape
      have qBx0 := Bx7.b0
      have qBx1 := Bx7.b1
      have qBx2 := Bx7.lt
      go_wp2_with fail
      refine (CS.out _ _ x7.net).mono ?_
      rintro e w8 ⟨xQ, rfl, rQ, bb⟩
      have hs8 := bb.size
      have C8 := belowNext C7 bb
      have x8 := x7.next bb
      have Bx8 := Bx7.next bb
      have A8 := A7.next bb
      have R8 := oR.next bb
      clear qBx0 qBx1 qBx2
      clear bb C7 x7 Bx7 A7 oR
      have oQ := bas_rw rQ
      clear rQ
      obtain ⟨sQ1, sQ2, rfl⟩ := oQ.shape
      have qBx0 := Bx8.b0
      have qBx1 := Bx8.b1
      have qBx2 := Bx8.lt
      go_wp2_with fail
      refine (likeRows_any _ _ _ K m Y R8 oQ (by omega) (by omega)).mono ?_
      rintro e w9 ⟨rfl, bb⟩
      have hs9 := bb.size
      have C9 := belowNext C8 bb
      have x9 := x8.next bb
      have Bx9 := Bx8.next bb
      have A9 := A8.next bb
      have R9 := R8.next bb
      have Q9 := oQ.next bb
      clear qBx0 qBx1 qBx2
      clear bb C8 x8 Bx8 A8 R8 oQ
      clear Q9
      have qBx0 := Bx9.b0
      have qBx1 := Bx9.b1
      have qBx2 := Bx9.lt
      go_wp2_with fail
      clear qBx0 qBx1 qBx2
      go_loopw [12] (fun iv wr => ∃ k : Nat, iv = .int .i64 k ∧ k ≤ K ∧ w9 = wr) (fun iv _ => K - (intOf iv).toNat)
      case atStart => exact ⟨0, rfl, Nat.zero_le _, rfl⟩
      case round =>
        obtain ⟨k, rfl, hk, rfl⟩ := hrel
        have k0 : (0 : Int) ≤ (k : Int) := Int.natCast_nonneg _
        by_cases hlt : k < K
        · have hkI : (k : Int) < K := by omega
          obtain ⟨gR, qR, cR, rfl, hgR, hq1, hq2⟩ := R9.at_ hlt
          have HQ2 := Lib.hid hq2
          clear hq2
          go_wp2_with fail
          go_loopw [13] (fun jv wr => ∃ j : Nat, jv = .int .i64 j ∧ j ≤ m ∧ w9 = wr) (fun jv _ => m - (intOf jv).toNat)
          case atStart => exact ⟨0, rfl, Nat.zero_le _, rfl⟩
          case round =>
            obtain ⟨j, rfl, hj, rfl⟩ := hrel
            have j0 : (0 : Int) ≤ (j : Int) := Int.natCast_nonneg _
            by_cases hjm : j < m
            · have hjI : (j : Int) < m := by omega
              have hy := HQ2.out.row.cell j hjm
              by_cases hz : Y k j = 0
              · rw [hz] at hy
                go_wp2_with fail
                go_roundw
                case rel => exact ⟨j + 1, by go_num, hjm, by trivial⟩
                case measure => simp [intOf]; omega
              · have hz2 : (Y k j != 0) = true := by simpa using hz
                go_wp2_with (go_at_call 39; refine (hasInt_no _ _ rn rd ((j : Nat) : Int) 0 _ (owns_sl A9) (H2.out k hlt j hjm hz) (by omega)).mono ?_; rintro e wz ⟨rfl, rfl⟩)
                go_roundw
                case rel => exact ⟨j + 1, by go_num, hjm, by trivial⟩
                case measure => simp [intOf]; omega
            · obtain rfl : j = m := by omega
              go_wp2_with fail
              go_roundw
              case rel => exact ⟨k + 1, by go_num, hlt, by trivial⟩
              case measure => simp [intOf]; omega
        · obtain rfl : k = K := by omega
          go_wp2_with fail
          go_ret
          exact ⟨rfl, C9⟩
    · have hrm : ((rn : Int) != (m : Int)) = false := by rw [H1.out (by trivial)]; simp
      clear H1
      have qBx0 := Bx6.b0
      have qBx1 := Bx6.b1
      have qBx2 := Bx6.lt
      go_wp2_with fail
      refine (CI.out _ _ x6.net).mono ?_
      rintro e w7 ⟨xR, rfl, rR, bb⟩
      have hs7 := bb.size
      have C7 := belowNext C6 bb
      have x7 := x6.next bb
      have Bx7 := Bx6.next bb
      have A7 := A6.next bb
      clear qBx0 qBx1 qBx2
      clear bb C6 x6 Bx6 A6
      have oR := bas_rw rR
      clear rR
      obtain ⟨sR1, sR2, rfl⟩ := oR.shape
      have qBx0 := Bx7.b0
      have qBx1 := Bx7.b1
      have qBx2 := Bx7.lt
      go_wp2_with fail
      refine (CS.out _ _ x7.net).mono ?_
      rintro e w8 ⟨xQ, rfl, rQ, bb⟩
      have hs8 := bb.size
      have C8 := belowNext C7 bb
      have x8 := x7.next bb
      have Bx8 := Bx7.next bb
      have A8 := A7.next bb
      have R8 := oR.next bb
      clear qBx0 qBx1 qBx2
      clear bb C7 x7 Bx7 A7 oR
      have oQ := bas_rw rQ
      clear rQ
      obtain ⟨sQ1, sQ2, rfl⟩ := oQ.shape
      have qBx0 := Bx8.b0
      have qBx1 := Bx8.b1
      have qBx2 := Bx8.lt
      go_wp2_with fail
      refine (likeRows_any _ _ _ K m Y R8 oQ (by omega) (by omega)).mono ?_
      rintro e w9 ⟨rfl, bb⟩
      have hs9 := bb.size
      have C9 := belowNext C8 bb
      have x9 := x8.next bb
      have Bx9 := Bx8.next bb
      have A9 := A8.next bb
      have R9 := R8.next bb
      have Q9 := oQ.next bb
      clear qBx0 qBx1 qBx2
      clear bb C8 x8 Bx8 A8 R8 oQ
      clear Q9
      have qBx0 := Bx9.b0
      have qBx1 := Bx9.b1
      have qBx2 := Bx9.lt
      go_wp2_with fail
      clear qBx0 qBx1 qBx2
      go_loopw [12] (fun iv wr => ∃ k : Nat, iv = .int .i64 k ∧ k ≤ K ∧ w9 = wr) (fun iv _ => K - (intOf iv).toNat)
      case atStart => exact ⟨0, rfl, Nat.zero_le _, rfl⟩
      case round =>
        obtain ⟨k, rfl, hk, rfl⟩ := hrel
        have k0 : (0 : Int) ≤ (k : Int) := Int.natCast_nonneg _
        by_cases hlt : k < K
        · have hkI : (k : Int) < K := by omega
          obtain ⟨gR, qR, cR, rfl, hgR, hq1, hq2⟩ := R9.at_ hlt
          have HQ2 := Lib.hid hq2
          clear hq2
          go_wp2_with fail
          go_loopw [13] (fun jv wr => ∃ j : Nat, jv = .int .i64 j ∧ j ≤ m ∧ w9 = wr) (fun jv _ => m - (intOf jv).toNat)
          case atStart => exact ⟨0, rfl, Nat.zero_le _, rfl⟩
          case round =>
            obtain ⟨j, rfl, hj, rfl⟩ := hrel
            have j0 : (0 : Int) ≤ (j : Int) := Int.natCast_nonneg _
            by_cases hjm : j < m
            · have hjI : (j : Int) < m := by omega
              have hy := HQ2.out.row.cell j hjm
              by_cases hz : Y k j = 0
              · rw [hz] at hy
                go_wp2_with fail
                go_roundw
                case rel => exact ⟨j + 1, by go_num, hjm, by trivial⟩
                case measure => simp [intOf]; omega
              · have hz2 : (Y k j != 0) = true := by simpa using hz
                go_wp2_with (go_at_call 39; refine (hasInt_no _ _ rn rd ((j : Nat) : Int) 0 _ (owns_sl A9) (H2.out k hlt j hjm hz) (by omega)).mono ?_; rintro e wz ⟨rfl, rfl⟩)
                go_roundw
                case rel => exact ⟨j + 1, by go_num, hjm, by trivial⟩
                case measure => simp [intOf]; omega
            · obtain rfl : j = m := by omega
              go_wp2_with fail
              go_roundw
              case rel => exact ⟨k + 1, by go_num, hlt, by trivial⟩
              case measure => simp [intOf]; omega
        · obtain rfl : k = K := by omega
          go_wp2_with fail
          go_ret
          exact ⟨rfl, C9⟩
  · have hrc' : (rc != 0) = true := by simpa using hrc
    have qBx0 := Bx5.b0
    have qBx1 := Bx5.b1
    have qBx2 := Bx5.lt
    go_wp2_with fail
    go_ret
    exact ⟨rfl, C5⟩

set_option maxRecDepth 100000 in
theorem lifted (os : Os) (started : os.Started) (H : Type) (enc : TypeId × Value → H) :
    ReturnsInHanded {} Try.checked os 7 .any (Rows.fnBridgesSpec.pre6 enc Try.prog Try.f7 Rows.fnBridgesRow.domain false) (Rows.fnBridgesSpec.post enc Try.prog Try.f7 false true false false) := by
  refine returnsInHanded_of_change (C := Try.checked) own started (by kernel_rfl) Try.func7
    (ChangeSpec.witness6 (enc := enc) (C := Try.checked) false ⟨#[], #[.slice none 0 0], []⟩ 8 (by kernel_rfl) (by kernel_rfl) (by kernel_rfl) (by kernel_rfl)) ?_
  intro W base args ds gs before hval0 hW hcnd _
  have hval : ∀ (j : Nat) t v, Try.f7.params[j]? = some t → args[j]? = some v → Value.okWide Try.prog W .any base t v := hval0
  have hW' := hW
  obtain ⟨p, q, hA0, hV, rfl, hfz, hnd⟩ := hW
  have hA : DataW.TrodAll enc Try.prog W 0 (fun _ => true) true Try.f7.params.toList args.toList ds p := hA0
  rw [Try.params7] at hA hval
  obtain ⟨v0, vs0, d0, ds0, p0, q0, hargs, rfl, rfl, h0, r0⟩ := trodAll_cons hA
  obtain ⟨rfl, rfl, rfl⟩ := trodAll_nil r0
  obtain rfl : args = #[v0] := by cases args; simp_all
  obtain ⟨rfl, rfl⟩ := trodVars_none hV
  have hc := open_code (hval 0 48 v0 rfl rfl) h0
  refine (walk v0 W hc).mono fun e W' ⟨he, hg⟩ => ?_
  subst he
  exact ⟨_, rfl, law.law_post hW' hg laidOut (by kernel_rfl) rfl rfl (by kernel_rfl) Try.underlying4⟩

theorem over : Rows.fnBridgesRow.holds Try.pinned (OpenSpec.ofChange Rows.fnBridgesSpec) :=
  OpenClaim.holds_of_wide 7 Try.f7 rfl rfl rfl rfl rfl rfl rfl ⟨rfl, rfl, rfl, rfl, rfl⟩ rfl rfl rfl rfl rfl (by kernel_rfl) Try.func7 (by kernel_rfl)
    (of_decide_eq_true (by kernel_rfl)) (by unfold Func.isWrapper; first | (rw [if_pos (by decide +kernel)]; kernel_rfl) | (rw [if_neg (by decide +kernel)]; exact ⟨rfl, rfl⟩))
    (fun os started H enc _ => lifted os started H enc)

theorem proved : Rows.FnBridgesSaid :=
  over
#print axioms proved
end Go.Proofs.Ytpgcieefipjjfaa.fnBridges
