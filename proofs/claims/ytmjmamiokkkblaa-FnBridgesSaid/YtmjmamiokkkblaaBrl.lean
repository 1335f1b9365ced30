/-
  Rows of lists that are alike, a number that is in no list, facts on bridges. Conditions: as each states.
-/
import Derived.Test.YtmjmamiokkkblaaRows
import Derived.Test.YtmjmamiokkkblaaBri
import Derived.Test.YtmjmamiokkkblaaDrG
import Derived.WalkKit
import Derived.ProofKit
import Derived.Lib.Hide
import Derived.Deep.QuietTactic
import Derived.BigQuiet
import Derived.Deep.RegionHeld3
import Derived.OwnWalk
import Derived.Outline
namespace Go.Proofs.Ytmjmamiokkkblaa.mem
open Go.RowKit
set_option linter.unusedVariables false

theorem Sl.next {w w' : World} {v : Value} {n : Nat} {d : Nat → Int} {lo : Nat} (h : Sl w v n d lo w.heap.size) (g : Below w.heap.size w w') : Sl w' v n d lo w'.heap.size := (h.below g (Nat.le_refl _)).mono (Nat.le_refl _) g.size
theorem likeSl (w : World) (v u : Value) (n : Nat) (d e : Nat → Int) (lo hi lo' hi' : Nat) (h : Sl w v n d lo hi) (g : Sl w u n e lo' hi') (hde : ∀ k, k < n → e k = d k) (hn9 : n ≤ 1000000) :
    Calls Try.prog 20 #[v, u] w fun e w' => e = .returned (.bool true) ∧ Below w.heap.size w w' := by
  obtain ⟨p, cap, rfl, hc⟩ := h
  obtain ⟨p', cap', rfl, hc'⟩ := g
  have HC := Lib.hid hc
  have HC' := Lib.hid hc'
  have HE := Lib.hid hde
  clear hc hc' hde
  have hbb : ((n : Int) != n) = false := by simp
  go_enter Try.func20, Try.ntmps20
  go_wp2_with fail
  go_loopw [5] (fun i wr => ∃ k m : Nat, i = .int .i64 k ∧ k ≤ n ∧ wr = w.drewN m) (fun i _ => n - (intOf i).toNat)
  case atStart => exact ⟨0, 0, rfl, Nat.zero_le _, rfl⟩
  case round =>
    obtain ⟨k, m, rfl, hk, hw⟩ := hrel
    have HWR := Lib.hid hw
    by_cases hlt : k < n
    · rcases HC.out with h0 | ⟨b, o, rfl, g1, g2, g3⟩
      · omega
      rcases HC'.out with h0 | ⟨b', o', rfl, g1', g2', g3'⟩
      · omega
      have c1 : wr.cell? ⟨b, o + k, none⟩ = some (.int .i64 (d k)) := by rw [hw]; exact g3 k hlt
      have c2 : wr.cell? ⟨b', o' + k, none⟩ = some (.int .i64 (d k)) := by rw [hw, ← HE.out k hlt]; exact g3' k hlt
      have hkn : (k : Int) < (n : Int) := by omega
      have hdd : (d k != d k) = false := by simp
      clear hw g3 g3'
      go_wp2_with fail
      go_quiet (fail)
      go_wp2_with fail
      go_roundw
      case rel => exact ⟨k + 1, m + nq, by go_num, hlt, by rw [HWR.out]; exact (World.drewN_drewN _ _ _)⟩
      case measure => simp [intOf]; omega
    · clear hw
      go_wp2_with fail
      go_ret
      exact ⟨rfl, by rw [HWR.out]; exact below_self _ _ _⟩

/-- a list of K lists of m numbers -/
structure Rls (w : World) (v : Value) (K m : Nat) (Y : Nat → Nat → Int) : Prop where
  ex : ∃ (p : Option Addr) (cap g : Nat) (G C : Nat → Nat), v = .slice p K cap ∧ (K = 0 ∨ (p = some ⟨g, 0, none⟩ ∧ g < w.heap.size)) ∧ ∀ i, i < K → w.cell? ⟨g, i, none⟩ = some (.slice (some ⟨G i, 0, none⟩) m (C i)) ∧ Own w (.slice (some ⟨G i, 0, none⟩) m (C i)) m (Y i) (G i)
theorem Rls.next {w w' : World} {v : Value} {K m : Nat} {Y : Nat → Nat → Int} (h : Rls w v K m Y) (b : Below w.heap.size w w') : Rls w' v K m Y := by
  obtain ⟨p, cap, g, G, C, h1, h2, h3⟩ := h.ex
  refine ⟨p, cap, g, G, C, h1, ?_, fun i hi => ?_⟩
  · have := b.size
    rcases h2 with h2 | h2
    · exact .inl h2
    · exact .inr ⟨h2.1, by omega⟩
  · obtain ⟨e1, e2⟩ := h3 i hi
    have hg : g < w.heap.size := by
      rcases h2 with h2 | h2
      · omega
      · exact h2.2
    exact ⟨(b.cell (p := ⟨g, i, none⟩) hg).trans e1, e2.below b (Nat.le_refl _)⟩
theorem Rls.shape {w : World} {v : Value} {K m : Nat} {Y : Nat → Nat → Int} (h : Rls w v K m Y) : ∃ p cap, v = .slice p K cap := by
  obtain ⟨p, cap, _, _, _, h1, _⟩ := h.ex
  exact ⟨p, cap, h1⟩
theorem bas_rw {w : World} {v : Value} {K m B : Nat} {Y : Nat → Nat → Int} (h : Bas w v K m Y B) : Rls w v K m Y := by
  obtain ⟨G, C, h1, h2, _⟩ := h.ex
  obtain ⟨g, h3, _⟩ := h1.ownS
  obtain ⟨p, cap, rfl, _, _, h4⟩ := h3.ex
  refine ⟨p, cap, g, G, C, rfl, ?_, fun i hi => ⟨?_, (h2 i hi).1⟩⟩
  · rcases h4 with h4 | ⟨h4, h5⟩
    · exact .inl h4
    · exact .inr ⟨h4, h5.lt⟩
  · rcases h4 with h4 | ⟨h4, h5⟩
    · omega
    · have := h5.cell i 0 hi (by omega)
      simpa using this
theorem Rls.at_ {w : World} {p : Option Addr} {cap K m : Nat} {Y : Nat → Nat → Int} (h : Rls w (.slice p K cap) K m Y) {i : Nat} (hi : i < K) : ∃ g q c, p = some ⟨g, 0, none⟩ ∧ g < w.heap.size ∧ w.cell? ⟨g, i, none⟩ = some (.slice (some ⟨q, 0, none⟩) m c) ∧ Own w (.slice (some ⟨q, 0, none⟩) m c) m (Y i) q := by
  obtain ⟨p', cap', g, G, C, h1, h2, h3⟩ := h.ex
  injection h1 with e1 _ _
  subst e1
  rcases h2 with h2 | h2
  · omega
  · exact ⟨g, G i, C i, h2.1, h2.2, h3 i hi⟩
set_option maxRecDepth 100000 in
set_option maxHeartbeats 4000000 in
theorem likeRows_any (w : World) (v u : Value) (K m : Nat) (Y : Nat → Nat → Int) (h : Rls w v K m Y) (g : Rls w u K m Y) (hK : K ≤ 1000000) (hm : m ≤ 1000000) :
    Calls Try.prog 50 #[v, u] w fun e w' => e = .returned (.bool true) ∧ Below w.heap.size w w' := by
  obtain ⟨p, cap, rfl⟩ := h.shape
  obtain ⟨p', cap', rfl⟩ := g.shape
  have HC := Lib.hid h
  have HC' := Lib.hid g
  clear h g
  have hbb : ((K : Int) != K) = false := by simp
  go_enter Try.func50, Try.ntmps50
  go_wp2_with fail
  go_loopw [5] (fun i wr => ∃ k : Nat, i = .int .i64 k ∧ k ≤ K ∧ Below w.heap.size w wr) (fun i _ => K - (intOf i).toNat)
  case atStart => exact ⟨0, rfl, Nat.zero_le _, Below.refl _ _⟩
  case round =>
    obtain ⟨k, rfl, hk, hb⟩ := hrel
    have HB := Lib.hid hb
    have k0 : (0 : Int) ≤ (k : Int) := Int.natCast_nonneg _
    by_cases hlt : k < K
    · obtain ⟨g, q, c, rfl, hg, e1, e2⟩ := (HC.out.next hb).at_ hlt
      obtain ⟨g', q', c', rfl, hg', e1', e2'⟩ := (HC'.out.next hb).at_ hlt
      have hkn : (k : Int) < (K : Int) := by omega
      have E2 := Lib.hid e2
      have E2' := Lib.hid e2'
      clear hb e2 e2'
      go_wp2_with fail
      have hAny : ∀ X : World, Below wr.heap.size wr X → (fun w' => w'.cell? ⟨g, k, none⟩ = some (.slice (some ⟨q, 0, none⟩) m c) ∧ w'.cell? ⟨g', k, none⟩ = some (.slice (some ⟨q', 0, none⟩) m c')) X := fun X h => ⟨(h.cell (p := ⟨g, k, none⟩) hg).trans e1, (h.cell (p := ⟨g', k, none⟩) hg').trans e1'⟩
      have K0 : Below wr.heap.size wr wr.drew := ⟨rfl, rfl, rfl, Nat.le_refl _, fun _ _ => rfl⟩
      go_region_held3 (fun w' => w'.cell? ⟨g, k, none⟩ = some (.slice (some ⟨q, 0, none⟩) m c) ∧ w'.cell? ⟨g', k, none⟩ = some (.slice (some ⟨q', 0, none⟩) m c')) (first | exact hAny _ K0 | exact hAny _ K1)
        (first | (go_at_call 20; refine (likeSl _ _ _ m (Y k) (Y k) _ _ _ _ ((E2.out.below K0 (Nat.le_refl _)).sl) ((E2'.out.below K0 (Nat.le_refl _)).sl) (fun _ _ => rfl) hm).mono ?_; rintro e wx ⟨rfl, ba⟩; have K1 : Below wr.heap.size wr wx := K0.trans (ba.mono K0.size); clear ba))
      have HB2 := Lib.hid (HB.out.trans (K1.mono HB.out.size))
      clear hAny K0 K1 e1 e1'
      go_wp2_with fail
      go_roundw
      case rel => exact ⟨k + 1, by go_num, hlt, HB2.out⟩
      case measure => simp [intOf]; omega
    · clear hb
      go_wp2_with fail
      go_ret
      exact ⟨rfl, HB.out⟩
set_option maxRecDepth 100000 in
theorem hasInt_no (w : World) (v : Value) (n : Nat) (d : Nat → Int) (x : Int) (lo hi : Nat) (h : Sl w v n d lo hi) (hx : ∀ i, i < n → d i ≠ x) (hn : n ≤ 1000000) :
    Calls Try.prog 51 #[v, .int .i64 x] w fun e w' => e = .returned (.bool false) ∧ w = w' := by
  obtain ⟨p, cap, rfl, hc⟩ := h
  have HC := Lib.hid hc
  have HX := Lib.hid hx
  clear hc hx
  go_enter Try.func51, Try.ntmps51
  go_wp2_with fail
  go_loopw [5] (fun i wr => ∃ k : Nat, i = .int .i64 k ∧ k ≤ n ∧ wr = w) (fun i _ => n - (intOf i).toNat)
  case atStart => exact ⟨0, rfl, Nat.zero_le _, rfl⟩
  case round =>
    obtain ⟨k, rfl, hk, rfl⟩ := hrel
    by_cases hlt : k < n
    · rcases HC.out with h0 | ⟨b, o, rfl, g1, g2, g3⟩
      · omega
      have c1 : wr.cell? ⟨b, o + k, none⟩ = some (.int .i64 (d k)) := g3 k hlt
      have hkn : (k : Int) < (n : Int) := by omega
      have he := HX.out k hlt
      have hdd : (d k == x) = false := by simp [he]
      clear g3 he
      go_wp2_with fail
      go_roundw
      case rel => exact ⟨k + 1, by go_num, hlt, by trivial⟩
      case measure => simp [intOf]; omega
    · go_wp2_with fail
      go_ret
      exact ⟨rfl, rfl⟩
theorem brFacts (n : Nat) (N : Nat → Nod) (m : Nat) (P : Nat → Pip) (hN : ∀ i, i < n → (N i).s.size ≤ 9223372036854775807) (hm : m ≤ 1000) :
    ∃ (rn : Nat) (rd : Nat → Int) (rc : Int) (eb : Bool) (K : Nat) (Y : Nat → Nat → Int), rn ≤ 1000 ∧ K ≤ 1000 ∧ (∀ w v, NetAt w v n N m P 0 w.heap.size → Calls Try.prog 44 #[v] w (LIPost w rn rd rc)) ∧ (∀ w v, NetAt w v n N m P 0 w.heap.size → Calls Try.prog 45 #[v] w (LIPost w rn rd rc)) ∧
      (∀ w v, NetAt w v n N m P 0 w.heap.size → Calls Try.prog 46 #[v] w (BPost w eb)) ∧ (∀ w v, NetAt w v n N m P 0 w.heap.size → Calls Try.prog 47 #[v] w (BPost w eb)) ∧
      (∀ w v, NetAt w v n N m P 0 w.heap.size → Calls Try.prog 48 #[v] w (CBPost w K m Y rc)) ∧ (∀ w v, NetAt w v n N m P 0 w.heap.size → Calls Try.prog 49 #[v] w (CBPost w K m Y rc)) ∧
      (eb = true → rn = m) ∧ (∀ i, i < K → ∀ j, j < m → Y i j ≠ 0 → ∀ t, t < rn → rd t ≠ ((j : Nat) : Int)) := by
  have hl : (fl (brP n P m) m).length ≤ m := fl_le _ _
  have hcl := chN_le n P m
  refine ⟨brN n N m P, fd (brP n P m) m, cmC (netB n N m P), treeB n N m P, cbN n N m P, fun i => cyc P (fE n P m) (fD n P m) (chS n P m i), by unfold brN; split <;> omega, by unfold cbN; split <;> omega, fun w v h => bridgesOfI_any w v n N m P 0 _ h (Nat.le_refl _) hN, fun w v h => bridgesOfS_any w v n N m P 0 _ h (Nat.le_refl _) hN, fun w v h => isTreeI_any w v n N m P 0 _ h (Nat.le_refl _) hN, fun w v h => isTreeS_any w v n N m P 0 _ h (Nat.le_refl _) hN, fun w v h => cycleBasisI_any w v n N m P 0 _ h (Nat.le_refl _) hN, fun w v h => cycleBasisS_any w v n N m P 0 _ h (Nat.le_refl _) hN, tree_br, fun i hi j hj hne t ht he => ?_⟩
  unfold cbN at hi
  split at hi
  · next hB =>
    obtain ⟨hcm, _⟩ := chS_at hi
    unfold brN at ht
    rw [hB, if_pos (show cmC true = 0 from rfl)] at ht
    have hmem : (fl (brP n P m) m)[t] ∈ fl (brP n P m) m := List.getElem_mem ht
    have hfd : fd (brP n P m) m t = (((fl (brP n P m) m)[t] : Nat) : Int) := by
      unfold fd
      rw [List.getElem?_eq_getElem ht]
      rfl
    rw [hfd] at he
    have hj2 : (fl (brP n P m) m)[t] = j := by omega
    rw [hj2] at hmem
    exact hne (bridge_zero hB hj (fl_lt hmem).2 (fun z _ => (fo_net hB).cyc_dv (fo_r0 hB) (fo_r2 hB) hcm (fo_r1 hB _ hcm) _))
  · omega
end Go.Proofs.Ytmjmamiokkkblaa.mem
namespace Go.Proofs.Ytmjmamiokkkblaa.draw
open Go.RowKit
set_option linter.unusedVariables false
/-- a network has been drawn -/
def NetOnlyPost (w : World) (e : Ending) (w' : World) : Prop :=
  ∃ (v : Value) (n m : Nat) (N : Nat → mem.Nod) (P : Nat → mem.Pip) (b1 b2 : Nat), e = .returned v ∧ n ≤ 1000 ∧ m ≤ 1000 ∧ (∀ i, i < n → (N i).s.size ≤ 9223372036854775807) ∧ mem.NetOwn w' v n N m P b1 b2 ∧ w.heap.size ≤ b1 ∧ w.heap.size ≤ b2 ∧ Below w.heap.size w w'

set_option maxRecDepth 100000 in
set_option maxHeartbeats 4000000 in
theorem drawBridgesOf (w : World) (cv : Value) (len : Nat) (hc : CodeAt w cv len w.heap.size) : Calls Try.prog 43 #[cv] w (NetOnlyPost w) := by
  have HC := Lib.hid hc
  have R1 := mem.boxed w (.slice none 0 0) (.slice none 0 0) 27
  have C1 := mem.below_new w (.cells #[.slice none 0 0, .slice none 0 0] 27)
  have hsz : (w.alloc (.cells #[.slice none 0 0, .slice none 0 0] 27)).heap.size = w.heap.size + 1 := by simp
  go_enter Try.func43, Try.ntmps43
  go_wp2_with fail
  generalize hW : w.alloc (.cells #[.slice none 0 0, .slice none 0 0] 27) = Wa at *
  clear hW hc
  replace hsz := Nat.le_antisymm_iff.1 hsz
  refine (from_any Wa cv len (by have := codeAt_below HC.out C1; rcases this with h | ⟨cb, co, cap, h1, h2, h3⟩; exact .inl h; exact .inr ⟨cb, co, cap, h1, by omega, h3⟩)).mono ?_
  rintro e w1 ⟨s1, rfl, hS1, B1, z1⟩
  obtain ⟨b, hbe⟩ : ∃ b, b = Wa.heap.size := ⟨_, rfl⟩
  rw [← hbe] at hS1 z1 ⊢
  replace hbe := Nat.le_antisymm_iff.1 hbe
  replace z1 := Nat.le_antisymm_iff.1 z1
  have C2 := mem.belowNext C1 B1
  have R2 := R1.next B1
  clear B1 C1 R1
  go_wp2_with fail
  refine (any_ok w1 b w.heap.size cv len 0 s1 hS1 (codeAt_below HC.out C2) (by omega)).mono ?_
  rintro e w2 ⟨v, n, m, N, P, b1, b2, i2, s2, rfl, hn, hm, hnm, hO, l1, l2, hS2, U2⟩
  obtain ⟨p0, c0, p1, c1, rfl⟩ := hO.shape
  have C3 := C2.trans (U2.below (by omega) (by rintro x _ rfl; omega))
  have R3 := R2.keep (U2.block w.heap.size (by omega) (by omega))
  have f0 := R3.b0
  have f1 := R3.b1
  have k0 := R3.free 0
  have k1 := R3.free 1
  have hO2 := ((mem.Only.refl w.heap.size w2).setCell 0 (.slice p0 n c0)).setCell 1 (.slice p1 m c1)
  have HO := Lib.hid (hO.upd (mem.Upd.of_only hO2) (.inr (by omega)) (.inr (by omega)))
  have HB := Lib.hid (mem.below_only C3 hO2 (by omega))
  clear C2 R2 hO hS2 hS1 C3 R3 U2 hO2
  go_wp2_with fail
  refine bodyPost_ret (v := .agg #[.slice p0 n c0, .slice p1 m c1]) (by simp [results, Try.results43, go_sem, f0, f1]) rfl ⟨_, n, m, N, P, b1, b2, rfl, hn, hm, hnm, HO.out, by omega, by omega, HB.out⟩
end Go.Proofs.Ytmjmamiokkkblaa.draw
