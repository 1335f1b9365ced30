/-
  Several texts in one, part one of two.
-/
import Derived.Test.YtdbgcbkmcbgdiaaGreatRows
import Derived.Test.YtdbgcbkmcbgdiaaGreatCyM
import Derived.Test.YtdbgcbkmcbgdiaaGreatBaM
import Derived.IntWalk
import Derived.Laws.EntriesVeiled
import Derived.Test.YtdbgcbkmcbgdiaaGreatCsM
import Derived.BigQuiet
import Derived.Deep.Cut
import Derived.Deep.RegionHeld3
import Derived.Deep.MidRow
import Derived.Deep.CutRange
import Derived.Test.YtdbgcbkmcbgdiaaGreatDrG
import Derived.WalkKit
import Derived.ProofKit
import Derived.Lib.Hide
import Derived.OwnWalk
import Derived.Outline
import Derived.Deep.RegionWith
import Derived.StillTailTactics
import Derived.Test.YtdbgcbkmcbgdiaaGreatI64
import Derived.Test.YtdbgcbkmcbgdiaaGreatCs
import Derived.Deep.QuietTactic
import Derived.Laws.ResultCell
import Derived.Test.YtdbgcbkmcbgdiaaGreatLaw
import Derived.Test.YtdbgcbkmcbgdiaaGreatCode
import Derived.OpenShut
import Derived.Deep.RegionHeldLaw
namespace Go.Proofs.YtdbgcbkmcbgdiaaGreat.mem
open Go.RowKit
set_option linter.unusedVariables false

/-- levels only turn into those that are meant -/
def Grow (lv : Int → Int) (d d' : Nat → Int) : Prop := ∀ j : Nat, d' j = d j ∨ d' j = lv j
theorem Grow.refl (lv : Int → Int) (d : Nat → Int) : Grow lv d d := fun _ => .inl rfl
theorem Grow.trans {lv : Int → Int} {d d' d'' : Nat → Int} (h : Grow lv d d') (g : Grow lv d' d'') : Grow lv d d'' := fun j => by
  rcases g j with e | e
  · rw [e]; exact h j
  · exact .inr e
theorem Grow.upd {lv : Int → Int} (d : Nat → Int) (a : Nat) : Grow lv d (upd d a (lv a)) := fun j => by
  unfold mem.upd
  by_cases e : j = a
  · subst e; rw [if_pos rfl]; exact .inr rfl
  · rw [if_neg e]; exact .inl rfl
/-- what a search from a node has reached: the pipes S are the forest's, T those at the node that have been gone along -/
structure Dfs (n : Nat) (P : Nat → Pip) (S : Nat → Prop) (lv : Int → Int) (node : Int) (T : Nat → Prop) (d : Nat → Int) (V : Int → Prop) : Prop where
  own : V node
  lev : ∀ z, V z → 0 ≤ z ∧ z < n ∧ d z.toNat = lv z
  oth : ∀ z, V z → z ≠ node → ∀ a, S a → endB (P a) z = true → V (othV (P a) z)
  nod : ∀ a, T a → endB (P a) node = true → V (othV (P a) node)
theorem Dfs.start {n : Nat} {P : Nat → Pip} {S : Nat → Prop} {lv : Int → Int} {a : Nat} {T : Nat → Prop} (ha : a < n) (d : Nat → Int) (hT : ∀ b, ¬ T b) : Dfs n P S lv (a : Nat) T (upd d a (lv a)) (fun z => z = (a : Nat)) where
  own := rfl
  lev := fun z hz => by
    subst hz
    refine ⟨Int.natCast_nonneg _, by omega, ?_⟩
    rw [Int.toNat_natCast]
    unfold mem.upd
    rw [if_pos rfl]
  oth := fun z hz hne => absurd hz hne
  nod := fun b hb => absurd hb (hT b)
theorem Dfs.step {n : Nat} {P : Nat → Pip} {S T T' : Nat → Prop} {lv : Int → Int} {node : Int} {d d' : Nat → Int} {V V' : Int → Prop} {a : Nat} (h : Dfs n P S lv node T d V) (hg : Grow lv d d') (hp : pipB n (P a) = true) (he : endB (P a) node = true)
    (h' : Dfs n P S lv (othV (P a) node) (fun b => S b ∧ (b : Int) ≠ (a : Int)) d' V') (hT : ∀ b, T' b → T b ∨ b = a) : Dfs n P S lv node T' d' (fun z => V z ∨ V' z) where
  own := .inl h.own
  lev := fun z hz => by
    rcases hz with hz | hz
    · obtain ⟨h0, h1, h2⟩ := h.lev z hz
      refine ⟨h0, h1, ?_⟩
      rcases hg z.toNat with e | e
      · rw [e, h2]
      · rw [e, Int.toNat_of_nonneg h0]
    · exact h'.lev z hz
  oth := fun z hz hne b hb hbe => by
    rcases hz with hz | hz
    · exact .inl (h.oth z hz hne b hb hbe)
    · by_cases e : z = othV (P a) node
      · subst e
        by_cases e2 : b = a
        · subst e2
          rw [(oth_oth hp he).1]
          exact .inl h.own
        · exact .inr (h'.nod b ⟨hb, fun e3 => e2 (by omega)⟩ hbe)
      · exact .inr (h'.oth z hz e b hb hbe)
  nod := fun b hb hbe => by
    rcases hT b hb with h1 | h1
    · exact .inl (h.nod b h1 hbe)
    · subst h1
      exact .inr h'.own
/-- a set that is closed under the forest's pipes holds all nodes of a connected network -/
theorem Fo.all {n : Nat} {P : Nat → Pip} {m : Nat} {E D R : Int → Int} (h : Fo n P m E D) (r0 : ∀ z : Int, 0 ≤ z ∧ z < n → E z = -1 → R z = z) (r1 : ∀ z : Int, 0 ≤ z ∧ z < n → ∀ c : Nat, c < m → E z = (c : Int) → R (othV (P c) z) = R z)
    (one : ∀ y z : Int, 0 ≤ y ∧ y < n → 0 ≤ z ∧ z < n → R y = R z) {V : Int → Prop} {x : Int} (hx : 0 ≤ x ∧ x < n) (hV : V x) (cl : ∀ z, V z → ∀ a : Nat, a < m → (∃ y : Int, 0 ≤ y ∧ y < n ∧ E y = (a : Int)) → endB (P a) z = true → V (othV (P a) z)) : ∀ z : Int, 0 ≤ z ∧ z < n → V z := by
  have up := h.ind (Q := fun z => 0 ≤ z ∧ z < n → V z → V (R z)) (fun z hz e _ hv => by rw [r0 z hz e]; exact hv) (fun z hz c hc e b d ih _ hv => by
    have h1 := ih (h.oth hc z) (cl z hv c hc ⟨z, hz.1, hz.2, e⟩ b)
    rwa [r1 z hz c hc e] at h1)
  have down := h.ind (Q := fun z => 0 ≤ z ∧ z < n → V (R z) → V z) (fun z hz e _ hv => by rwa [r0 z hz e] at hv) (fun z hz c hc e b d ih _ hv => by
    have h1 := ih (h.oth hc z) (by rw [r1 z hz c hc e]; exact hv)
    have h2 := oth_oth (h.pip c hc) b
    have h3 := cl _ h1 c hc ⟨z, hz.1, hz.2, e⟩ h2.2.1
    rwa [h2.1] at h3)
  intro z hz
  refine down z hz hz ?_
  rw [one z x hz hx]
  exact up x hx hx hV
theorem pip_k {n : Int} {q : Pip} (h : pipB n q = true) : 1 ≤ q.k ∧ q.k ≤ 1000 := by
  unfold pipB at h
  simp only [Bool.and_eq_true, inR_iff] at h
  omega
end Go.Proofs.YtdbgcbkmcbgdiaaGreat.mem

namespace Go.Proofs.YtdbgcbkmcbgdiaaGreat.mem
open Go.RowKit
set_option linter.unusedVariables false

/-- what the closure that fills the levels reads -/
structure FE (n m L : Nat) (N : Nat → Nod) (P : Nat → Pip) (F : Nat → Int) (x : Nat → Int) (p0 : Option Addr) (c0 : Nat) (p1 : Option Addr) (c1 lo hi la ha g bl bf bn bfi bfl gf cf : Nat) (va : Value) (w : World) : Prop where
  net : NetAt w (.agg #[.slice p0 n c0, .slice p1 m c1]) n N m P lo hi
  sl : Sl w va m x la ha
  fo : Own w (.slice (some ⟨gf, 0, none⟩) L cf) L F gf
  ol : Ob w bl 1 (fun _ => .slice (some ⟨g, 0, none⟩) n n)
  of : Ob w bf 1 (fun _ => .slice (some ⟨gf, 0, none⟩) L cf)
  on : Ob w bn 2 (bx (.slice p0 n c0) (.slice p1 m c1))
  oi : Ob w bfi 1 (fun _ => .func (.func 111) #[] #[.pointer (some ⟨bl, 0, none⟩), .pointer (some ⟨bf, 0, none⟩), .pointer (some ⟨bn, 0, none⟩), .pointer (some ⟨bfi, 0, none⟩), .pointer (some ⟨bfl, 0, none⟩)])
  ow : Ob w bfl 1 (fun _ => va)
  h1 : hi ≤ g
  h2 : ha ≤ g
  n1 : bl ≠ g
  n2 : bf ≠ g
  n3 : bn ≠ g
  n4 : bfi ≠ g
  n5 : bfl ≠ g
  n6 : gf ≠ g
  hg : g < w.heap.size
theorem FE.upd {n m L : Nat} {N : Nat → Nod} {P : Nat → Pip} {F : Nat → Int} {x : Nat → Int} {p0 : Option Addr} {c0 : Nat} {p1 : Option Addr} {c1 lo hi la ha g bl bf bn bfi bfl gf cf : Nat} {va : Value} {w w' : World}
    (h : FE n m L N P F x p0 c0 p1 c1 lo hi la ha g bl bf bn bfi bfl gf cf va w) (u : Upd (fun b => b = g) w w') : FE n m L N P F x p0 c0 p1 c1 lo hi la ha g bl bf bn bfi bfl gf cf va w' := by
  have hb : Below g w w' := u.below (Nat.le_of_lt h.hg) (fun k _ hk => by omega)
  exact ⟨h.net.below hb h.h1, h.sl.below hb h.h2, h.fo.keep (u.block _ h.fo.lt h.n6), h.ol.keep (u.block _ h.ol.lt h.n1), h.of.keep (u.block _ h.of.lt h.n2), h.on.keep (u.block _ h.on.lt h.n3), h.oi.keep (u.block _ h.oi.lt h.n4), h.ow.keep (u.block _ h.ow.lt h.n5), h.h1, h.h2, h.n1, h.n2, h.n3, h.n4, h.n5, h.n6, Nat.lt_of_lt_of_le h.hg u.size⟩
end Go.Proofs.YtdbgcbkmcbgdiaaGreat.mem

namespace Go.Proofs.YtdbgcbkmcbgdiaaGreat.mem
open Go.RowKit
set_option linter.unusedVariables false

end Go.Proofs.YtdbgcbkmcbgdiaaGreat.mem

namespace Go.Proofs.YtdbgcbkmcbgdiaaGreat.mem
open Go.RowKit
set_option linter.unusedVariables false

end Go.Proofs.YtdbgcbkmcbgdiaaGreat.mem

namespace Go.Proofs.YtdbgcbkmcbgdiaaGreat.mem
open Go.RowKit
set_option linter.unusedVariables false

end Go.Proofs.YtdbgcbkmcbgdiaaGreat.mem

namespace Go.Proofs.YtdbgcbkmcbgdiaaGreat.mem
open Go.RowKit
set_option linter.unusedVariables false

end Go.Proofs.YtdbgcbkmcbgdiaaGreat.mem

namespace Go.Proofs.YtdbgcbkmcbgdiaaGreat.mem
open Go.RowKit
set_option linter.unusedVariables false

end Go.Proofs.YtdbgcbkmcbgdiaaGreat.mem

namespace Go.Proofs.YtdbgcbkmcbgdiaaGreat.mem
open Go.RowKit
set_option linter.unusedVariables false

theorem l06Supply_any (w : World) (x : Int) : Calls Tryz.prog 97 #[.int .i64 x] w fun e w' => e = .returned (.bool (flQ x)) ∧ w = w' := by
  unfold flQ
  go_enter Tryz.func97, Tryz.ntmps97
  go_wp2_with (go_at_call 117; refine (l01In_any _ _ _ _).mono ?_; rintro e w' ⟨rfl, rfl⟩)
  go_ret
  exact ⟨rfl, rfl⟩
set_option maxRecDepth 100000 in
set_option maxHeartbeats 8000000 in
theorem l06List_any (w : World) (p0 p1 : Option Addr) (n m c0 c1 : Nat) (va : Value) (K : Nat) (d : Nat → Int) (la ha : Nat) (hv : Sl w va K d la ha) (hha : ha ≤ w.heap.size) (hK9 : K ≤ 9223372036854775807) (hn9 : n ≤ 9223372036854775807) :
    Calls Tryz.prog 47 #[.agg #[.slice p0 n c0, .slice p1 m c1], va] w fun e w' => e = .returned (.bool (liB n K d)) ∧ Below w.heap.size w w' := by
  have A0 := boxed w (.slice p0 n c0) (.slice p1 m c1) 27
  have B0 := Lib.hid (below_new w (.cells #[.slice p0 n c0, .slice p1 m c1] 27))
  have H1 := Lib.hid (hv.below B0.out hha)
  obtain ⟨p, cap, rfl, hc⟩ := hv.below B0.out hha
  have HC := Lib.hid hc
  have e1 := A0.b0
  clear hc A0 hv
  go_enter Tryz.func47, Tryz.ntmps47
  go_wp2_with fail
  obtain ⟨w1, hw1⟩ : ∃ w1, w.alloc (.cells #[.slice p0 n c0, .slice p1 m c1] 27) = w1 := ⟨_, rfl⟩
  rw [hw1] at B0 HC e1 ⊢
  clear hw1 H1
  go_loopw [5] (fun iv wr => ∃ k : Nat, iv = .int .i64 k ∧ k ≤ K ∧ flB d k = true ∧ wr = w1) (fun iv _ => K - (intOf iv).toNat)
  case atStart => exact ⟨0, rfl, Nat.zero_le _, rfl, rfl⟩
  case round =>
    obtain ⟨k, rfl, hk, hb, rfl⟩ := hrel
    generalize hQ : Exit.then _ _ = Q
    have HQ := Lib.hid hQ
    clear hQ
    have HF := Lib.hid hb
    clear hb
    have k0 : (0 : Int) ≤ (k : Int) := Int.natCast_nonneg _
    by_cases hlt : k < K
    · have k1 : (k : Int) < (K : Int) := by omega
      obtain ⟨b, o, rfl, _, _, hx⟩ : ∃ b o, p = some ⟨b, o, none⟩ ∧ la ≤ b ∧ b < ha ∧ ∀ k, k < K → wr.cell? ⟨b, o + k, none⟩ = some (.int .i64 (d k)) := by
        rcases HC.out with e | e
        · omega
        · exact e
      have y0 := hx k hlt
      have HX := Lib.hid hx
      clear hx
      cases hq : flQ (d k)
      · have HR := Lib.hid (show liB n K d = false by unfold liB; rw [flB_no hlt hq]; rfl)
        go_wp2_with (go_at_call 97; refine (l06Supply_any _ _).mono ?_; rintro e w' ⟨rfl, rfl⟩; rw [hq])
        rw [← HQ.out]
        go_wp2_with fail
        go_ret
        exact ⟨ret_b HR.out.symm, B0.out⟩
      · have HR := Lib.hid (show flB d (k + 1) = true by unfold flB; rw [HF.out, hq]; rfl)
        go_wp2_with (go_at_call 97; refine (l06Supply_any _ _).mono ?_; rintro e w' ⟨rfl, rfl⟩; rw [hq])
        rw [← HQ.out]
        refine ⟨⟨_, _, _, _, _, _, _, _, _, _, _, _, _, _, ?rel, rfl⟩, ?measure⟩
        case rel => exact ⟨k + 1, by go_num, hlt, HR.out, rfl⟩
        case measure => simp [intOf]; omega
    · have hkn : K = k := by omega
      have HR := Lib.hid (show liB n K d = decide (K = n) by unfold liB; rw [hkn, HF.out]; rfl)
      have hb2 : ((K : Int) == (n : Int)) = decide (K = n) := by
        by_cases e : K = n
        · simp [e]
        · rw [decide_eq_false e]; simp; omega
      subst hkn
      have k1 : ¬ ((K : Int) < (K : Int)) := by omega
      go_wp2_with fail
      rw [← HQ.out]
      go_wp2_with fail
      go_ret
      refine ⟨ret_b ?_, B0.out⟩
      first | exact HR.out.symm | (rw [HR.out, ← hb2])
theorem l06Code_any (w : World) (v : Value) (n : Nat) (N : Nat → Nod) (m : Nat) (P : Nat → Pip) (lo hi : Nat) (h : NetAt w v n N m P lo hi) (hhi : hi ≤ w.heap.size) (hN : ∀ i, i < n → (N i).s.size ≤ 9223372036854775807) (va : Value) (K : Nat) (d : Nat → Int) (la ha : Nat) (hv : Sl w va K d la ha) (hha : ha ≤ w.heap.size) (hK9 : K ≤ 9223372036854775807) :
    Calls Tryz.prog 116 #[v, va] w fun e w' => e = .returned (.int .i64 (svC n N m P K d)) ∧ Below w.heap.size w w' := by
  obtain ⟨p0, c0, p1, c1, rfl, hn9, hm9⟩ := h.parts
  have HV := Lib.hid h
  have HN := Lib.hid hN
  have A0 := boxed w (.slice p0 n c0) (.slice p1 m c1) 27
  have B0 := below_new w (.cells #[.slice p0 n c0, .slice p1 m c1] 27)
  have hs0 : (w.alloc (.cells #[.slice p0 n c0, .slice p1 m c1] 27)).heap.size = w.heap.size + 1 := by simp
  clear h hN
  go_enter Tryz.func116, Tryz.ntmps116
  have e0' := A0.b0
  have e1' := A0.b1
  go_wp2_with fail
  refine (sIsNetwork_any _ _ n N m P lo hi (HV.out.below B0 hhi) (by omega) HN.out).mono ?_
  rintro e w1 ⟨rfl, b1⟩
  have A1 := A0.below b1 (by omega)
  have B1 := B0.trans (b1.mono (by omega))
  have hs1 := b1.size
  have e0 := A1.b0
  have e1 := A1.b1
  have e2 : w.heap.size < w1.heap.size := by omega
  clear A0 B0 b1 e0' e1'
  cases hB : netB n N m P
  · have H2 := Lib.hid (show svC n N m P K d = 1 by unfold svC; rw [hB]; rfl)
    clear hB
    go_wp2_with fail
    go_ret
    exact ⟨ret_i H2.out.symm, B1⟩
  · have H1 := Lib.hid (hv.below B1 hha)
    cases hl : liB n K d
    · have H2 := Lib.hid (show svC n N m P K d = 3 by
        unfold svC
        rw [hB, if_pos rfl, if_neg (fun g => by rw [liB_iff.2 g] at hl; cases hl)])
      clear hB
      go_wp2_with (go_at_call 47; refine (l06List_any _ p0 p1 n m c0 c1 _ K d _ _ H1.out (by omega) hK9 hn9).mono ?_; rintro e w4 ⟨rfl, hb4⟩; rw [hl])
      go_ret
      exact ⟨ret_i H2.out.symm, B1.trans (hb4.mono (by omega))⟩
    · have H2 := Lib.hid (show svC n N m P K d = 0 by
        unfold svC
        rw [hB, if_pos rfl, if_pos (liB_iff.1 hl)])
      clear hB
      go_wp2_with (go_at_call 47; refine (l06List_any _ p0 p1 n m c0 c1 _ K d _ _ H1.out (by omega) hK9 hn9).mono ?_; rintro e w4 ⟨rfl, hb4⟩; rw [hl])
      go_ret
      exact ⟨ret_i H2.out.symm, B1.trans (hb4.mono (by omega))⟩
end Go.Proofs.YtdbgcbkmcbgdiaaGreat.mem

namespace Go.Proofs.YtdbgcbkmcbgdiaaGreat.mem
open Go.RowKit
set_option linter.unusedVariables false

set_option maxRecDepth 100000 in
set_option maxHeartbeats 8000000 in
theorem l06Even_any (w : World) (v : Value) (n : Nat) (N : Nat → Nod) (m : Nat) (P : Nat → Pip) (lo hi : Nat) (h : NetAt w v n N m P lo hi) (hhi : hi ≤ w.heap.size) (hN : ∀ i, i < n → (N i).s.size ≤ 9223372036854775807) (hB : netB n N m P = true) (va : Value) (s : Nat → Int) (la ha : Nat) (hv : Sl w va n s la ha) (hha : ha ≤ w.heap.size) (hf : flB s n = true) :
    Calls Tryz.prog 49 #[v, va] w fun e w' => e = .returned (.bool (evB n P m s)) ∧ Below w.heap.size w w' := by
  obtain ⟨p0, c0, p1, c1, rfl, hn9, hm9⟩ := h.parts
  obtain ⟨hn1, hn24, hm40⟩ := net_sz hB
  have HV := Lib.hid h
  have HN := Lib.hid hN
  have HB := Lib.hid hB
  have HFR := Lib.hid (show ∀ i, i < n → -30000 ≤ s i ∧ s i ≤ 30000 from fun i hi => flQ_iff.1 (flB_iff.1 hf i hi))
  obtain ⟨pa, ca, rfl, hva⟩ := hv
  have HVZ := Lib.hid hva
  have A0 := boxed w (.slice p0 n c0) (.slice p1 m c1) 27
  have B0 := below_new w (.cells #[.slice p0 n c0, .slice p1 m c1] 27)
  have hs0 : (w.alloc (.cells #[.slice p0 n c0, .slice p1 m c1] 27)).heap.size = w.heap.size + 1 := by simp
  have m1 := fun W => make_int64 W n (by omega)
  have n0 : (0 : Int) ≤ (n : Int) := Int.natCast_nonneg _
  clear h hN hB hva hf
  go_enter Tryz.func49, Tryz.ntmps49
  have e0' := A0.b0
  have e1' := A0.b1
  go_wp2_with fail
  refine (l04Components_any _ _ n N m P lo hi (HV.out.below B0 hhi) (by omega) HN.out HB.out).mono ?_
  rintro e w1 ⟨gc, rfl, hgc, oc, b1⟩
  have B1 := B0.trans (b1.mono (by omega))
  have hs1 := b1.size
  have b2 := below_new w1 (.cells (zeros n) 2)
  have lc := oc.lt
  have HS := Lib.hid (Ob.zeros w1 n)
  have HC := Lib.hid (oc.below b2 lc)
  have HBB := Lib.hid (B1.trans (b2.mono (by omega)))
  have hgl : w.heap.size < w1.heap.size := by omega
  clear A0 B0 e0' e1' b1 b2 oc B1 hs0 hs1 hgc
  go_wp2_with fail
  obtain ⟨w2, hw2⟩ : ∃ w2, w1.alloc (.cells (zeros n) 2) = w2 := ⟨_, rfl⟩
  obtain ⟨gs, hgs⟩ : ∃ gs, w1.heap.size = gs := ⟨_, rfl⟩
  rw [hw2] at HC HBB HS ⊢
  rw [hgs] at HS lc hgl ⊢
  clear hw2 hgs m1
  go_loopw [7] (fun iv wr => ∃ k : Nat, iv = .int .i64 k ∧ k ≤ n ∧ Ob wr gs n (ia (fun z => csm (cmpN n P m) s k ((z : Nat) : Int))) ∧ Ob wr gc n (tabC (cmp n P m n)) ∧ Below w.heap.size w wr) (fun iv _ => n - (intOf iv).toNat)
  case atStart => exact ⟨0, rfl, Nat.zero_le _, HS.out.congr (fun k _ => rfl), HC.out, HBB.out⟩
  case round =>
    obtain ⟨k, rfl, hk, os, oc, hb⟩ := hrel
    clear HS HC HBB
    have HS := Lib.hid os
    have HC := Lib.hid oc
    have HBB := Lib.hid hb
    clear os oc hb
    generalize hQ : Exit.then _ _ = Q
    have HQ := Lib.hid hQ
    clear hQ
    have k0 : (0 : Int) ≤ (k : Int) := Int.natCast_nonneg _
    by_cases hlt : k < n
    · have k1 : (k : Int) < (n : Int) := by omega
      obtain ⟨r, hr, hcr⟩ := cmp_nat (P := P) (m := m) HB.out hlt
      have yc : wr.cell? ⟨gc, k, none⟩ = some (.int .i64 (r : Nat)) := by rw [← hcr]; exact HC.out.cell k hlt
      obtain ⟨ba, oa, rfl, g1, g2, hx⟩ : ∃ b o, pa = some ⟨b, o, none⟩ ∧ la ≤ b ∧ b < ha ∧ ∀ k, k < n → w.cell? ⟨b, o + k, none⟩ = some (.int .i64 (s k)) := by
        rcases HVZ.out with e | e
        · omega
        · exact e
      have ya : wr.cell? ⟨ba, oa + k, none⟩ = some (.int .i64 (s k)) := (HBB.out.cell (p := ⟨ba, oa + k, none⟩) (by show ba < w.heap.size; omega)).trans (hx k hlt)
      have HX := Lib.hid hx
      clear hx
      have ys : wr.cell? ⟨gs, r, none⟩ = some (.int .i64 (csm (cmpN n P m) s k ((r : Nat) : Int))) := HS.out.cell r hr
      have yz := HS.out.free r
      have hb1 := csm_bd (R := cmpN n P m) (s := s) (z := ((r : Nat) : Int)) (k := k) (fun i hi => HFR.out i (by omega))
      have hd := HFR.out k hlt
      have a1 : -4611686018427387904 ≤ csm (cmpN n P m) s k ((r : Nat) : Int) + s k ∧ csm (cmpN n P m) s k ((r : Nat) : Int) + s k ≤ 4611686018427387904 := by omega
      have r0 : (0 : Int) ≤ (r : Int) := Int.natCast_nonneg _
      have r1 : (r : Int) < (n : Int) := by omega
      have HU := Lib.hid (show ∀ z : Nat, upd (fun z => csm (cmpN n P m) s k ((z : Nat) : Int)) r (csm (cmpN n P m) s k ((r : Nat) : Int) + s k) z = csm (cmpN n P m) s (k + 1) ((z : Nat) : Int) from fun z => by
        simp only [upd]
        rw [csm]
        unfold cmpN
        rw [hcr]
        by_cases e : z = r
        · subst e; rw [if_pos rfl, if_pos rfl]
        · rw [if_neg e, if_neg (show ¬ ((r : Nat) : Int) = ((z : Nat) : Int) by omega), Int.add_zero])
      have o1 := (Only.refl gs wr).setCell r (.int .i64 (csm (cmpN n P m) s k ((r : Nat) : Int) + s k))
      have HS1 := Lib.hid (HS.out.setIn r (csm (cmpN n P m) s k ((r : Nat) : Int) + s k) hr)
      have HC1 := Lib.hid (HC.out.only o1 (by omega))
      have HB1 := Lib.hid (HBB.out.trans (o1.below (B := w.heap.size) (by omega)))
      clear hb1 hd hcr o1
      go_wp2_with fail
      go_still_tail 18, (by kernel_rfl)
      change wpList _ _ _ _ _ wr.drew
      go_wp2_with fail
      rw [← HQ.out]
      refine ⟨⟨_, _, _, _, _, _, _, _, _, _, _, _, _, _, _, _, _, _, _, _, _, _, _, _, _, ?rel, rfl⟩, ?measure⟩
      case rel => exact ⟨k + 1, by go_num, hlt, (HS1.out.congr (fun z _ => by unfold ia; rw [HU.out z])).keep rfl, HC1.out.keep rfl, below_drw HB1.out⟩
      case measure => simp [intOf]; omega
    · have hkn : n = k := by omega
      have hr : Ob wr gs n (ia (fun z => csm (cmpN n P m) s n ((z : Nat) : Int))) := by
        have := HS.out
        rwa [← hkn] at this
      have HR := Lib.hid hr
      have k1 : ¬ ((k : Int) < (n : Int)) := by omega
      clear hkn hr
      go_wp2_with fail
      rw [← HQ.out]
      go_wp2_with fail
      refine (l05Zero_any _ _ n _ _ _ (HR.out.sl n n (Nat.le_refl _)) (by omega)).mono ?_
      rintro e w9 ⟨rfl, rfl⟩
      go_wp2_with fail
      go_ret
      exact ⟨rfl, HBB.out⟩
theorem absS_any (x : Int) (w : World) (h1 : -9223372036854775807 ≤ x) (h2 : x ≤ 9223372036854775807) : Calls Tryz.prog 126 #[.int .i64 x] w fun e w' => e = .returned (.int .i64 (x.natAbs : Int)) ∧ w = w' := by
  by_cases h : x < 0
  all_goals
    go_enter Tryz.func126, Tryz.ntmps126
    go_wp2
    go_ret
    exact ⟨ret_i2 (by omega), rfl⟩
end Go.Proofs.YtdbgcbkmcbgdiaaGreat.mem

namespace Go.Proofs.YtdbgcbkmcbgdiaaGreat.mem
open Go.RowKit
set_option linter.unusedVariables false

end Go.Proofs.YtdbgcbkmcbgdiaaGreat.mem

namespace Go.Proofs.YtdbgcbkmcbgdiaaGreat.mem
open Go.RowKit
set_option linter.unusedVariables false

theorem oth_sum {q : Pip} {z : Int} (h : endB q z = true) : q.f + q.t - z = othV q z := by
  unfold endB at h
  simp only [Bool.or_eq_true, beq_iff_eq] at h
  unfold othV
  by_cases hf : q.f = z
  · rw [if_pos hf]; omega
  · rw [if_neg hf]
    have := h.resolve_left hf
    omega
theorem fo_end {n : Nat} {N : Nat → Nod} {P : Nat → Pip} {m : Nat} (hN : netB n N m P = true) {V a : Nat} (hV : V < n) (h : fE n P m ((V : Nat) : Int) = ((a : Nat) : Int)) : endB (P a) ((V : Nat) : Int) = true := by
  rcases (fo_net (P := P) (m := m) hN).par ((V : Nat) : Int) (by omega) (by omega) with e | ⟨b, hb, e, g, _⟩
  · omega
  · obtain rfl : b = a := by omega
    exact g
theorem vis_len (n : Nat) (P : Nat → Pip) (m : Nat) (x : Int) : 1 ≤ (vis n P m x).length := by
  have := vis_self n P m x
  unfold vhas at this
  rcases Nat.eq_zero_or_pos (vis n P m x).length with h | h
  · rw [List.eq_nil_of_length_eq_zero h] at this
    cases this
  · exact h
set_option maxRecDepth 100000 in
set_option maxHeartbeats 16000000 in
theorem l06Forest_any (w : World) (v : Value) (n : Nat) (N : Nat → Nod) (m : Nat) (P : Nat → Pip) (lo hi : Nat) (h : NetAt w v n N m P lo hi) (hhi : hi ≤ w.heap.size) (hN : ∀ i, i < n → (N i).s.size ≤ 9223372036854775807) (hB : netB n N m P = true) (va : Value) (s : Nat → Int) (la ha : Nat) (hv : Sl w va n s la ha) (hha : ha ≤ w.heap.size) (hf : flB s n = true) (hev : evB n P m s = true) :
    Calls Tryz.prog 50 #[v, va] w fun e w' => ∃ v2 g, e = .returned v2 ∧ Own w' v2 m (fflN n P m s) g ∧ w.heap.size ≤ g ∧ Below w.heap.size w w' := by
  obtain ⟨p0, c0, p1, c1, rfl, hn9, hm9⟩ := h.parts
  obtain ⟨hn1, hn24, hm40⟩ := net_sz hB
  have HV := Lib.hid h
  have HN := Lib.hid hN
  have HB := Lib.hid hB
  have HEV := Lib.hid hev
  have HPB := Lib.hid (fun a (ha : a < m) => net_pip hB ha)
  have HFR := Lib.hid (show ∀ i, i < n → -30000 ≤ s i ∧ s i ≤ 30000 from fun i hi => flQ_iff.1 (flB_iff.1 hf i hi))
  obtain ⟨pa, ca, rfl, hva⟩ := hv
  obtain ⟨ba, oa, rfl, g1, g2', hx⟩ : ∃ b o, pa = some ⟨b, o, none⟩ ∧ la ≤ b ∧ b < ha ∧ ∀ k, k < n → w.cell? ⟨b, o + k, none⟩ = some (.int .i64 (s k)) := by
    rcases hva with e | e
    · omega
    · exact e
  have A0 := boxed w (.slice p0 n c0) (.slice p1 m c1) 27
  have B0 := below_new w (.cells #[.slice p0 n c0, .slice p1 m c1] 27)
  obtain ⟨w1, hw1⟩ : ∃ w1, w.alloc (.cells #[.slice p0 n c0, .slice p1 m c1] 27) = w1 := ⟨_, rfl⟩
  have hs1 : w1.heap.size = w.heap.size + 1 := by rw [← hw1]; simp
  have e1 : w1.cell? ⟨w.heap.size, 1, none⟩ = some (.slice p1 m c1) := by rw [← hw1]; exact A0.b1
  rw [hw1] at A0 B0
  have O2 := Own.made w1 m (by omega)
  obtain ⟨w2, hw2⟩ : ∃ w2, w1.alloc (.cells (zeros m) 2) = w2 := ⟨_, rfl⟩
  have hs2 : w2.heap.size = w.heap.size + 1 + 1 := by rw [← hw2]; simp [hs1]
  have b2 : Below w1.heap.size w1 w2 := by rw [← hw2]; exact below_new _ _
  rw [hw2] at O2
  have A2 := A0.below b2 (by omega)
  have B2 := B0.trans (b2.mono (by omega))
  have O3 := Own.nilled w2 s
  obtain ⟨w3, hw3⟩ : ∃ w3, w2.alloc (.cells #[] 2) = w3 := ⟨_, rfl⟩
  have hs3 : w3.heap.size = w.heap.size + 3 := by rw [← hw3]; simp [hs2]
  have b3 : Below w2.heap.size w2 w3 := by rw [← hw3]; exact below_new _ _
  rw [hw3] at O3
  have A3 := A2.below b3 (by omega)
  have B3 := B2.trans (b3.mono (by omega))
  have O23 := O2.below b3 (by omega)
  rw [hs2] at O3
  obtain ⟨v4, w4, gl, hr, ap⟩ := apm_run w3 _ 0 s (w.heap.size + 1 + 1) ba oa n ca s O3 (fun k hk => (B3.cell (p := ⟨ba, oa + k, none⟩) (by show ba < w.heap.size; omega)).trans (hx k hk)) (by omega)
  have bl := ap.below (B := w.heap.size + 2) (Nat.le_refl _) (by omega)
  have O4 := ap.own.congr (e := s) (fun k hk => by unfold catD; rw [if_neg (by omega), Nat.sub_zero])
  rw [Nat.zero_add] at O4
  obtain ⟨cl, rfl⟩ := O4.shape
  have O24 := O23.keep (bl.1.block _ (by omega))
  have A4 := A3.below bl.1 (by omega)
  have B4 := B3.trans (bl.1.mono (by omega))
  have f0 : w4.cell? ⟨w.heap.size, 0, none⟩ = some (.slice p0 n c0) := A4.b0
  have f1 : w4.cell? ⟨w.heap.size, 1, none⟩ = some (.slice p1 m c1) := A4.b1
  have hlg : w.heap.size + 1 < gl := by have := bl.2; omega
  have hs4 := B4.size
  have l4 := O24.lt
  have lL := O4.lt
  have m1 := fun W => make_int64 W m (by omega)
  have n0 : (0 : Int) ≤ (n : Int) := Int.natCast_nonneg _
  have m0 : (0 : Int) ≤ (m : Int) := Int.natCast_nonneg _
  have HO := Lib.hid O24
  have HL := Lib.hid O4
  have HA := Lib.hid A4
  have HBB := Lib.hid B4
  have HX := Lib.hid hx
  rw [hs1] at HO
  have hs2' := Lib.hid hs2
  clear h hN hB hva hf hev A0 B0 O2 b2 A2 B2 O3 b3 A3 B3 O23 ap bl O4 O24 A4 B4 hx hs3 hs2
  subst hw3 hw2 hw1
  go_enter Tryz.func50, Tryz.ntmps50
  go_wp2_with (at_builtin; refine wpList_app hr rfl _ _ rfl rfl rfl rfl ?_)
  clear hr e1 m1
  refine (l04Components_any _ _ n N m P lo hi (HV.out.below HBB.out hhi) (by omega) HN.out HB.out).mono ?_
  rintro e w5 ⟨gc, rfl, hgc, oc, b5⟩
  have HC := Lib.hid oc
  have HO5 := Lib.hid (HO.out.below b5 (by omega))
  have HL5 := Lib.hid (HL.out.below b5 (Nat.le_refl _))
  have HA5 := Lib.hid (HA.out.below b5 (by omega))
  have HB5 := Lib.hid (HBB.out.trans (b5.mono (by omega)))
  have hgl2 : gl < gc := by omega
  obtain ⟨go, hgo⟩ : ∃ go, w.heap.size + 1 = go := ⟨_, rfl⟩
  simp only [szal] at *
  rw [hgo] at HO5 hlg ⊢
  have hgo2 : w.heap.size < go := by omega
  have HST := Lib.hid (St.start (n := n) (P := P) (m := m) (E := fE n P m) (s := s) (DnR_zero n P m))
  clear oc b5 HO HL HA HBB hgc f0 f1 hs1 hs4 l4 lL hgo hs2'
  go_wp2_with fail
  go_loopw [8] (fun iv wr => ∃ (k : Nat) (x l : Nat → Int), iv = .int .i64 k ∧ k ≤ n ∧ St n P m (fE n P m) s (DnR n P m k) x l ∧ Own wr (.slice (some ⟨go, 0, none⟩) m m) m x go ∧ Own wr (.slice (some ⟨gl, 0, none⟩) n cl) n l gl ∧ Ob wr gc n (tabC (cmp n P m n)) ∧ Ob wr w.heap.size 2 (bx (.slice p0 n c0) (.slice p1 m c1)) ∧ Below w.heap.size w wr) (fun iv _ => n - (intOf iv).toNat)
  case atStart => exact ⟨0, _, _, rfl, Nat.zero_le _, HST.out, HO5.out, HL5.out, HC.out, HA5.out, HB5.out⟩
  case round =>
    obtain ⟨k, x, l, rfl, hk, st, ho, hl, hc, ha', hb⟩ := hrel
    clear HST HO5 HL5 HC HA5 HB5
    have ST := Lib.hid st
    have HO := Lib.hid ho
    have HL := Lib.hid hl
    have HC := Lib.hid hc
    have HA := Lib.hid ha'
    have HBB := Lib.hid hb
    have lo1 := ho.lt
    have ll := hl.lt
    have lc := hc.lt
    have la1 := ha'.lt
    clear st ho hl hc ha' hb
    have k0 : (0 : Int) ≤ (k : Int) := Int.natCast_nonneg _
    generalize hQ : Exit.then _ _ = Q
    have HQ := Lib.hid hQ
    clear hQ
    by_cases hlt : k < n
    · have k1 : (k : Int) < (n : Int) := by omega
      have y0 : wr.cell? ⟨gc, k, none⟩ = some (.int .i64 (cmp n P m n k)) := HC.out.cell k hlt
      have HRE := Lib.hid (rts_eq n P m k)
      cases hr : rts n P m k
      · have hb1 : (cmp n P m n k != ((k : Nat) : Int)) = true := by
          have := HRE.out
          rw [hr, beq_eq_false_iff_ne] at this
          simpa using fun e => this e.symm
        have ST1 := Lib.hid (ST.out.same (DnR_skip hr))
        clear hr
        go_wp2_with fail
        rw [← HQ.out]
        refine ⟨⟨_, _, _, _, _, _, _, _, _, _, _, _, _, _, _, _, _, _, _, _, _, _, _, _, _, _, _, _, _, _, _, _, _, _, _, _, _, _, _, _, _, _, _, _, _, _, _, _, _, _, _, _, _, _, _, _, _, _, _, _, _, _, _, _, _, _, _, _, _, _, _, _, _, _, _, _, _, _, ?rel, rfl⟩, ?measure⟩
        case rel => exact ⟨k + 1, x, l, by go_num, hlt, ST1.out, HO.out, HL.out, HC.out, HA.out, HBB.out⟩
        case measure => simp [intOf]; omega
      · have hce : cmp n P m n k = ((k : Nat) : Int) := by
          have := HRE.out
          rw [hr, beq_iff_eq] at this
          exact this.symm
        have hb1 : (cmp n P m n k != ((k : Nat) : Int)) = false := by simp [hce]
        have HRT := Lib.hid hr
        have y1 : wr.cell? ⟨w.heap.size, 0, none⟩ = some (.slice p0 n c0) := HA.out.b0
        have y2 : wr.cell? ⟨w.heap.size, 1, none⟩ = some (.slice p1 m c1) := HA.out.b1
        clear hr hce
        go_wp2_with fail
        refine (l04Search_any _ _ n N m P lo hi (HV.out.below HBB.out hhi) (by omega) HN.out HB.out k hlt).mono ?_
        rintro e w5 ⟨v2, g2, rfl, oe, oo, hg2, b5⟩
        obtain ⟨co, rfl⟩ := oo.shape
        obtain ⟨ge, hge⟩ : ∃ ge, wr.heap.size + 1 = ge := ⟨_, rfl⟩
        rw [hge] at oe
        rw [hge]
        obtain ⟨L, hL⟩ : ∃ L, (vis n P m ((k : Nat) : Int)).length = L := ⟨_, rfl⟩
        have hL1 : 1 ≤ L := by rw [← hL]; exact vis_len n P m _
        have HLE := Lib.hid hL
        rw [hL] at oo ⊢
        have ST5 := Lib.hid (ST.out.same (DnI_top (k := k) (j := L - 1 + 1) (show (vis n P m ((k : Nat) : Int)).length ≤ L - 1 + 1 by rw [hL]; omega)))
        have hne1 : go ≠ ge := by omega
        have hne2 : gl ≠ ge := by omega
        have hne3 : go ≠ g2 := by omega
        have hne4 : gl ≠ g2 := by omega
        have HO5 := Lib.hid (HO.out.below b5 (by omega))
        have HL5 := Lib.hid (HL.out.below b5 (by omega))
        have HC5 := Lib.hid (HC.out.below b5 lc)
        have HA5 := Lib.hid (HA.out.below b5 la1)
        have HB5 := Lib.hid (HBB.out.trans (b5.mono (by have := HBB.out.size; omega)))
        have HE5 := Lib.hid oe
        have HR5 := Lib.hid oo
        have hLL : (L : Int) - 1 = ((L - 1 : Nat) : Int) := by omega
        have HLL := Lib.hid hLL
        have L0 : (0 : Int) ≤ (L : Int) - 1 := by omega
        have L9 : (L : Int) ≤ 1000 := by have := (vis_ok (P := P) (m := m) (x := ((k : Nat) : Int)) HB.out (by omega)).len; rw [hL] at this; omega
        clear hL oe oo b5 y0 y1 y2 hge ST hLL
        go_wp2_with fail
        go_loopw [11] (fun jv wr => ∃ (j : Nat) (x l : Nat → Int), jv = .int .i64 j ∧ j ≤ L - 1 ∧ St n P m (fE n P m) s (DnI n P m k (j + 1)) x l ∧ Own wr (.slice (some ⟨go, 0, none⟩) m m) m x go ∧ Own wr (.slice (some ⟨gl, 0, none⟩) n cl) n l gl ∧ Ob wr ge n (tabC (vval (·.en) (vis n P m ((k : Nat) : Int)))) ∧ Own wr (.slice (some ⟨g2, 0, none⟩) L co) L (ordD (vis n P m ((k : Nat) : Int))) g2 ∧ Ob wr gc n (tabC (cmp n P m n)) ∧ Ob wr w.heap.size 2 (bx (.slice p0 n c0) (.slice p1 m c1)) ∧ Below w.heap.size w wr) (fun jv _ => (intOf jv).toNat)
        case atStart => exact ⟨L - 1, _, _, by rw [← HLL.out], Nat.le_refl _, ST5.out, HO5.out, HL5.out, HE5.out, HR5.out, HC5.out, HA5.out, HB5.out⟩
        case round =>
          obtain ⟨j, x, l, rfl, hj, st, ho, hl, he, hr, hc, ha', hb⟩ := hrel
          clear ST5 HO5 HL5 HE5 HR5 HC5 HA5 HB5 HO HL HC HA HBB lo1 ll lc la1
          have HST := Lib.hid st
          have HO := Lib.hid ho
          have HL := Lib.hid hl
          have HE := Lib.hid he
          have HR := Lib.hid hr
          have HC := Lib.hid hc
          have HA := Lib.hid ha'
          have HBB := Lib.hid hb
          have lo1 := ho.lt
          have ll := hl.lt
          have le1 := he.lt
          have lr := hr.lt
          have lc := hc.lt
          have la1 := ha'.lt
          have hsz := hb.size
          clear st ho hl he hr hc ha' hb
          generalize hQ3 : Exit.then _ _ = Q3
          have HQ3 := Lib.hid hQ3
          clear hQ3
          rcases Nat.eq_zero_or_pos j with rfl | hj0
          · have ST1 := Lib.hid (HST.out.same (DnI_end HB.out hlt HRT.out))
            go_wp2_with fail
            rw [← HQ3.out]
            go_wp2_with fail
            rw [← HQ.out]
            refine ⟨⟨_, _, _, _, _, _, _, _, _, _, _, _, _, _, _, _, _, _, _, _, _, _, _, _, _, _, _, _, _, _, _, _, _, _, _, _, _, _, _, _, _, _, _, _, _, _, _, _, _, _, _, _, _, _, _, _, _, _, _, _, _, _, _, _, _, _, _, _, _, _, _, _, _, _, _, _, _, _, ?rel, rfl⟩, ?measure⟩
            case rel => exact ⟨k + 1, x, l, by go_num, hlt, ST1.out, HO.out, HL.out, HC.out, HA.out, HBB.out⟩
            case measure => simp [intOf]; omega
          · obtain ⟨j, rfl⟩ : ∃ i, j = i + 1 := ⟨j - 1, by omega⟩
            have hjL : j + 1 < L := by omega
            obtain ⟨v, hv⟩ : ∃ v, (vis n P m ((k : Nat) : Int))[j + 1]? = some v := ⟨_, List.getElem?_eq_getElem (by rw [HLE.out]; exact hjL)⟩
            obtain ⟨V, a, U, i, u, hV, hVn, ham, hen, hE, hoth, hUn, hij, hui, hU, hval⟩ := vis_en HB.out hlt HRT.out hv (by omega)
            have hend := fo_end HB.out hVn hE
            have hsum := (oth_sum hend).trans hoth
            have STX := St.step (fo_net HB.out) HST.out hVn ham hE hoth hUn (DnI_not HB.out hlt HRT.out hv hV (by omega)) (DnI_not HB.out hlt HRT.out hui hU (by omega))
            have ST := Lib.hid (STX.same (DnI_step hv (by omega) hV))
            have hbV := HST.out.bd HFR.out hn24 hVn
            have hbU := HST.out.bd HFR.out hn24 hUn
            have hUV : U ≠ V := by
              intro e
              have := (oth_oth (HPB.out a ham) hend).2.2
              rw [hoth, e] at this
              exact this rfl
            have hyV : inR ((V : Nat) : Int) 0 ((n : Nat) - 1) = true := by rw [inR_iff]; omega
            obtain ⟨lv, hlv⟩ : ∃ lv, l V = lv := ⟨_, rfl⟩
            have HLV := Lib.hid hlv
            rw [hlv] at hbV
            have y0 : wr.cell? ⟨g2, j + 1, none⟩ = some (.int .i64 (V : Nat)) := by rw [← hV, ← ordD_some hv]; exact HR.out.row.cell (j + 1) hjL
            have y1 : wr.cell? ⟨ge, V, none⟩ = some (.int .i64 (a : Nat)) := by rw [← hval]; exact HE.out.cell V hVn
            have y2 : wr.cell? ⟨gl, V, none⟩ = some (.int .i64 lv) := by rw [← hlv]; exact HL.out.row.cell V hVn
            obtain ⟨bp, op, rfl, q1, q2, y3, _⟩ := (HV.out.below HBB.out hhi).pipe ham
            have yz := HO.out.free a
            have yo : wr.cell? ⟨go, a, none⟩ = some (.int .i64 (x a)) := HO.out.row.cell a ham
            have f0 : wr.cell? ⟨w.heap.size, 0, none⟩ = some (.slice p0 n c0) := HA.out.b0
            have f1 : wr.cell? ⟨w.heap.size, 1, none⟩ = some (.slice (some ⟨bp, op, none⟩) m c1) := HA.out.b1
            have y4 : (0 : Int) < ((j + 1 : Nat) : Int) := by omega
            have j0 : (0 : Int) ≤ (j : Int) := Int.natCast_nonneg _
            have j1 : ((j + 1 : Nat) : Int) < (L : Int) := by omega
            have j9 : (j : Int) ≤ 1000 := by omega
            have V0 : (0 : Int) ≤ (V : Int) := Int.natCast_nonneg _
            have V1 : (V : Int) < (n : Int) := by omega
            have U0 : (0 : Int) ≤ (U : Int) := Int.natCast_nonneg _
            have U1 : (U : Int) < (n : Int) := by omega
            have a0 : (0 : Int) ≤ (a : Int) := Int.natCast_nonneg _
            have a1 : (a : Int) < (m : Int) := by omega
            have bnd1 : -4611686018427387904 ≤ l U + lv ∧ l U + lv ≤ 4611686018427387904 := by omega
            clear STX hlv hV hU hen hE hoth hend hui hv hval HST L0 L9
            by_cases hf : (P a).f = ((V : Nat) : Int)
            · have hb2 : ((P a).f != ((V : Nat) : Int)) = false := by simp [hf]
              have HSG := Lib.hid (show sgv (P a) ((V : Nat) : Int) (l V) = l V from if_pos hf)
              clear hf
              have o1 := (Only.refl go wr).setCell a (.int .i64 (lv))
              have HO5 := Lib.hid (HO.out.put1 a (lv) ham)
              have HL5 := Lib.hid (HL.out.keep (o1.block gl (by omega)))
              have HE5 := Lib.hid (HE.out.only o1 (by omega))
              have HR5 := Lib.hid (HR.out.keep (o1.block g2 (by omega)))
              have HC5 := Lib.hid (HC.out.only o1 (by omega))
              have HA5 := Lib.hid (HA.out.only o1 (by omega))
              have HB5 := Lib.hid (HBB.out.trans (o1.below (B := w.heap.size) (by omega)))
              have hz5 : wr.heap.size ≤ (wr.setCell ⟨go, a, none⟩ (.int .i64 (lv))).heap.size := by simp
              have z1 := (o1.cell (a := ⟨w.heap.size, 0, none⟩) (by show w.heap.size ≠ _; omega)).trans f0
              have z2 := (o1.cell (a := ⟨w.heap.size, 1, none⟩) (by show w.heap.size ≠ _; omega)).trans f1
              have HZ1 := Lib.hid z1
              have HZ2 := Lib.hid z2
              clear z1 z2
              clear o1
              go_upto_region 18 with (fail)
              obtain ⟨w5, hw5⟩ : ∃ w5, wr.setCell ⟨go, a, none⟩ (.int .i64 (lv)) = w5 := ⟨_, rfl⟩
              rw [hw5] at HO5 HL5 HE5 HR5 HC5 HA5 HB5 hz5 HZ1 HZ2 ⊢
              clear hw5 f0 f1 y0 y1 y2 y3 y4 yz yo
              have f0 := HZ1.out
              have f1 := HZ2.out
              go_wp2_with fail
              refine (l02Other_any w5 _ n N m P lo hi (HV.out.below HB5.out hhi) (by omega) HN.out (by omega) a ham ((V : Nat) : Int) (HPB.out a ham) (by omega) hyV).mono ?_
              rintro e w6 ⟨rfl, b6⟩
              rw [hsum]
              have hz6 := b6.size
              have HO6 := Lib.hid (HO5.out.below b6 (by omega))
              have HL6 := Lib.hid (HL5.out.below b6 (by omega))
              have HE6 := Lib.hid (HE5.out.below b6 (by omega))
              have HR6 := Lib.hid (HR5.out.below b6 (by omega))
              have HC6 := Lib.hid (HC5.out.below b6 (by omega))
              have HA6 := Lib.hid (HA5.out.below b6 (by omega))
              have HB6 := Lib.hid (HB5.out.trans (b6.mono (by omega)))
              clear b6 HO5 HL5 HE5 HR5 HC5 HA5 HB5 f0 f1 HZ1 HZ2
              have yu : w6.cell? ⟨gl, U, none⟩ = some (.int .i64 (l U)) := HL6.out.row.cell U hUn
              have yv : w6.cell? ⟨gl, V, none⟩ = some (.int .i64 lv) := by rw [← HLV.out]; exact HL6.out.row.cell V hVn
              have yz := HL6.out.free U
              have yz2 := HL6.out.free V
              have o7 := (Only.refl gl w6).setCell U (.int .i64 (l U + lv))
              have HO7 := Lib.hid ((HO6.out.keep (o7.block go (by omega))).keep (w' := (w6.setCell ⟨gl, U, none⟩ (.int .i64 (l U + lv))).drew) rfl)
              have HL7 := Lib.hid ((HL6.out.put1 U (l U + lv) hUn).keep (w' := (w6.setCell ⟨gl, U, none⟩ (.int .i64 (l U + lv))).drew) rfl)
              have HE7 := Lib.hid ((HE6.out.only o7 (by omega)).keep (w' := (w6.setCell ⟨gl, U, none⟩ (.int .i64 (l U + lv))).drew) rfl)
              have HR7 := Lib.hid ((HR6.out.keep (o7.block g2 (by omega))).keep (w' := (w6.setCell ⟨gl, U, none⟩ (.int .i64 (l U + lv))).drew) rfl)
              have HC7 := Lib.hid ((HC6.out.only o7 (by omega)).keep (w' := (w6.setCell ⟨gl, U, none⟩ (.int .i64 (l U + lv))).drew) rfl)
              have HA7 := Lib.hid ((HA6.out.only o7 (by omega)).keep (w' := (w6.setCell ⟨gl, U, none⟩ (.int .i64 (l U + lv))).drew) rfl)
              have HB7 := Lib.hid (below_drw (HB6.out.trans (o7.below (B := w.heap.size) (by omega))))
              clear o7
              go_wp2_with fail
              go_still_tail 12, (by kernel_rfl)
              change wpList _ _ _ _ _ w6.drew
              go_upto_region 20 with (fail)
              obtain ⟨w7, hw7⟩ : ∃ w7, (w6.setCell ⟨gl, U, none⟩ (.int .i64 (l U + lv))).drew = w7 := ⟨_, rfl⟩
              rw [hw7] at HO7 HL7 HE7 HR7 HC7 HA7 HB7
              rw [hw7]
              clear hw7 yu yv yz yz2 HO6 HL6 HE6 HR6 HC6 HA6 HB6
              have yz := HL7.out.free V
              have yo : w7.cell? ⟨gl, V, none⟩ = some (.int .i64 (upd l U (l U + lv) V)) := HL7.out.row.cell V hVn
              have o8 := (Only.refl gl w7).setCell V (.int .i64 0)
              have HO8 := Lib.hid (HO7.out.keep (o8.block go (by omega)))
              have HL8 := Lib.hid (HL7.out.put1 V 0 hVn)
              have HE8 := Lib.hid (HE7.out.only o8 (by omega))
              have HR8 := Lib.hid (HR7.out.keep (o8.block g2 (by omega)))
              have HC8 := Lib.hid (HC7.out.only o8 (by omega))
              have HA8 := Lib.hid (HA7.out.only o8 (by omega))
              have HB8 := Lib.hid (HB7.out.trans (o8.below (B := w.heap.size) (by omega)))
              clear o8 HO7 HL7 HE7 HR7 HC7 HA7 HB7
              go_wp2_with fail
              rw [← HQ3.out]
              refine ⟨⟨_, _, _, _, _, _, _, _, _, _, _, _, _, _, _, _, _, _, _, _, _, _, _, _, _, _, _, _, _, _, _, _, _, _, _, _, _, _, _, _, _, _, _, _, _, _, _, _, _, _, _, _, _, _, ?rel, rfl⟩, ?measure⟩
              case rel =>
                refine ⟨j, _, _, by go_num, by omega, ?_, HO8.out, HL8.out, HE8.out, HR8.out, HC8.out, HA8.out, HB8.out⟩
                have := ST.out
                rw [HSG.out, HLV.out] at this
                exact this
              case measure => simp [intOf]
            · have hb2 : ((P a).f != ((V : Nat) : Int)) = true := by simpa using hf
              have HSG := Lib.hid (show sgv (P a) ((V : Nat) : Int) (l V) = -(l V) from if_neg hf)
              clear hf
              have o1 := (Only.refl go wr).setCell a (.int .i64 (-lv))
              have HO5 := Lib.hid (HO.out.put1 a (-lv) ham)
              have HL5 := Lib.hid (HL.out.keep (o1.block gl (by omega)))
              have HE5 := Lib.hid (HE.out.only o1 (by omega))
              have HR5 := Lib.hid (HR.out.keep (o1.block g2 (by omega)))
              have HC5 := Lib.hid (HC.out.only o1 (by omega))
              have HA5 := Lib.hid (HA.out.only o1 (by omega))
              have HB5 := Lib.hid (HBB.out.trans (o1.below (B := w.heap.size) (by omega)))
              have hz5 : wr.heap.size ≤ (wr.setCell ⟨go, a, none⟩ (.int .i64 (-lv))).heap.size := by simp
              have z1 := (o1.cell (a := ⟨w.heap.size, 0, none⟩) (by show w.heap.size ≠ _; omega)).trans f0
              have z2 := (o1.cell (a := ⟨w.heap.size, 1, none⟩) (by show w.heap.size ≠ _; omega)).trans f1
              have HZ1 := Lib.hid z1
              have HZ2 := Lib.hid z2
              clear z1 z2
              clear o1
              go_upto_region 18 with (fail)
              obtain ⟨w5, hw5⟩ : ∃ w5, wr.setCell ⟨go, a, none⟩ (.int .i64 (-lv)) = w5 := ⟨_, rfl⟩
              rw [hw5] at HO5 HL5 HE5 HR5 HC5 HA5 HB5 hz5 HZ1 HZ2 ⊢
              clear hw5 f0 f1 y0 y1 y2 y3 y4 yz yo
              have f0 := HZ1.out
              have f1 := HZ2.out
              go_wp2_with fail
              refine (l02Other_any w5 _ n N m P lo hi (HV.out.below HB5.out hhi) (by omega) HN.out (by omega) a ham ((V : Nat) : Int) (HPB.out a ham) (by omega) hyV).mono ?_
              rintro e w6 ⟨rfl, b6⟩
              rw [hsum]
              have hz6 := b6.size
              have HO6 := Lib.hid (HO5.out.below b6 (by omega))
              have HL6 := Lib.hid (HL5.out.below b6 (by omega))
              have HE6 := Lib.hid (HE5.out.below b6 (by omega))
              have HR6 := Lib.hid (HR5.out.below b6 (by omega))
              have HC6 := Lib.hid (HC5.out.below b6 (by omega))
              have HA6 := Lib.hid (HA5.out.below b6 (by omega))
              have HB6 := Lib.hid (HB5.out.trans (b6.mono (by omega)))
              clear b6 HO5 HL5 HE5 HR5 HC5 HA5 HB5 f0 f1 HZ1 HZ2
              have yu : w6.cell? ⟨gl, U, none⟩ = some (.int .i64 (l U)) := HL6.out.row.cell U hUn
              have yv : w6.cell? ⟨gl, V, none⟩ = some (.int .i64 lv) := by rw [← HLV.out]; exact HL6.out.row.cell V hVn
              have yz := HL6.out.free U
              have yz2 := HL6.out.free V
              have o7 := (Only.refl gl w6).setCell U (.int .i64 (l U + lv))
              have HO7 := Lib.hid ((HO6.out.keep (o7.block go (by omega))).keep (w' := (w6.setCell ⟨gl, U, none⟩ (.int .i64 (l U + lv))).drew) rfl)
              have HL7 := Lib.hid ((HL6.out.put1 U (l U + lv) hUn).keep (w' := (w6.setCell ⟨gl, U, none⟩ (.int .i64 (l U + lv))).drew) rfl)
              have HE7 := Lib.hid ((HE6.out.only o7 (by omega)).keep (w' := (w6.setCell ⟨gl, U, none⟩ (.int .i64 (l U + lv))).drew) rfl)
              have HR7 := Lib.hid ((HR6.out.keep (o7.block g2 (by omega))).keep (w' := (w6.setCell ⟨gl, U, none⟩ (.int .i64 (l U + lv))).drew) rfl)
              have HC7 := Lib.hid ((HC6.out.only o7 (by omega)).keep (w' := (w6.setCell ⟨gl, U, none⟩ (.int .i64 (l U + lv))).drew) rfl)
              have HA7 := Lib.hid ((HA6.out.only o7 (by omega)).keep (w' := (w6.setCell ⟨gl, U, none⟩ (.int .i64 (l U + lv))).drew) rfl)
              have HB7 := Lib.hid (below_drw (HB6.out.trans (o7.below (B := w.heap.size) (by omega))))
              clear o7
              go_wp2_with fail
              go_still_tail 12, (by kernel_rfl)
              change wpList _ _ _ _ _ w6.drew
              go_upto_region 20 with (fail)
              obtain ⟨w7, hw7⟩ : ∃ w7, (w6.setCell ⟨gl, U, none⟩ (.int .i64 (l U + lv))).drew = w7 := ⟨_, rfl⟩
              rw [hw7] at HO7 HL7 HE7 HR7 HC7 HA7 HB7
              rw [hw7]
              clear hw7 yu yv yz yz2 HO6 HL6 HE6 HR6 HC6 HA6 HB6
              have yz := HL7.out.free V
              have yo : w7.cell? ⟨gl, V, none⟩ = some (.int .i64 (upd l U (l U + lv) V)) := HL7.out.row.cell V hVn
              have o8 := (Only.refl gl w7).setCell V (.int .i64 0)
              have HO8 := Lib.hid (HO7.out.keep (o8.block go (by omega)))
              have HL8 := Lib.hid (HL7.out.put1 V 0 hVn)
              have HE8 := Lib.hid (HE7.out.only o8 (by omega))
              have HR8 := Lib.hid (HR7.out.keep (o8.block g2 (by omega)))
              have HC8 := Lib.hid (HC7.out.only o8 (by omega))
              have HA8 := Lib.hid (HA7.out.only o8 (by omega))
              have HB8 := Lib.hid (HB7.out.trans (o8.below (B := w.heap.size) (by omega)))
              clear o8 HO7 HL7 HE7 HR7 HC7 HA7 HB7
              go_wp2_with fail
              rw [← HQ3.out]
              refine ⟨⟨_, _, _, _, _, _, _, _, _, _, _, _, _, _, _, _, _, _, _, _, _, _, _, _, _, _, _, _, _, _, _, _, _, _, _, _, _, _, _, _, _, _, _, _, _, _, _, _, _, _, _, _, _, _, ?rel, rfl⟩, ?measure⟩
              case rel =>
                refine ⟨j, _, _, by go_num, by omega, ?_, HO8.out, HL8.out, HE8.out, HR8.out, HC8.out, HA8.out, HB8.out⟩
                have := ST.out
                rw [HSG.out, HLV.out] at this
                exact this
              case measure => simp [intOf]
    · have hkn : n = k := by omega
      have STF := Lib.hid (ST.out.fin HB.out HEV.out (fun z hz he => by rw [← hkn]; exact DnR_all HB.out z hz he))
      have k1 : ¬ ((k : Int) < (n : Int)) := by omega
      clear hkn
      go_wp2_with fail
      rw [← HQ.out]
      go_wp2_with fail
      go_ret
      exact ⟨_, go, rfl, HO.out.congr (fun a ha => STF.out a ha), by omega, HBB.out⟩
set_option maxRecDepth 100000 in
set_option maxHeartbeats 8000000 in
theorem forestFlowsS_any (w : World) (v : Value) (n : Nat) (N : Nat → Nod) (m : Nat) (P : Nat → Pip) (lo hi : Nat) (h : NetAt w v n N m P lo hi) (hhi : hi ≤ w.heap.size) (hN : ∀ i, i < n → (N i).s.size ≤ 9223372036854775807) (va : Value) (K : Nat) (d : Nat → Int) (la ha : Nat) (hv : Sl w va K d la ha) (hha : ha ≤ w.heap.size) (hK9 : K ≤ 9223372036854775807) :
    Calls Tryz.prog 87 #[v, va] w (LIPost w (ffN n N m P K d) (fflN n P m d) (ffC n N m P K d)) := by
  obtain ⟨p0, c0, p1, c1, rfl, hn9, hm9⟩ := h.parts
  have HV := Lib.hid h
  have HN := Lib.hid hN
  obtain ⟨pa, ca, rfl⟩ := hv.sh
  have A0 := boxed w (.slice p0 n c0) (.slice p1 m c1) 27
  have B0 := below_new w (.cells #[.slice p0 n c0, .slice p1 m c1] 27)
  have hs0 : (w.alloc (.cells #[.slice p0 n c0, .slice p1 m c1] 27)).heap.size = w.heap.size + 1 := by simp
  clear h hN
  go_enter Tryz.func87, Tryz.ntmps87
  have e0' := A0.b0
  have e1' := A0.b1
  go_wp2_with fail
  refine (l06Code_any _ _ n N m P lo hi (HV.out.below B0 hhi) (by omega) HN.out _ K d la ha (hv.below B0 hha) (by omega) hK9).mono ?_
  rintro e w1 ⟨rfl, b1⟩
  have A1 := A0.below b1 (by omega)
  have B1 := B0.trans (b1.mono (by omega))
  have hs1 := b1.size
  have e0 := A1.b0
  have e1 := A1.b1
  have e2 : w.heap.size < w1.heap.size := by omega
  clear A0 B0 b1 e0' e1'
  by_cases hc : svC n N m P K d = 0
  · obtain ⟨hB, rfl, hf⟩ := svC_ok hc
    obtain ⟨hn1, hn24, hm40⟩ := net_sz hB
    have HB := Lib.hid hB
    have HF := Lib.hid hf
    have H1 := Lib.hid (hv.below B1 hha)
    have HFC := Lib.hid (show ffC K N m P K d = if evB K P m d = true then (if flB (fflN K P m d) m = true then 0 else 2) else 5 by unfold ffC; rw [if_pos hc])
    rw [hc]
    clear hc hB hf hv
    go_wp2_with fail
    refine (l06Even_any w1 _ K N m P lo hi (HV.out.below B1 hhi) (by omega) HN.out HB.out _ d la ha H1.out (by omega) HF.out).mono ?_
    rintro e w2 ⟨rfl, b2⟩
    have A2 := A1.below b2 e2
    have B2 := B1.trans (b2.mono (by omega))
    have hs2 := b2.size
    have H2 := Lib.hid (H1.out.below b2 (by omega))
    have f0 := A2.b0
    have f1 := A2.b1
    clear e0 e1 A1 b2 H1
    cases hev : evB K P m d
    · have H4 := Lib.hid (show ffC K N m P K d = 5 by rw [HFC.out, hev]; rfl)
      have H3 := Lib.hid (show ffN K N m P K d = 0 by unfold ffN; rw [H4.out]; rfl)
      clear hev
      go_wp2_with fail
      go_ret2
      exact li_err H3.out H4.out.symm rfl B2
    · have HFD := Lib.hid (show ffC K N m P K d = if flB (fflN K P m d) m = true then 0 else 2 by rw [HFC.out, hev]; rfl)
      have HEV := Lib.hid hev
      clear hev
      go_wp2_with fail
      refine (l06Forest_any w2 _ K N m P lo hi (HV.out.below B2 hhi) (by omega) HN.out HB.out _ d la ha H2.out (by omega) HF.out HEV.out).mono ?_
      rintro e w3 ⟨v3, g3, rfl, o3, hg3, b3⟩
      have A3 := A2.below b3 (by omega)
      have B3 := B2.trans (b3.mono (by omega))
      have hs3 := b3.size
      have lo3 := o3.lt
      have HO3 := Lib.hid o3
      clear f0 f1 A2 b3 o3
      have f0 := A3.b0
      have f1 := A3.b1
      cases hq : flB (fflN K P m d) m
      all_goals
        have HQF := Lib.hid hq
        clear hq
        go_wp2_with (go_at_call 52; refine (l05List_any _ p0 p1 K m c0 c1 _ m _ _ _ HO3.out.sl (by omega) hm9 hm9).mono ?_; rintro e w7 ⟨rfl, hb7⟩; rw [show liB m m (fflN K P m d) = flB (fflN K P m d) m from by unfold liB; simp, HQF.out])
        go_ret2
      · have H4 := Lib.hid (show ffC K N m P K d = 2 by rw [HFD.out, HQF.out]; rfl)
        exact li_err (show _ = 0 by unfold ffN; rw [H4.out]; rfl) H4.out.symm rfl (B3.trans (hb7.mono (by omega)))
      · have H4 := Lib.hid (show ffC K N m P K d = 0 by rw [HFD.out, HQF.out]; rfl)
        exact li_ok (show m = _ by unfold ffN; rw [H4.out]; rfl) (by rw [H4.out]; rfl) (HO3.out.below hb7 (by omega)) (by omega) (B3.trans (hb7.mono (by omega)))
  · have hb1 : (svC n N m P K d != 0) = true := by simpa using hc
    have H4 := Lib.hid (show ffC n N m P K d = svC n N m P K d by unfold ffC; rw [if_neg hc])
    have H3 := Lib.hid (show ffN n N m P K d = 0 by unfold ffN; rw [H4.out, if_neg hc])
    clear hc
    go_wp2_with fail
    go_ret2
    exact li_err H3.out H4.out.symm rfl B1
end Go.Proofs.YtdbgcbkmcbgdiaaGreat.mem

namespace Go.Proofs.YtdbgcbkmcbgdiaaGreat.mem
open Go.RowKit
set_option linter.unusedVariables false

end Go.Proofs.YtdbgcbkmcbgdiaaGreat.mem

namespace Go.Proofs.YtdbgcbkmcbgdiaaGreat.mem
open Go.RowKit
set_option linter.unusedVariables false

end Go.Proofs.YtdbgcbkmcbgdiaaGreat.mem

namespace Go.Proofs.YtdbgcbkmcbgdiaaGreat.mem
open Go.RowKit
set_option linter.unusedVariables false

end Go.Proofs.YtdbgcbkmcbgdiaaGreat.mem

namespace Go.Proofs.YtdbgcbkmcbgdiaaGreat.mem
open Go.RowKit
set_option linter.unusedVariables false

end Go.Proofs.YtdbgcbkmcbgdiaaGreat.mem

namespace Go.Proofs.YtdbgcbkmcbgdiaaGreat.mem
open Go.RowKit
set_option linter.unusedVariables false

/-- an own list of K own lists of m numbers, all from block B on, all in blocks of their own -/
structure Bas (w : World) (v : Value) (K m : Nat) (Y : Nat → Nat → Int) (B : Nat) : Prop where
  ex : ∃ (G C : Nat → Nat), RowE B 28 1 w v K (fun i _ => .slice (some ⟨G i, 0, none⟩) m (C i)) ∧ (∀ i, i < K → Own w (.slice (some ⟨G i, 0, none⟩) m (C i)) m (Y i) (G i) ∧ B ≤ G i) ∧ (∀ i j, i < j → j < K → G i < G j)
theorem row_own {B z : Nat} {w : World} {v u : Value} {K n g : Nat} {c : Nat → Nat → Value} {d : Nat → Int} (h : RowE B 28 z w v K c) (o : Own w u n d g) : v.ownBlock ≠ some g := by
  intro hk
  rcases h.own.2 with ⟨rfl, _⟩ | ⟨q, cap, cur, rfl, _, h3, _⟩
  · simp [Value.ownBlock] at hk
  obtain ⟨cap', cur', _, h1, _⟩ := o.ex
  simp [Value.ownBlock] at hk
  subst hk
  rw [h3] at h1
  injection h1 with h1
  injection h1 with _ h1
  exact absurd h1 (by decide)
theorem bas_nil {B m : Nat} {Y : Nat → Nat → Int} (w : World) (hB : B ≤ w.heap.size) : Bas (w.alloc (.cells #[] 28)) (.slice (some ⟨w.heap.size, 0, none⟩) 0 0) 0 m Y B :=
  ⟨fun _ => 0, fun _ => 0, rowE_nil w _ hB, fun i hi => by omega, fun i j _ hj => by omega⟩
theorem Bas.shape {w : World} {v : Value} {K m B : Nat} {Y : Nat → Nat → Int} (h : Bas w v K m Y B) : ∃ p cap, v = .slice p K cap := by
  obtain ⟨G, C, h1, _⟩ := h.ex
  exact h1.shape
theorem Bas.next {w w' : World} {v : Value} {K m B : Nat} {Y : Nat → Nat → Int} (h : Bas w v K m Y B) (b : Below w.heap.size w w') : Bas w' v K m Y B := by
  obtain ⟨G, C, h1, h2, h3⟩ := h.ex
  exact ⟨G, C, h1.next b, fun i hi => ⟨(h2 i hi).1.below b (Nat.le_refl _), (h2 i hi).2⟩, h3⟩
theorem Bas.low {w : World} {v : Value} {K m B B' : Nat} {Y : Nat → Nat → Int} (h : Bas w v K m Y B) (hB : B' ≤ B) : Bas w v K m Y B' := by
  obtain ⟨G, C, h1, h2, h3⟩ := h.ex
  refine ⟨G, C, ⟨h1.own.1, ?_⟩, fun i hi => ⟨(h2 i hi).1, by have := (h2 i hi).2; omega⟩, h3⟩
  rcases h1.own.2 with h | ⟨g, cap, cur, e, hg, h⟩
  · exact .inl h
  · exact .inr ⟨g, cap, cur, e, by omega, h⟩
theorem info_ints : (Tryz.prog.info? 28).map (fun i => (i.zero, i.size, i.bytes)) = some (some (.slice none 0 0), 1, 24) := by kernel_rfl
/-- one more list behind it -/
theorem Bas.app {w W : World} {v : Value} {K m B : Nat} {Y : Nat → Nat → Int} (h : Bas w v K m Y B) (hB : B ≤ w.heap.size) (b : Below w.heap.size w W) {g c : Nat} (o : Own W (.slice (some ⟨g, 0, none⟩) m c) m (Y K) g) (hg : w.heap.size ≤ g) (hK : K ≤ 1000000) :
    ∃ v' w', Sem.run Tryz.prog (Builtin.append_ #[127, 127] 127 #[v, .slice (some ⟨W.heap.size, 0, none⟩) 1 1]) (W.alloc (.cells #[.slice (some ⟨g, 0, none⟩) m c] 28)) = .ok v' w' ∧ Bas w' v' (K + 1) m Y B ∧ Below B W w' ∧ (∀ q, v.ownBlock ≠ some q → q < W.heap.size → w'.heap[q]? = W.heap[q]?) := by
  obtain ⟨G, C, h1, h2, h3⟩ := h.ex
  have hBW : B ≤ W.heap.size := Nat.le_trans hB b.size
  have r1 := h1.next b
  obtain ⟨v', w', hr, hrow, u⟩ := appOne (c' := fun i _ => .slice (some ⟨if i = K then g else G i, 0, none⟩) m (if i = K then c else C i)) Tryz.underlying127 info_ints (by omega) rfl (by omega) B W v K _ r1 hBW [.slice (some ⟨g, 0, none⟩) m c] rfl (by intro q hq; simp at hq; subst hq; rfl)
    (fun i j hi hj => by rw [if_neg (by omega), if_neg (by omega)]) (fun j hj => by obtain rfl : j = 0 := (by omega); (show some _ = _); rw [if_pos rfl, if_pos rfl]) hK
  refine ⟨v', w', hr, ⟨fun i => if i = K then g else G i, fun i => if i = K then c else C i, hrow, fun i hi => ?_, fun i j hij hj => ?_⟩, u.below hBW (fun k _ hk => (r1.own.lt k hk.symm).1), fun q hq hl => u.block q hl (fun e => hq e.symm)⟩
  · dsimp only
    by_cases e : i = K
    · subst e
      rw [if_pos rfl, if_pos rfl]
      exact ⟨o.keep (u.block g o.lt (fun e => row_own r1 o e.symm)), by omega⟩
    · rw [if_neg e, if_neg e]
      obtain ⟨o1, o2⟩ := h2 i (by omega)
      have o3 := o1.below b (Nat.le_refl _)
      exact ⟨o3.keep (u.block _ o3.lt (fun e => row_own r1 o3 e.symm)), o2⟩
  · dsimp only
    have hi : i ≠ K := by omega
    rw [if_neg hi]
    by_cases e : j = K
    · rw [if_pos e]
      have := (h2 i (by omega)).1.lt
      omega
    · rw [if_neg e]
      exact h3 i j hij (by omega)
set_option maxRecDepth 100000 in
set_option maxHeartbeats 8000000 in
theorem l05Basis_any (w : World) (v : Value) (n : Nat) (N : Nat → Nod) (m : Nat) (P : Nat → Pip) (lo hi : Nat) (h : NetAt w v n N m P lo hi) (hhi : hi ≤ w.heap.size) (hN : ∀ i, i < n → (N i).s.size ≤ 9223372036854775807) (hB : netB n N m P = true) :
    Calls Tryz.prog 103 #[v] w fun e w' => ∃ v2, e = .returned v2 ∧ Bas w' v2 (chN n P m) m (fun i => cyc P (fE n P m) (fD n P m) (chS n P m i)) w.heap.size ∧ Below w.heap.size w w' := by
  have hm40 := (net_sz hB).2.2
  have hcn := chN_le n P m
  have HB := Lib.hid hB
  clear hB
  obtain ⟨p0, c0, p1, c1, rfl, hn9, hm9⟩ := h.parts
  have HV := Lib.hid h
  have HN := Lib.hid hN
  have A0 := boxed w (.slice p0 n c0) (.slice p1 m c1) 27
  have B0 := below_new w (.cells #[.slice p0 n c0, .slice p1 m c1] 27)
  have hs0 : (w.alloc (.cells #[.slice p0 n c0, .slice p1 m c1] 27)).heap.size = w.heap.size + 1 := by simp
  clear h hN
  go_enter Tryz.func103, Tryz.ntmps103
  have e0' := A0.b0
  have e1' := A0.b1
  go_wp2_with fail
  refine (l05Chords_any _ _ n N m P lo hi (HV.out.below B0 hhi) (by omega) HN.out HB.out).mono ?_
  rintro e w1 ⟨vc, gc, rfl, oc, hgc, b1⟩
  obtain ⟨cc, rfl⟩ := oc.shape
  have A1 := A0.below b1 (by omega)
  have B1 := B0.trans (b1.mono (by omega))
  have hs1 := b1.size
  have lc := oc.lt
  have b2 := below_new w1 (.cells #[] 28)
  have hs2 : (w1.alloc (.cells #[] 28)).heap.size = w1.heap.size + 1 := by simp
  have HBN := Lib.hid (bas_nil (B := w1.heap.size) (m := m) (Y := fun i => cyc P (fE n P m) (fD n P m) (chS n P m i)) w1 (Nat.le_refl _))
  have HA := Lib.hid (A1.below b2 (by omega))
  have HC := Lib.hid (oc.below b2 (Nat.le_refl _))
  have HBB := Lib.hid (B1.trans (b2.mono (by omega)))
  clear A0 B0 b1 A1 B1 b2 oc e0' e1'
  go_wp2_with fail
  generalize hW : w1.alloc (.cells #[] 28) = w2 at *
  clear hW
  go_loopw [4, 5] (fun ov iv wr => ∃ (k : Nat) (ov' : Value), ov' = ov ∧ iv = .int .i64 k ∧ k ≤ chN n P m ∧ Bas wr ov' k m (fun i => cyc P (fE n P m) (fD n P m) (chS n P m i)) w1.heap.size ∧ Below w1.heap.size w2 wr) (fun _ iv _ => chN n P m - (intOf iv).toNat)
  case atStart => exact ⟨0, _, rfl, rfl, Nat.zero_le _, HBN.out, Below.refl _ _⟩
  case round =>
    obtain ⟨k, ov, rfl, rfl, hk, ho, hb⟩ := hrel
    obtain ⟨po, co, rfl⟩ := ho.shape
    clear HBN
    have HO := Lib.hid ho
    have HL := Lib.hid hb
    have hsz := hb.size
    clear ho hb
    have k0 : (0 : Int) ≤ (k : Int) := Int.natCast_nonneg _
    generalize hQ : Exit.then _ _ = Q
    have HQ := Lib.hid hQ
    clear hQ
    by_cases hlt : k < chN n P m
    · have k1 : (k : Int) < (chN n P m : Int) := by omega
      obtain ⟨hcm, hcp⟩ := chS_at (n := n) (P := P) (m := m) hlt
      have f0 : wr.cell? ⟨w.heap.size, 0, none⟩ = some (.slice p0 n c0) := (HA.out.below HL.out (by omega)).b0
      have f1 : wr.cell? ⟨w.heap.size, 1, none⟩ = some (.slice p1 m c1) := (HA.out.below HL.out (by omega)).b1
      have yc : wr.cell? ⟨gc, k, none⟩ = some (.int .i64 (chS n P m k : Nat)) := (HL.out.cell (p := ⟨gc, k, none⟩) lc).trans (HC.out.row.cell k hlt)
      have hAny : ∀ X : World, Below w1.heap.size wr X → X.cell? ⟨w.heap.size, 0, none⟩ = some (.slice p0 n c0) ∧ X.cell? ⟨w.heap.size, 1, none⟩ = some (.slice p1 m c1) ∧ X.cell? ⟨gc, k, none⟩ = some (.int .i64 (chS n P m k : Nat)) := fun X h => ⟨(h.cell (p := ⟨w.heap.size, 0, none⟩) (by show w.heap.size < _; omega)).trans f0, (h.cell (p := ⟨w.heap.size, 1, none⟩) (by show w.heap.size < _; omega)).trans f1, (h.cell (p := ⟨gc, k, none⟩) lc).trans yc⟩
      have HCP := Lib.hid hcp
      clear hcp
      go_wp2_with fail
      go_region_held3 (fun w' : World => w'.cell? ⟨w.heap.size, 0, none⟩ = some (.slice p0 n c0) ∧ w'.cell? ⟨w.heap.size, 1, none⟩ = some (.slice p1 m c1) ∧ w'.cell? ⟨gc, k, none⟩ = some (.int .i64 (chS n P m k : Nat)))
        (first | exact hAny _ (below_drw (Below.refl _ _)) | exact hAny _ KX | exact hAny _ KY | exact hAny _ KZ)
        (first
          | (go_at_call 130; refine (l05Cycle_any _ _ n N m P lo hi (((HV.out.below HBB.out hhi).below HL.out (by omega)).drew) (show hi ≤ wr.heap.size by omega) HN.out HB.out _ hcm HCP.out).mono ?_; rintro e wX ⟨v5, g5, rfl, o5, hg5, hb5⟩; obtain ⟨c5, rfl⟩ := o5.shape; have hb5' := below_dr0 hb5; have KX : Below w1.heap.size wr wX := hb5'.mono (by omega); obtain ⟨v7, wz, hr7, ba7, bw7, _⟩ := HO.out.app (by omega) hb5' o5 (show wr.heap.size ≤ g5 from hg5) (by omega); have zX := hb5'.size; have KY : Below w1.heap.size wr (wX.alloc (.cells #[.slice (some ⟨g5, 0, none⟩) m c5] 28)) := below_alloc KX (by omega) _; have KZ : Below w1.heap.size wr wz := KX.trans bw7)
          | (refine step_appT hr7 rfl (.tmp 15) (.tmp 22) rfl rfl rfl rfl ?_))
      have HO7 := Lib.hid ba7
      have HL7 := Lib.hid (HL.out.trans KZ)
      clear hAny KX KY KZ ba7 bw7 hr7 hb5 hb5' o5 f0 f1 yc
      go_wp2_with fail
      rw [← HQ.out]
      refine ⟨⟨_, _, _, _, _, _, _, _, _, _, _, _, _, _, _, _, _, ?rel, rfl⟩, ?measure⟩
      case rel => exact ⟨k + 1, v7, rfl, by go_num, hlt, HO7.out, HL7.out⟩
      case measure => simp [intOf]; omega
    · have hkn : chN n P m = k := by omega
      have HOF := Lib.hid (show Bas wr (.slice po k co) (chN n P m) m (fun i => cyc P (fE n P m) (fD n P m) (chS n P m i)) w1.heap.size by rw [hkn]; exact HO.out)
      have k1 : ¬ ((k : Int) < (chN n P m : Int)) := by omega
      clear hkn
      go_wp2_with fail
      rw [← HQ.out]
      go_wp2_with fail
      go_ret
      exact ⟨_, rfl, HOF.out.low (by omega), HBB.out.trans (HL.out.mono (by omega))⟩
end Go.Proofs.YtdbgcbkmcbgdiaaGreat.mem

namespace Go.Proofs.YtdbgcbkmcbgdiaaGreat.mem
open Go.RowKit
set_option linter.unusedVariables false

theorem Bas.at_ {w : World} {v : Value} {K m B : Nat} {Y : Nat → Nat → Int} (h : Bas w v K m Y B) : K = 0 ∨ ∃ (q cap : Nat) (G C : Nat → Nat), v = .slice (some ⟨q, 0, none⟩) K cap ∧ q < w.heap.size ∧ ∀ k, k < K → w.cell? ⟨q, k, none⟩ = some (.slice (some ⟨G k, 0, none⟩) m (C k)) ∧ Own w (.slice (some ⟨G k, 0, none⟩) m (C k)) m (Y k) (G k) := by
  obtain ⟨G, C, h1, h2, _⟩ := h.ex
  obtain ⟨q, o, _⟩ := h1.ownS
  obtain ⟨p, cap, e, _, _, h4⟩ := o.ex
  rcases h4 with h4 | ⟨rfl, r⟩
  · exact .inl h4
  · refine .inr ⟨q, cap, G, C, e, r.lt, fun k hk => ⟨?_, (h2 k hk).1⟩⟩
    have := r.cell k 0 hk (by omega)
    rwa [Nat.mul_one, Nat.add_zero] at this
end Go.Proofs.YtdbgcbkmcbgdiaaGreat.mem

namespace Go.Proofs.YtdbgcbkmcbgdiaaGreat.mem
open Go.RowKit
set_option linter.unusedVariables false

end Go.Proofs.YtdbgcbkmcbgdiaaGreat.mem

namespace Go.Proofs.YtdbgcbkmcbgdiaaGreat.mem
open Go.RowKit
set_option linter.unusedVariables false

theorem Sl.next {w w' : World} {v : Value} {n : Nat} {d : Nat → Int} {lo : Nat} (h : Sl w v n d lo w.heap.size) (g : Below w.heap.size w w') : Sl w' v n d lo w'.heap.size := (h.below g (Nat.le_refl _)).mono (Nat.le_refl _) g.size
theorem Sl.zero {w : World} {v : Value} {n : Nat} {d : Nat → Int} {lo hi : Nat} (h : Sl w v n d lo hi) : Sl w v n d 0 hi := h.mono (Nat.zero_le _) (Nat.le_refl _)
theorem ffC_ok {n : Nat} {N : Nat → Nod} {m : Nat} {P : Nat → Pip} {K : Nat} {d : Nat → Int} (h : ffC n N m P K d = 0) : netB n N m P = true ∧ K = n ∧ flB d K = true ∧ evB n P m d = true ∧ flB (fflN n P m d) m = true := by
  unfold ffC at h
  split at h
  · next hc =>
    obtain ⟨h1, h2, h3⟩ := svC_ok hc
    split at h
    · next he =>
      split at h
      · next hf => exact ⟨h1, h2, h3, he, hf⟩
      · omega
    · omega
  · next hc => exact absurd h hc
theorem flC_is {n : Nat} {N : Nat → Nod} {m : Nat} {P : Nat → Pip} {d : Nat → Int} (hB : netB n N m P = true) (hf : flB d m = true) : flC n N m P m d = 0 := by
  unfold flC
  rw [hB, if_pos rfl, if_pos ⟨rfl, hf⟩]
theorem svC_is {n : Nat} {N : Nat → Nod} {m : Nat} {P : Nat → Pip} {d : Nat → Int} (hB : netB n N m P = true) (hf : flB d n = true) : svC n N m P n d = 0 := by
  unfold svC
  rw [hB, if_pos rfl, if_pos ⟨rfl, hf⟩]
theorem ib_is {n : Nat} {N : Nat → Nod} {m : Nat} {P : Nat → Pip} {d s : Nat → Int} (hB : netB n N m P = true) (hf : flB d m = true) (hs : flB s n = true) (h : ∀ z, z < n → dv P d m ((z : Nat) : Int) = s z) : ibB n N m P m d n s = true := by
  unfold ibB
  rw [flC_is hB hf, svC_is hB hs]
  simp only [decide_true, Bool.true_and]
  rw [List.all_eq_true]
  intro z hz
  simpa using h z (List.mem_range.1 hz)
theorem even_of {n : Nat} {N : Nat → Nod} {m : Nat} {P : Nat → Pip} {d s : Nat → Int} (hB : netB n N m P = true) (h : ∀ z, z < n → dv P d m ((z : Nat) : Int) = s z) : evB n P m s = true := by
  rw [evB_iff]
  intro z hz
  rw [csm_congr (t := fun i => dv P d m ((i : Nat) : Int)) (fun i hi => (h i hi).symm)]
  exact csm_dv m (fun a ha => by
    obtain ⟨p1, p2, _⟩ := pip_end (net_pip hB ha)
    refine ⟨p1, p2, ?_⟩
    unfold cmpN
    rw [Int.toNat_of_nonneg p1.1, Int.toNat_of_nonneg p2.1]
    exact fo_r1 hB a ha)
end Go.Proofs.YtdbgcbkmcbgdiaaGreat.mem

namespace Go.Proofs.YtdbgcbkmcbgdiaaGreat.mem
open Go.RowKit
set_option linter.unusedVariables false

/-- a pipe's part of the energy -/
def egT (P : Nat → Pip) (x : Nat → Int) (k : Nat) : Int := (P k).k * ((x k).natAbs : Int) * ((x k).natAbs : Int) * ((x k).natAbs : Int)
/-- the energy of the first pipes -/
def egS (P : Nat → Pip) (x : Nat → Int) : Nat → Int
  | 0 => 0
  | k + 1 => egS P x k + egT P x k
theorem egS_congr {P : Nat → Pip} {x y : Nat → Int} : ∀ {n : Nat}, (∀ k, k < n → x k = y k) → egS P x n = egS P y n
  | 0, _ => rfl
  | n + 1, h => by
    unfold egS egT
    rw [egS_congr (fun k hk => h k (by omega)), h n (by omega)]
theorem mulc {x b c : Int} (hx : -b ≤ x ∧ x ≤ b) (hc : -1 ≤ c ∧ c ≤ 1) : -b ≤ x * c ∧ x * c ≤ b := by
  rcases (by omega : c = -1 ∨ c = 0 ∨ c = 1) with rfl | rfl | rfl <;> omega
/-- what the pieces of a cube keep within -/
structure EgB (k a : Int) : Prop where
  k0 : 0 ≤ k
  k1 : k ≤ 1000
  a0 : 0 ≤ a
  a1 : a ≤ 30000
theorem EgB.one {k a : Int} (h : EgB k a) : 0 ≤ k * a ∧ k * a ≤ 30000000 := by
  have h1 := Int.mul_le_mul h.k1 h.a1 h.a0 (by omega : (0 : Int) ≤ 1000)
  exact ⟨Int.mul_nonneg h.k0 h.a0, by omega⟩
theorem EgB.two {k a : Int} (h : EgB k a) : 0 ≤ k * a * a ∧ k * a * a ≤ 900000000000 := by
  have h1 := Int.mul_le_mul h.one.2 h.a1 h.a0 (by omega : (0 : Int) ≤ 30000000)
  exact ⟨Int.mul_nonneg h.one.1 h.a0, by omega⟩
theorem EgB.thr {k a : Int} (h : EgB k a) : 0 ≤ k * a * a * a ∧ k * a * a * a ≤ 27000000000000000 := by
  have h1 := Int.mul_le_mul h.two.2 h.a1 h.a0 (by omega : (0 : Int) ≤ 900000000000)
  exact ⟨Int.mul_nonneg h.two.1 h.a0, by omega⟩
theorem egB_of {n : Int} {q : Pip} {x : Int} (hq : pipB n q = true) (h0 : -30000 ≤ x) (h1 : x ≤ 30000) : EgB q.k (x.natAbs : Int) := by
  have hk := pip_k hq
  exact ⟨by omega, by omega, Int.natCast_nonneg _, by omega⟩
theorem egS_bnd {P : Nat → Pip} {x : Nat → Int} : ∀ {k : Nat}, (∀ j, j < k → EgB (P j).k ((x j).natAbs : Int)) → 0 ≤ egS P x k ∧ egS P x k ≤ (k : Int) * 27000000000000000
  | 0, _ => by simp [egS]
  | k + 1, h => by
    have h1 := egS_bnd (k := k) (fun j hj => h j (by omega : j < k + 1))
    have h2 := (h k (by omega)).thr
    unfold egS egT
    omega
/-! The elements of a chord's cycle are -1, 0 and 1 -/
theorem Fo.asc_sgn {n : Nat} {P : Nat → Pip} {m : Nat} {E D : Int → Int} (h : Fo n P m E D) {y : Int} (hy : 0 ≤ y ∧ y < n) {a : Nat} (ha : a < m) (ey : E y = (a : Int)) {z : Int} (hz : 0 ≤ z ∧ z < n) : asc P E D z a = 0 ∨ asc P E D z a = sgn (P a) y := by
  refine h.ind (Q := fun z => asc P E D z a = 0 ∨ asc P E D z a = sgn (P a) y) (fun z hz e => .inl (h.asc_top e a)) (fun z hz c hc e _ _ ih => ?_) z hz
  rw [h.asc_up hz hc e a]
  by_cases g : a = c
  · subst g
    right
    rw [if_pos rfl, h.asc_own hz hc e, h.uniq hy hz ey e]
    omega
  · rw [if_neg g, Int.zero_add]
    exact ih
theorem Fo.cyc_one {n : Nat} {P : Nat → Pip} {m : Nat} {E D : Int → Int} (h : Fo n P m E D) {c : Nat} (hc : c < m) (hP : pipB n (P c) = true) (hch : ∀ z : Int, 0 ≤ z → z < n → E z ≠ (c : Int)) (a : Nat) : -1 ≤ cyc P E D c a ∧ cyc P E D c a ≤ 1 := by
  obtain ⟨hf, ht, _⟩ := pip_end hP
  by_cases hy : ∃ y : Int, 0 ≤ y ∧ y < n ∧ E y = (a : Int)
  · obtain ⟨y, y0, y1, ey⟩ := hy
    have hne : a ≠ c := fun e => hch y y0 y1 (by rw [ey, e])
    have ham : a < m := by
      rcases h.par y y0 y1 with g | ⟨b, hb, g, _⟩ <;> omega
    have h1 := h.asc_sgn ⟨y0, y1⟩ ham ey ht
    have h2 := h.asc_sgn ⟨y0, y1⟩ ham ey hf
    have h3 := sgn_rng (P a) y
    unfold cyc one1
    rw [if_neg hne]
    omega
  · rw [h.cyc_chord hc (fun z z0 z1 e => hy ⟨z, z0, z1, e⟩)]
    unfold one1
    split <;> omega
theorem cyc_one {n : Nat} {N : Nat → Nod} {P : Nat → Pip} {m : Nat} (hN : netB n N m P = true) {c : Nat} (hc : c < m) (hch : chP n P m c = true) (a : Nat) : -1 ≤ cyc P (fE n P m) (fD n P m) c a ∧ cyc P (fE n P m) (fD n P m) c a ≤ 1 :=
  (fo_net hN).cyc_one hc (net_pip hN hc) (chP_no hN hch) a

/-! What a cycle's adding does to the energy -/
/-- does a multiple of a cycle lower the energy, as arrays? -/
def loA (m : Nat) (P : Nat → Pip) (x y : Nat → Int) (t : Int) : Bool := flB (fun k => x k + y k * t) 40 && decide (egS P (fun k => x k + y k * t) m < egS P x m)
/-- does a multiple of a cycle lower the energy? -/
def loB (m : Nat) (P : Nat → Pip) (x y : Nat → Int) (t : Int) : Bool := flB (fun k => x k + t * y k) m && decide (egS P (fun k => x k + t * y k) m < egS P x m)
theorem ownS_shE {w : World} {v : Value} {n z b : Nat} {c : Nat → Nat → Value} (h : OwnS w v n z c b) : ∃ p cap, v = .slice p n cap := by
  obtain ⟨p, cap, h1, _⟩ := h.ex
  exact ⟨p, cap, h1⟩
/-! What the exported functions answer -/
theorem pad_at {m : Nat} {d : Nat → Int} {k : Nat} (h : k < m) : pad m d k = d k := by unfold pad; rw [if_pos h]
theorem pad_rng {m : Nat} {d : Nat → Int} (h : ∀ k, k < m → -30000 ≤ d k ∧ d k ≤ 30000) (k : Nat) : -30000 ≤ pad m d k ∧ pad m d k ≤ 30000 := by
  unfold pad
  split
  · next g => exact h k g
  · omega
theorem ad_pad {n : Nat} {P : Nat → Pip} {m : Nat} {d : Nat → Int} {c : Nat} {y : Int} {k : Nat} (hk : k < m) : pad m d k + cyc P (fE n P m) (fD n P m) c k * y = adD n P m d (c : Int) y k := by
  unfold adD cyD
  rw [pad_at hk, Int.toNat_natCast, Int.mul_comm]
theorem ad_flB {n : Nat} {N : Nat → Nod} {P : Nat → Pip} {m : Nat} (hN : netB n N m P = true) {d : Nat → Int} {c : Nat} {y : Int} (hc : c < m) : flB (fun k => pad m d k + cyc P (fE n P m) (fD n P m) c k * y) 40 = flB (adD n P m d (c : Int) y) m := by
  have hm40 := (net_sz hN).2.2
  rw [flB_ext hm40 (fun k hk => by rw [cyc_off hN hc hk, Int.zero_mul]; unfold pad; rw [if_neg (by omega)]; rfl)]
  exact flB_congr fun k hk => ad_pad hk
theorem loA_pad {n : Nat} {N : Nat → Nod} {P : Nat → Pip} {m : Nat} (hN : netB n N m P = true) {d : Nat → Int} {c : Nat} {t : Int} (hc : c < m) : loA m P (pad m d) (cyc P (fE n P m) (fD n P m) c) t = loB m P d (cyc P (fE n P m) (fD n P m) c) t := by
  unfold loA loB
  rw [ad_flB hN hc, egS_congr (x := fun k => pad m d k + cyc P (fE n P m) (fD n P m) c k * t) (y := adD n P m d (c : Int) t) (fun k hk => ad_pad hk), egS_congr (x := pad m d) (y := d) (fun k hk => pad_at hk)]
  have e : adD n P m d (c : Int) t = fun k => d k + t * cyc P (fE n P m) (fD n P m) c k := by
    funext k
    unfold adD cyD
    rw [Int.toNat_natCast]
  rw [e]
end Go.Proofs.YtdbgcbkmcbgdiaaGreat.mem

namespace Go.Proofs.YtdbgcbkmcbgdiaaGreat.mem
open Go.RowKit
set_option linter.unusedVariables false

/-- the cells of a network with flows -/
def nfc (s0 s1 : Value) (x : Nat → Int) (k : Nat) : Value := if k = 0 then s0 else if k = 1 then s1 else ia x (k - 2)
def nfL (s0 s1 : Value) (x : Nat → Int) : List Value := s0 :: s1 :: arrL x
theorem nfL_len (s0 s1 : Value) (x : Nat → Int) : (nfL s0 s1 x).length = 42 := by unfold nfL; rw [List.length_cons, List.length_cons, arr_len]
theorem nfL_get (s0 s1 : Value) (x : Nat → Int) (k : Nat) (hk : k < 42) : (nfL s0 s1 x)[k]? = some (nfc s0 s1 x k) := by
  unfold nfL nfc
  match k, hk with
  | 0, _ => rfl
  | 1, _ => rfl
  | k + 2, hk =>
    rw [List.getElem?_cons_succ, List.getElem?_cons_succ, arrL_get x k (by omega), if_neg (by omega), if_neg (by omega)]
    rfl
theorem nfL_one {s0 s1 : Value} (h0 : s0.oneCell' = true) (h1 : s1.oneCell' = true) (x : Nat → Int) : ∀ v ∈ nfL s0 s1 x, v.oneCell' = true := fun v hv => by
  unfold nfL at hv
  rcases List.mem_cons.1 hv with rfl | hv
  · exact h0
  rcases List.mem_cons.1 hv with rfl | hv
  · exact h1
  exact arr_oneL x v hv
theorem nfL_eq {cur : List Value} {s0 s1 : Value} {x : Nat → Int} (h1 : cur.length = 42) (h2 : ∀ k, k < 42 → cur[k]? = some (nfc s0 s1 x k)) : cur = nfL s0 s1 x := by
  apply List.ext_getElem?
  intro k
  by_cases h : k < 42
  · rw [h2 k h, nfL_get s0 s1 x k h]
  · rw [List.getElem?_eq_none (by omega), List.getElem?_eq_none (by rw [nfL_len]; omega)]
theorem nf_info : (Tryz.prog.info? 115).map (·.size) = some 42 := by kernel_rfl
theorem Ob.nrow {w : World} {b : Nat} {s0 s1 : Value} {x : Nat → Int} (h : Ob w b 42 (nfc s0 s1 x)) : ∃ t, w.heap[b]? = some (.cells (nfL s0 s1 x).toArray t (0, 0)) := by
  obtain ⟨cur, t, h1, h2, h3⟩ := h.ex
  have e : cur.toList = nfL s0 s1 x := nfL_eq (by rw [Array.length_toList, h2]) (fun k hk => by rw [Array.getElem?_toList]; exact h3 k hk)
  rw [← e, Array.toArray_toList]
  exact ⟨t, h1⟩
theorem Ob.newN (w : World) (s0 s1 : Value) (x : Nat → Int) (t : TypeId) : Ob (w.alloc (.cells (nfL s0 s1 x).toArray t)) w.heap.size 42 (nfc s0 s1 x) := Ob.new w _ t 42 _ (by rw [List.size_toArray, nfL_len]) (fun k hk => by rw [List.getElem?_toArray]; exact nfL_get s0 s1 x k hk)
theorem Ob.n0 {w : World} {b : Nat} {s0 s1 : Value} {x : Nat → Int} (h : Ob w b 42 (nfc s0 s1 x)) : w.cell? ⟨b, 0, none⟩ = some s0 := h.cell 0 (by omega)
theorem Ob.n1 {w : World} {b : Nat} {s0 s1 : Value} {x : Nat → Int} (h : Ob w b 42 (nfc s0 s1 x)) : w.cell? ⟨b, 1, none⟩ = some s1 := h.cell 1 (by omega)
theorem Ob.nx {w : World} {b : Nat} {s0 s1 : Value} {x : Nat → Int} (h : Ob w b 42 (nfc s0 s1 x)) (k : Nat) (hk : k < 40) : w.cell? ⟨b, 2 + k, none⟩ = some (.int .i64 (x k)) := by
  have := h.cell (2 + k) (by omega)
  unfold nfc at this
  rw [if_neg (by omega), if_neg (by omega), show 2 + k - 2 = k by omega] at this
  exact this
theorem Ob.nrange {w : World} {b : Nat} {s0 s1 : Value} {x : Nat → Int} (h : Ob w b 42 (nfc s0 s1 x)) : w.rangeAt b 2 (arrL x) := by
  intro j v hv
  have hj : j < 40 := by have := get_lt hv; rw [arr_len] at this; exact this
  rw [arrL_get x j hj] at hv
  injection hv with hv
  rw [h.nx j hj, ← hv]
  rfl
theorem Ob.nall {w : World} {b : Nat} {s0 s1 : Value} {x : Nat → Int} (h : Ob w b 42 (nfc s0 s1 x)) : w.rangeAt b 0 (nfL s0 s1 x) := by
  intro j v hv
  have hj : j < 42 := by have := get_lt hv; rw [nfL_len] at this; exact this
  rw [nfL_get s0 s1 x j hj] at hv
  injection hv with hv
  rw [Nat.zero_add, h.cell j hj, hv]
theorem Ob.nthere {w : World} {b : Nat} {d : Nat → Value} (h : Ob w b 42 d) : w.there b 2 40 := fun j hj => by
  exact ⟨by rw [h.cell (2 + j) (by omega)]; rfl, h.free (2 + j)⟩
theorem Ob.nset {w : World} {b : Nat} {s0 s1 : Value} {x : Nat → Int} (h : Ob w b 42 (nfc s0 s1 x)) (y : Nat → Int) : Ob (w.setCells b 2 (arrL y)) b 42 (nfc s0 s1 y) := by
  refine (h.setCs (arrL y) 2 (by rw [arr_len]; omega)).congr fun k hk => ?_
  unfold nfc
  by_cases g : 2 ≤ k
  · rw [if_pos g, arrL_get y (k - 2) (by omega), Option.getD_some, if_neg (by omega), if_neg (by omega)]
  · rw [if_neg g, Option.getD_none]
    by_cases e : k = 0
    · rw [if_pos e, if_pos e]
    · rw [if_neg e, if_neg e, if_pos (by omega), if_pos (by omega)]
theorem Ob.nput {w : World} {b : Nat} {d : Nat → Value} (h : Ob w b 42 d) (s0 s1 : Value) (y : Nat → Int) : Ob (w.setCells b 0 (nfL s0 s1 y)) b 42 (nfc s0 s1 y) := by
  refine (h.setCs (nfL s0 s1 y) 0 (by rw [nfL_len]; omega)).congr fun k hk => ?_
  rw [if_pos (Nat.zero_le k), Nat.sub_zero, nfL_get s0 s1 y k hk]
  rfl
theorem Ob.nsl {w : World} {b : Nat} {s0 s1 : Value} {x : Nat → Int} (h : Ob w b 42 (nfc s0 s1 x)) : Sl w (.slice (some ⟨b, 2, none⟩) 40 40) 40 x b (b + 1) :=
  ⟨some ⟨b, 2, none⟩, 40, rfl, .inr ⟨b, 2, rfl, Nat.le_refl _, by omega, fun k hk => h.nx k hk⟩⟩
theorem zeros42 (k : Nat) (hk : k < 42) : (#[Value.slice none 0 0, Value.slice none 0 0, Value.int IntKind.i64 0, Value.int IntKind.i64 0, Value.int IntKind.i64 0, Value.int IntKind.i64 0, Value.int IntKind.i64 0, Value.int IntKind.i64 0, Value.int IntKind.i64 0, Value.int IntKind.i64 0, Value.int IntKind.i64 0, Value.int IntKind.i64 0, Value.int IntKind.i64 0, Value.int IntKind.i64 0, Value.int IntKind.i64 0, Value.int IntKind.i64 0, Value.int IntKind.i64 0, Value.int IntKind.i64 0, Value.int IntKind.i64 0, Value.int IntKind.i64 0, Value.int IntKind.i64 0, Value.int IntKind.i64 0, Value.int IntKind.i64 0, Value.int IntKind.i64 0, Value.int IntKind.i64 0, Value.int IntKind.i64 0, Value.int IntKind.i64 0, Value.int IntKind.i64 0, Value.int IntKind.i64 0, Value.int IntKind.i64 0, Value.int IntKind.i64 0, Value.int IntKind.i64 0, Value.int IntKind.i64 0, Value.int IntKind.i64 0, Value.int IntKind.i64 0, Value.int IntKind.i64 0, Value.int IntKind.i64 0, Value.int IntKind.i64 0, Value.int IntKind.i64 0, Value.int IntKind.i64 0, Value.int IntKind.i64 0, Value.int IntKind.i64 0] : Array Value)[k]? = some (nfc (.slice none 0 0) (.slice none 0 0) (fun _ => 0) k) := by
  rcases (by omega : k = 0 ∨ k = 1 ∨ k = 2 ∨ k = 3 ∨ k = 4 ∨ k = 5 ∨ k = 6 ∨ k = 7 ∨ k = 8 ∨ k = 9 ∨ k = 10 ∨ k = 11 ∨ k = 12 ∨ k = 13 ∨ k = 14 ∨ k = 15 ∨ k = 16 ∨ k = 17 ∨ k = 18 ∨ k = 19 ∨ k = 20 ∨ k = 21 ∨ k = 22 ∨ k = 23 ∨ k = 24 ∨ k = 25 ∨ k = 26 ∨ k = 27 ∨ k = 28 ∨ k = 29 ∨ k = 30 ∨ k = 31 ∨ k = 32 ∨ k = 33 ∨ k = 34 ∨ k = 35 ∨ k = 36 ∨ k = 37 ∨ k = 38 ∨ k = 39 ∨ k = 40 ∨ k = 41) with rfl | rfl | rfl | rfl | rfl | rfl | rfl | rfl | rfl | rfl | rfl | rfl | rfl | rfl | rfl | rfl | rfl | rfl | rfl | rfl | rfl | rfl | rfl | rfl | rfl | rfl | rfl | rfl | rfl | rfl | rfl | rfl | rfl | rfl | rfl | rfl | rfl | rfl | rfl | rfl | rfl | rfl <;> rfl
theorem Ob.newZ (w : World) (t : TypeId) : Ob (w.alloc (.cells #[Value.slice none 0 0, Value.slice none 0 0, Value.int IntKind.i64 0, Value.int IntKind.i64 0, Value.int IntKind.i64 0, Value.int IntKind.i64 0, Value.int IntKind.i64 0, Value.int IntKind.i64 0, Value.int IntKind.i64 0, Value.int IntKind.i64 0, Value.int IntKind.i64 0, Value.int IntKind.i64 0, Value.int IntKind.i64 0, Value.int IntKind.i64 0, Value.int IntKind.i64 0, Value.int IntKind.i64 0, Value.int IntKind.i64 0, Value.int IntKind.i64 0, Value.int IntKind.i64 0, Value.int IntKind.i64 0, Value.int IntKind.i64 0, Value.int IntKind.i64 0, Value.int IntKind.i64 0, Value.int IntKind.i64 0, Value.int IntKind.i64 0, Value.int IntKind.i64 0, Value.int IntKind.i64 0, Value.int IntKind.i64 0, Value.int IntKind.i64 0, Value.int IntKind.i64 0, Value.int IntKind.i64 0, Value.int IntKind.i64 0, Value.int IntKind.i64 0, Value.int IntKind.i64 0, Value.int IntKind.i64 0, Value.int IntKind.i64 0, Value.int IntKind.i64 0, Value.int IntKind.i64 0, Value.int IntKind.i64 0, Value.int IntKind.i64 0, Value.int IntKind.i64 0, Value.int IntKind.i64 0] t)) w.heap.size 42 (nfc (.slice none 0 0) (.slice none 0 0) (fun _ => 0)) := Ob.new w _ t 42 _ rfl (fun k hk => zeros42 k hk)
theorem results_nf {fn : Func} {p : Tmp} {tmps : Array Value} {w : World} {b : Nat} {s0 s1 : Value} {x : Nat → Int} (h : fn.results = #[.cell p 115]) (hp : tmps.getD p undef = .pointer (some ⟨b, 0, none⟩)) (ho : Ob w b 42 (nfc s0 s1 x)) : (results fn tmps).run Tryz.prog w = .ok (.agg (nfL s0 s1 x).toArray) w := by
  obtain ⟨t, h1⟩ := ho.nrow
  exact results_cell_row h tmps w b t _ (0, 0) _ hp h1 Tryz.underlying115 rfl (by rw [List.size_toArray, nfL_len]; exact nf_info)
theorem yieldsIf_build {P : Program} {ops : Array Oper} {S : World → Prop} {op : Oper} {a : Act} (hw : Region.wanted op (yielded ops a.tmps) = true) (t : TypeId) (parts : Array (Nat × Operand)) (ho : op.op = .build t parts) (cells : Array Value) (hb : P.built t (parts.map fun (i, x) => (i, a.eval x)).toList = some cells) : YieldsIf P ops S op (.agg cells) a :=
  .inl ⟨hw, fun w _ => by
    unfold execOp
    simp only [ho, Sem.run_bind, run_build w t _ cells hb, Result.andThen_ok]
    rfl⟩
theorem nthe0 {o0 : Oper} {l : List Oper} : (List.toArray (o0 :: l))[0]? = some o0 := rfl
theorem nthe1 {o0 o1 : Oper} {l : List Oper} : (List.toArray (o0 :: o1 :: l))[1]? = some o1 := rfl
theorem nthe2 {o0 o1 o2 : Oper} {l : List Oper} : (List.toArray (o0 :: o1 :: o2 :: l))[2]? = some o2 := rfl
theorem nthe3 {o0 o1 o2 o3 : Oper} {l : List Oper} : (List.toArray (o0 :: o1 :: o2 :: o3 :: l))[3]? = some o3 := rfl
theorem nthe4 {o0 o1 o2 o3 o4 : Oper} {l : List Oper} : (List.toArray (o0 :: o1 :: o2 :: o3 :: o4 :: l))[4]? = some o4 := rfl
theorem nthe5 {o0 o1 o2 o3 o4 o5 : Oper} {l : List Oper} : (List.toArray (o0 :: o1 :: o2 :: o3 :: o4 :: o5 :: l))[5]? = some o5 := rfl
theorem nthe6 {o0 o1 o2 o3 o4 o5 o6 : Oper} {l : List Oper} : (List.toArray (o0 :: o1 :: o2 :: o3 :: o4 :: o5 :: o6 :: l))[6]? = some o6 := rfl
theorem nthe7 {o0 o1 o2 o3 o4 o5 o6 o7 : Oper} {l : List Oper} : (List.toArray (o0 :: o1 :: o2 :: o3 :: o4 :: o5 :: o6 :: o7 :: l))[7]? = some o7 := rfl
theorem nthe8 {o0 o1 o2 o3 o4 o5 o6 o7 o8 : Oper} {l : List Oper} : (List.toArray (o0 :: o1 :: o2 :: o3 :: o4 :: o5 :: o6 :: o7 :: o8 :: l))[8]? = some o8 := rfl
theorem nthe9 {o0 o1 o2 o3 o4 o5 o6 o7 o8 o9 : Oper} {l : List Oper} : (List.toArray (o0 :: o1 :: o2 :: o3 :: o4 :: o5 :: o6 :: o7 :: o8 :: o9 :: l))[9]? = some o9 := rfl
theorem nthe10 {o0 o1 o2 o3 o4 o5 o6 o7 o8 o9 o10 : Oper} {l : List Oper} : (List.toArray (o0 :: o1 :: o2 :: o3 :: o4 :: o5 :: o6 :: o7 :: o8 :: o9 :: o10 :: l))[10]? = some o10 := rfl
theorem nthe11 {o0 o1 o2 o3 o4 o5 o6 o7 o8 o9 o10 o11 : Oper} {l : List Oper} : (List.toArray (o0 :: o1 :: o2 :: o3 :: o4 :: o5 :: o6 :: o7 :: o8 :: o9 :: o10 :: o11 :: l))[11]? = some o11 := rfl
theorem nthe12 {o0 o1 o2 o3 o4 o5 o6 o7 o8 o9 o10 o11 o12 : Oper} {l : List Oper} : (List.toArray (o0 :: o1 :: o2 :: o3 :: o4 :: o5 :: o6 :: o7 :: o8 :: o9 :: o10 :: o11 :: o12 :: l))[12]? = some o12 := rfl
theorem range2 {w : World} {b : Nat} {s0 s1 : Value} (h0 : w.cell? ⟨b, 0, none⟩ = some s0) (h1 : w.cell? ⟨b, 1, none⟩ = some s1) : w.rangeAt b 0 [s0, s1] := by
  intro j v hv
  match j, hv with
  | 0, hv => injection hv with hv; rw [← hv]; exact h0
  | 1, hv => injection hv with hv; rw [← hv]; exact h1
theorem nf_one {p0 p1 : Option Addr} {n m c0 c1 : Nat} {x : Nat → Int} : ∀ v ∈ nfL (.slice p0 n c0) (.slice p1 m c1) x, v.oneCell' = true := nfL_one rfl rfl x
theorem there_blockN {w w' : World} {b o N : Nat} (h : w.there b o N) (e : w'.heap[b]? = w.heap[b]?) : w'.there b o N := fun j hj => by
  have := h j hj
  rw [World.cell?_of_block (a := ⟨b, o + j, none⟩) e, World.frozen?_of_block (a := ⟨b, o + j, none⟩) e]
  exact this
theorem range_blockN {w w' : World} {b o : Nat} {cs : List Value} (h : w.rangeAt b o cs) (e : w'.heap[b]? = w.heap[b]?) : w'.rangeAt b o cs := fun j v hv => by
  rw [World.cell?_of_block (a := ⟨b, o + j, none⟩) e]
  exact h j v hv
set_option maxRecDepth 100000 in
set_option maxHeartbeats 8000000 in
theorem energy_any (w : World) (p0 p1 : Option Addr) (c0 c1 : Nat) (n : Nat) (N : Nat → Nod) (m : Nat) (P : Nat → Pip) (lo hi : Nat) (h : NetAt w (.agg #[.slice p0 n c0, .slice p1 m c1]) n N m P lo hi) (hhi : hi ≤ w.heap.size) (hB : netB n N m P = true) (x : Nat → Int) (hx : ∀ k, k < m → -30000 ≤ x k ∧ x k ≤ 30000) :
    Calls Tryz.prog 180 #[.agg (nfL (.slice p0 n c0) (.slice p1 m c1) x).toArray] w fun e w' => e = .returned (.int .i64 (egS P x m)) ∧ Below w.heap.size w w' := by
  obtain ⟨hn1, hn24, hm40⟩ := net_sz hB
  have HV := Lib.hid h
  have HE := Lib.hid (show ∀ k, k < m → EgB (P k).k ((x k).natAbs : Int) from fun k hk => egB_of (net_pip hB hk) (hx k hk).1 (hx k hk).2)
  have HX := Lib.hid hx
  have A0 := Ob.newN w (.slice p0 n c0) (.slice p1 m c1) x 115
  have B0 := below_new w (.cells (nfL (.slice p0 n c0) (.slice p1 m c1) x).toArray 115)
  have hs0 : (w.alloc (.cells (nfL (.slice p0 n c0) (.slice p1 m c1) x).toArray 115)).heap.size = w.heap.size + 1 := by simp
  have e1 := A0.n1
  clear h hB hx
  go_enter Tryz.func180, Tryz.ntmps180
  go_wp2_with fail
  obtain ⟨w1, hw1⟩ : ∃ w1, w.alloc (.cells (nfL (.slice p0 n c0) (.slice p1 m c1) x).toArray 115) = w1 := ⟨_, rfl⟩
  rw [hw1] at A0 B0 hs0 e1 ⊢
  have HA := Lib.hid A0
  have HB := Lib.hid B0
  clear hw1 A0 B0 e1
  go_loopw [3, 11] (fun sv iv wr => ∃ k : Nat, sv = .int .i64 (egS P x k) ∧ iv = .int .i64 k ∧ k ≤ m ∧ w1.heap.size ≤ wr.heap.size ∧ Below w1.heap.size w1 wr) (fun _ iv _ => m - (intOf iv).toNat)
  case atStart => exact ⟨0, rfl, rfl, Nat.zero_le _, Nat.le_refl _, Below.refl _ _⟩
  case round =>
    obtain ⟨k, rfl, rfl, hk, hsz, hb⟩ := hrel
    have HBB := Lib.hid hb
    clear hb
    have k0 : (0 : Int) ≤ (k : Int) := Int.natCast_nonneg _
    by_cases hlt : k < m
    · have k1 : (k : Int) < (m : Int) := by omega
      have k2 : (k : Int) < 40 := by omega
      have BW := Lib.hid (HB.out.trans (HBB.out.mono (by omega)))
      have HAW := Lib.hid (HA.out.below HBB.out (by omega))
      obtain ⟨bp, op, rfl, q1, q2, r0, r1, r2, r3, r4⟩ := (HV.out.below BW.out hhi).pipe hlt
      have yx := HAW.out.nx k (by omega)
      have lwr : w.heap.size < wr.heap.size := by omega
      have lwp : bp < wr.heap.size := by omega
      have hz := HX.out k hlt
      have he := HE.out k hlt
      have h1 := he.one
      have h2 := he.two
      have h3 := he.thr
      have hs := egS_bnd (P := P) (x := x) (k := k) (fun j hj => HE.out j (by omega))
      have HS := Lib.hid (show egS P x (k + 1) = egS P x k + (P k).k * ((x k).natAbs : Int) * ((x k).natAbs : Int) * ((x k).natAbs : Int) from rfl)
      have hs1 : egS P x k ≤ 1080000000000000000 := by omega
      have hs2 := hs.1
      clear hs
      go_wp2_with (go_at_call 155; refine (absN_any _ _ (by omega) (by omega)).mono ?_; rintro e w' ⟨rfl, rfl⟩)
      go_roundw
      case rel => exact ⟨k + 1, by rw [HS.out], by go_num, hlt, by (first | omega | (simp only [World.size_alloc]; omega)), HBB.out.trans (((below_new _ _)).mono (by omega))⟩
      case measure => simp [intOf]; omega
    · have hkn : k = m := by omega
      have k1 : ¬ ((k : Int) < (m : Int)) := by omega
      have HF := Lib.hid (show egS P x k = egS P x m by rw [hkn])
      clear hkn
      go_wp2_with fail
      go_ret
      exact ⟨ret_i HF.out, HB.out.trans (HBB.out.mono (by omega))⟩

set_option maxRecDepth 100000 in
set_option maxHeartbeats 8000000 in
theorem areAllowed_any (w : World) (s0 s1 : Value) (x : Nat → Int) :
    Calls Tryz.prog 179 #[.agg (nfL s0 s1 x).toArray] w fun e w' => e = .returned (.bool (flB x 40)) ∧ Below w.heap.size w w' := by
  have A0 := Ob.newN w s0 s1 x 115
  have B0 := below_new w (.cells (nfL s0 s1 x).toArray 115)
  have HA := Lib.hid A0
  have HB := Lib.hid B0
  clear A0 B0
  go_enter Tryz.func179, Tryz.ntmps179
  go_wp2_with (go_at_call 106; refine (areFlows_any _ _ 40 x _ _ HA.out.nsl (by omega)).mono ?_; rintro e w' ⟨rfl, rfl⟩)
  go_ret
  exact ⟨rfl, HB.out⟩
end Go.Proofs.YtdbgcbkmcbgdiaaGreat.mem

namespace Go.Proofs.YtdbgcbkmcbgdiaaGreat.mem
open Go.RowKit
set_option linter.unusedVariables false

set_option maxRecDepth 100000 in
set_option maxHeartbeats 8000000 in
theorem withFlows_any (w : World) (p0 p1 : Option Addr) (c0 c1 n m : Nat) (va : Value) (K : Nat) (d : Nat → Int) (la ha : Nat) (hv : Sl w va K d la ha) (hha : ha ≤ w.heap.size) (hK : K ≤ 40) :
    Calls Tryz.prog 94 #[.agg #[.slice p0 n c0, .slice p1 m c1], va] w fun e w' => e = .returned (.agg (nfL (.slice p0 n c0) (.slice p1 m c1) (pad K d)).toArray) ∧ Below w.heap.size w w' := by
  have HSV := Lib.hid hv
  obtain ⟨pa, ca, rfl⟩ := hv.sh
  have A0 := (boxed w (.slice p0 n c0) (.slice p1 m c1) 27).keep (Below.heap_alloc _ (.cells #[Value.slice none 0 0, Value.slice none 0 0, Value.int IntKind.i64 0, Value.int IntKind.i64 0, Value.int IntKind.i64 0, Value.int IntKind.i64 0, Value.int IntKind.i64 0, Value.int IntKind.i64 0, Value.int IntKind.i64 0, Value.int IntKind.i64 0, Value.int IntKind.i64 0, Value.int IntKind.i64 0, Value.int IntKind.i64 0, Value.int IntKind.i64 0, Value.int IntKind.i64 0, Value.int IntKind.i64 0, Value.int IntKind.i64 0, Value.int IntKind.i64 0, Value.int IntKind.i64 0, Value.int IntKind.i64 0, Value.int IntKind.i64 0, Value.int IntKind.i64 0, Value.int IntKind.i64 0, Value.int IntKind.i64 0, Value.int IntKind.i64 0, Value.int IntKind.i64 0, Value.int IntKind.i64 0, Value.int IntKind.i64 0, Value.int IntKind.i64 0, Value.int IntKind.i64 0, Value.int IntKind.i64 0, Value.int IntKind.i64 0, Value.int IntKind.i64 0, Value.int IntKind.i64 0, Value.int IntKind.i64 0, Value.int IntKind.i64 0, Value.int IntKind.i64 0, Value.int IntKind.i64 0, Value.int IntKind.i64 0, Value.int IntKind.i64 0, Value.int IntKind.i64 0, Value.int IntKind.i64 0] 115) _ (by rw [szal]; omega))
  have Z0 := Ob.newZ (w.alloc (.cells #[.slice p0 n c0, .slice p1 m c1] 27)) 115
  simp only [szal] at Z0
  have B0 := (below_new w (.cells #[.slice p0 n c0, .slice p1 m c1] 27)).trans ((below_new _ (.cells #[Value.slice none 0 0, Value.slice none 0 0, Value.int IntKind.i64 0, Value.int IntKind.i64 0, Value.int IntKind.i64 0, Value.int IntKind.i64 0, Value.int IntKind.i64 0, Value.int IntKind.i64 0, Value.int IntKind.i64 0, Value.int IntKind.i64 0, Value.int IntKind.i64 0, Value.int IntKind.i64 0, Value.int IntKind.i64 0, Value.int IntKind.i64 0, Value.int IntKind.i64 0, Value.int IntKind.i64 0, Value.int IntKind.i64 0, Value.int IntKind.i64 0, Value.int IntKind.i64 0, Value.int IntKind.i64 0, Value.int IntKind.i64 0, Value.int IntKind.i64 0, Value.int IntKind.i64 0, Value.int IntKind.i64 0, Value.int IntKind.i64 0, Value.int IntKind.i64 0, Value.int IntKind.i64 0, Value.int IntKind.i64 0, Value.int IntKind.i64 0, Value.int IntKind.i64 0, Value.int IntKind.i64 0, Value.int IntKind.i64 0, Value.int IntKind.i64 0, Value.int IntKind.i64 0, Value.int IntKind.i64 0, Value.int IntKind.i64 0, Value.int IntKind.i64 0, Value.int IntKind.i64 0, Value.int IntKind.i64 0, Value.int IntKind.i64 0, Value.int IntKind.i64 0, Value.int IntKind.i64 0] 115)).mono (by rw [szal]; omega))
  have hs0 : ((w.alloc (.cells #[.slice p0 n c0, .slice p1 m c1] 27)).alloc (.cells #[Value.slice none 0 0, Value.slice none 0 0, Value.int IntKind.i64 0, Value.int IntKind.i64 0, Value.int IntKind.i64 0, Value.int IntKind.i64 0, Value.int IntKind.i64 0, Value.int IntKind.i64 0, Value.int IntKind.i64 0, Value.int IntKind.i64 0, Value.int IntKind.i64 0, Value.int IntKind.i64 0, Value.int IntKind.i64 0, Value.int IntKind.i64 0, Value.int IntKind.i64 0, Value.int IntKind.i64 0, Value.int IntKind.i64 0, Value.int IntKind.i64 0, Value.int IntKind.i64 0, Value.int IntKind.i64 0, Value.int IntKind.i64 0, Value.int IntKind.i64 0, Value.int IntKind.i64 0, Value.int IntKind.i64 0, Value.int IntKind.i64 0, Value.int IntKind.i64 0, Value.int IntKind.i64 0, Value.int IntKind.i64 0, Value.int IntKind.i64 0, Value.int IntKind.i64 0, Value.int IntKind.i64 0, Value.int IntKind.i64 0, Value.int IntKind.i64 0, Value.int IntKind.i64 0, Value.int IntKind.i64 0, Value.int IntKind.i64 0, Value.int IntKind.i64 0, Value.int IntKind.i64 0, Value.int IntKind.i64 0, Value.int IntKind.i64 0, Value.int IntKind.i64 0, Value.int IntKind.i64 0] 115)).heap.size = w.heap.size + 2 := by simp
  clear hv
  go_enter Tryz.func94, Tryz.ntmps94
  go_wp2_with fail
  obtain ⟨w1, hw1⟩ : ∃ w1, (w.alloc (.cells #[.slice p0 n c0, .slice p1 m c1] 27)).alloc (.cells #[Value.slice none 0 0, Value.slice none 0 0, Value.int IntKind.i64 0, Value.int IntKind.i64 0, Value.int IntKind.i64 0, Value.int IntKind.i64 0, Value.int IntKind.i64 0, Value.int IntKind.i64 0, Value.int IntKind.i64 0, Value.int IntKind.i64 0, Value.int IntKind.i64 0, Value.int IntKind.i64 0, Value.int IntKind.i64 0, Value.int IntKind.i64 0, Value.int IntKind.i64 0, Value.int IntKind.i64 0, Value.int IntKind.i64 0, Value.int IntKind.i64 0, Value.int IntKind.i64 0, Value.int IntKind.i64 0, Value.int IntKind.i64 0, Value.int IntKind.i64 0, Value.int IntKind.i64 0, Value.int IntKind.i64 0, Value.int IntKind.i64 0, Value.int IntKind.i64 0, Value.int IntKind.i64 0, Value.int IntKind.i64 0, Value.int IntKind.i64 0, Value.int IntKind.i64 0, Value.int IntKind.i64 0, Value.int IntKind.i64 0, Value.int IntKind.i64 0, Value.int IntKind.i64 0, Value.int IntKind.i64 0, Value.int IntKind.i64 0, Value.int IntKind.i64 0, Value.int IntKind.i64 0, Value.int IntKind.i64 0, Value.int IntKind.i64 0, Value.int IntKind.i64 0, Value.int IntKind.i64 0] 115) = w1 := ⟨_, rfl⟩
  rw [hw1] at A0 Z0 B0 hs0 ⊢
  clear hw1
  have e0 := A0.b0
  have e1 := A0.b1
  have UI := Tryz.underlying27
  have nN : (Tryz.prog.info? 27).map (·.size) = some 2 := by kernel_rfl
  have g1 := range2 e0 e1
  have t1 := Z0.there
  refine wp_region_noPanic ?_
  refine wp_region_held_drew (S := fun w' : World => w'.rangeAt w.heap.size 0 [.slice p0 n c0, .slice p1 m c1] ∧ w'.there (w.heap.size + 1) 0 42) (by kernel_rfl) ⟨range_blockN g1 rfl, there_blockN t1 rfl⟩ (fun s0 => ?_)
  refine wpAnyH_take (i := 0) (v := .agg #[.slice p0 n c0, .slice p1 m c1]) rfl (by kernel_rfl) (by kernel_rfl) (by kernel_rfl) (fun _ _ _ h => h) (yieldsIf_load_mid (by rfl) _ _ rfl _ _ rfl [.slice p0 n c0, .slice p1 m c1] _ (fun _ h => h.1) UI rfl (by exact nN)) s0 ?_
  try simp only [Act.put]
  refine wpAnyH_take (i := 1) (v := .slice pa K ca) rfl (by kernel_rfl) (by kernel_rfl) (by kernel_rfl) (fun _ _ _ h => h) (Or.inl ⟨by rfl, fun w' hSw => by rfl⟩) s0 ?_
  try simp only [Act.put, List.setIfInBounds_toArray]
  refine wpAnyH_ready (rs := [2]) (by kernel_rfl) (by simp) (AllReadyH.cons rfl (fun KX hKX => ?_) AllReadyH.nil)
  clear s0
  go_simp
  refine (arrayOf_any _ _ K d la ha (sl_dr (HSV.out.below B0 hha)) (show ha ≤ w1.heap.size by omega) hK).mono ?_
  rintro e wX ⟨rfl, hbX⟩
  have hbX' := below_dr0 hbX
  have l0 : w.heap.size < w1.heap.size := by omega
  have l1 : w.heap.size + 1 < w1.heap.size := by omega
  have SX : wX.rangeAt w.heap.size 0 [.slice p0 n c0, .slice p1 m c1] ∧ wX.there (w.heap.size + 1) 0 42 := ⟨range_blockN g1 (hbX'.block _ l0), there_blockN t1 (hbX'.block _ l1)⟩
  refine hKX.out _ _ SX (fun s2 => ?_)
  clear hKX
  try simp only [Act.put, List.set_cons_zero, List.set_cons_succ]
  refine wpAnyH_take (i := 3) (v := .agg (nfL (.slice p0 n c0) (.slice p1 m c1) (pad K d)).toArray) nthe3 (by kernel_rfl) (by kernel_rfl) (by kernel_rfl) (fun _ _ _ h => h) (yieldsIf_build (by rfl) _ _ rfl _ (by kernel_rfl)) s2 ?_
  try simp only [Act.put]
  refine wpAnyH_ready (rs := [4]) (by kernel_rfl) (by simp) (AllReadyH.cons rfl (fun KX hKX => ?_) AllReadyH.nil)
  rw [if_pos (by rfl)]
  refine wp_store_mid _ _ _ rfl _ _ (nfL (.slice p0 n c0) (.slice p1 m c1) (pad K d)).toArray rfl rfl (by show wX.there (w.heap.size + 1) 0 (nfL (.slice p0 n c0) (.slice p1 m c1) (pad K d)).length; rw [nfL_len]; exact SX.2) (by show _ = some (nfL (.slice p0 n c0) (.slice p1 m c1) (pad K d)).length; rw [nfL_len]; exact nf_info) (all_oneCell_toArray nf_one) ?_
  simp only [Act.put, List.setIfInBounds_toArray]
  refine hKX.out _ _ ⟨World.rangeAt_setCells_apart SX.1 _ _ _ (.inl (by omega)), World.there_setCells SX.2 _ _ _⟩ (fun s5 => ?_)
  refine wpAnyH_done (by kernel_rfl) ?_ _
  refine NoPanic.normal ?_
  have o5 := (Z0.below hbX' l1).nput (.slice p0 n c0) (.slice p1 m c1) (pad K d)
  go_wp2_with fail
  exact bodyPost_ret (results_nf rfl rfl o5) rfl ⟨rfl, (B0.trans (hbX'.mono (by omega))).trans (((Only.refl (w.heap.size + 1) wX).setCs _ 0).below (by omega))⟩
end Go.Proofs.YtdbgcbkmcbgdiaaGreat.mem

namespace Go.Proofs.YtdbgcbkmcbgdiaaGreat.mem
open Go.RowKit
set_option linter.unusedVariables false

set_option maxRecDepth 100000 in
set_option maxHeartbeats 400000 in
theorem plusCycle_any (w : World) (s0 s1 : Value) (h0 : s0.oneCell' = true) (h1 : s1.oneCell' = true) (x y : Nat → Int) (t : Int) (hb : ∀ k, k < 40 → -4611686018427387904 ≤ x k + y k * t ∧ x k + y k * t ≤ 4611686018427387904) (hm : ∀ k, k < 40 → -4611686018427387904 ≤ y k * t ∧ y k * t ≤ 4611686018427387904) :
    Calls Tryz.prog 146 #[.agg (nfL s0 s1 x).toArray, .agg (arr y), .int .i64 t] w fun e w' => e = .returned (.agg (nfL s0 s1 (fun k => x k + y k * t)).toArray) ∧ Below w.heap.size w w' := by
  have A0 := ((Ob.newN w s0 s1 x 115).keep (Below.heap_alloc _ (.cells (arr y) 111) _ (by rw [szal]; omega))).keep (Below.heap_alloc _ (.cells #[Value.slice none 0 0, Value.slice none 0 0, Value.int IntKind.i64 0, Value.int IntKind.i64 0, Value.int IntKind.i64 0, Value.int IntKind.i64 0, Value.int IntKind.i64 0, Value.int IntKind.i64 0, Value.int IntKind.i64 0, Value.int IntKind.i64 0, Value.int IntKind.i64 0, Value.int IntKind.i64 0, Value.int IntKind.i64 0, Value.int IntKind.i64 0, Value.int IntKind.i64 0, Value.int IntKind.i64 0, Value.int IntKind.i64 0, Value.int IntKind.i64 0, Value.int IntKind.i64 0, Value.int IntKind.i64 0, Value.int IntKind.i64 0, Value.int IntKind.i64 0, Value.int IntKind.i64 0, Value.int IntKind.i64 0, Value.int IntKind.i64 0, Value.int IntKind.i64 0, Value.int IntKind.i64 0, Value.int IntKind.i64 0, Value.int IntKind.i64 0, Value.int IntKind.i64 0, Value.int IntKind.i64 0, Value.int IntKind.i64 0, Value.int IntKind.i64 0, Value.int IntKind.i64 0, Value.int IntKind.i64 0, Value.int IntKind.i64 0, Value.int IntKind.i64 0, Value.int IntKind.i64 0, Value.int IntKind.i64 0, Value.int IntKind.i64 0, Value.int IntKind.i64 0, Value.int IntKind.i64 0] 115) _ (by simp only [szal]; omega))
  have A1 := (Ob.newA (w.alloc (.cells (nfL s0 s1 x).toArray 115)) y 111).keep (Below.heap_alloc _ (.cells #[Value.slice none 0 0, Value.slice none 0 0, Value.int IntKind.i64 0, Value.int IntKind.i64 0, Value.int IntKind.i64 0, Value.int IntKind.i64 0, Value.int IntKind.i64 0, Value.int IntKind.i64 0, Value.int IntKind.i64 0, Value.int IntKind.i64 0, Value.int IntKind.i64 0, Value.int IntKind.i64 0, Value.int IntKind.i64 0, Value.int IntKind.i64 0, Value.int IntKind.i64 0, Value.int IntKind.i64 0, Value.int IntKind.i64 0, Value.int IntKind.i64 0, Value.int IntKind.i64 0, Value.int IntKind.i64 0, Value.int IntKind.i64 0, Value.int IntKind.i64 0, Value.int IntKind.i64 0, Value.int IntKind.i64 0, Value.int IntKind.i64 0, Value.int IntKind.i64 0, Value.int IntKind.i64 0, Value.int IntKind.i64 0, Value.int IntKind.i64 0, Value.int IntKind.i64 0, Value.int IntKind.i64 0, Value.int IntKind.i64 0, Value.int IntKind.i64 0, Value.int IntKind.i64 0, Value.int IntKind.i64 0, Value.int IntKind.i64 0, Value.int IntKind.i64 0, Value.int IntKind.i64 0, Value.int IntKind.i64 0, Value.int IntKind.i64 0, Value.int IntKind.i64 0, Value.int IntKind.i64 0] 115) _ (by simp only [szal]; omega))
  have A2 := Ob.newZ ((w.alloc (.cells (nfL s0 s1 x).toArray 115)).alloc (.cells (arr y) 111)) 115
  simp only [szal] at A1 A2
  have B0 := ((below_new w (.cells (nfL s0 s1 x).toArray 115)).trans ((below_new _ (.cells (arr y) 111)).mono (by rw [szal]; omega))).trans ((below_new _ (.cells #[Value.slice none 0 0, Value.slice none 0 0, Value.int IntKind.i64 0, Value.int IntKind.i64 0, Value.int IntKind.i64 0, Value.int IntKind.i64 0, Value.int IntKind.i64 0, Value.int IntKind.i64 0, Value.int IntKind.i64 0, Value.int IntKind.i64 0, Value.int IntKind.i64 0, Value.int IntKind.i64 0, Value.int IntKind.i64 0, Value.int IntKind.i64 0, Value.int IntKind.i64 0, Value.int IntKind.i64 0, Value.int IntKind.i64 0, Value.int IntKind.i64 0, Value.int IntKind.i64 0, Value.int IntKind.i64 0, Value.int IntKind.i64 0, Value.int IntKind.i64 0, Value.int IntKind.i64 0, Value.int IntKind.i64 0, Value.int IntKind.i64 0, Value.int IntKind.i64 0, Value.int IntKind.i64 0, Value.int IntKind.i64 0, Value.int IntKind.i64 0, Value.int IntKind.i64 0, Value.int IntKind.i64 0, Value.int IntKind.i64 0, Value.int IntKind.i64 0, Value.int IntKind.i64 0, Value.int IntKind.i64 0, Value.int IntKind.i64 0, Value.int IntKind.i64 0, Value.int IntKind.i64 0, Value.int IntKind.i64 0, Value.int IntKind.i64 0, Value.int IntKind.i64 0, Value.int IntKind.i64 0] 115)).mono (by simp only [szal]; omega))
  have hs0 : (((w.alloc (.cells (nfL s0 s1 x).toArray 115)).alloc (.cells (arr y) 111)).alloc (.cells #[Value.slice none 0 0, Value.slice none 0 0, Value.int IntKind.i64 0, Value.int IntKind.i64 0, Value.int IntKind.i64 0, Value.int IntKind.i64 0, Value.int IntKind.i64 0, Value.int IntKind.i64 0, Value.int IntKind.i64 0, Value.int IntKind.i64 0, Value.int IntKind.i64 0, Value.int IntKind.i64 0, Value.int IntKind.i64 0, Value.int IntKind.i64 0, Value.int IntKind.i64 0, Value.int IntKind.i64 0, Value.int IntKind.i64 0, Value.int IntKind.i64 0, Value.int IntKind.i64 0, Value.int IntKind.i64 0, Value.int IntKind.i64 0, Value.int IntKind.i64 0, Value.int IntKind.i64 0, Value.int IntKind.i64 0, Value.int IntKind.i64 0, Value.int IntKind.i64 0, Value.int IntKind.i64 0, Value.int IntKind.i64 0, Value.int IntKind.i64 0, Value.int IntKind.i64 0, Value.int IntKind.i64 0, Value.int IntKind.i64 0, Value.int IntKind.i64 0, Value.int IntKind.i64 0, Value.int IntKind.i64 0, Value.int IntKind.i64 0, Value.int IntKind.i64 0, Value.int IntKind.i64 0, Value.int IntKind.i64 0, Value.int IntKind.i64 0, Value.int IntKind.i64 0, Value.int IntKind.i64 0] 115)).heap.size = w.heap.size + 3 := by simp
  have OS := nfL_one h0 h1 (fun k => x k + y k * t)
  go_enter Tryz.func146, Tryz.ntmps146
  go_upto_region 1 with (fail)
  obtain ⟨w1, hw1⟩ : ∃ w1, ((w.alloc (.cells (nfL s0 s1 x).toArray 115)).alloc (.cells (arr y) 111)).alloc (.cells #[Value.slice none 0 0, Value.slice none 0 0, Value.int IntKind.i64 0, Value.int IntKind.i64 0, Value.int IntKind.i64 0, Value.int IntKind.i64 0, Value.int IntKind.i64 0, Value.int IntKind.i64 0, Value.int IntKind.i64 0, Value.int IntKind.i64 0, Value.int IntKind.i64 0, Value.int IntKind.i64 0, Value.int IntKind.i64 0, Value.int IntKind.i64 0, Value.int IntKind.i64 0, Value.int IntKind.i64 0, Value.int IntKind.i64 0, Value.int IntKind.i64 0, Value.int IntKind.i64 0, Value.int IntKind.i64 0, Value.int IntKind.i64 0, Value.int IntKind.i64 0, Value.int IntKind.i64 0, Value.int IntKind.i64 0, Value.int IntKind.i64 0, Value.int IntKind.i64 0, Value.int IntKind.i64 0, Value.int IntKind.i64 0, Value.int IntKind.i64 0, Value.int IntKind.i64 0, Value.int IntKind.i64 0, Value.int IntKind.i64 0, Value.int IntKind.i64 0, Value.int IntKind.i64 0, Value.int IntKind.i64 0, Value.int IntKind.i64 0, Value.int IntKind.i64 0, Value.int IntKind.i64 0, Value.int IntKind.i64 0, Value.int IntKind.i64 0, Value.int IntKind.i64 0, Value.int IntKind.i64 0] 115) = w1 := ⟨_, rfl⟩
  rw [hw1] at A0 A1 A2 B0 hs0 ⊢
  clear hw1
  have g0 := A0.nrange
  have g1 := A1.range
  have l0 : w.heap.size < w1.heap.size := by omega
  have l2 : w.heap.size + 1 + 1 < w1.heap.size := by omega
  have HX := Lib.hid hb
  have HM := Lib.hid hm
  clear hb hm
  obtain ⟨Lx, hLx, eLx⟩ : ∃ L : List Value, arr x = List.toArray L ∧ L = arrL x := ⟨_, rfl, rfl⟩
  obtain ⟨Ly, hLy, eLy⟩ : ∃ L : List Value, arr y = List.toArray L ∧ L = arrL y := ⟨_, rfl, rfl⟩
  obtain ⟨Lz, hLz, eLz⟩ : ∃ L : List Value, arr (fun k => x k + y k * t) = List.toArray L ∧ L = arrL (fun k => x k + y k * t) := ⟨_, rfl, rfl⟩
  rw [← eLx] at g0
  rw [← eLy] at g1
  have nLx : Lx.length = 40 := by rw [eLx, arr_len]
  have nLy : Ly.length = 40 := by rw [eLy, arr_len]
  have nLz : Lz.length = 40 := by rw [eLz, arr_len]
  have oLz : ∀ v ∈ Lz, v.oneCell' = true := by rw [eLz]; exact arr_oneL _
  have HLx := Lib.hid hLx
  have HLy := Lib.hid hLy
  have HLz := Lib.hid hLz
  have HEz := Lib.hid eLz
  clear hLx hLy hLz eLx eLy eLz
  go_upto_region 2 with (first
    | (refine wpList_load_mid rfl 111 _ rfl w.heap.size 2 rfl Lx _ g0 Tryz.underlying111 rfl (by rw [nLx]; exact flow_info) ?_)
    | (refine wpList_load_mid rfl 111 _ rfl (w.heap.size + 1) 0 rfl Ly _ g1 Tryz.underlying111 rfl (by rw [nLy]; exact flow_info) ?_)
    | (go_at_call 92; rw [← HLx.out, ← HLy.out]; refine (plus_any _ x y t HX.out HM.out).mono ?_; rintro e wC ⟨rfl, hbC⟩; rw [HLz.out]; have a0 := A0.below hbC l0; have a2 := A2.below hbC l2; have t0 := a0.nthere)
    | (refine wpList_store_mid rfl 111 _ _ rfl w.heap.size 2 Lz.toArray rfl rfl (by show wC.there _ 2 Lz.length; rw [nLz]; exact t0) (by show _ = some Lz.length; rw [nLz]; exact flow_info) (all_oneCell_toArray oLz) ?_))
  have a3 := a0.nset (fun k => x k + y k * t)
  rw [← HEz.out] at a3
  have b3 := ((Only.refl w.heap.size wC).setCs Lz 2)
  have bC := B0.trans (hbC.mono (by omega))
  have sC := hbC.size
  have a4 := a2.only b3 (by omega)
  have b4 := bC.trans (b3.below (Nat.le_refl _))
  have l5 : w.heap.size < (wC.setCells w.heap.size 2 Lz).heap.size := a3.lt
  have l6 : w.heap.size + 1 + 1 < (wC.setCells w.heap.size 2 Lz).heap.size := a4.lt
  obtain ⟨w4, hw4⟩ : ∃ w4, wC.setCells w.heap.size 2 Lz = w4 := ⟨_, rfl⟩
  rw [hw4] at a3 a4 b4 l5 l6 ⊢
  clear hw4 b3 bC a0 a2 t0 hbC A0 A1 A2 B0 g0 g1
  have g5 := a3.nall
  have t5 := a4.there
  have HA4 := Lib.hid a4
  obtain ⟨Lw, eLw⟩ : ∃ L : List Value, nfL s0 s1 (fun k => x k + y k * t) = L := ⟨_, rfl⟩
  have nLw : Lw.length = 42 := by rw [← eLw, nfL_len]
  rw [eLw] at OS g5
  have HEw := Lib.hid eLw
  clear eLw a3 a4
  go_wp2_with (first
    | (refine wpList_load_mid rfl 115 _ rfl w.heap.size 0 rfl Lw _ g5 Tryz.underlying115 rfl (by rw [nLw]; exact nf_info) ?_)
    | (refine wpList_store_mid rfl 115 _ _ rfl (w.heap.size + 1 + 1) 0 Lw.toArray rfl rfl (by show w4.there _ 0 Lw.length; rw [nLw]; exact t5) (by show _ = some Lw.length; rw [nLw]; exact nf_info) (all_oneCell_toArray OS) ?_))
  have a6 := HA4.out.nput s0 s1 (fun k => x k + y k * t)
  rw [HEw.out] at a6
  exact bodyPost_ret (results_nf rfl rfl a6) rfl ⟨rfl, b4.trans (((Only.refl (w.heap.size + 1 + 1) w4).setCs Lw 0).below (by omega))⟩
end Go.Proofs.YtdbgcbkmcbgdiaaGreat.mem

namespace Go.Proofs.YtdbgcbkmcbgdiaaGreat.mem
open Go.RowKit
set_option linter.unusedVariables false

end Go.Proofs.YtdbgcbkmcbgdiaaGreat.mem

namespace Go.Proofs.YtdbgcbkmcbgdiaaGreat.mem
open Go.RowKit
set_option linter.unusedVariables false

end Go.Proofs.YtdbgcbkmcbgdiaaGreat.mem

namespace Go.Proofs.YtdbgcbkmcbgdiaaGreat.mem
open Go.RowKit
set_option linter.unusedVariables false

end Go.Proofs.YtdbgcbkmcbgdiaaGreat.mem

namespace Go.Proofs.YtdbgcbkmcbgdiaaGreat.mem
open Go.RowKit
set_option linter.unusedVariables false

set_option maxRecDepth 100000 in
set_option maxHeartbeats 8000000 in
theorem isImprovedBy_any (w : World) (p0 p1 : Option Addr) (c0 c1 : Nat) (n : Nat) (N : Nat → Nod) (m : Nat) (P : Nat → Pip) (lo hi : Nat) (h : NetAt w (.agg #[.slice p0 n c0, .slice p1 m c1]) n N m P lo hi) (hhi : hi ≤ w.heap.size) (hB : netB n N m P = true) (x : Nat → Int) (hx : ∀ k, k < 40 → -30000 ≤ x k ∧ x k ≤ 30000) (y : Nat → Int) (hy : ∀ k, k < 40 → -1 ≤ y k ∧ y k ≤ 1) (t : Int) (ht : -100000 ≤ t ∧ t ≤ 100000) :
    Calls Tryz.prog 168 #[.agg (nfL (.slice p0 n c0) (.slice p1 m c1) x).toArray, .agg (arr y), .int .i64 t] w fun e w' => e = .returned (.bool (loA m P x y t)) ∧ Below w.heap.size w w' := by
  obtain ⟨hn1, hn24, hm40⟩ := net_sz hB
  have HV := Lib.hid h
  have HX := Lib.hid hx
  have HBN := Lib.hid hB
  have HYB := Lib.hid (show ∀ k, k < 40 → (-4611686018427387904 ≤ x k + y k * t ∧ x k + y k * t ≤ 4611686018427387904) ∧ (-4611686018427387904 ≤ y k * t ∧ y k * t ≤ 4611686018427387904) from fun k hk => by
    have h1 := mulc ht (hy k hk)
    rw [Int.mul_comm] at h1
    have h2 := hx k hk
    omega)
  have A0 := (Ob.newN w (.slice p0 n c0) (.slice p1 m c1) x 115).keep (Below.heap_alloc _ (.cells (arr y) 111) _ (by rw [szal]; omega))
  have A1 := Ob.newA (w.alloc (.cells (nfL (.slice p0 n c0) (.slice p1 m c1) x).toArray 115)) y 111
  simp only [szal] at A1
  have B0 := (below_new w (.cells (nfL (.slice p0 n c0) (.slice p1 m c1) x).toArray 115)).trans ((below_new _ (.cells (arr y) 111)).mono (by rw [szal]; omega))
  have hs0 : ((w.alloc (.cells (nfL (.slice p0 n c0) (.slice p1 m c1) x).toArray 115)).alloc (.cells (arr y) 111)).heap.size = w.heap.size + 2 := by simp
  clear h hB hx hy
  go_enter Tryz.func168, Tryz.ntmps168
  go_upto_region 1 with (fail)
  obtain ⟨w1, hw1⟩ : ∃ w1, (w.alloc (.cells (nfL (.slice p0 n c0) (.slice p1 m c1) x).toArray 115)).alloc (.cells (arr y) 111) = w1 := ⟨_, rfl⟩
  rw [hw1] at A0 A1 B0 hs0 ⊢
  clear hw1
  have g0 := A0.nall
  have g1 := A1.range
  have HA := Lib.hid A0
  have HB := Lib.hid B0
  obtain ⟨Ly, hLy, eLy⟩ : ∃ L : List Value, arr y = List.toArray L ∧ L = arrL y := ⟨_, rfl, rfl⟩
  rw [← eLy] at g1
  have nLy : Ly.length = 40 := by rw [eLy, arr_len]
  have HLy := Lib.hid hLy
  clear hLy eLy A0 A1 B0
  obtain ⟨z, hz⟩ : ∃ z : Nat → Int, (fun k => x k + y k * t) = z := ⟨_, rfl⟩
  have HZ := Lib.hid hz
  clear hz
  have T0 : ∀ W : World, (W.alloc (.cells #[Value.slice none 0 0, Value.slice none 0 0, Value.int IntKind.i64 0, Value.int IntKind.i64 0, Value.int IntKind.i64 0, Value.int IntKind.i64 0, Value.int IntKind.i64 0, Value.int IntKind.i64 0, Value.int IntKind.i64 0, Value.int IntKind.i64 0, Value.int IntKind.i64 0, Value.int IntKind.i64 0, Value.int IntKind.i64 0, Value.int IntKind.i64 0, Value.int IntKind.i64 0, Value.int IntKind.i64 0, Value.int IntKind.i64 0, Value.int IntKind.i64 0, Value.int IntKind.i64 0, Value.int IntKind.i64 0, Value.int IntKind.i64 0, Value.int IntKind.i64 0, Value.int IntKind.i64 0, Value.int IntKind.i64 0, Value.int IntKind.i64 0, Value.int IntKind.i64 0, Value.int IntKind.i64 0, Value.int IntKind.i64 0, Value.int IntKind.i64 0, Value.int IntKind.i64 0, Value.int IntKind.i64 0, Value.int IntKind.i64 0, Value.int IntKind.i64 0, Value.int IntKind.i64 0, Value.int IntKind.i64 0, Value.int IntKind.i64 0, Value.int IntKind.i64 0, Value.int IntKind.i64 0, Value.int IntKind.i64 0, Value.int IntKind.i64 0, Value.int IntKind.i64 0, Value.int IntKind.i64 0] 115)).there W.heap.size 0 42 := fun W => (Ob.newZ W _).there
  go_upto_region 2 with (first
    | (refine wpList_load_mid rfl 115 _ rfl w.heap.size 0 rfl (nfL (.slice p0 n c0) (.slice p1 m c1) x) _ g0 Tryz.underlying115 rfl (by rw [nfL_len]; exact nf_info) ?_)
    | (refine wpList_load_mid rfl 111 _ rfl (w.heap.size + 1) 0 rfl Ly _ g1 Tryz.underlying111 rfl (by rw [nLy]; exact flow_info) ?_)
    | (go_at_call 146; rw [← HLy.out]; refine (plusCycle_any _ (.slice p0 n c0) (.slice p1 m c1) rfl rfl x y t (fun k hk => (HYB.out k hk).1) (fun k hk => (HYB.out k hk).2)).mono ?_; rintro e wC ⟨rfl, hbC⟩; rw [HZ.out]; have tC := T0 wC)
    | (refine wpList_store_mid rfl 115 _ _ rfl wC.heap.size 0 (nfL (.slice p0 n c0) (.slice p1 m c1) z).toArray rfl rfl (by show (wC.alloc _).there _ 0 (nfL _ _ _).length; rw [nfL_len]; exact tC) (by show _ = some (nfL _ _ _).length; rw [nfL_len]; exact nf_info) (all_oneCell_toArray nf_one) ?_))
  clear T0 tC
  have sC := hbC.size
  have C0 := (Ob.newZ wC 115).nput (.slice p0 n c0) (.slice p1 m c1) z
  have lC : wC.heap.size < ((wC.alloc (.cells #[Value.slice none 0 0, Value.slice none 0 0, Value.int IntKind.i64 0, Value.int IntKind.i64 0, Value.int IntKind.i64 0, Value.int IntKind.i64 0, Value.int IntKind.i64 0, Value.int IntKind.i64 0, Value.int IntKind.i64 0, Value.int IntKind.i64 0, Value.int IntKind.i64 0, Value.int IntKind.i64 0, Value.int IntKind.i64 0, Value.int IntKind.i64 0, Value.int IntKind.i64 0, Value.int IntKind.i64 0, Value.int IntKind.i64 0, Value.int IntKind.i64 0, Value.int IntKind.i64 0, Value.int IntKind.i64 0, Value.int IntKind.i64 0, Value.int IntKind.i64 0, Value.int IntKind.i64 0, Value.int IntKind.i64 0, Value.int IntKind.i64 0, Value.int IntKind.i64 0, Value.int IntKind.i64 0, Value.int IntKind.i64 0, Value.int IntKind.i64 0, Value.int IntKind.i64 0, Value.int IntKind.i64 0, Value.int IntKind.i64 0, Value.int IntKind.i64 0, Value.int IntKind.i64 0, Value.int IntKind.i64 0, Value.int IntKind.i64 0, Value.int IntKind.i64 0, Value.int IntKind.i64 0, Value.int IntKind.i64 0, Value.int IntKind.i64 0, Value.int IntKind.i64 0, Value.int IntKind.i64 0] 115)).setCells wC.heap.size 0 (nfL (.slice p0 n c0) (.slice p1 m c1) z)).heap.size := C0.lt
  have bC := (hbC.mono (Nat.le_refl _)).trans ((below_new wC (.cells #[Value.slice none 0 0, Value.slice none 0 0, Value.int IntKind.i64 0, Value.int IntKind.i64 0, Value.int IntKind.i64 0, Value.int IntKind.i64 0, Value.int IntKind.i64 0, Value.int IntKind.i64 0, Value.int IntKind.i64 0, Value.int IntKind.i64 0, Value.int IntKind.i64 0, Value.int IntKind.i64 0, Value.int IntKind.i64 0, Value.int IntKind.i64 0, Value.int IntKind.i64 0, Value.int IntKind.i64 0, Value.int IntKind.i64 0, Value.int IntKind.i64 0, Value.int IntKind.i64 0, Value.int IntKind.i64 0, Value.int IntKind.i64 0, Value.int IntKind.i64 0, Value.int IntKind.i64 0, Value.int IntKind.i64 0, Value.int IntKind.i64 0, Value.int IntKind.i64 0, Value.int IntKind.i64 0, Value.int IntKind.i64 0, Value.int IntKind.i64 0, Value.int IntKind.i64 0, Value.int IntKind.i64 0, Value.int IntKind.i64 0, Value.int IntKind.i64 0, Value.int IntKind.i64 0, Value.int IntKind.i64 0, Value.int IntKind.i64 0, Value.int IntKind.i64 0, Value.int IntKind.i64 0, Value.int IntKind.i64 0, Value.int IntKind.i64 0, Value.int IntKind.i64 0, Value.int IntKind.i64 0] 115)).mono sC)
  have bC2 := bC.trans (((Only.refl wC.heap.size (wC.alloc (.cells #[Value.slice none 0 0, Value.slice none 0 0, Value.int IntKind.i64 0, Value.int IntKind.i64 0, Value.int IntKind.i64 0, Value.int IntKind.i64 0, Value.int IntKind.i64 0, Value.int IntKind.i64 0, Value.int IntKind.i64 0, Value.int IntKind.i64 0, Value.int IntKind.i64 0, Value.int IntKind.i64 0, Value.int IntKind.i64 0, Value.int IntKind.i64 0, Value.int IntKind.i64 0, Value.int IntKind.i64 0, Value.int IntKind.i64 0, Value.int IntKind.i64 0, Value.int IntKind.i64 0, Value.int IntKind.i64 0, Value.int IntKind.i64 0, Value.int IntKind.i64 0, Value.int IntKind.i64 0, Value.int IntKind.i64 0, Value.int IntKind.i64 0, Value.int IntKind.i64 0, Value.int IntKind.i64 0, Value.int IntKind.i64 0, Value.int IntKind.i64 0, Value.int IntKind.i64 0, Value.int IntKind.i64 0, Value.int IntKind.i64 0, Value.int IntKind.i64 0, Value.int IntKind.i64 0, Value.int IntKind.i64 0, Value.int IntKind.i64 0, Value.int IntKind.i64 0, Value.int IntKind.i64 0, Value.int IntKind.i64 0, Value.int IntKind.i64 0, Value.int IntKind.i64 0, Value.int IntKind.i64 0] 115))).setCs (nfL (.slice p0 n c0) (.slice p1 m c1) z) 0).below sC)
  obtain ⟨w3, hw3⟩ : ∃ w3, (wC.alloc (.cells #[Value.slice none 0 0, Value.slice none 0 0, Value.int IntKind.i64 0, Value.int IntKind.i64 0, Value.int IntKind.i64 0, Value.int IntKind.i64 0, Value.int IntKind.i64 0, Value.int IntKind.i64 0, Value.int IntKind.i64 0, Value.int IntKind.i64 0, Value.int IntKind.i64 0, Value.int IntKind.i64 0, Value.int IntKind.i64 0, Value.int IntKind.i64 0, Value.int IntKind.i64 0, Value.int IntKind.i64 0, Value.int IntKind.i64 0, Value.int IntKind.i64 0, Value.int IntKind.i64 0, Value.int IntKind.i64 0, Value.int IntKind.i64 0, Value.int IntKind.i64 0, Value.int IntKind.i64 0, Value.int IntKind.i64 0, Value.int IntKind.i64 0, Value.int IntKind.i64 0, Value.int IntKind.i64 0, Value.int IntKind.i64 0, Value.int IntKind.i64 0, Value.int IntKind.i64 0, Value.int IntKind.i64 0, Value.int IntKind.i64 0, Value.int IntKind.i64 0, Value.int IntKind.i64 0, Value.int IntKind.i64 0, Value.int IntKind.i64 0, Value.int IntKind.i64 0, Value.int IntKind.i64 0, Value.int IntKind.i64 0, Value.int IntKind.i64 0, Value.int IntKind.i64 0, Value.int IntKind.i64 0] 115)).setCells wC.heap.size 0 (nfL (.slice p0 n c0) (.slice p1 m c1) z) = w3 := ⟨_, rfl⟩
  obtain ⟨bc, hbc⟩ : ∃ bc, wC.heap.size = bc := ⟨_, rfl⟩
  rw [hw3] at C0 bC2 lC ⊢
  rw [hbc] at C0 sC lC ⊢
  clear hw3 hbc bC hbC g0 g1
  have HA3 := Lib.hid (HA.out.below bC2 (by omega))
  have HB3 := Lib.hid (HB.out.trans (bC2.mono (by omega)))
  have HC3 := Lib.hid C0
  have l3 : w.heap.size < w3.heap.size := by omega
  have hi3 : hi ≤ w3.heap.size := by omega
  have hw3 : w.heap.size ≤ w3.heap.size := by omega
  clear bC2 C0 HA HB
  have g0 := HA3.out.nall
  have g1 := HC3.out.nall
  cases hf : flB z 40
  · have KS : ∀ W : World, Below w3.heap.size w3 W → (Below w3.heap.size w3 W ∧ W.rangeAt bc 0 (nfL (.slice p0 n c0) (.slice p1 m c1) z) ∧ W.rangeAt w.heap.size 0 (nfL (.slice p0 n c0) (.slice p1 m c1) x)) := fun W hW => ⟨hW, range_blockN g1 (hW.block _ lC), range_blockN g0 (hW.block _ l3)⟩
    have HL := Lib.hid (show loA m P x y t = false by unfold loA; rw [HZ.out, hf]; rfl)
    refine wp_region_noPanic ?_
    refine wp_region_held_drew (S := fun w' : World => Below w3.heap.size w3 w' ∧ w'.rangeAt bc 0 (nfL (.slice p0 n c0) (.slice p1 m c1) z) ∧ w'.rangeAt w.heap.size 0 (nfL (.slice p0 n c0) (.slice p1 m c1) x)) (by kernel_rfl) (KS _ (below_drw (Below.refl _ _))) (fun sH => ?_)
    refine wpAnyH_take (i := 0) (v := .agg (nfL (.slice p0 n c0) (.slice p1 m c1) z).toArray) nthe0 (by kernel_rfl) (by kernel_rfl) (by kernel_rfl) (fun _ _ _ h => h) (yieldsIf_load_mid (by rfl) _ _ rfl bc 0 rfl (nfL (.slice p0 n c0) (.slice p1 m c1) z) _ (fun _ h => h.2.1) Tryz.underlying115 rfl (by rw [nfL_len]; exact nf_info)) sH ?_
    try simp only [Act.put, List.setIfInBounds_toArray]
    refine wpAnyH_ready (rs := [1]) (by kernel_rfl) (by simp) (AllReadyH.cons nthe1 (fun KX hKX => ?_) AllReadyH.nil)
    clear sH
    go_simp
    refine (areAllowed_any _ _ _ z).mono ?_
    rintro e wX ⟨rfl, hbX⟩
    rw [hf]
    have KX1 := below_dr0 hbX
    refine hKX.out _ _ (KS _ KX1) (fun sH => ?_)
    clear hKX KX
    try simp only [Act.put, List.setIfInBounds_toArray, List.set_cons_succ]
    refine wpAnyH_take (i := 2) (v := ?_) nthe2 (by kernel_rfl) (by kernel_rfl) (by kernel_rfl) (fun _ _ _ h => h) (Or.inl ⟨by rfl, ?_⟩) sH ?_
    rotate_left
    · intro wS hSw; (try dsimp only at hSw); go_simp; try with_reducible rfl
    try simp only [Act.put, List.setIfInBounds_toArray, List.set_cons_zero, List.set_cons_succ]
    refine wpAnyH_take (i := 3) (v := undef) nthe3 (by kernel_rfl) (by kernel_rfl) (by kernel_rfl) (fun _ _ _ h => h) (Or.inr ⟨by rfl, rfl⟩) sH ?_
    try simp only [Act.put, List.setIfInBounds_toArray, List.set_cons_zero, List.set_cons_succ]
    refine wpAnyH_take (i := 4) (v := undef) nthe4 (by kernel_rfl) (by kernel_rfl) (by kernel_rfl) (fun _ _ _ h => h) (Or.inr ⟨by rfl, rfl⟩) sH ?_
    try simp only [Act.put, List.setIfInBounds_toArray, List.set_cons_zero, List.set_cons_succ]
    refine wpAnyH_take (i := 5) (v := undef) nthe5 (by kernel_rfl) (by kernel_rfl) (by kernel_rfl) (fun _ _ _ h => h) (Or.inr ⟨by rfl, rfl⟩) sH ?_
    try simp only [Act.put, List.setIfInBounds_toArray, List.set_cons_zero, List.set_cons_succ]
    refine wpAnyH_take (i := 6) (v := undef) nthe6 (by kernel_rfl) (by kernel_rfl) (by kernel_rfl) (fun _ _ _ h => h) (Or.inr ⟨by rfl, rfl⟩) sH ?_
    try simp only [Act.put, List.setIfInBounds_toArray, List.set_cons_zero, List.set_cons_succ]
    refine wpAnyH_take (i := 7) (v := undef) nthe7 (by kernel_rfl) (by kernel_rfl) (by kernel_rfl) (fun _ _ _ h => h) (Or.inr ⟨by rfl, rfl⟩) sH ?_
    try simp only [Act.put, List.setIfInBounds_toArray, List.set_cons_zero, List.set_cons_succ]
    refine wpAnyH_take (i := 8) (v := ?_) nthe8 (by kernel_rfl) (by kernel_rfl) (by kernel_rfl) (fun _ _ _ h => h) (Or.inl ⟨by rfl, ?_⟩) sH ?_
    rotate_left
    · intro wS hSw; (try dsimp only at hSw); go_simp; try with_reducible rfl
    try simp only [Act.put, List.setIfInBounds_toArray, List.set_cons_zero, List.set_cons_succ]
    refine wpAnyH_take (i := 9) (v := ?_) nthe9 (by kernel_rfl) (by kernel_rfl) (by kernel_rfl) (fun _ _ _ h => h) (Or.inl ⟨by rfl, ?_⟩) sH ?_
    rotate_left
    · intro wS hSw; (try dsimp only at hSw); go_simp; try with_reducible rfl
    try simp only [Act.put, List.setIfInBounds_toArray, List.set_cons_zero, List.set_cons_succ]
    refine wpAnyH_done (by kernel_rfl) ?_ _
    refine NoPanic.normal ?_
    go_wp2_with fail
    go_ret
    exact ⟨ret_b HL.out.symm, HB3.out.trans (KX1.mono (by omega))⟩
  · have KS : ∀ W : World, Below w3.heap.size w3 W → (Below w3.heap.size w3 W ∧ W.rangeAt bc 0 (nfL (.slice p0 n c0) (.slice p1 m c1) z) ∧ W.rangeAt w.heap.size 0 (nfL (.slice p0 n c0) (.slice p1 m c1) x)) := fun W hW => ⟨hW, range_blockN g1 (hW.block _ lC), range_blockN g0 (hW.block _ l3)⟩
    have HL := Lib.hid (show loA m P x y t = decide (egS P z m < egS P x m) by unfold loA; rw [HZ.out, hf]; rfl)
    have HZR := Lib.hid (show ∀ k, k < m → -30000 ≤ z k ∧ z k ≤ 30000 from fun k hk => flQ_iff.1 (flB_iff.1 hf k (by omega)))
    have HX40 := Lib.hid (show ∀ k, k < m → -30000 ≤ x k ∧ x k ≤ 30000 from fun k hk => HX.out k (by omega))
    refine wp_region_noPanic ?_
    refine wp_region_held_drew (S := fun w' : World => Below w3.heap.size w3 w' ∧ w'.rangeAt bc 0 (nfL (.slice p0 n c0) (.slice p1 m c1) z) ∧ w'.rangeAt w.heap.size 0 (nfL (.slice p0 n c0) (.slice p1 m c1) x)) (by kernel_rfl) (KS _ (below_drw (Below.refl _ _))) (fun sH => ?_)
    refine wpAnyH_take (i := 0) (v := .agg (nfL (.slice p0 n c0) (.slice p1 m c1) z).toArray) nthe0 (by kernel_rfl) (by kernel_rfl) (by kernel_rfl) (fun _ _ _ h => h) (yieldsIf_load_mid (by rfl) _ _ rfl bc 0 rfl (nfL (.slice p0 n c0) (.slice p1 m c1) z) _ (fun _ h => h.2.1) Tryz.underlying115 rfl (by rw [nfL_len]; exact nf_info)) sH ?_
    try simp only [Act.put, List.setIfInBounds_toArray, List.set_cons_zero, List.set_cons_succ]
    refine wpAnyH_ready (rs := [1]) (by kernel_rfl) (by simp) (AllReadyH.cons nthe1 (fun KX hKX => ?_) AllReadyH.nil)
    clear sH
    go_simp
    refine (areAllowed_any _ _ _ z).mono ?_
    rintro e wX ⟨rfl, hbX⟩
    rw [hf]
    have KX1 := below_dr0 hbX
    have zX := KX1.size
    refine hKX.out _ _ (KS _ KX1) (fun sH => ?_)
    clear hKX KX
    try simp only [Act.put, List.setIfInBounds_toArray, List.set_cons_zero, List.set_cons_succ]
    refine wpAnyH_take (i := 2) (v := ?_) nthe2 (by kernel_rfl) (by kernel_rfl) (by kernel_rfl) (fun _ _ _ h => h) (Or.inl ⟨by rfl, ?_⟩) sH ?_
    rotate_left
    · intro wS hSw; (try dsimp only at hSw); go_simp; try with_reducible rfl
    try simp only [Act.put, List.setIfInBounds_toArray, List.set_cons_zero, List.set_cons_succ]
    refine wpAnyH_take (i := 3) (v := .agg (nfL (.slice p0 n c0) (.slice p1 m c1) z).toArray) nthe3 (by kernel_rfl) (by kernel_rfl) (by kernel_rfl) (fun _ _ _ h => h) (yieldsIf_load_mid (by rfl) _ _ rfl bc 0 rfl (nfL (.slice p0 n c0) (.slice p1 m c1) z) _ (fun _ h => h.2.1) Tryz.underlying115 rfl (by rw [nfL_len]; exact nf_info)) sH ?_
    try simp only [Act.put, List.setIfInBounds_toArray, List.set_cons_zero, List.set_cons_succ]
    refine wpAnyH_take (i := 5) (v := .agg (nfL (.slice p0 n c0) (.slice p1 m c1) x).toArray) nthe5 (by kernel_rfl) (by kernel_rfl) (by kernel_rfl) (fun _ _ _ h => h) (yieldsIf_load_mid (by rfl) _ _ rfl w.heap.size 0 rfl (nfL (.slice p0 n c0) (.slice p1 m c1) x) _ (fun _ h => h.2.2) Tryz.underlying115 rfl (by rw [nfL_len]; exact nf_info)) sH ?_
    try simp only [Act.put, List.setIfInBounds_toArray, List.set_cons_zero, List.set_cons_succ]
    refine wpAnyH_ready (rs := [4]) (by kernel_rfl) (by simp) (AllReadyH.cons nthe4 (fun KX hKX => ?_) AllReadyH.nil)
    clear sH
    go_simp
    refine (energy_any wX p0 p1 c0 c1 n N m P lo hi (HV.out.below (HB3.out.trans (KX1.mono (by omega))) hhi) (by omega) HBN.out z HZR.out).mono ?_
    rintro e wY ⟨rfl, hbY⟩
    have KX2 := KX1.trans (hbY.mono (by omega))
    have zY := KX2.size
    refine hKX.out _ _ (KS _ KX2) (fun sH => ?_)
    clear hKX KX
    try simp only [Act.put, List.setIfInBounds_toArray, List.set_cons_zero, List.set_cons_succ]
    refine wpAnyH_ready (rs := [6]) (by kernel_rfl) (by simp) (AllReadyH.cons nthe6 (fun KX hKX => ?_) AllReadyH.nil)
    clear sH
    go_simp
    refine (energy_any wY p0 p1 c0 c1 n N m P lo hi (HV.out.below (HB3.out.trans (KX2.mono (by omega))) hhi) (by omega) HBN.out x HX40.out).mono ?_
    rintro e wZ ⟨rfl, hbZ⟩
    have KX3 := KX2.trans (hbZ.mono (by omega))
    refine hKX.out _ _ (KS _ KX3) (fun sH => ?_)
    clear hKX KX
    try simp only [Act.put, List.setIfInBounds_toArray, List.set_cons_zero, List.set_cons_succ]
    refine wpAnyH_take (i := 7) (v := ?_) nthe7 (by kernel_rfl) (by kernel_rfl) (by kernel_rfl) (fun _ _ _ h => h) (Or.inl ⟨by rfl, ?_⟩) sH ?_
    rotate_left
    · intro wS hSw; (try dsimp only at hSw); go_simp; try with_reducible rfl
    try simp only [Act.put, List.setIfInBounds_toArray, List.set_cons_zero, List.set_cons_succ]
    refine wpAnyH_take (i := 8) (v := ?_) nthe8 (by kernel_rfl) (by kernel_rfl) (by kernel_rfl) (fun _ _ _ h => h) (Or.inl ⟨by rfl, ?_⟩) sH ?_
    rotate_left
    · intro wS hSw; (try dsimp only at hSw); go_simp; try with_reducible rfl
    try simp only [Act.put, List.setIfInBounds_toArray, List.set_cons_zero, List.set_cons_succ]
    refine wpAnyH_take (i := 9) (v := ?_) nthe9 (by kernel_rfl) (by kernel_rfl) (by kernel_rfl) (fun _ _ _ h => h) (Or.inl ⟨by rfl, ?_⟩) sH ?_
    rotate_left
    · intro wS hSw; (try dsimp only at hSw); go_simp; try with_reducible rfl
    try simp only [Act.put, List.setIfInBounds_toArray, List.set_cons_zero, List.set_cons_succ]
    refine wpAnyH_done (by kernel_rfl) ?_ _
    refine NoPanic.normal ?_
    go_wp2_with fail
    go_ret
    exact ⟨ret_b HL.out.symm, HB3.out.trans (KX3.mono (by omega))⟩
end Go.Proofs.YtdbgcbkmcbgdiaaGreat.mem

namespace Go.Proofs.YtdbgcbkmcbgdiaaGreat.mem
open Go.RowKit
set_option linter.unusedVariables false

end Go.Proofs.YtdbgcbkmcbgdiaaGreat.mem

namespace Go.Proofs.YtdbgcbkmcbgdiaaGreat.mem
open Go.RowKit
set_option linter.unusedVariables false

end Go.Proofs.YtdbgcbkmcbgdiaaGreat.mem

namespace Go.Proofs.YtdbgcbkmcbgdiaaGreat.mem
open Go.RowKit
set_option linter.unusedVariables false

end Go.Proofs.YtdbgcbkmcbgdiaaGreat.mem

namespace Go.Proofs.YtdbgcbkmcbgdiaaGreat.mem
open Go.RowKit
set_option linter.unusedVariables false

end Go.Proofs.YtdbgcbkmcbgdiaaGreat.mem

namespace Go.Proofs.YtdbgcbkmcbgdiaaGreat.mem
open Go.RowKit
set_option linter.unusedVariables false

end Go.Proofs.YtdbgcbkmcbgdiaaGreat.mem

namespace Go.Proofs.YtdbgcbkmcbgdiaaGreat.mem
open Go.RowKit
set_option linter.unusedVariables false

/-- one chord of a pass -/
def psT (m : Nat) (P : Nat → Pip) (y : Nat → Int) (step left : Int) (s : (Nat → Int) × Int) : (Nat → Int) × Int :=
  if s.2 < left then (if loB m P s.1 y step = true then (fun k => s.1 k + step * y k, s.2 + 1) else if loB m P s.1 y (-step) = true then (fun k => s.1 k + (-step) * y k, s.2 + 1) else s) else s
/-- a pass through the first chords -/
def psS (m : Nat) (P : Nat → Pip) (Y : Nat → Nat → Int) (x : Nat → Int) (step left : Int) : Nat → (Nat → Int) × Int
  | 0 => (x, 0)
  | j + 1 => psT m P (Y j) step left (psS m P Y x step left j)
theorem loB_rng {m : Nat} {P : Nat → Pip} {x y : Nat → Int} {t : Int} (h : loB m P x y t = true) : ∀ k, k < m → -30000 ≤ x k + t * y k ∧ x k + t * y k ≤ 30000 := by
  unfold loB at h
  rw [Bool.and_eq_true] at h
  exact fun k hk => flQ_iff.1 (flB_iff.1 h.1 k hk)
theorem psS_rng {m : Nat} {P : Nat → Pip} {Y : Nat → Nat → Int} {x : Nat → Int} {step left : Int} (hx : ∀ k, k < m → -30000 ≤ x k ∧ x k ≤ 30000) : ∀ j k, k < m → -30000 ≤ (psS m P Y x step left j).1 k ∧ (psS m P Y x step left j).1 k ≤ 30000
  | 0, k, hk => hx k hk
  | j + 1, k, hk => by
    unfold psS psT
    split
    · split
      · next h => exact loB_rng h k hk
      · split
        · next h => exact loB_rng h k hk
        · exact psS_rng hx j k hk
    · exact psS_rng hx j k hk
theorem psS_cnt {m : Nat} {P : Nat → Pip} {Y : Nat → Nat → Int} {x : Nat → Int} {step left : Int} (hl : 0 ≤ left) : ∀ j : Nat, 0 ≤ (psS m P Y x step left j).2 ∧ (psS m P Y x step left j).2 ≤ left ∧ (psS m P Y x step left j).2 ≤ j
  | 0 => by simp [psS, hl]
  | j + 1 => by
    have h := psS_cnt (m := m) (P := P) (Y := Y) (x := x) (step := step) hl j
    unfold psS psT
    split
    · split
      · dsimp only; omega
      · split
        · dsimp only; omega
        · omega
    · omega
theorem psS_stop {m : Nat} {P : Nat → Pip} {Y : Nat → Nat → Int} {x : Nat → Int} {step left : Int} {i : Nat} (h : ¬ (psS m P Y x step left i).2 < left) : ∀ {j : Nat}, i ≤ j → psS m P Y x step left j = psS m P Y x step left i
  | 0, hj => by rw [show i = 0 by omega]
  | j + 1, hj => by
    by_cases e : i = j + 1
    · rw [e]
    · have h1 := psS_stop h (by omega : i ≤ j)
      show psT m P (Y j) step left (psS m P Y x step left j) = _
      rw [h1]
      unfold psT
      rw [if_neg h]
/-- relaxing: so many passes at most -/
def rlS (m : Nat) (P : Nat → Pip) (Y : Nat → Nat → Int) (C : Nat) : Nat → (Nat → Int) → Int → Int → (Nat → Int) × Int
  | 0, x, tot, _ => (x, tot)
  | f + 1, x, tot, st => if 1 ≤ st ∧ tot < 5000 then rlS m P Y C f (psS m P Y x st (5000 - tot) C).1 (tot + (psS m P Y x st (5000 - tot) C).2) (if (psS m P Y x st (5000 - tot) C).2 = 0 then st / 2 else st) else (x, tot)
theorem rlS_stop {m : Nat} {P : Nat → Pip} {Y : Nat → Nat → Int} {C f : Nat} {x : Nat → Int} {tot st : Int} (h : ¬ (1 ≤ st ∧ tot < 5000)) : rlS m P Y C f x tot st = (x, tot) := by
  cases f with
  | zero => rfl
  | succ f => unfold rlS; rw [if_neg h]
theorem rlS_next {m : Nat} {P : Nat → Pip} {Y : Nat → Nat → Int} {C f : Nat} {x : Nat → Int} {tot st : Int} (h : 1 ≤ st ∧ tot < 5000) : rlS m P Y C (f + 1) x tot st = rlS m P Y C f (psS m P Y x st (5000 - tot) C).1 (tot + (psS m P Y x st (5000 - tot) C).2) (if (psS m P Y x st (5000 - tot) C).2 = 0 then st / 2 else st) := by
  show (if 1 ≤ st ∧ tot < 5000 then _ else _) = _
  rw [if_pos h]
/-- relaxing from a step -/
def rlx (m : Nat) (P : Nat → Pip) (Y : Nat → Nat → Int) (C : Nat) (x : Nat → Int) (st : Int) : (Nat → Int) × Int := rlS m P Y C (5000 + st.toNat) x 0 st
theorem rlS_rng {m : Nat} {P : Nat → Pip} {Y : Nat → Nat → Int} {C : Nat} : ∀ (f : Nat) {x : Nat → Int} {tot st : Int}, (∀ k, k < m → -30000 ≤ x k ∧ x k ≤ 30000) → ∀ k, k < m → -30000 ≤ (rlS m P Y C f x tot st).1 k ∧ (rlS m P Y C f x tot st).1 k ≤ 30000
  | 0, x, tot, st, hx, k, hk => hx k hk
  | f + 1, x, tot, st, hx, k, hk => by
    unfold rlS
    split
    · exact rlS_rng f (fun k hk => psS_rng hx C k hk) k hk
    · exact hx k hk


/-! What a pass and relaxing do -/
theorem psS_ind {m : Nat} {P : Nat → Pip} {Y : Nat → Nat → Int} {x : Nat → Int} {step left : Int} (Q : (Nat → Int) → Prop) : ∀ {C : Nat}, (∀ z j t, j < C → Q z → Q (fun k => z k + t * Y j k)) → Q x → Q (psS m P Y x step left C).1
  | 0, _, h => h
  | C + 1, g, h => by
    have ih := psS_ind (m := m) (P := P) (step := step) (left := left) Q (C := C) (fun z j t hj => g z j t (by omega)) h
    unfold psS psT
    split
    · split
      · exact g _ C _ (by omega) ih
      · split
        · exact g _ C _ (by omega) ih
        · exact ih
    · exact ih
theorem rlS_ind {m : Nat} {P : Nat → Pip} {Y : Nat → Nat → Int} {C : Nat} (Q : (Nat → Int) → Prop) (g : ∀ z j t, j < C → Q z → Q (fun k => z k + t * Y j k)) : ∀ (f : Nat) {x : Nat → Int} {tot st : Int}, Q x → Q (rlS m P Y C f x tot st).1
  | 0, x, tot, st, h => h
  | f + 1, x, tot, st, h => by
    unfold rlS
    split
    · exact rlS_ind Q g f (psS_ind Q g h)
    · exact h
/-! Steps -/
/-- a power of two, by halving -/
def p2N : Nat → Nat → Bool
  | 0, _ => false
  | f + 1, x => x == 1 || (x % 2 == 0 && p2N f (x / 2))
/-- a step -/
def stB (x : Int) : Bool := p2N 16 x.toNat && decide (0 < x)
theorem and_pred (x : Nat) (h : 2 ≤ x) : x &&& (x - 1) = if x % 2 = 0 then 2 * ((x / 2) &&& (x / 2 - 1)) else x - 1 := by
  apply Nat.eq_of_testBit_eq
  intro i
  rw [Nat.testBit_and]
  by_cases hp : x % 2 = 0
  · rw [if_pos hp]
    cases i with
    | zero =>
      simp only [Nat.testBit_zero]
      rw [show 2 * (x / 2 &&& x / 2 - 1) % 2 = 0 by omega]
      simp [hp]
    | succ i =>
      rw [Nat.testBit_succ, Nat.testBit_succ, Nat.testBit_succ, show (x - 1) / 2 = x / 2 - 1 by omega, Nat.mul_div_cancel_left _ (by omega : 0 < 2), Nat.testBit_and]
  · rw [if_neg hp]
    cases i with
    | zero =>
      simp only [Nat.testBit_zero]
      rw [show (x - 1) % 2 = 0 by omega]
      simp
    | succ i =>
      rw [Nat.testBit_succ, Nat.testBit_succ, show (x - 1) / 2 = x / 2 by omega, Bool.and_self]
theorem and_p2 : ∀ (f x : Nat), 1 ≤ x → x < 2 ^ f → ((x &&& (x - 1)) = 0 ↔ p2N f x = true)
  | 0, x, h0, h1 => by omega
  | f + 1, x, h0, h1 => by
    unfold p2N
    by_cases e : x = 1
    · subst e
      simp
    · rw [and_pred x (by omega), show (x == 1) = false by simpa using e, Bool.false_or]
      by_cases hp : x % 2 = 0
      · rw [if_pos hp]
        have h2 : x / 2 < 2 ^ f := by rw [Nat.pow_succ] at h1; omega
        have ih := and_p2 f (x / 2) (by omega) h2
        rw [Bool.and_eq_true, ← ih]
        simp only [beq_iff_eq]
        omega
      · rw [if_neg hp, show (x % 2 == 0) = false by simpa using hp, Bool.false_and]
        constructor
        · intro h; omega
        · intro h; exact absurd h (by simp)
theorem p2N_pow : ∀ (f x : Nat), p2N f x = true ↔ ∃ k, k < f ∧ x = 2 ^ k
  | 0, x => by
    constructor
    · intro h; exact absurd h (by simp [p2N])
    · rintro ⟨k, hk, _⟩; omega
  | f + 1, x => by
    unfold p2N
    rw [Bool.or_eq_true, Bool.and_eq_true, p2N_pow f, beq_iff_eq, beq_iff_eq]
    constructor
    · rintro (h | ⟨h1, k, hk, h2⟩)
      · exact ⟨0, by omega, by rw [h]; try rfl⟩
      · exact ⟨k + 1, by omega, by rw [Nat.pow_succ]; omega⟩
    · rintro ⟨k, hk, h⟩
      cases k with
      | zero => left; rw [h]; try rfl
      | succ k =>
        rw [Nat.pow_succ] at h
        exact .inr ⟨by omega, k, by omega, by omega⟩
theorem stB_rng {x : Int} (h : stB x = true) : 1 ≤ x ∧ x ≤ 32768 := by
  unfold stB at h
  rw [Bool.and_eq_true, decide_eq_true_iff, p2N_pow] at h
  obtain ⟨⟨k, hk, e⟩, h0⟩ := h
  have h1 : 2 ^ k ≤ 2 ^ 15 := Nat.pow_le_pow_right (by omega) (by omega)
  have h2 : (2 : Nat) ^ 15 = 32768 := by decide
  omega

/-! The best multiple of a cycle -/
/-- the energy after adding a cycle so many times -/
def egC (P : Nat → Pip) (x y : Nat → Int) (m : Nat) (t : Int) : Int := egS P (fun k => x k + t * y k) m
theorem cube_conv (x s : Int) (hs : s = 1 ∨ s = -1) : 2 * (((x + s).natAbs : Int) * ((x + s).natAbs : Int) * ((x + s).natAbs : Int)) + 1 ≤ (x.natAbs : Int) * (x.natAbs : Int) * (x.natAbs : Int) + ((x + s + s).natAbs : Int) * ((x + s + s).natAbs : Int) * ((x + s + s).natAbs : Int) := by
  have key : ∀ a b : Int, 0 ≤ a → (b = a + 1) → 2 * (b * b * b) + 1 ≤ a * a * a + (b + 1) * (b + 1) * (b + 1) := by
    intro a b ha hb
    subst hb
    have e : a * a * a + (a + 1 + 1) * (a + 1 + 1) * (a + 1 + 1) = 2 * ((a + 1) * (a + 1) * (a + 1)) + 6 * a + 6 := by grind
    omega
  rcases (by omega : ((x + s).natAbs : Int) = (x.natAbs : Int) + 1 ∧ ((x + s + s).natAbs : Int) = ((x + s).natAbs : Int) + 1 ∨ (x.natAbs : Int) = ((x + s).natAbs : Int) + 1 ∧ ((x + s).natAbs : Int) = ((x + s + s).natAbs : Int) + 1 ∨ ((x + s).natAbs : Int) = 0 ∧ (x.natAbs : Int) = 1 ∧ ((x + s + s).natAbs : Int) = 1) with ⟨h1, h2⟩ | ⟨h1, h2⟩ | ⟨h1, h2, h3⟩
  · rw [h2]
    exact key _ _ (by omega) h1
  · have := key ((x + s + s).natAbs : Int) ((x + s).natAbs : Int) (by omega) h2
    rw [h1]
    omega
  · rw [h1, h2, h3]
    omega
/-- how many elements are not 0 -/
def nzC (y : Nat → Int) : Nat → Int
  | 0 => 0
  | k + 1 => nzC y k + (if y k = 0 then 0 else 1)
theorem nzC_pos {y : Nat → Int} {j : Nat} (hj : y j ≠ 0) : ∀ {k : Nat}, j < k → 1 ≤ nzC y k ∧ 0 ≤ nzC y k
  | 0, h => by omega
  | k + 1, h => by
    have h0 : ∀ i, 0 ≤ nzC y i := fun i => by
      induction i with
      | zero => exact Int.le_refl _
      | succ i ih => unfold nzC; split <;> omega
    unfold nzC
    by_cases e : j = k
    · subst e
      rw [if_neg hj]
      have := h0 j
      omega
    · have := (nzC_pos hj (k := k) (by omega)).1
      split <;> omega
theorem egT_conv {P : Nat → Pip} {x y : Nat → Int} {t : Int} {k : Nat} (hk : 1 ≤ (P k).k) (hy : -1 ≤ y k ∧ y k ≤ 1) :
    2 * egT P (fun j => x j + (t + 1) * y j) k + (if y k = 0 then 0 else 1) ≤ egT P (fun j => x j + t * y j) k + egT P (fun j => x j + (t + 1 + 1) * y j) k := by
  unfold egT
  dsimp only
  by_cases h0 : y k = 0
  · rw [if_pos h0, h0, Int.mul_zero, Int.mul_zero, Int.mul_zero]
    omega
  · rw [if_neg h0]
    have hs : y k = 1 ∨ y k = -1 := by omega
    have h1 := cube_conv (x k + t * y k) (y k) hs
    rw [show x k + (t + 1) * y k = x k + t * y k + y k by grind, show x k + (t + 1 + 1) * y k = x k + t * y k + y k + y k by grind]
    generalize ((x k + t * y k).natAbs : Int) = a at h1 ⊢
    generalize ((x k + t * y k + y k).natAbs : Int) = b at h1 ⊢
    generalize ((x k + t * y k + y k + y k).natAbs : Int) = c at h1 ⊢
    have h2 := Int.mul_le_mul_of_nonneg_left h1 (show 0 ≤ (P k).k by omega)
    have e1 : (P k).k * (2 * (b * b * b) + 1) = 2 * ((P k).k * b * b * b) + (P k).k := by grind
    have e2 : (P k).k * (a * a * a + c * c * c) = (P k).k * a * a * a + (P k).k * c * c * c := by grind
    rw [e1, e2] at h2
    omega
theorem egS_conv {P : Nat → Pip} {x y : Nat → Int} {t : Int} : ∀ {k : Nat}, (∀ j, j < k → 1 ≤ (P j).k) → (∀ j, j < k → -1 ≤ y j ∧ y j ≤ 1) →
    2 * egC P x y k (t + 1) + nzC y k ≤ egC P x y k t + egC P x y k (t + 1 + 1)
  | 0, _, _ => by simp [egC, egS, nzC]
  | k + 1, h, g => by
    have h1 := egS_conv (k := k) (x := x) (t := t) (fun j hj => h j (by omega : j < k + 1)) (fun j hj => g j (by omega : j < k + 1))
    have h2 := egT_conv (x := x) (t := t) (h k (by omega)) (g k (by omega))
    unfold egC at h1 ⊢
    rw [show egS P (fun j => x j + (t + 1) * y j) (k + 1) = egS P (fun j => x j + (t + 1) * y j) k + egT P (fun j => x j + (t + 1) * y j) k from rfl, show egS P (fun j => x j + t * y j) (k + 1) = egS P (fun j => x j + t * y j) k + egT P (fun j => x j + t * y j) k from rfl, show egS P (fun j => x j + (t + 1 + 1) * y j) (k + 1) = egS P (fun j => x j + (t + 1 + 1) * y j) k + egT P (fun j => x j + (t + 1 + 1) * y j) k from rfl, show nzC y (k + 1) = nzC y k + (if y k = 0 then 0 else 1) from rfl]
    omega
/-- what a cycle is: its elements are -1, 0 and 1, one is not 0, and the resistances are positive -/
structure CyO (P : Nat → Pip) (y : Nat → Int) (m : Nat) : Prop where
  k1 : ∀ j, j < m → 1 ≤ (P j).k
  y1 : ∀ j, j < m → -1 ≤ y j ∧ y j ≤ 1
  nz : ∃ j, j < m ∧ y j ≠ 0
theorem CyO.step {P : Nat → Pip} {x y : Nat → Int} {m : Nat} (h : CyO P y m) (t : Int) : egC P x y m (t + 1) - egC P x y m t < egC P x y m (t + 1 + 1) - egC P x y m (t + 1) := by
  obtain ⟨j, hj, hn⟩ := h.nz
  have h1 := (nzC_pos hn hj).1
  have h2 := egS_conv (x := x) (t := t) h.k1 h.y1
  omega
theorem CyO.grow {P : Nat → Pip} {x y : Nat → Int} {m : Nat} (h : CyO P y m) (t : Int) : ∀ i : Nat, egC P x y m (t + 1) - egC P x y m t + i ≤ egC P x y m (t + i + 1) - egC P x y m (t + i)
  | 0 => by simp
  | i + 1 => by
    have h1 := h.grow (x := x) t i
    have h2 := h.step (x := x) (t + i)
    rw [show t + ((i + 1 : Nat) : Int) = t + (i : Int) + 1 by omega]
    omega
theorem CyO.lt {P : Nat → Pip} {x y : Nat → Int} {m : Nat} (h : CyO P y m) {t u : Int} (htu : t < u) : egC P x y m (t + 1) - egC P x y m t < egC P x y m (u + 1) - egC P x y m u := by
  have h1 := h.grow (x := x) t (u - t).toNat
  rw [show t + ((u - t).toNat : Int) = u by omega] at h1
  omega
/-- the multiple is enough -/
def bePr (P : Nat → Pip) (x y : Nat → Int) (m : Nat) (t : Int) : Prop := egC P x y m (t + 1) - egC P x y m t > 0 ∨ egC P x y m (t + 1) - egC P x y m t = 0 ∧ t ≥ 0
/-- from here on the energy does not fall -/
def bfPr (P : Nat → Pip) (x y : Nat → Int) (m : Nat) (t : Int) : Prop := egC P x y m t ≤ egC P x y m (t + 1)
theorem CyO.be_mono {P : Nat → Pip} {x y : Nat → Int} {m : Nat} (h : CyO P y m) {t u : Int} (htu : t ≤ u) (hp : bePr P x y m t) : bePr P x y m u := by
  unfold bePr at *
  rcases Int.lt_or_eq_of_le htu with g | g
  · have := h.lt (x := x) g
    omega
  · rw [← g]; exact hp
/-- r is the least number from lo on that passes, or hi -/
structure Lst (p : Int → Prop) (lo hi r : Int) : Prop where
  ge : lo ≤ r
  le : r ≤ hi
  no : ∀ x, lo ≤ x → x < r → ¬ p x
  yes : r < hi → p r
theorem Lst.uniq {p : Int → Prop} {lo hi r s : Int} (h : Lst p lo hi r) (g : Lst p lo hi s) : r = s := by
  rcases Int.lt_trichotomy r s with e | e | e
  · exact absurd (h.yes (by have := g.le; omega)) (g.no r h.ge e)
  · exact e
  · exact absurd (g.yes (by have := h.le; omega)) (h.no s g.ge e)
/-- what halving keeps -/
structure Hlv (p : Int → Prop) (lo hi l h : Int) : Prop where
  a : lo ≤ l
  b : l ≤ h
  c : h ≤ hi
  no : ∀ x, lo ≤ x → x < l → ¬ p x
  yes : h < hi → p h
theorem Hlv.start (p : Int → Prop) {lo hi : Int} (h : lo ≤ hi) : Hlv p lo hi lo hi := ⟨Int.le_refl _, h, Int.le_refl _, fun x h1 h2 => by omega, fun h2 => by omega⟩
theorem Hlv.up {p : Int → Prop} {lo hi l h m : Int} (hm : ∀ x y, x ≤ y → p x → p y) (g : Hlv p lo hi l h) (h1 : l ≤ m) (h2 : m < h) (hp : ¬ p m) : Hlv p lo hi (m + 1) h :=
  ⟨by have := g.a; omega, by omega, g.c, fun x a b hx => hp (hm x m (by omega) hx), g.yes⟩
theorem Hlv.down {p : Int → Prop} {lo hi l h m : Int} (g : Hlv p lo hi l h) (h1 : l ≤ m) (h2 : m < h) (hp : p m) : Hlv p lo hi l m :=
  ⟨g.a, h1, by have := g.c; omega, g.no, fun _ => hp⟩

/-- the specification's number: the first one from which on the energy does not fall, or the one behind it -/
theorem CyO.best {P : Nat → Pip} {x y : Nat → Int} {m : Nat} (h : CyO P y m) {lo hi f : Int} (g : Lst (bfPr P x y m) lo hi f) : Lst (bePr P x y m) lo hi (if f < hi ∧ egC P x y m (f + 1) = egC P x y m f ∧ f < 0 then f + 1 else f) := by
  have hge := g.ge
  have hle := g.le
  by_cases e : f < hi ∧ egC P x y m (f + 1) = egC P x y m f ∧ f < 0
  · rw [if_pos e]
    obtain ⟨e1, e2, e3⟩ := e
    refine ⟨by omega, by omega, fun z z0 z1 hz => ?_, fun _ => ?_⟩
    · have := h.be_mono (x := x) (show z ≤ f by omega) hz
      unfold bePr at this
      omega
    · have := h.step (x := x) f
      unfold bePr
      omega
  · rw [if_neg e]
    refine ⟨hge, hle, fun z z0 z1 hz => ?_, fun hf => ?_⟩
    · have := g.no z z0 z1
      unfold bfPr at this
      unfold bePr at hz
      omega
    · have := g.yes hf
      unfold bfPr at this
      unfold bePr
      omega
/-- no multiple of a cycle has a smaller energy -/
theorem CyO.least {P : Nat → Pip} {x y : Nat → Int} {m : Nat} (h : CyO P y m) {lo hi r : Int} (g : Lst (bePr P x y m) lo hi r) : ∀ t, lo ≤ t → t ≤ hi → egC P x y m r ≤ egC P x y m t := by
  have down : ∀ i : Nat, lo ≤ r - i → egC P x y m r ≤ egC P x y m (r - i) := by
    intro i
    induction i with
    | zero => intro _; rw [show r - ((0 : Nat) : Int) = r by omega]; exact Int.le_refl _
    | succ i ih =>
      intro hl
      have h1 := ih (by omega)
      have h2 := g.no (r - ((i + 1 : Nat) : Int)) hl (by omega)
      unfold bePr at h2
      rw [show r - ((i + 1 : Nat) : Int) + 1 = r - (i : Int) by omega] at h2
      omega
  have up : ∀ i : Nat, r + i ≤ hi → egC P x y m r ≤ egC P x y m (r + i) := by
    intro i
    induction i with
    | zero => intro _; rw [show r + ((0 : Nat) : Int) = r by omega]; exact Int.le_refl _
    | succ i ih =>
      intro hl
      have h1 := ih (by omega)
      have h2 := h.be_mono (x := x) (show r ≤ r + i by omega) (g.yes (by omega))
      unfold bePr at h2
      rw [show r + ((i + 1 : Nat) : Int) = r + (i : Int) + 1 by omega]
      omega
  intro t t0 t1
  by_cases e : t ≤ r
  · have := down (r - t).toNat (by omega)
    rwa [show r - ((r - t).toNat : Int) = t by omega] at this
  · have := up (t - r).toNat (by omega)
    rwa [show r + ((t - r).toNat : Int) = t by omega] at this

/-! What the program's loops keep -/
/-- the number of times that a move adds a cycle -/
def mvB (m : Nat) (P : Nat → Pip) (x y : Nat → Int) (st : Int) : Int := if loB m P x y st = true then st else if loB m P x y (-st) = true then -st else 0
theorem ps_move {m : Nat} {P : Nat → Pip} {Y : Nat → Nat → Int} {x x' : Nat → Int} {st left mo : Int} {k : Nat} (h : (x', mo) = psS m P Y x st left k) (hl : mo < left) (hn : mvB m P x' (Y k) st ≠ 0) : psS m P Y x st left (k + 1) = (fun a => x' a + mvB m P x' (Y k) st * Y k a, mo + 1) := by
  show psT m P (Y k) st left (psS m P Y x st left k) = _
  rw [← h]
  unfold psT mvB at *
  rw [if_pos hl]
  by_cases h1 : loB m P x' (Y k) st = true
  · rw [if_pos h1, if_pos h1]
  · rw [if_neg h1] at hn ⊢
    rw [if_neg h1]
    by_cases h2 : loB m P x' (Y k) (-st) = true
    · rw [if_pos h2, if_pos h2]
    · rw [if_neg h2] at hn
      exact absurd rfl hn
theorem ps_stay {m : Nat} {P : Nat → Pip} {Y : Nat → Nat → Int} {x x' : Nat → Int} {st left mo : Int} {k : Nat} (h : (x', mo) = psS m P Y x st left k) (hl : mo < left) (hs : st ≠ 0) (hn : mvB m P x' (Y k) st = 0) : psS m P Y x st left (k + 1) = (x', mo) := by
  show psT m P (Y k) st left (psS m P Y x st left k) = _
  rw [← h]
  unfold psT mvB at *
  rw [if_pos hl]
  by_cases h1 : loB m P x' (Y k) st = true
  · rw [if_pos h1] at hn
    exact absurd hn hs
  · rw [if_neg h1] at hn ⊢
    by_cases h2 : loB m P x' (Y k) (-st) = true
    · rw [if_pos h2] at hn
      omega
    · rw [if_neg h2]
theorem mvB_rng {m : Nat} {P : Nat → Pip} {x y : Nat → Int} {st : Int} (hs : 1 ≤ st ∧ st ≤ 32768) : -32768 ≤ mvB m P x y st ∧ mvB m P x y st ≤ 32768 := by
  unfold mvB
  split
  · omega
  · split <;> omega
theorem mvB_in {m : Nat} {P : Nat → Pip} {x y : Nat → Int} {st : Int} (hx : ∀ k, k < m → -30000 ≤ x k ∧ x k ≤ 30000) : ∀ k, k < m → -30000 ≤ x k + mvB m P x y st * y k ∧ x k + mvB m P x y st * y k ≤ 30000 := by
  intro k hk
  unfold mvB
  split
  · next h => exact loB_rng h k hk
  · split
    · next h => exact loB_rng h k hk
    · rw [Int.zero_mul, Int.add_zero]
      exact hx k hk
theorem rl_break {m : Nat} {P : Nat → Pip} {Y : Nat → Nat → Int} {C f k : Nat} {x x' : Nat → Int} {tot st mo : Int} (hs : 1 ≤ st) (ht : 0 ≤ tot ∧ tot ≤ 5000) (hk : k ≤ C) (h : (x', mo) = psS m P Y x st (5000 - tot) k) (hm : tot + mo = 5000) : rlS m P Y C (f + 1) x tot st = (x', 5000) := by
  have h0 : psS m P Y x st (5000 - tot) C = (x', mo) := by
    rw [psS_stop (i := k) (by rw [← h]; dsimp only; omega) hk]
    exact h.symm
  by_cases g : tot < 5000
  · rw [rlS_next ⟨hs, g⟩, h0]
    dsimp only
    rw [hm, rlS_stop (by omega)]
  · rw [rlS_stop (by omega)]
    have h1 : psS m P Y x st (5000 - tot) C = (x, 0) := by
      rw [psS_stop (i := 0) (by show ¬ (0 : Int) < 5000 - tot; omega) (Nat.zero_le _)]
      rfl
    rw [h0] at h1
    injection h1 with e1 e2
    rw [e1, show tot = 5000 by omega]
theorem rl_pass {m : Nat} {P : Nat → Pip} {Y : Nat → Nat → Int} {C f : Nat} {x x' : Nat → Int} {tot st mo : Int} (hs : 1 ≤ st) (ht : 0 ≤ tot ∧ tot ≤ 5000) (h : (x', mo) = psS m P Y x st (5000 - tot) C) : rlS m P Y C (f + 1) x tot st = rlS m P Y C f x' (tot + mo) (if mo = 0 then st / 2 else st) := by
  by_cases g : tot < 5000
  · rw [rlS_next ⟨hs, g⟩, ← h]
  · have h1 : psS m P Y x st (5000 - tot) C = (x, 0) := by
      rw [psS_stop (i := 0) (by show ¬ (0 : Int) < 5000 - tot; omega) (Nat.zero_le _)]
      rfl
    rw [h1] at h
    injection h with e1 e2
    rw [rlS_stop (by omega), rlS_stop (by omega), e1, e2, Int.add_zero]
end Go.Proofs.YtdbgcbkmcbgdiaaGreat.mem

namespace Go.Proofs.YtdbgcbkmcbgdiaaGreat.mem
open Go.RowKit
set_option linter.unusedVariables false

set_option maxRecDepth 100000 in
set_option maxHeartbeats 8000000 in
theorem l10Energy_any (w : World) (v : Value) (n : Nat) (N : Nat → Nod) (m : Nat) (P : Nat → Pip) (lo hi : Nat) (h : NetAt w v n N m P lo hi) (hhi : hi ≤ w.heap.size) (hB : netB n N m P = true) (va : Value) (x : Nat → Int) (la ha : Nat) (hv : Sl w va m x la ha) (hha : ha ≤ w.heap.size) (hx : ∀ k, k < m → -30000 ≤ x k ∧ x k ≤ 30000) :
    Calls Tryz.prog 169 #[v, va] w fun e w' => e = .returned (.int .i64 (egS P x m)) ∧ Below w.heap.size w w' := by
  obtain ⟨p0, c0, p1, c1, rfl, hn9, hm9⟩ := h.parts
  obtain ⟨hn1, hn24, hm40⟩ := net_sz hB
  obtain ⟨pa, ca, rfl⟩ := hv.sh
  have HV := Lib.hid h
  have HSV := Lib.hid hv
  have HBN := Lib.hid hB
  have HE := Lib.hid (show ∀ k, k < m → EgB (P k).k ((x k).natAbs : Int) from fun k hk => egB_of (net_pip hB hk) (hx k hk).1 (hx k hk).2)
  have HX := Lib.hid hx
  have A0 := boxed w (.slice p0 n c0) (.slice p1 m c1) 27
  have B0 := below_new w (.cells #[.slice p0 n c0, .slice p1 m c1] 27)
  have hs0 : (w.alloc (.cells #[.slice p0 n c0, .slice p1 m c1] 27)).heap.size = w.heap.size + 1 := by simp
  clear h hB hv hx
  go_enter Tryz.func169, Tryz.ntmps169
  go_wp2_with fail
  obtain ⟨w1, hw1⟩ : ∃ w1, w.alloc (.cells #[.slice p0 n c0, .slice p1 m c1] 27) = w1 := ⟨_, rfl⟩
  rw [hw1] at A0 B0 hs0 ⊢
  clear hw1
  have HA := Lib.hid A0
  have HBB := Lib.hid B0
  clear A0 B0
  go_loopw [5, 6] (fun sv iv wr => ∃ k : Nat, sv = .int .i64 (egS P x k) ∧ iv = .int .i64 k ∧ k ≤ m ∧ w1.heap.size ≤ wr.heap.size ∧ Below w1.heap.size w1 wr) (fun _ iv _ => m - (intOf iv).toNat)
  case atStart => exact ⟨0, rfl, rfl, Nat.zero_le _, Nat.le_refl _, Below.refl _ _⟩
  case round =>
    obtain ⟨k, rfl, rfl, hk, hsz, hb⟩ := hrel
    have HL := Lib.hid hb
    clear hb
    have k0 : (0 : Int) ≤ (k : Int) := Int.natCast_nonneg _
    have BW := Lib.hid (HBB.out.trans (HL.out.mono (by omega)))
    by_cases hlt : k < m
    · have k1 : (k : Int) < (m : Int) := by omega
      obtain ⟨p', c', ee, hxx⟩ := (HSV.out.below BW.out hha).ex
      injection ee with e1 _ e3
      subst e1 e3
      obtain ⟨ba, oa, rfl, ga1, ga2, hxx⟩ : ∃ b o, pa = some ⟨b, o, none⟩ ∧ la ≤ b ∧ b < ha ∧ ∀ k, k < m → wr.cell? ⟨b, o + k, none⟩ = some (.int .i64 (x k)) := by
        rcases hxx with e | e
        · omega
        · exact e
      have yx := hxx k hlt
      clear hxx
      obtain ⟨bp, op, rfl, q1, q2, r0, r1, r2, r3, r4⟩ := (HV.out.below BW.out hhi).pipe hlt
      have f0 : wr.cell? ⟨w.heap.size, 0, none⟩ = some (.slice p0 n c0) := (HA.out.below HL.out (by omega)).b0
      have f1 : wr.cell? ⟨w.heap.size, 1, none⟩ = some (.slice (some ⟨bp, op, none⟩) m c1) := (HA.out.below HL.out (by omega)).b1
      obtain ⟨z0, z1⟩ := HX.out k hlt
      have he := HE.out k hlt
      have h1 := he.one
      have h2 := he.two
      have h3 := he.thr
      have hs := egS_bnd (P := P) (x := x) (k := k) (fun j hj => HE.out j (by omega))
      have HS := Lib.hid (show egS P x (k + 1) = egS P x k + (P k).k * ((x k).natAbs : Int) * ((x k).natAbs : Int) * ((x k).natAbs : Int) from rfl)
      have hs1 : egS P x k ≤ 1080000000000000000 := by omega
      have hs2 := hs.1
      clear hs
      go_wp2_with (go_at_call 126; refine (absS_any _ _ (by omega) (by omega)).mono ?_; rintro e w' ⟨rfl, rfl⟩)
      go_roundw
      case rel => exact ⟨k + 1, by rw [HS.out], by go_num, hlt, hsz, HL.out⟩
      case measure => simp [intOf]; omega
    · have hkn : k = m := by omega
      subst hkn
      have k1 : ¬ ((k : Int) < (k : Int)) := by omega
      go_wp2_with fail
      go_ret
      exact ⟨rfl, BW.out⟩

end Go.Proofs.YtdbgcbkmcbgdiaaGreat.mem

namespace Go.Proofs.YtdbgcbkmcbgdiaaGreat.mem
open Go.RowKit
set_option linter.unusedVariables false

end Go.Proofs.YtdbgcbkmcbgdiaaGreat.mem

namespace Go.Proofs.YtdbgcbkmcbgdiaaGreat.mem
open Go.RowKit
set_option linter.unusedVariables false

end Go.Proofs.YtdbgcbkmcbgdiaaGreat.mem

namespace Go.Proofs.YtdbgcbkmcbgdiaaGreat.mem
open Go.RowKit
set_option linter.unusedVariables false

set_option maxRecDepth 100000 in
set_option maxHeartbeats 8000000 in
theorem l10Lower_any (w : World) (v : Value) (n : Nat) (N : Nat → Nod) (m : Nat) (P : Nat → Pip) (lo hi : Nat) (h : NetAt w v n N m P lo hi) (hhi : hi ≤ w.heap.size) (hB : netB n N m P = true) (va : Value) (x : Nat → Int) (la ha : Nat) (hv : Sl w va m x la ha) (hha : ha ≤ w.heap.size) (hx : ∀ k, k < m → -30000 ≤ x k ∧ x k ≤ 30000) (vb : Value) (y : Nat → Int) (lb hb : Nat) (hu : Sl w vb m y lb hb) (hhb : hb ≤ w.heap.size) (hy : ∀ k, k < m → -1 ≤ y k ∧ y k ≤ 1) (t : Int) (ht : -1000000 ≤ t ∧ t ≤ 1000000) :
    Calls Tryz.prog 148 #[v, va, vb, .int .i64 t] w fun e w' => e = .returned (.bool (loB m P x y t)) ∧ Below w.heap.size w w' := by
  obtain ⟨p0, c0, p1, c1, rfl, hn9, hm9⟩ := h.parts
  obtain ⟨hn1, hn24, hm40⟩ := net_sz hB
  obtain ⟨pa, ca, rfl⟩ := hv.sh
  obtain ⟨pb, cb, rfl⟩ := hu.sh
  have HV := Lib.hid h
  have HSV := Lib.hid hv
  have HSU := Lib.hid hu
  have HBN := Lib.hid hB
  have HX := Lib.hid hx
  have HTY := Lib.hid (show ∀ k, k < m → (-4611686018427387904 ≤ x k + t * y k ∧ x k + t * y k ≤ 4611686018427387904) ∧ (-4611686018427387904 ≤ t * y k ∧ t * y k ≤ 4611686018427387904) from fun k hk => by
    have h1 := mulc ht (hy k hk)
    have h2 := hx k hk
    omega)
  have A0 := boxed w (.slice p0 n c0) (.slice p1 m c1) 27
  have B0 := below_new w (.cells #[.slice p0 n c0, .slice p1 m c1] 27)
  have hs0 : (w.alloc (.cells #[.slice p0 n c0, .slice p1 m c1] 27)).heap.size = w.heap.size + 1 := by simp
  clear h hB hv hx hu hy
  go_enter Tryz.func148, Tryz.ntmps148
  go_upto_region 1 with (fail)
  obtain ⟨w1, hw1⟩ : ∃ w1, w.alloc (.cells #[.slice p0 n c0, .slice p1 m c1] 27) = w1 := ⟨_, rfl⟩
  rw [hw1] at A0 B0 hs0 ⊢
  clear hw1
  go_upto_region 2 with (go_at_call 51; refine (l05Add_any _ _ _ m x y t la ha lb hb (HSV.out.below B0 hha) (by omega) (HSU.out.below B0 hhb) (by omega) (by omega) (fun k hk => (HTY.out k hk).1) (fun k hk => (HTY.out k hk).2)).mono ?_; rintro e w2 ⟨v2, g, rfl, oz, hg, b2⟩)
  obtain ⟨cz, rfl⟩ := oz.shape
  have lz := oz.lt
  have s2 := b2.size
  have B2 := B0.trans (b2.mono (by omega))
  have A2 := A0.below b2 (by omega)
  have g0 := range2 A2.b0 A2.b1
  have l2 : w.heap.size < w2.heap.size := by omega
  have hi2 : hi ≤ w2.heap.size := by omega
  have ha2 : ha ≤ w2.heap.size := by omega
  have hw2 : w.heap.size ≤ w2.heap.size := by omega
  have HOZ := Lib.hid oz
  have HS2 := Lib.hid (HSV.out.below B2 hha)
  have nN : (Tryz.prog.info? 27).map (·.size) = some 2 := by kernel_rfl
  have UN := Tryz.underlying27
  clear oz A0 A2 B0 b2
  have KS : ∀ W : World, Below w2.heap.size w2 W → (Below w2.heap.size w2 W ∧ W.rangeAt w.heap.size 0 [.slice p0 n c0, .slice p1 m c1]) := fun W hW => ⟨hW, range_blockN g0 (hW.block _ l2)⟩
  have hli : liB m m (fun k => x k + t * y k) = flB (fun k => x k + t * y k) m := by unfold liB; rw [decide_eq_true rfl, Bool.and_true]
  cases hf : flB (fun k => x k + t * y k) m
  · have HL := Lib.hid (show loB m P x y t = false by unfold loB; rw [hf]; rfl)
    refine wp_region_noPanic ?_
    refine wp_region_held_drew (S := fun w' : World => Below w2.heap.size w2 w' ∧ w'.rangeAt w.heap.size 0 [.slice p0 n c0, .slice p1 m c1]) (by kernel_rfl) (KS _ (below_drw (Below.refl _ _))) (fun sH => ?_)
    refine wpAnyH_take (i := 0) (v := .agg #[.slice p0 n c0, .slice p1 m c1]) nthe0 (by kernel_rfl) (by kernel_rfl) (by kernel_rfl) (fun _ _ _ h => h) (yieldsIf_load_mid (by rfl) _ _ rfl w.heap.size 0 rfl [.slice p0 n c0, .slice p1 m c1] _ (fun _ h => h.2) UN rfl (by exact nN)) sH ?_
    try simp only [Act.put, List.setIfInBounds_toArray, List.set_cons_zero, List.set_cons_succ]
    refine wpAnyH_take (i := 1) (v := ?_) nthe1 (by kernel_rfl) (by kernel_rfl) (by kernel_rfl) (fun _ _ _ h => h) (Or.inl ⟨by rfl, ?_⟩) sH ?_
    rotate_left
    · intro wS hSw; (try dsimp only at hSw); go_simp; try with_reducible rfl
    try simp only [Act.put, List.setIfInBounds_toArray, List.set_cons_zero, List.set_cons_succ]
    refine wpAnyH_ready (rs := [2]) (by kernel_rfl) (by simp) (AllReadyH.cons nthe2 (fun KON hKON => ?_) AllReadyH.nil)
    clear sH
    go_simp
    refine (l05List_any _ p0 p1 n m c0 c1 _ m _ g (g + 1) (HOZ.out.below (below_drw (Below.refl w2.heap.size w2)) (Nat.le_refl _)).sl (show g + 1 ≤ w2.heap.size by omega) (by omega) hm9).mono ?_
    rintro e wX ⟨rfl, hbX⟩
    rw [hli, hf]
    have KX : Below w2.heap.size w2 wX := below_dr0 hbX
    refine hKON.out _ _ (KS _ KX) (fun sH => ?_)
    clear hKON KON
    try simp only [Act.put, List.setIfInBounds_toArray, List.set_cons_zero, List.set_cons_succ]
    refine wpAnyH_take (i := 3) (v := ?_) nthe3 (by kernel_rfl) (by kernel_rfl) (by kernel_rfl) (fun _ _ _ h => h) (Or.inl ⟨by rfl, ?_⟩) sH ?_
    rotate_left
    · intro wS hSw; (try dsimp only at hSw); go_simp; try with_reducible rfl
    try simp only [Act.put, List.setIfInBounds_toArray, List.set_cons_zero, List.set_cons_succ]
    refine wpAnyH_take (i := 4) (v := undef) nthe4 (by kernel_rfl) (by kernel_rfl) (by kernel_rfl) (fun _ _ _ h => h) (Or.inr ⟨by rfl, rfl⟩) sH ?_
    try simp only [Act.put, List.setIfInBounds_toArray, List.set_cons_zero, List.set_cons_succ]
    refine wpAnyH_take (i := 5) (v := undef) nthe5 (by kernel_rfl) (by kernel_rfl) (by kernel_rfl) (fun _ _ _ h => h) (Or.inr ⟨by rfl, rfl⟩) sH ?_
    try simp only [Act.put, List.setIfInBounds_toArray, List.set_cons_zero, List.set_cons_succ]
    refine wpAnyH_take (i := 6) (v := undef) nthe6 (by kernel_rfl) (by kernel_rfl) (by kernel_rfl) (fun _ _ _ h => h) (Or.inr ⟨by rfl, rfl⟩) sH ?_
    try simp only [Act.put, List.setIfInBounds_toArray, List.set_cons_zero, List.set_cons_succ]
    refine wpAnyH_take (i := 7) (v := undef) nthe7 (by kernel_rfl) (by kernel_rfl) (by kernel_rfl) (fun _ _ _ h => h) (Or.inr ⟨by rfl, rfl⟩) sH ?_
    try simp only [Act.put, List.setIfInBounds_toArray, List.set_cons_zero, List.set_cons_succ]
    refine wpAnyH_take (i := 8) (v := undef) nthe8 (by kernel_rfl) (by kernel_rfl) (by kernel_rfl) (fun _ _ _ h => h) (Or.inr ⟨by rfl, rfl⟩) sH ?_
    try simp only [Act.put, List.setIfInBounds_toArray, List.set_cons_zero, List.set_cons_succ]
    refine wpAnyH_take (i := 9) (v := undef) nthe9 (by kernel_rfl) (by kernel_rfl) (by kernel_rfl) (fun _ _ _ h => h) (Or.inr ⟨by rfl, rfl⟩) sH ?_
    try simp only [Act.put, List.setIfInBounds_toArray, List.set_cons_zero, List.set_cons_succ]
    refine wpAnyH_take (i := 10) (v := undef) nthe10 (by kernel_rfl) (by kernel_rfl) (by kernel_rfl) (fun _ _ _ h => h) (Or.inr ⟨by rfl, rfl⟩) sH ?_
    try simp only [Act.put, List.setIfInBounds_toArray, List.set_cons_zero, List.set_cons_succ]
    refine wpAnyH_take (i := 11) (v := ?_) nthe11 (by kernel_rfl) (by kernel_rfl) (by kernel_rfl) (fun _ _ _ h => h) (Or.inl ⟨by rfl, ?_⟩) sH ?_
    rotate_left
    · intro wS hSw; (try dsimp only at hSw); go_simp; try with_reducible rfl
    try simp only [Act.put, List.setIfInBounds_toArray, List.set_cons_zero, List.set_cons_succ]
    refine wpAnyH_take (i := 12) (v := ?_) nthe12 (by kernel_rfl) (by kernel_rfl) (by kernel_rfl) (fun _ _ _ h => h) (Or.inl ⟨by rfl, ?_⟩) sH ?_
    rotate_left
    · intro wS hSw; (try dsimp only at hSw); go_simp; try with_reducible rfl
    try simp only [Act.put, List.setIfInBounds_toArray, List.set_cons_zero, List.set_cons_succ]
    refine wpAnyH_done (by kernel_rfl) ?_ _
    refine NoPanic.normal ?_
    go_wp2_with fail
    go_ret
    exact ⟨ret_b HL.out.symm, B2.trans (KX.mono hw2)⟩
  · have HL := Lib.hid (show loB m P x y t = decide (egS P (fun k => x k + t * y k) m < egS P x m) by unfold loB; rw [hf]; rfl)
    have HZR := Lib.hid (show ∀ k, k < m → -30000 ≤ x k + t * y k ∧ x k + t * y k ≤ 30000 from fun k hk => flQ_iff.1 (flB_iff.1 hf k hk))
    refine wp_region_noPanic ?_
    refine wp_region_held_drew (S := fun w' : World => Below w2.heap.size w2 w' ∧ w'.rangeAt w.heap.size 0 [.slice p0 n c0, .slice p1 m c1]) (by kernel_rfl) (KS _ (below_drw (Below.refl _ _))) (fun sH => ?_)
    refine wpAnyH_take (i := 0) (v := .agg #[.slice p0 n c0, .slice p1 m c1]) nthe0 (by kernel_rfl) (by kernel_rfl) (by kernel_rfl) (fun _ _ _ h => h) (yieldsIf_load_mid (by rfl) _ _ rfl w.heap.size 0 rfl [.slice p0 n c0, .slice p1 m c1] _ (fun _ h => h.2) UN rfl (by exact nN)) sH ?_
    try simp only [Act.put, List.setIfInBounds_toArray, List.set_cons_zero, List.set_cons_succ]
    refine wpAnyH_take (i := 1) (v := ?_) nthe1 (by kernel_rfl) (by kernel_rfl) (by kernel_rfl) (fun _ _ _ h => h) (Or.inl ⟨by rfl, ?_⟩) sH ?_
    rotate_left
    · intro wS hSw; (try dsimp only at hSw); go_simp; try with_reducible rfl
    try simp only [Act.put, List.setIfInBounds_toArray, List.set_cons_zero, List.set_cons_succ]
    refine wpAnyH_ready (rs := [2]) (by kernel_rfl) (by simp) (AllReadyH.cons nthe2 (fun KON hKON => ?_) AllReadyH.nil)
    clear sH
    go_simp
    refine (l05List_any _ p0 p1 n m c0 c1 _ m _ g (g + 1) (HOZ.out.below (below_drw (Below.refl w2.heap.size w2)) (Nat.le_refl _)).sl (show g + 1 ≤ w2.heap.size by omega) (by omega) hm9).mono ?_
    rintro e wX ⟨rfl, hbX⟩
    rw [hli, hf]
    have KX : Below w2.heap.size w2 wX := below_dr0 hbX
    refine hKON.out _ _ (KS _ KX) (fun sH => ?_)
    clear hKON KON
    try simp only [Act.put, List.setIfInBounds_toArray, List.set_cons_zero, List.set_cons_succ]
    refine wpAnyH_take (i := 3) (v := ?_) nthe3 (by kernel_rfl) (by kernel_rfl) (by kernel_rfl) (fun _ _ _ h => h) (Or.inl ⟨by rfl, ?_⟩) sH ?_
    rotate_left
    · intro wS hSw; (try dsimp only at hSw); go_simp; try with_reducible rfl
    try simp only [Act.put, List.setIfInBounds_toArray, List.set_cons_zero, List.set_cons_succ]
    refine wpAnyH_take (i := 4) (v := .agg #[.slice p0 n c0, .slice p1 m c1]) nthe4 (by kernel_rfl) (by kernel_rfl) (by kernel_rfl) (fun _ _ _ h => h) (yieldsIf_load_mid (by rfl) _ _ rfl w.heap.size 0 rfl [.slice p0 n c0, .slice p1 m c1] _ (fun _ h => h.2) UN rfl (by exact nN)) sH ?_
    try simp only [Act.put, List.setIfInBounds_toArray, List.set_cons_zero, List.set_cons_succ]
    refine wpAnyH_take (i := 5) (v := ?_) nthe5 (by kernel_rfl) (by kernel_rfl) (by kernel_rfl) (fun _ _ _ h => h) (Or.inl ⟨by rfl, ?_⟩) sH ?_
    rotate_left
    · intro wS hSw; (try dsimp only at hSw); go_simp; try with_reducible rfl
    try simp only [Act.put, List.setIfInBounds_toArray, List.set_cons_zero, List.set_cons_succ]
    refine wpAnyH_take (i := 7) (v := .agg #[.slice p0 n c0, .slice p1 m c1]) nthe7 (by kernel_rfl) (by kernel_rfl) (by kernel_rfl) (fun _ _ _ h => h) (yieldsIf_load_mid (by rfl) _ _ rfl w.heap.size 0 rfl [.slice p0 n c0, .slice p1 m c1] _ (fun _ h => h.2) UN rfl (by exact nN)) sH ?_
    try simp only [Act.put, List.setIfInBounds_toArray, List.set_cons_zero, List.set_cons_succ]
    refine wpAnyH_take (i := 8) (v := ?_) nthe8 (by kernel_rfl) (by kernel_rfl) (by kernel_rfl) (fun _ _ _ h => h) (Or.inl ⟨by rfl, ?_⟩) sH ?_
    rotate_left
    · intro wS hSw; (try dsimp only at hSw); go_simp; try with_reducible rfl
    try simp only [Act.put, List.setIfInBounds_toArray, List.set_cons_zero, List.set_cons_succ]
    refine wpAnyH_ready (rs := [6]) (by kernel_rfl) (by simp) (AllReadyH.cons nthe6 (fun KON hKON => ?_) AllReadyH.nil)
    clear sH
    go_simp
    refine (l10Energy_any _ _ n N m P lo hi (HV.out.below (B2.trans (KX.mono hw2)) hhi) (Nat.le_trans hi2 KX.size) HBN.out _ _ g (g + 1) (HOZ.out.below KX (Nat.le_refl _)).sl (Nat.le_trans lz KX.size) HZR.out).mono ?_
    rintro e wY ⟨rfl, hbY⟩
    have KY : Below w2.heap.size w2 wY := KX.trans (hbY.mono KX.size)
    refine hKON.out _ _ (KS _ KY) (fun sH => ?_)
    clear hKON KON
    try simp only [Act.put, List.setIfInBounds_toArray, List.set_cons_zero, List.set_cons_succ]
    refine wpAnyH_ready (rs := [9]) (by kernel_rfl) (by simp) (AllReadyH.cons nthe9 (fun KON hKON => ?_) AllReadyH.nil)
    clear sH
    go_simp
    refine (l10Energy_any _ _ n N m P lo hi (HV.out.below (B2.trans (KY.mono hw2)) hhi) (Nat.le_trans hi2 KY.size) HBN.out _ x la ha (HS2.out.below KY ha2) (Nat.le_trans ha2 KY.size) HX.out).mono ?_
    rintro e wZ ⟨rfl, hbZ⟩
    have KZ : Below w2.heap.size w2 wZ := KY.trans (hbZ.mono KY.size)
    refine hKON.out _ _ (KS _ KZ) (fun sH => ?_)
    clear hKON KON
    try simp only [Act.put, List.setIfInBounds_toArray, List.set_cons_zero, List.set_cons_succ]
    refine wpAnyH_take (i := 10) (v := ?_) nthe10 (by kernel_rfl) (by kernel_rfl) (by kernel_rfl) (fun _ _ _ h => h) (Or.inl ⟨by rfl, ?_⟩) sH ?_
    rotate_left
    · intro wS hSw; (try dsimp only at hSw); go_simp; try with_reducible rfl
    try simp only [Act.put, List.setIfInBounds_toArray, List.set_cons_zero, List.set_cons_succ]
    refine wpAnyH_take (i := 11) (v := ?_) nthe11 (by kernel_rfl) (by kernel_rfl) (by kernel_rfl) (fun _ _ _ h => h) (Or.inl ⟨by rfl, ?_⟩) sH ?_
    rotate_left
    · intro wS hSw; (try dsimp only at hSw); go_simp; try with_reducible rfl
    try simp only [Act.put, List.setIfInBounds_toArray, List.set_cons_zero, List.set_cons_succ]
    refine wpAnyH_take (i := 12) (v := ?_) nthe12 (by kernel_rfl) (by kernel_rfl) (by kernel_rfl) (fun _ _ _ h => h) (Or.inl ⟨by rfl, ?_⟩) sH ?_
    rotate_left
    · intro wS hSw; (try dsimp only at hSw); go_simp; try with_reducible rfl
    try simp only [Act.put, List.setIfInBounds_toArray, List.set_cons_zero, List.set_cons_succ]
    refine wpAnyH_done (by kernel_rfl) ?_ _
    refine NoPanic.normal ?_
    go_wp2_with fail
    go_ret
    exact ⟨ret_b HL.out.symm, B2.trans (KZ.mono hw2)⟩
end Go.Proofs.YtdbgcbkmcbgdiaaGreat.mem

namespace Go.Proofs.YtdbgcbkmcbgdiaaGreat.mem
open Go.RowKit
set_option linter.unusedVariables false

end Go.Proofs.YtdbgcbkmcbgdiaaGreat.mem

namespace Go.Proofs.YtdbgcbkmcbgdiaaGreat.mem
open Go.RowKit
set_option linter.unusedVariables false

end Go.Proofs.YtdbgcbkmcbgdiaaGreat.mem

namespace Go.Proofs.YtdbgcbkmcbgdiaaGreat.mem
open Go.RowKit
set_option linter.unusedVariables false

end Go.Proofs.YtdbgcbkmcbgdiaaGreat.mem

namespace Go.Proofs.YtdbgcbkmcbgdiaaGreat.mem
open Go.RowKit
set_option linter.unusedVariables false

end Go.Proofs.YtdbgcbkmcbgdiaaGreat.mem

namespace Go.Proofs.YtdbgcbkmcbgdiaaGreat.mem
open Go.RowKit
set_option linter.unusedVariables false

end Go.Proofs.YtdbgcbkmcbgdiaaGreat.mem

namespace Go.Proofs.YtdbgcbkmcbgdiaaGreat.mem
open Go.RowKit
set_option linter.unusedVariables false

theorem apm_nil (W : World) (g n cap c : Nat) (hcap : n ≤ cap) : Sem.run Tryz.prog (Builtin.append_ #[28, 28] 28 #[.slice (some ⟨g, 0, none⟩) n cap, .slice none 0 c]) W = .ok (.slice (some ⟨g, 0, none⟩) n cap) W := by
  obtain ⟨i0, hi, hz0, hz1, hz2⟩ := info_parts info_make_int64
  simp [Builtin.append_, run_underlying Tryz.underlying28, sizeOf, typeInfo, hi, Builtin.lenOf, hcap, Builtin.firstCells, storeCells]
theorem apm_far (W : World) (g n cap c : Nat) (a : Addr) (hcap : n ≤ cap) : Sem.run Tryz.prog (Builtin.append_ #[28, 28] 28 #[.slice (some ⟨g, 0, none⟩) n cap, .slice (some a) 0 c]) W = .ok (.slice (some ⟨g, 0, none⟩) n cap) W := by
  obtain ⟨i0, hi, hz0, hz1, hz2⟩ := info_parts info_make_int64
  simp [Builtin.append_, run_underlying Tryz.underlying28, sizeOf, typeInfo, hi, Builtin.lenOf, hcap, Builtin.firstCells, storeCells, loadCells, loadCellsFrom]
/-- a list behind a list of one's own -/
theorem app_all (W : World) (v va : Value) (d : Nat → Int) (g m : Nat) (e : Nat → Int) (la ha : Nat) (h : Own W v 0 d g) (hv : Sl W va m e la ha) (hm : m ≤ 1000000) :
    ∃ v' w' g', Sem.run Tryz.prog (Builtin.append_ #[28, 28] 28 #[v, va]) W = .ok v' w' ∧ Own w' v' m e g' ∧ ∀ B, B ≤ g → g ≤ W.heap.size → Below B W w' ∧ B ≤ g' := by
  obtain ⟨cap0, rfl⟩ := h.shape
  obtain ⟨p, c, rfl, hc⟩ := hv
  rcases hc with h0 | ⟨b, o, rfl, g1, g2, g3⟩
  · subst h0
    have hown : Own W (.slice (some ⟨g, 0, none⟩) 0 cap0) 0 e g := h.congr (fun k hk => by omega)
    cases p with
    | none => exact ⟨_, W, g, apm_nil W g 0 cap0 c (Nat.zero_le _), hown, fun B hB _ => ⟨Below.refl _ _, hB⟩⟩
    | some a =>
      obtain ⟨b, o, x⟩ := a
      cases x with
      | none =>
        obtain ⟨v', w', g', hr, ap⟩ := apm_run W _ 0 d g b o 0 c e h (fun k hk => by omega) (by omega)
        exact ⟨v', w', g', hr, (ap.own.congr (e := e) (fun k hk => by omega)), fun B hB hg => ap.below hB hg⟩
      | some x => exact ⟨_, W, g, apm_far W g 0 cap0 c _ (Nat.zero_le _), hown, fun B hB _ => ⟨Below.refl _ _, hB⟩⟩
  · obtain ⟨v', w', g', hr, ap⟩ := apm_run W _ 0 d g b o m c e h g3 (by omega)
    refine ⟨v', w', g', hr, ?_, fun B hB hg => ap.below hB hg⟩
    have h1 := ap.own
    rw [Nat.zero_add] at h1
    exact h1.congr (fun k hk => by unfold catD; rw [if_neg (by omega), Nat.sub_zero])
set_option maxRecDepth 100000 in
set_option maxHeartbeats 8000000 in
theorem l11Pass_any (w : World) (v : Value) (n : Nat) (N : Nat → Nod) (m : Nat) (P : Nat → Pip) (lo hi : Nat) (h : NetAt w v n N m P lo hi) (hhi : hi ≤ w.heap.size) (hB : netB n N m P = true) (vb : Value) (B : Nat) (hbas : Bas w vb (chN n P m) m (fun i => cyc P (fE n P m) (fD n P m) (chS n P m i)) B) (vx : Value) (x0 : Nat → Int) (gx0 : Nat) (hox : Own w vx m x0 gx0) (hx : ∀ k, k < m → -30000 ≤ x0 k ∧ x0 k ≤ 30000) (step left : Int) (hst : -100000 ≤ step ∧ step ≤ 100000) (hle : 0 ≤ left ∧ left ≤ 5000) :
    Calls Tryz.prog 104 #[v, vb, vx, .int .i64 step, .int .i64 left] w fun e w' => ∃ v2 g2, e = .returned (.tuple #[v2, .int .i64 (psS m P (fun i => cyc P (fE n P m) (fD n P m) (chS n P m i)) x0 step left (chN n P m)).2]) ∧ Own w' v2 m (psS m P (fun i => cyc P (fE n P m) (fD n P m) (chS n P m i)) x0 step left (chN n P m)).1 g2 ∧ (g2 = gx0 ∨ w.heap.size ≤ g2) ∧ Below w.heap.size w w' := by
  obtain ⟨p0, c0, p1, c1, rfl, hn9, hm9⟩ := h.parts
  obtain ⟨hn1, hn24, hm40⟩ := net_sz hB
  have hcn := chN_le n P m
  obtain ⟨pb, cb, rfl⟩ := hbas.shape
  obtain ⟨cx0, rfl⟩ := hox.shape
  have HV := Lib.hid h
  have HBN := Lib.hid hB
  have HBA := Lib.hid hbas
  have HX0 := Lib.hid hx
  have A0 := boxed w (.slice p0 n c0) (.slice p1 m c1) 27
  have B0 := below_new w (.cells #[.slice p0 n c0, .slice p1 m c1] 27)
  have hs0 : (w.alloc (.cells #[.slice p0 n c0, .slice p1 m c1] 27)).heap.size = w.heap.size + 1 := by simp
  have HO0 := Lib.hid (hox.below B0 (Nat.le_refl _))
  have HB2 := Lib.hid (hbas.next B0)
  have hwn : IntKind.i64.wrap (-step) = -step := IntWalk.i64_in _ (by omega)
  have nN : (Tryz.prog.info? 27).map (·.size) = some 2 := by kernel_rfl
  have UN := Tryz.underlying27
  clear h hB hbas hox hx
  go_enter Tryz.func104, Tryz.ntmps104
  go_wp2_with fail
  obtain ⟨w1, hw1⟩ : ∃ w1, w.alloc (.cells #[.slice p0 n c0, .slice p1 m c1] 27) = w1 := ⟨_, rfl⟩
  rw [hw1] at A0 B0 hs0 HO0 HB2 ⊢
  clear hw1
  replace hs0 := Nat.le_antisymm_iff.1 hs0
  have HA := Lib.hid A0
  have HBB := Lib.hid B0
  clear A0 B0
  generalize hY : (fun i => cyc P (fE n P m) (fD n P m) (chS n P m i)) = Y at *
  have HYE := Lib.hid hY
  clear hY
  go_loopw [2, 12, 13] (fun xv mv iv wr => ∃ (k gx cx : Nat) (x : Nat → Int) (mo : Int), xv = .slice (some ⟨gx, 0, none⟩) m cx ∧ (x, mo) = psS m P Y x0 step left k ∧ Own wr (.slice (some ⟨gx, 0, none⟩) m cx) m x gx ∧ (gx = gx0 ∨ w.heap.size + 1 ≤ gx) ∧ mv = .int .i64 mo ∧ iv = .int .i64 k ∧ k ≤ chN n P m ∧ w1.heap.size ≤ wr.heap.size ∧ Below w1.heap.size w1 wr) (fun _ _ iv _ => chN n P m - (intOf iv).toNat)
  case atStart => exact ⟨0, gx0, cx0, x0, 0, rfl, rfl, HO0.out, .inl rfl, rfl, rfl, Nat.zero_le _, Nat.le_refl _, Below.refl _ _⟩
  case round =>
    obtain ⟨k, gx, cx, x, mo, rfl, hps, hox, hgx, rfl, rfl, hk, hsz, hb⟩ := hrel
    have HPS := Lib.hid hps
    have hmo : 0 ≤ mo ∧ mo ≤ left ∧ mo ≤ k := by
      have := psS_cnt (m := m) (P := P) (Y := Y) (x := x0) (step := step) hle.1 k
      rw [← hps] at this
      exact this
    have HXR := Lib.hid (show ∀ k, k < m → -30000 ≤ x k ∧ x k ≤ 30000 from fun a ha => by
      have := psS_rng (P := P) (Y := Y) (step := step) (left := left) HX0.out k a ha
      rw [← hps] at this
      exact this)
    have HOX := Lib.hid hox
    have HL := Lib.hid hb
    have lgx := hox.lt
    clear hps hox hb HO0
    have k0 : (0 : Int) ≤ (k : Int) := Int.natCast_nonneg _
    have BW := Lib.hid (HBB.out.trans (HL.out.mono (by omega)))
    by_cases hlt : k < chN n P m
    · have k1 : (k : Int) < (chN n P m : Int) := by omega
      by_cases hml : mo < left
      · have hdm : decide (mo < left) = true := decide_eq_true hml
        obtain ⟨q, cap, G, C, ee, hql, hrow⟩ : ∃ (q cap : Nat) (G C : Nat → Nat), Value.slice pb (chN n P m) cb = .slice (some ⟨q, 0, none⟩) (chN n P m) cap ∧ q < w1.heap.size ∧ ∀ k, k < chN n P m → w1.cell? ⟨q, k, none⟩ = some (.slice (some ⟨G k, 0, none⟩) m (C k)) ∧ Own w1 (.slice (some ⟨G k, 0, none⟩) m (C k)) m (Y k) (G k) := by
          rcases HB2.out.at_ with e | e
          · omega
          · exact e
        obtain ⟨rfl, rfl⟩ : pb = some ⟨q, 0, none⟩ ∧ cb = cap := by
          injection ee with h1 _ h3
          exact ⟨h1, h3⟩
        clear ee
        obtain ⟨yr, yo⟩ := hrow k hlt
        clear hrow
        obtain ⟨hcm, hcp⟩ := chS_at (n := n) (P := P) (m := m) hlt
        have HCR := Lib.hid (show ∀ a, a < m → -1 ≤ Y k a ∧ Y k a ≤ 1 from fun a _ => by rw [← HYE.out]; exact cyc_one HBN.out hcm hcp a)
        have HY := Lib.hid (yo.below HL.out (Nat.le_refl _))
        have y2 : wr.cell? ⟨q, k, none⟩ = some (.slice (some ⟨G k, 0, none⟩) m (C k)) := (HL.out.cell (p := ⟨q, k, none⟩) hql).trans yr
        have g0 := range2 (HA.out.below HL.out (by omega)).b0 (HA.out.below HL.out (by omega)).b1
        clear yr yo
        have hir : hi ≤ wr.heap.size := by omega
        have hwr : w.heap.size ≤ wr.heap.size := by omega
        have lwr : w.heap.size < wr.heap.size := by omega
        have lqr : q < wr.heap.size := by omega
        have HNX := Lib.hid (show psS m P Y x0 step left (k + 1) = psT m P (Y k) step left (x, mo) by rw [HPS.out]; rfl)
        have KS : ∀ W : World, Below wr.heap.size wr W → (Below wr.heap.size wr W ∧ W.rangeAt w.heap.size 0 [.slice p0 n c0, .slice p1 m c1] ∧ W.cell? ⟨q, k, none⟩ = some (.slice (some ⟨G k, 0, none⟩) m (C k))) := fun W hW => ⟨hW, range_blockN g0 (hW.block _ lwr), (hW.cell (p := ⟨q, k, none⟩) lqr).trans y2⟩
        have HTY := Lib.hid (show ∀ s, -100000 ≤ s ∧ s ≤ 100000 → ∀ a, a < m → (-4611686018427387904 ≤ x a + s * Y k a ∧ x a + s * Y k a ≤ 4611686018427387904) ∧ (-4611686018427387904 ≤ s * Y k a ∧ s * Y k a ≤ 4611686018427387904) from fun s hs a ha => by
          have h1 := mulc hs (HCR.out a ha)
          have h2 := HXR.out a ha
          omega)
        have hw1' : IntKind.i64.wrap (mo + 1) = mo + 1 := IntWalk.i64_in _ (by omega)
        go_upto_region 5 with (fail)
        cases ht1 : loB m P x (Y k) step
        · refine wp_region_noPanic ?_
          refine wp_region_held_drew (S := fun w' : World => Below wr.heap.size wr w' ∧ w'.rangeAt w.heap.size 0 [.slice p0 n c0, .slice p1 m c1] ∧ w'.cell? ⟨q, k, none⟩ = some (.slice (some ⟨G k, 0, none⟩) m (C k))) (by kernel_rfl) (KS _ (below_drw (Below.refl _ _))) (fun sH => ?_)
          refine wpAnyH_take (i := 0) (v := .agg #[.slice p0 n c0, .slice p1 m c1]) nthe0 (by kernel_rfl) (by kernel_rfl) (by kernel_rfl) (fun _ _ _ h => h) (yieldsIf_load_mid (by rfl) _ _ rfl w.heap.size 0 rfl [.slice p0 n c0, .slice p1 m c1] _ (fun _ h => h.2.1) UN rfl (by exact nN)) sH ?_
          try simp only [Act.put, List.setIfInBounds_toArray, List.set_cons_zero, List.set_cons_succ]
          refine wpAnyH_take (i := 1) (v := ?_) nthe1 (by kernel_rfl) (by kernel_rfl) (by kernel_rfl) (fun _ _ _ h => h) (Or.inl ⟨by rfl, ?_⟩) sH ?_
          rotate_left
          · intro wS hSw; (try dsimp only at hSw); go_simp; try with_reducible rfl
          try simp only [Act.put, List.setIfInBounds_toArray, List.set_cons_zero, List.set_cons_succ]
          refine wpAnyH_take (i := 2) (v := ?_) nthe2 (by kernel_rfl) (by kernel_rfl) (by kernel_rfl) (fun _ _ _ h => h) (Or.inl ⟨by rfl, ?_⟩) sH ?_
          rotate_left
          · intro wS hSw; (try dsimp only at hSw); go_simp; try with_reducible rfl
          try simp only [Act.put, List.setIfInBounds_toArray, List.set_cons_zero, List.set_cons_succ]
          refine wpAnyH_take (i := 3) (v := ?_) nthe3 (by kernel_rfl) (by kernel_rfl) (by kernel_rfl) (fun _ _ _ h => h) (Or.inl ⟨by rfl, ?_⟩) sH ?_
          rotate_left
          · intro wS hSw; (try dsimp only at hSw); go_simp; try with_reducible rfl
          try simp only [Act.put, List.setIfInBounds_toArray, List.set_cons_zero, List.set_cons_succ]
          refine wpAnyH_take (i := 4) (v := ?_) nthe4 (by kernel_rfl) (by kernel_rfl) (by kernel_rfl) (fun _ _ _ h => h) (Or.inl ⟨by rfl, ?_⟩) sH ?_
          rotate_left
          · intro wS hSw; (try dsimp only at hSw); go_simp; try with_reducible rfl
          try simp only [Act.put, List.setIfInBounds_toArray, List.set_cons_zero, List.set_cons_succ]
          refine wpAnyH_take (i := 5) (v := ?_) nthe5 (by kernel_rfl) (by kernel_rfl) (by kernel_rfl) (fun _ _ _ h => h) (Or.inl ⟨by rfl, ?_⟩) sH ?_
          rotate_left
          · intro wS hSw; (try dsimp only at hSw); go_simp; try with_reducible rfl
          try simp only [Act.put, List.setIfInBounds_toArray, List.set_cons_zero, List.set_cons_succ]
          refine wpAnyH_take (i := 6) (v := ?_) nthe6 (by kernel_rfl) (by kernel_rfl) (by kernel_rfl) (fun _ _ _ h => h) (Or.inl ⟨by rfl, ?_⟩) sH ?_
          rotate_left
          · intro wS hSw; (try dsimp only at hSw); go_simp; try with_reducible rfl
          try simp only [Act.put, List.setIfInBounds_toArray, List.set_cons_zero, List.set_cons_succ]
          refine wpAnyH_ready (rs := [7]) (by kernel_rfl) (by simp) (AllReadyH.cons nthe7 (fun KON hKON => ?_) AllReadyH.nil)
          clear sH
          go_simp
          refine (l10Lower_any _ _ n N m P lo hi (HV.out.below (BW.out.trans ((below_drw (Below.refl wr.heap.size wr)).mono hwr)) hhi) hir HBN.out _ x gx (gx + 1) (HOX.out.below (below_drw (Below.refl wr.heap.size wr)) (Nat.le_refl _)).sl (show gx + 1 ≤ wr.heap.size from HOX.out.lt) HXR.out _ _ (G k) (G k + 1) (HY.out.below (below_drw (Below.refl wr.heap.size wr)) (Nat.le_refl _)).sl (show G k + 1 ≤ wr.heap.size from HY.out.lt) HCR.out (step) (by omega)).mono ?_
          rintro e wX ⟨rfl, hbX⟩
          rw [ht1]
          have KX : Below wr.heap.size wr wX := below_dr0 hbX
          refine hKON.out _ _ (KS _ KX) (fun sH => ?_)
          clear hKON KON
          try simp only [Act.put, List.setIfInBounds_toArray, List.set_cons_zero, List.set_cons_succ]
          refine wpAnyH_take (i := 8) (v := ?_) nthe8 (by kernel_rfl) (by kernel_rfl) (by kernel_rfl) (fun _ _ _ h => h) (Or.inl ⟨by rfl, ?_⟩) sH ?_
          rotate_left
          · intro wS hSw; (try dsimp only at hSw); go_simp; try with_reducible rfl
          try simp only [Act.put, List.setIfInBounds_toArray, List.set_cons_zero, List.set_cons_succ]
          refine wpAnyH_done (by kernel_rfl) ?_ _
          refine NoPanic.normal ?_
          have HT1 := Lib.hid ht1
          obtain ⟨wV, hwV⟩ : ∃ w', w' = wX := ⟨_, rfl⟩
          subst hwV
          have KV := KX
          clear KX hbX ht1
          have KS2 : ∀ W : World, Below wV.heap.size wV W → (Below wV.heap.size wV W ∧ W.rangeAt w.heap.size 0 [.slice p0 n c0, .slice p1 m c1] ∧ W.cell? ⟨q, k, none⟩ = some (.slice (some ⟨G k, 0, none⟩) m (C k))) := fun W hW => ⟨hW, (KS _ (KV.trans (hW.mono KV.size))).2⟩
          go_upto_region 8 with (fail)
          cases ht2 : loB m P x (Y k) (-step)
          · refine wp_region_noPanic ?_
            refine wp_region_held_drew (S := fun w' : World => Below wV.heap.size wV w' ∧ w'.rangeAt w.heap.size 0 [.slice p0 n c0, .slice p1 m c1] ∧ w'.cell? ⟨q, k, none⟩ = some (.slice (some ⟨G k, 0, none⟩) m (C k))) (by kernel_rfl) (KS2 _ (below_drw (Below.refl _ _))) (fun sH => ?_)
            refine wpAnyH_take (i := 0) (v := .agg #[.slice p0 n c0, .slice p1 m c1]) nthe0 (by kernel_rfl) (by kernel_rfl) (by kernel_rfl) (fun _ _ _ h => h) (yieldsIf_load_mid (by rfl) _ _ rfl w.heap.size 0 rfl [.slice p0 n c0, .slice p1 m c1] _ (fun _ h => h.2.1) UN rfl (by exact nN)) sH ?_
            try simp only [Act.put, List.setIfInBounds_toArray, List.set_cons_zero, List.set_cons_succ]
            refine wpAnyH_take (i := 1) (v := ?_) nthe1 (by kernel_rfl) (by kernel_rfl) (by kernel_rfl) (fun _ _ _ h => h) (Or.inl ⟨by rfl, ?_⟩) sH ?_
            rotate_left
            · intro wS hSw; (try dsimp only at hSw); go_simp; try with_reducible rfl
            try simp only [Act.put, List.setIfInBounds_toArray, List.set_cons_zero, List.set_cons_succ]
            refine wpAnyH_take (i := 2) (v := ?_) nthe2 (by kernel_rfl) (by kernel_rfl) (by kernel_rfl) (fun _ _ _ h => h) (Or.inl ⟨by rfl, ?_⟩) sH ?_
            rotate_left
            · intro wS hSw; (try dsimp only at hSw); go_simp; try with_reducible rfl
            try simp only [Act.put, List.setIfInBounds_toArray, List.set_cons_zero, List.set_cons_succ]
            refine wpAnyH_take (i := 3) (v := ?_) nthe3 (by kernel_rfl) (by kernel_rfl) (by kernel_rfl) (fun _ _ _ h => h) (Or.inl ⟨by rfl, ?_⟩) sH ?_
            rotate_left
            · intro wS hSw; (try dsimp only at hSw); go_simp; try with_reducible rfl
            try simp only [Act.put, List.setIfInBounds_toArray, List.set_cons_zero, List.set_cons_succ]
            refine wpAnyH_take (i := 4) (v := ?_) nthe4 (by kernel_rfl) (by kernel_rfl) (by kernel_rfl) (fun _ _ _ h => h) (Or.inl ⟨by rfl, ?_⟩) sH ?_
            rotate_left
            · intro wS hSw; (try dsimp only at hSw); go_simp; try with_reducible rfl
            try simp only [Act.put, List.setIfInBounds_toArray, List.set_cons_zero, List.set_cons_succ]
            refine wpAnyH_take (i := 5) (v := ?_) nthe5 (by kernel_rfl) (by kernel_rfl) (by kernel_rfl) (fun _ _ _ h => h) (Or.inl ⟨by rfl, ?_⟩) sH ?_
            rotate_left
            · intro wS hSw; (try dsimp only at hSw); go_simp; try with_reducible rfl
            try simp only [Act.put, List.setIfInBounds_toArray, List.set_cons_zero, List.set_cons_succ]
            refine wpAnyH_take (i := 6) (v := ?_) nthe6 (by kernel_rfl) (by kernel_rfl) (by kernel_rfl) (fun _ _ _ h => h) (Or.inl ⟨by rfl, ?_⟩) sH ?_
            rotate_left
            · intro wS hSw; (try dsimp only at hSw); go_simp; try with_reducible rfl
            try simp only [Act.put, List.setIfInBounds_toArray, List.set_cons_zero, List.set_cons_succ]
            refine wpAnyH_take (i := 7) (v := ?_) nthe7 (by kernel_rfl) (by kernel_rfl) (by kernel_rfl) (fun _ _ _ h => h) (Or.inl ⟨by rfl, ?_⟩) sH ?_
            rotate_left
            · intro wS hSw; (try dsimp only at hSw); go_simp; try with_reducible rfl
            try simp only [Act.put, List.setIfInBounds_toArray, List.set_cons_zero, List.set_cons_succ]
            refine wpAnyH_ready (rs := [8]) (by kernel_rfl) (by simp) (AllReadyH.cons nthe8 (fun KON hKON => ?_) AllReadyH.nil)
            clear sH
            go_simp
            refine (l10Lower_any _ _ n N m P lo hi (HV.out.below (BW.out.trans ((KV.trans ((below_drw (Below.refl wV.heap.size wV)).mono KV.size)).mono hwr)) hhi) (Nat.le_trans hir KV.size) HBN.out _ x gx (gx + 1) (HOX.out.below (KV.trans ((below_drw (Below.refl wV.heap.size wV)).mono KV.size)) (Nat.le_refl _)).sl (Nat.le_trans HOX.out.lt KV.size) HXR.out _ _ (G k) (G k + 1) (HY.out.below (KV.trans ((below_drw (Below.refl wV.heap.size wV)).mono KV.size)) (Nat.le_refl _)).sl (Nat.le_trans HY.out.lt KV.size) HCR.out (-step) (by omega)).mono ?_
            rintro e wX ⟨rfl, hbX⟩
            rw [ht2]
            have KX' : Below wV.heap.size wV wX := below_dr0 hbX
            have KX : Below wr.heap.size wr wX := KV.trans (KX'.mono KV.size)
            refine hKON.out _ _ (KS2 _ KX') (fun sH => ?_)
            clear hKON KON
            try simp only [Act.put, List.setIfInBounds_toArray, List.set_cons_zero, List.set_cons_succ]
            refine wpAnyH_take (i := 9) (v := ?_) nthe9 (by kernel_rfl) (by kernel_rfl) (by kernel_rfl) (fun _ _ _ h => h) (Or.inl ⟨by rfl, ?_⟩) sH ?_
            rotate_left
            · intro wS hSw; (try dsimp only at hSw); go_simp; try with_reducible rfl
            try simp only [Act.put, List.setIfInBounds_toArray, List.set_cons_zero, List.set_cons_succ]
            refine wpAnyH_done (by kernel_rfl) ?_ _
            refine NoPanic.normal ?_
            have HN2 := Lib.hid (show psS m P Y x0 step left (k + 1) = (x, mo) by rw [HNX.out]; unfold psT; rw [if_pos hml, if_neg (by rw [HT1.out]; exact Bool.false_ne_true), if_neg (by rw [ht2]; exact Bool.false_ne_true)])
            clear ht2
            have zX := KX.size
            have HL2 := HL.out.trans (KX.mono hsz)
            go_wp2_with fail
            go_roundw
            case rel => exact ⟨k + 1, gx, cx, x, mo, rfl, HN2.out.symm, HOX.out.below KX (Nat.le_refl _), hgx, rfl, by go_num, hlt, by omega, HL2⟩
            case measure => simp [intOf]; omega
          · refine wp_region_noPanic ?_
            refine wp_region_held_drew (S := fun w' : World => Below wV.heap.size wV w' ∧ w'.rangeAt w.heap.size 0 [.slice p0 n c0, .slice p1 m c1] ∧ w'.cell? ⟨q, k, none⟩ = some (.slice (some ⟨G k, 0, none⟩) m (C k))) (by kernel_rfl) (KS2 _ (below_drw (Below.refl _ _))) (fun sH => ?_)
            refine wpAnyH_take (i := 0) (v := .agg #[.slice p0 n c0, .slice p1 m c1]) nthe0 (by kernel_rfl) (by kernel_rfl) (by kernel_rfl) (fun _ _ _ h => h) (yieldsIf_load_mid (by rfl) _ _ rfl w.heap.size 0 rfl [.slice p0 n c0, .slice p1 m c1] _ (fun _ h => h.2.1) UN rfl (by exact nN)) sH ?_
            try simp only [Act.put, List.setIfInBounds_toArray, List.set_cons_zero, List.set_cons_succ]
            refine wpAnyH_take (i := 1) (v := ?_) nthe1 (by kernel_rfl) (by kernel_rfl) (by kernel_rfl) (fun _ _ _ h => h) (Or.inl ⟨by rfl, ?_⟩) sH ?_
            rotate_left
            · intro wS hSw; (try dsimp only at hSw); go_simp; try with_reducible rfl
            try simp only [Act.put, List.setIfInBounds_toArray, List.set_cons_zero, List.set_cons_succ]
            refine wpAnyH_take (i := 2) (v := ?_) nthe2 (by kernel_rfl) (by kernel_rfl) (by kernel_rfl) (fun _ _ _ h => h) (Or.inl ⟨by rfl, ?_⟩) sH ?_
            rotate_left
            · intro wS hSw; (try dsimp only at hSw); go_simp; try with_reducible rfl
            try simp only [Act.put, List.setIfInBounds_toArray, List.set_cons_zero, List.set_cons_succ]
            refine wpAnyH_take (i := 3) (v := ?_) nthe3 (by kernel_rfl) (by kernel_rfl) (by kernel_rfl) (fun _ _ _ h => h) (Or.inl ⟨by rfl, ?_⟩) sH ?_
            rotate_left
            · intro wS hSw; (try dsimp only at hSw); go_simp; try with_reducible rfl
            try simp only [Act.put, List.setIfInBounds_toArray, List.set_cons_zero, List.set_cons_succ]
            refine wpAnyH_take (i := 4) (v := ?_) nthe4 (by kernel_rfl) (by kernel_rfl) (by kernel_rfl) (fun _ _ _ h => h) (Or.inl ⟨by rfl, ?_⟩) sH ?_
            rotate_left
            · intro wS hSw; (try dsimp only at hSw); go_simp; try with_reducible rfl
            try simp only [Act.put, List.setIfInBounds_toArray, List.set_cons_zero, List.set_cons_succ]
            refine wpAnyH_take (i := 5) (v := ?_) nthe5 (by kernel_rfl) (by kernel_rfl) (by kernel_rfl) (fun _ _ _ h => h) (Or.inl ⟨by rfl, ?_⟩) sH ?_
            rotate_left
            · intro wS hSw; (try dsimp only at hSw); go_simp; try with_reducible rfl
            try simp only [Act.put, List.setIfInBounds_toArray, List.set_cons_zero, List.set_cons_succ]
            refine wpAnyH_take (i := 6) (v := ?_) nthe6 (by kernel_rfl) (by kernel_rfl) (by kernel_rfl) (fun _ _ _ h => h) (Or.inl ⟨by rfl, ?_⟩) sH ?_
            rotate_left
            · intro wS hSw; (try dsimp only at hSw); go_simp; try with_reducible rfl
            try simp only [Act.put, List.setIfInBounds_toArray, List.set_cons_zero, List.set_cons_succ]
            refine wpAnyH_take (i := 7) (v := ?_) nthe7 (by kernel_rfl) (by kernel_rfl) (by kernel_rfl) (fun _ _ _ h => h) (Or.inl ⟨by rfl, ?_⟩) sH ?_
            rotate_left
            · intro wS hSw; (try dsimp only at hSw); go_simp; try with_reducible rfl
            try simp only [Act.put, List.setIfInBounds_toArray, List.set_cons_zero, List.set_cons_succ]
            refine wpAnyH_ready (rs := [8]) (by kernel_rfl) (by simp) (AllReadyH.cons nthe8 (fun KON hKON => ?_) AllReadyH.nil)
            clear sH
            go_simp
            refine (l10Lower_any _ _ n N m P lo hi (HV.out.below (BW.out.trans ((KV.trans ((below_drw (Below.refl wV.heap.size wV)).mono KV.size)).mono hwr)) hhi) (Nat.le_trans hir KV.size) HBN.out _ x gx (gx + 1) (HOX.out.below (KV.trans ((below_drw (Below.refl wV.heap.size wV)).mono KV.size)) (Nat.le_refl _)).sl (Nat.le_trans HOX.out.lt KV.size) HXR.out _ _ (G k) (G k + 1) (HY.out.below (KV.trans ((below_drw (Below.refl wV.heap.size wV)).mono KV.size)) (Nat.le_refl _)).sl (Nat.le_trans HY.out.lt KV.size) HCR.out (-step) (by omega)).mono ?_
            rintro e wX ⟨rfl, hbX⟩
            rw [ht2]
            have KX' : Below wV.heap.size wV wX := below_dr0 hbX
            have KX : Below wr.heap.size wr wX := KV.trans (KX'.mono KV.size)
            refine hKON.out _ _ (KS2 _ KX') (fun sH => ?_)
            clear hKON KON
            try simp only [Act.put, List.setIfInBounds_toArray, List.set_cons_zero, List.set_cons_succ]
            refine wpAnyH_take (i := 9) (v := ?_) nthe9 (by kernel_rfl) (by kernel_rfl) (by kernel_rfl) (fun _ _ _ h => h) (Or.inl ⟨by rfl, ?_⟩) sH ?_
            rotate_left
            · intro wS hSw; (try dsimp only at hSw); go_simp; try with_reducible rfl
            try simp only [Act.put, List.setIfInBounds_toArray, List.set_cons_zero, List.set_cons_succ]
            refine wpAnyH_done (by kernel_rfl) ?_ _
            refine NoPanic.normal ?_
            have y3 : wX.cell? ⟨q, k, none⟩ = some (.slice (some ⟨G k, 0, none⟩) m (C k)) := (KS _ KX).2.2
            have HN2 := Lib.hid (show psS m P Y x0 step left (k + 1) = (fun a => x a + (-step) * Y k a, mo + 1) by rw [HNX.out]; unfold psT; rw [if_pos hml, if_neg (by rw [HT1.out]; exact Bool.false_ne_true), if_pos ht2])
            clear ht2
            go_upto_region 10 with (go_at_call 51; refine (l05Add_any wX _ _ m x (Y k) (-step) gx (gx + 1) (G k) (G k + 1) (HOX.out.below KX (Nat.le_refl _)).sl (Nat.le_trans HOX.out.lt KX.size) (HY.out.below KX (Nat.le_refl _)).sl (Nat.le_trans HY.out.lt KX.size) (by omega) (fun a ha => (HTY.out _ (by omega) a ha).1) (fun a ha => (HTY.out _ (by omega) a ha).2)).mono ?_; rintro e wZ ⟨v2, g2, rfl, o2, hg2, hbZ⟩; obtain ⟨c2, rfl⟩ := o2.shape)
            have zX := KX.size
            have zZ := hbZ.size
            have HL2 := HL.out.trans ((KX.trans (hbZ.mono zX)).mono hsz)
            go_wp2_with fail
            go_roundw
            case rel => exact ⟨k + 1, g2, c2, _, mo + 1, rfl, HN2.out.symm, o2, .inr (by omega), rfl, by go_num, hlt, by omega, HL2⟩
            case measure => simp [intOf]; omega
        · refine wp_region_noPanic ?_
          refine wp_region_held_drew (S := fun w' : World => Below wr.heap.size wr w' ∧ w'.rangeAt w.heap.size 0 [.slice p0 n c0, .slice p1 m c1] ∧ w'.cell? ⟨q, k, none⟩ = some (.slice (some ⟨G k, 0, none⟩) m (C k))) (by kernel_rfl) (KS _ (below_drw (Below.refl _ _))) (fun sH => ?_)
          refine wpAnyH_take (i := 0) (v := .agg #[.slice p0 n c0, .slice p1 m c1]) nthe0 (by kernel_rfl) (by kernel_rfl) (by kernel_rfl) (fun _ _ _ h => h) (yieldsIf_load_mid (by rfl) _ _ rfl w.heap.size 0 rfl [.slice p0 n c0, .slice p1 m c1] _ (fun _ h => h.2.1) UN rfl (by exact nN)) sH ?_
          try simp only [Act.put, List.setIfInBounds_toArray, List.set_cons_zero, List.set_cons_succ]
          refine wpAnyH_take (i := 1) (v := ?_) nthe1 (by kernel_rfl) (by kernel_rfl) (by kernel_rfl) (fun _ _ _ h => h) (Or.inl ⟨by rfl, ?_⟩) sH ?_
          rotate_left
          · intro wS hSw; (try dsimp only at hSw); go_simp; try with_reducible rfl
          try simp only [Act.put, List.setIfInBounds_toArray, List.set_cons_zero, List.set_cons_succ]
          refine wpAnyH_take (i := 2) (v := ?_) nthe2 (by kernel_rfl) (by kernel_rfl) (by kernel_rfl) (fun _ _ _ h => h) (Or.inl ⟨by rfl, ?_⟩) sH ?_
          rotate_left
          · intro wS hSw; (try dsimp only at hSw); go_simp; try with_reducible rfl
          try simp only [Act.put, List.setIfInBounds_toArray, List.set_cons_zero, List.set_cons_succ]
          refine wpAnyH_take (i := 3) (v := ?_) nthe3 (by kernel_rfl) (by kernel_rfl) (by kernel_rfl) (fun _ _ _ h => h) (Or.inl ⟨by rfl, ?_⟩) sH ?_
          rotate_left
          · intro wS hSw; (try dsimp only at hSw); go_simp; try with_reducible rfl
          try simp only [Act.put, List.setIfInBounds_toArray, List.set_cons_zero, List.set_cons_succ]
          refine wpAnyH_take (i := 4) (v := ?_) nthe4 (by kernel_rfl) (by kernel_rfl) (by kernel_rfl) (fun _ _ _ h => h) (Or.inl ⟨by rfl, ?_⟩) sH ?_
          rotate_left
          · intro wS hSw; (try dsimp only at hSw); go_simp; try with_reducible rfl
          try simp only [Act.put, List.setIfInBounds_toArray, List.set_cons_zero, List.set_cons_succ]
          refine wpAnyH_take (i := 5) (v := ?_) nthe5 (by kernel_rfl) (by kernel_rfl) (by kernel_rfl) (fun _ _ _ h => h) (Or.inl ⟨by rfl, ?_⟩) sH ?_
          rotate_left
          · intro wS hSw; (try dsimp only at hSw); go_simp; try with_reducible rfl
          try simp only [Act.put, List.setIfInBounds_toArray, List.set_cons_zero, List.set_cons_succ]
          refine wpAnyH_take (i := 6) (v := ?_) nthe6 (by kernel_rfl) (by kernel_rfl) (by kernel_rfl) (fun _ _ _ h => h) (Or.inl ⟨by rfl, ?_⟩) sH ?_
          rotate_left
          · intro wS hSw; (try dsimp only at hSw); go_simp; try with_reducible rfl
          try simp only [Act.put, List.setIfInBounds_toArray, List.set_cons_zero, List.set_cons_succ]
          refine wpAnyH_ready (rs := [7]) (by kernel_rfl) (by simp) (AllReadyH.cons nthe7 (fun KON hKON => ?_) AllReadyH.nil)
          clear sH
          go_simp
          refine (l10Lower_any _ _ n N m P lo hi (HV.out.below (BW.out.trans ((below_drw (Below.refl wr.heap.size wr)).mono hwr)) hhi) hir HBN.out _ x gx (gx + 1) (HOX.out.below (below_drw (Below.refl wr.heap.size wr)) (Nat.le_refl _)).sl (show gx + 1 ≤ wr.heap.size from HOX.out.lt) HXR.out _ _ (G k) (G k + 1) (HY.out.below (below_drw (Below.refl wr.heap.size wr)) (Nat.le_refl _)).sl (show G k + 1 ≤ wr.heap.size from HY.out.lt) HCR.out (step) (by omega)).mono ?_
          rintro e wX ⟨rfl, hbX⟩
          rw [ht1]
          have KX : Below wr.heap.size wr wX := below_dr0 hbX
          refine hKON.out _ _ (KS _ KX) (fun sH => ?_)
          clear hKON KON
          try simp only [Act.put, List.setIfInBounds_toArray, List.set_cons_zero, List.set_cons_succ]
          refine wpAnyH_take (i := 8) (v := ?_) nthe8 (by kernel_rfl) (by kernel_rfl) (by kernel_rfl) (fun _ _ _ h => h) (Or.inl ⟨by rfl, ?_⟩) sH ?_
          rotate_left
          · intro wS hSw; (try dsimp only at hSw); go_simp; try with_reducible rfl
          try simp only [Act.put, List.setIfInBounds_toArray, List.set_cons_zero, List.set_cons_succ]
          refine wpAnyH_done (by kernel_rfl) ?_ _
          refine NoPanic.normal ?_
          have y3 : wX.cell? ⟨q, k, none⟩ = some (.slice (some ⟨G k, 0, none⟩) m (C k)) := (KS _ KX).2.2
          have HN2 := Lib.hid (show psS m P Y x0 step left (k + 1) = (fun a => x a + step * Y k a, mo + 1) by rw [HNX.out]; unfold psT; rw [if_pos hml, if_pos ht1])
          clear ht1
          go_upto_region 7 with (go_at_call 51; refine (l05Add_any wX _ _ m x (Y k) (step) gx (gx + 1) (G k) (G k + 1) (HOX.out.below KX (Nat.le_refl _)).sl (Nat.le_trans HOX.out.lt KX.size) (HY.out.below KX (Nat.le_refl _)).sl (Nat.le_trans HY.out.lt KX.size) (by omega) (fun a ha => (HTY.out _ (by omega) a ha).1) (fun a ha => (HTY.out _ (by omega) a ha).2)).mono ?_; rintro e wZ ⟨v2, g2, rfl, o2, hg2, hbZ⟩; obtain ⟨c2, rfl⟩ := o2.shape)
          have zX := KX.size
          have zZ := hbZ.size
          have HL2 := HL.out.trans ((KX.trans (hbZ.mono zX)).mono hsz)
          go_wp2_with fail
          go_roundw
          case rel => exact ⟨k + 1, g2, c2, _, mo + 1, rfl, HN2.out.symm, o2, .inr (by omega), rfl, by go_num, hlt, by omega, HL2⟩
          case measure => simp [intOf]; omega
      · have hdm : decide (mo < left) = false := decide_eq_false hml
        have HST := Lib.hid (show psS m P Y x0 step left (chN n P m) = (x, mo) by rw [psS_stop (i := k) (by rw [← HPS.out]; exact hml) hk]; exact HPS.out.symm)
        clear hml
        go_wp2_with fail
        go_ret2
        first | exact ⟨.slice (some ⟨gx, 0, none⟩) m cx, gx, (by (first | rw [HYE.out, HST.out] | rw [HST.out]); rfl), (by (first | rw [HYE.out, HST.out] | rw [HST.out]); exact HOX.out), (by omega), BW.out⟩ | exact ⟨.slice (some ⟨gx, 0, none⟩) m cx, (by (first | rw [HYE.out, HST.out] | rw [HST.out]); rfl), gx, (by (first | rw [HYE.out, HST.out] | rw [HST.out]); exact HOX.out), (by omega), BW.out⟩
    · have hkn : k = chN n P m := by omega
      have HST := Lib.hid (show psS m P Y x0 step left (chN n P m) = (x, mo) by rw [← hkn]; exact HPS.out.symm)
      have k1 : ¬ ((k : Int) < (chN n P m : Int)) := by omega
      clear hkn
      go_wp2_with fail
      go_ret2
      first | exact ⟨.slice (some ⟨gx, 0, none⟩) m cx, gx, (by (first | rw [HYE.out, HST.out] | rw [HST.out]); rfl), (by (first | rw [HYE.out, HST.out] | rw [HST.out]); exact HOX.out), (by omega), BW.out⟩ | exact ⟨.slice (some ⟨gx, 0, none⟩) m cx, (by (first | rw [HYE.out, HST.out] | rw [HST.out]); rfl), gx, (by (first | rw [HYE.out, HST.out] | rw [HST.out]); exact HOX.out), (by omega), BW.out⟩
end Go.Proofs.YtdbgcbkmcbgdiaaGreat.mem
