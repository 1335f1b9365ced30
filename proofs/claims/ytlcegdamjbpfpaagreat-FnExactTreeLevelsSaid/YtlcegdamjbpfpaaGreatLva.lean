/-
  The program's drop of a pipe and the closure that fills the levels. Conditions: as each states.
-/
import Derived.Test.YtlcegdamjbpfpaaGreatRows
import Derived.Test.YtlcegdamjbpfpaaGreatBaM
import Derived.Test.YtlcegdamjbpfpaaGreatPot
import Derived.IntWalk
namespace Go.Proofs.YtlcegdamjbpfpaaGreat.mem
open Go.RowKit
set_option linter.unusedVariables false

set_option maxRecDepth 100000 in
set_option maxHeartbeats 4000000 in
theorem dropFor_any (q : Pip) (x : Int) (w : World) (n : Int) (hq : pipB n q = true) (h0 : -30000 ≤ x) (h1 : x ≤ 30000) : Calls Tryz.prog 56 #[.agg #[.int .i64 q.f, .int .i64 q.t, .int .i64 q.k, .int .i64 q.v, .int .i64 q.l], .int .i64 x] w fun e w' => e = .returned (.int .i64 (drp q x)) ∧ Below w.heap.size w w' := by
  have hd := drp_bnd hq h0 h1
  have hk := pip_k hq
  have a1 := Int.mul_le_mul_of_nonneg_left h1 (show 0 ≤ q.k by omega)
  have a2 := Int.mul_le_mul_of_nonneg_left h0 (show 0 ≤ q.k by omega)
  have W1 : IntKind.i64.wrap (q.k * x) = q.k * x := IntWalk.i64_in _ (by omega)
  have W2 : IntKind.i64.wrap (q.k * x * (x.natAbs : Int)) = drp q x := by rw [drp_eq]; exact IntWalk.i64_in _ (by omega)
  clear a1 a2 hd hk hq
  go_enter Tryz.func56, Tryz.ntmps56
  go_wp2_with fail
  go_quiet ((go_at_call 97; exact Calls.quiet_of_same ((absN_any _ _ (by omega) (by omega)).mono fun e w' h => ⟨h.1, h.2.symm⟩)))
  go_wp2_with fail
  go_ret
  exact ⟨rfl, below_drN1 (below_new _ _) _⟩

theorem Own.put2 {w : World} {v : Value} {n g : Nat} {d : Nat → Int} (h : Own w v n d g) (i : Nat) (x : Int) (hi : i < n) : Own (w.setCell ⟨g, i, none⟩ (.int .i64 x)) v n (upd d i x) g := by
  obtain ⟨cap, cur, h0, h1, h2, h3, h4, h5⟩ := h.ex
  refine ⟨cap, cur.setIfInBounds i (.int .i64 x), h0, ?_, h2, h3, by simpa using h4, fun k hk => ?_⟩
  · simp [World.setCell, Array.getElem?_modify, h1]
  · unfold upd
    by_cases e : k = i
    · subst e
      rw [if_pos rfl]
      simp [h4, show k < cap by omega]
    · rw [if_neg e, Array.getElem?_setIfInBounds, if_neg (by omega)]
      exact h5 k hk
theorem Own.fre2 {w : World} {v : Value} {n g : Nat} {d : Nat → Int} (h : Own w v n d g) (i : Nat) : w.frozen? ⟨g, i, none⟩ = false := by
  obtain ⟨cap, cur, h0, h1, _⟩ := h.ex
  simp [World.frozen?, h1]
theorem Own.made2 (w : World) (n : Nat) (hn : n ≤ 1000000) : Own (w.alloc (.cells (zeros n) 2)) (.slice (some ⟨w.heap.size, 0, none⟩) n n) n (fun _ => 0) w.heap.size :=
  ⟨n, zeros n, rfl, heap_alloc_new w _, Nat.le_refl _, by unfold maxLen; omega, by unfold zeros; simp [madeCells], fun k hk => zeros_get n k hk⟩
/-- what the closure that fills the levels reads -/
structure FE (n m L : Nat) (N : Nat → Nod) (P : Nat → Pip) (F : Nat → Int) (x : Nat → Int) (p0 : Option Addr) (c0 : Nat) (p1 : Option Addr) (c1 lo hi la ha g bl bf bn bfi bfl gf cf : Nat) (va : Value) (w : World) : Prop where
  net : NetAt w (.agg #[.slice p0 n c0, .slice p1 m c1]) n N m P lo hi
  sl : Sl w va m x la ha
  fo : Own w (.slice (some ⟨gf, 0, none⟩) L cf) L F gf
  ol : Ob w bl 1 (fun _ => .slice (some ⟨g, 0, none⟩) n n)
  of : Ob w bf 1 (fun _ => .slice (some ⟨gf, 0, none⟩) L cf)
  on : Ob w bn 2 (bx (.slice p0 n c0) (.slice p1 m c1))
  oi : Ob w bfi 1 (fun _ => .func (.func 77) #[] #[.pointer (some ⟨bl, 0, none⟩), .pointer (some ⟨bf, 0, none⟩), .pointer (some ⟨bn, 0, none⟩), .pointer (some ⟨bfi, 0, none⟩), .pointer (some ⟨bfl, 0, none⟩)])
  ow : Ob w bfl 1 (fun _ => va)
  h1 : hi ≤ g
  h2 : ha ≤ g
  n1 : bl ≠ g
  n2 : bf ≠ g
  n3 : bn ≠ g
  n4 : bfi ≠ g
  n5 : bfl ≠ g
  n6 : gf ≠ g
  hg : g < w.heap.size
theorem FE.upd {n m L : Nat} {N : Nat → Nod} {P : Nat → Pip} {F : Nat → Int} {x : Nat → Int} {p0 : Option Addr} {c0 : Nat} {p1 : Option Addr} {c1 lo hi la ha g bl bf bn bfi bfl gf cf : Nat} {va : Value} {w w' : World}
    (h : FE n m L N P F x p0 c0 p1 c1 lo hi la ha g bl bf bn bfi bfl gf cf va w) (u : Upd (fun b => b = g) w w') : FE n m L N P F x p0 c0 p1 c1 lo hi la ha g bl bf bn bfi bfl gf cf va w' := by
  have hb : Below g w w' := u.below (Nat.le_of_lt h.hg) (fun k _ hk => by omega)
  exact ⟨h.net.below hb h.h1, h.sl.below hb h.h2, h.fo.keep (u.block _ h.fo.lt h.n6), h.ol.keep (u.block _ h.ol.lt h.n1), h.of.keep (u.block _ h.of.lt h.n2), h.on.keep (u.block _ h.on.lt h.n3), h.oi.keep (u.block _ h.oi.lt h.n4), h.ow.keep (u.block _ h.ow.lt h.n5), h.h1, h.h2, h.n1, h.n2, h.n3, h.n4, h.n5, h.n6, Nat.lt_of_lt_of_le h.hg u.size⟩
theorem upd_drw {X : Nat → Prop} {w w' : World} (h : Upd X w w') : Upd X w w'.drew := ⟨h.os, h.tape, h.output, h.size, h.block⟩

/-- the forest's pipes -/
def inFo (n : Nat) (P : Nat → Pip) (m a : Nat) : Prop := a < m ∧ inF n P m (fl (rts n P m) n) a = true
set_option maxRecDepth 100000 in
set_option maxHeartbeats 8000000 in
theorem fill_any {n m : Nat} {N : Nat → Nod} {P : Nat → Pip} (hB : netB n N m P = true) {x : Nat → Int} (hx : ∀ a, a < m → -30000 ≤ x a ∧ x a ≤ 30000) {lv : Int → Int} (hlv : ∀ z : Int, 0 ≤ z ∧ z < n → -600000000000000000 ≤ lv z ∧ lv z ≤ 600000000000000000)
    (hst : ∀ a, a < m → inF n P m (fl (rts n P m) n) a = true → ∀ z : Int, endB (P a) z = true → lv (othV (P a) z) = lv z - sgn (P a) z * drp (P a) (x a))
    {p0 : Option Addr} {c0 : Nat} {p1 : Option Addr} {c1 lo hi la ha g bl bf bn bfi bfl gf cf : Nat} {va : Value} :
    ∀ (k : Nat) (w : World) (Z : Nat) (en : Int) (d : Nat → Int), Z < n → Fu n (fE n P m) (fD n P m) (Z : Int) en k → FE n m (forest n P m).length N P (lD (forest n P m)) x p0 c0 p1 c1 lo hi la ha g bl bf bn bfi bfl gf cf va w → Own w (.slice (some ⟨g, 0, none⟩) n n) n d g →
      Calls Tryz.prog 77 #[.int .i64 (Z : Nat), .int .i64 en, .int .i64 (lv (Z : Nat)), .pointer (some ⟨bl, 0, none⟩), .pointer (some ⟨bf, 0, none⟩), .pointer (some ⟨bn, 0, none⟩), .pointer (some ⟨bfi, 0, none⟩), .pointer (some ⟨bfl, 0, none⟩)] w fun e w' =>
        e = .returned (.tuple #[]) ∧ ∃ d', Own w' (.slice (some ⟨g, 0, none⟩) n n) n d' g ∧ Grow lv d d' ∧ (∃ V, Dfs n P (inFo n P m) lv (Z : Nat) (fun a => inFo n P m a ∧ (a : Int) ≠ en) d' V) ∧ Upd (fun b => b = g) w w' := by
  obtain ⟨hn1, hn24, hm40⟩ := net_sz hB
  have hfm := forest_le n P m
  have HFO := Lib.hid (fo_net (P := P) (m := m) hB)
  have HB := Lib.hid hB
  have HX := Lib.hid hx
  have HLV := Lib.hid hlv
  have HST := Lib.hid hst
  clear hB hx hlv hst
  intro k
  induction k with
  | zero =>
    intro w Z en d hZ hfu
    exact absurd hfu (HFO.out.fu_zero ⟨Int.natCast_nonneg _, by omega⟩)
  | succ k ih =>
    intro w Z en d hZ hfu hfe ho
    have HIH := Lib.hid ih
    have HFU := Lib.hid hfu
    clear ih hfu
    obtain ⟨pa, ca, hva⟩ := hfe.sl.sh
    subst hva
    have z0 : (0 : Int) ≤ (Z : Int) := Int.natCast_nonneg _
    have z1 : (Z : Int) < (n : Int) := by omega
    have y0 : w.cell? ⟨bl, 0, none⟩ = some (.slice (some ⟨g, 0, none⟩) n n) := hfe.ol.cell 0 (by omega)
    have y1 : w.cell? ⟨g, Z, none⟩ = some (.int .i64 (d Z)) := ho.row.cell Z hZ
    have y2 := ho.fre2 Z
    have o1 := (Only.refl g w).setCell Z (.int .i64 (lv (Z : Nat)))
    have O1 := ho.put2 Z (lv (Z : Nat)) hZ
    have U1 : Upd (fun b => b = g) w (w.setCell ⟨g, Z, none⟩ (.int .i64 (lv (Z : Nat)))) := Upd.of_only o1
    have E1 := hfe.upd U1
    have y3 : (w.setCell ⟨g, Z, none⟩ (.int .i64 (lv (Z : Nat)))).cell? ⟨bf, 0, none⟩ = some (.slice (some ⟨gf, 0, none⟩) (forest n P m).length cf) := E1.of.cell 0 (by omega)
    have HO := Lib.hid O1
    have HE := Lib.hid E1
    have HF0 := Lib.hid hfe
    have HF0 := Lib.hid hfe
    have HF0 := Lib.hid hfe
    have HU := Lib.hid U1
    clear hfe ho o1 O1 U1 E1
    go_enter Tryz.func77, Tryz.ntmps77
    go_wp2_with fail
    obtain ⟨w1, hw1⟩ : ∃ w1, w.setCell ⟨g, Z, none⟩ (.int .i64 (lv (Z : Nat))) = w1 := ⟨_, rfl⟩
    rw [hw1] at HO HE HU ⊢
    clear hw1 y0 y1 y2 y3
    go_loopw [20] (fun iv wr => ∃ (q : Nat) (d' : Nat → Int), iv = .int .i64 q ∧ q ≤ (forest n P m).length ∧ Own wr (.slice (some ⟨g, 0, none⟩) n n) n d' g ∧ Grow lv d d' ∧ (∃ V, Dfs n P (inFo n P m) lv (Z : Nat) (fun a => (a : Int) ≠ en ∧ ∃ j, j < q ∧ lD (forest n P m) j = ((a : Nat) : Int)) d' V) ∧ Upd (fun b => b = g) w wr) (fun iv _ => (forest n P m).length - (intOf iv).toNat)
    case atStart => exact ⟨0, upd d Z (lv (Z : Nat)), rfl, Nat.zero_le _, HO.out, Grow.upd d Z, ⟨_, Dfs.start hZ d (fun b h => by obtain ⟨_, j, hj, _⟩ := h; omega)⟩, HU.out⟩
    case round =>
      obtain ⟨q, d', rfl, hq, ho, hgr, ⟨V, hD⟩, hu⟩ := hrel
      clear HO HE HU
      have E := HF0.out.upd hu
      have HGR := Lib.hid hgr
      have HD := Lib.hid hD
      have HU := Lib.hid hu
      have HO := Lib.hid ho
      have HE := Lib.hid E
      have lg := ho.lt
      clear hgr hD hu ho
      have q0 : (0 : Int) ≤ (q : Int) := Int.natCast_nonneg _
      generalize hQ : Exit.then _ _ = Q
      have HQ := Lib.hid hQ
      clear hQ
      by_cases hlt : q < (forest n P m).length
      · have q1 : (q : Int) < ((forest n P m).length : Int) := by omega
        obtain ⟨a, ham, hin, hla, _, hFa⟩ := forest_at hlt
        have yf : wr.cell? ⟨gf, q, none⟩ = some (.int .i64 (a : Int)) := by
          have h1 := E.fo.row.cell q hlt
          rwa [hla] at h1
        have yn : wr.cell? ⟨bn, 1, none⟩ = some (.slice p1 m c1) := E.on.b1
        obtain ⟨bp, op, rfl, q2, q3, r0, r1, r2, r3, r4⟩ := E.net.pipe ham
        have a0 : (0 : Int) ≤ (a : Int) := Int.natCast_nonneg _
        have a1 : (a : Int) < (m : Int) := by omega
        have HIN := Lib.hid hin
        have HLA := Lib.hid hla
        have HP5 := Lib.hid (boxedP wr (P a) 48)
        have b5 := Lib.hid (below_new wr (.cells #[.int .i64 (P a).f, .int .i64 (P a).t, .int .i64 (P a).k, .int .i64 (P a).v, .int .i64 (P a).l] 48))
        have hs5 : (wr.alloc (.cells #[.int .i64 (P a).f, .int .i64 (P a).t, .int .i64 (P a).k, .int .i64 (P a).v, .int .i64 (P a).l] 48)).heap.size = wr.heap.size + 1 := by simp
        clear hin hla hFa E
        by_cases hen : (a : Int) = en
        · have hb1 : ((a : Int) != en) = false := by simp [hen]
          have HEN := Lib.hid hen
          clear hen
          go_wp2_with fail
          rw [← HQ.out]
          refine ⟨⟨_, _, _, _, _, _, _, _, _, _, _, _, _, _, _, _, _, _, _, _, _, _, _, _, _, _, _, _, _, _, _, _, _, _, _, _, _, _, ?rel, rfl⟩, ?measure⟩
          case rel =>
            refine ⟨q + 1, d', by go_num, hlt, HO.out.keep (b5.out.block g lg), HGR.out, ⟨V, HD.out.skip (fun b hb _ => ⟨hb.1, ?_⟩)⟩, HU.out.trans (Upd.of_below b5.out)⟩
            obtain ⟨hne, j, hj, hj2⟩ := hb
            refine ⟨j, ?_, hj2⟩
            rcases Nat.lt_or_ge j q with h | h
            · exact h
            · exfalso
              obtain rfl : j = q := by omega
              rw [HLA.out] at hj2
              exact hne (by rw [← hj2]; exact HEN.out)
          case measure => simp [intOf]; omega
        · have hb1 : ((a : Int) != en) = true := by simp [hen]
          have HEN := Lib.hid hen
          clear hen
          cases hp : endB (P a) (Z : Int)
          · have HPE := Lib.hid hp
            clear hp
            go_wp2_with fail
            refine (endsAt_any (P a) (Z : Int) _).mono ?_
            rintro e w6 ⟨rfl, b6⟩
            have HB6 := Lib.hid (b5.out.trans (b6.mono (by omega)))
            rw [HPE.out]
            clear b6 r0 r1 r2 r3 r4 hs5
            go_wp2_with fail
            rw [← HQ.out]
            refine ⟨⟨_, _, _, _, _, _, _, _, _, _, _, _, _, _, _, _, _, _, _, _, _, _, _, _, _, _, _, _, _, _, _, _, _, _, _, _, _, _, ?rel, rfl⟩, ?measure⟩
            case rel =>
              refine ⟨q + 1, d', by go_num, hlt, HO.out.keep (HB6.out.block g lg), HGR.out, ⟨V, HD.out.skip (fun b hb hbe => ⟨hb.1, ?_⟩)⟩, HU.out.trans (Upd.of_below HB6.out)⟩
              obtain ⟨hne, j, hj, hj2⟩ := hb
              refine ⟨j, ?_, hj2⟩
              rcases Nat.lt_or_ge j q with h | h
              · exact h
              · exfalso
                obtain rfl : j = q := by omega
                rw [HLA.out] at hj2
                obtain rfl : a = b := by omega
                rw [HPE.out] at hbe
                cases hbe
            case measure => simp [intOf]; omega
          · have HPE := Lib.hid hp
            obtain ⟨hpb0, hpb1⟩ := HFO.out.oth ham (Z : Int)
            obtain ⟨U, hU⟩ := Int.eq_ofNat_of_zero_le hpb0
            have hUn : U < n := by omega
            obtain ⟨x0, x1⟩ := HX.out a ham
            obtain ⟨dd0, dd1⟩ := drp_bnd (net_pip HB.out ham) x0 x1
            have hst := HST.out a ham HIN.out (Z : Int) hp
            obtain ⟨lz0, lz1⟩ := HLV.out (Z : Int) ⟨z0, z1⟩
            obtain ⟨lu0, lu1⟩ := HLV.out (U : Int) ⟨Int.natCast_nonneg _, by omega⟩
            have hsg := sgn_rng (P a) (Z : Int)
            rw [hU] at hst
            have hsd : -900000000000 ≤ sgn (P a) (Z : Int) * drp (P a) (x a) ∧ sgn (P a) (Z : Int) * drp (P a) (x a) ≤ 900000000000 := by rcases hsg with e | e <;> rw [e] <;> omega
            have W1 := Lib.hid (show IntKind.i64.wrap (lv (Z : Nat) - IntKind.i64.wrap (sgn (P a) (Z : Int) * drp (P a) (x a))) = lv (U : Nat) by
              rw [IntWalk.i64_in (sgn (P a) (Z : Int) * drp (P a) (x a)) (by omega), IntWalk.i64_in _ (by omega), hst])
            have HOU := Lib.hid hU
            have HNF := Lib.hid (HFO.out.fu_step ⟨z0, z1⟩ ham ((inF_fE HB.out a).1 HIN.out) hp HEN.out HFU.out)
            rw [hU] at HNF
            clear hp hst hsd hsg dd0 dd1 lz0 lz1 lu0 lu1 hpb0 hpb1 hU
            go_wp2_with fail
            refine (endsAt_any (P a) (Z : Int) _).mono ?_
            rintro e w6 ⟨rfl, b6⟩
            have HB6 := Lib.hid (b5.out.trans (b6.mono (by omega)))
            rw [HPE.out]
            have hs6 := b6.size
            have P6 := HP5.out.below b6 (by omega)
            have E6 := HE.out.upd (Upd.of_below HB6.out)
            have O6 := HO.out.keep (HB6.out.block g lg)
            have lg6 := O6.lt
            have lp6 := P6.lt
            have hpg : wr.heap.size ≠ g := by omega
            clear b6 r0 r1 r2 r3 r4 yn yf
            obtain ⟨p', c', ee, hxx⟩ := E6.sl.ex
            injection ee with ee1 _ ee3
            subst ee1 ee3
            obtain ⟨ba, oa, rfl, g1, g2, hxx⟩ : ∃ b o, pa = some ⟨b, o, none⟩ ∧ la ≤ b ∧ b < ha ∧ ∀ k, k < m → w6.cell? ⟨b, o + k, none⟩ = some (.int .i64 (x k)) := by
              rcases hxx with e | e
              · omega
              · exact e
            have yx := hxx a ham
            have hbg : ba ≠ g := by have := E6.h2; omega
            have c0 := P6.cell 0 (by omega)
            have c1' := P6.cell 1 (by omega)
            have c2 := P6.cell 2 (by omega)
            have c3 := P6.cell 3 (by omega)
            have c4 := P6.cell 4 (by omega)
            have yi : w6.cell? ⟨bfi, 0, none⟩ = _ := E6.oi.cell 0 (by omega)
            have yw : w6.cell? ⟨bfl, 0, none⟩ = _ := E6.ow.cell 0 (by omega)
            have n4 := E6.n4
            have n5 := E6.n5
            have i4 := E6.oi.lt
            have i5 := E6.ow.lt
            have i6 : ba < w6.heap.size := by have := E6.h2; omega
            have HK : ∀ X : World, Upd (fun b => b = g) w6 X → X.cell? ⟨bfi, 0, none⟩ = some (.func (.func 77) #[] #[.pointer (some ⟨bl, 0, none⟩), .pointer (some ⟨bf, 0, none⟩), .pointer (some ⟨bn, 0, none⟩), .pointer (some ⟨bfi, 0, none⟩), .pointer (some ⟨bfl, 0, none⟩)]) ∧ X.cell? ⟨bfl, 0, none⟩ = some (.slice (some ⟨ba, oa, none⟩) m ca) ∧ X.cell? ⟨wr.heap.size, 0, none⟩ = some (.int .i64 (P a).f) ∧ X.cell? ⟨wr.heap.size, 1, none⟩ = some (.int .i64 (P a).t) ∧ X.cell? ⟨wr.heap.size, 2, none⟩ = some (.int .i64 (P a).k) ∧ X.cell? ⟨wr.heap.size, 3, none⟩ = some (.int .i64 (P a).v) ∧ X.cell? ⟨wr.heap.size, 4, none⟩ = some (.int .i64 (P a).l) ∧ X.cell? ⟨ba, oa + a, none⟩ = some (.int .i64 (x a)) := fun X h =>
              ⟨(World.cell?_of_block (h.block bfi i4 n4)).trans yi, (World.cell?_of_block (h.block bfl i5 n5)).trans yw, (World.cell?_of_block (h.block _ lp6 hpg)).trans c0, (World.cell?_of_block (h.block _ lp6 hpg)).trans c1', (World.cell?_of_block (h.block _ lp6 hpg)).trans c2, (World.cell?_of_block (h.block _ lp6 hpg)).trans c3, (World.cell?_of_block (h.block _ lp6 hpg)).trans c4, (World.cell?_of_block (h.block ba i6 hbg)).trans yx⟩
            have K0 : Below w6.heap.size w6 w6.drew := ⟨rfl, rfl, rfl, Nat.le_refl _, fun _ _ => rfl⟩
            have HE6 := Lib.hid E6
            have HO6 := Lib.hid O6
            clear hxx E6 O6 P6
            go_wp2_with fail
            go_region_held3 (fun w' : World => w'.cell? ⟨bfi, 0, none⟩ = some (.func (.func 77) #[] #[.pointer (some ⟨bl, 0, none⟩), .pointer (some ⟨bf, 0, none⟩), .pointer (some ⟨bn, 0, none⟩), .pointer (some ⟨bfi, 0, none⟩), .pointer (some ⟨bfl, 0, none⟩)]) ∧ w'.cell? ⟨bfl, 0, none⟩ = some (.slice (some ⟨ba, oa, none⟩) m ca) ∧ w'.cell? ⟨wr.heap.size, 0, none⟩ = some (.int .i64 (P a).f) ∧ w'.cell? ⟨wr.heap.size, 1, none⟩ = some (.int .i64 (P a).t) ∧ w'.cell? ⟨wr.heap.size, 2, none⟩ = some (.int .i64 (P a).k) ∧ w'.cell? ⟨wr.heap.size, 3, none⟩ = some (.int .i64 (P a).v) ∧ w'.cell? ⟨wr.heap.size, 4, none⟩ = some (.int .i64 (P a).l) ∧ w'.cell? ⟨ba, oa + a, none⟩ = some (.int .i64 (x a)))
              (first | exact HK _ UZ | exact HK _ (Upd.of_below (by assumption : Below w6.heap.size w6 _)))
              (first
                | (go_at_call 79; refine (otherEnd_any (P a) (Z : Int) _).mono ?_; rintro e wA ⟨rfl, hbA⟩; rw [HOU.out]; have SA : Below w6.heap.size w6 wA := Below.trans (by assumption : Below w6.heap.size w6 _) (hbA.mono (Below.size (by assumption : Below w6.heap.size w6 _))); clear hbA)
                | (go_at_call 80; refine (signFrom_any (P a) (Z : Int) _).mono ?_; rintro e wB ⟨rfl, hbB⟩; have SB : Below w6.heap.size w6 wB := Below.trans (by assumption : Below w6.heap.size w6 _) (hbB.mono (Below.size (by assumption : Below w6.heap.size w6 _))); clear hbB)
                | (go_at_call 56; refine (dropFor_any (P a) (x a) _ n (net_pip HB.out ham) x0 x1).mono ?_; rintro e wC ⟨rfl, hbC⟩; have SC : Below w6.heap.size w6 wC := Below.trans (by assumption : Below w6.heap.size w6 _) (hbC.mono (Below.size (by assumption : Below w6.heap.size w6 _))); clear hbC)
                | (go_at_call 77; rw [W1.out]; refine (HIH.out _ U (a : Int) d' hUn HNF.out (HE6.out.upd (Upd.of_below (by assumption : Below w6.heap.size w6 _))) (HO6.out.keep (Below.block (by assumption : Below w6.heap.size w6 _) g lg6))).mono ?_; rintro e wz ⟨rfl, d2, o2, gr2, ⟨V2, D2⟩, u2⟩; have UZ : Upd (fun b => b = g) w6 wz := (Upd.of_below (by assumption : Below w6.heap.size w6 _)).trans u2; clear u2))
            all_goals
              have HO7 := Lib.hid o2
              have HG7 := Lib.hid gr2
              have HD7 := Lib.hid D2
              have HU7 := Lib.hid (HU.out.trans ((Upd.of_below HB6.out).trans UZ))
              clear UZ o2 gr2 D2 HK yi yw c0 c1' c2 c3 c4 yx
              go_wp2_with fail
              rw [← HQ.out]
              refine ⟨⟨_, _, _, _, _, _, _, _, _, _, _, _, _, _, _, _, _, _, _, _, _, _, _, _, _, _, _, _, _, _, _, _, _, _, _, _, _, _, ?rel, rfl⟩, ?measure⟩
              case rel =>
                rw [← HOU.out] at HD7
                refine ⟨q + 1, d2, by go_num, hlt, HO7.out, HGR.out.trans HG7.out, ⟨_, HD.out.step HG7.out (net_pip HB.out ham) HPE.out HD7.out (fun b hb => ?_)⟩, HU7.out⟩
                obtain ⟨hne, j, hj, hj2⟩ := hb
                rcases Nat.lt_or_ge j q with h | h
                · exact .inl ⟨hne, j, h, hj2⟩
                · right
                  obtain rfl : j = q := by omega
                  rw [HLA.out] at hj2
                  omega
              case measure => simp [intOf]; omega
      · have hqn : (forest n P m).length = q := by omega
        have q1 : ¬ ((q : Int) < ((forest n P m).length : Int)) := by omega
        have HQN := Lib.hid hqn
        clear hqn
        go_wp2_with fail
        rw [← HQ.out]
        go_wp2_with fail
        go_end0
        refine ⟨rfl, d', HO.out, HGR.out, ⟨V, HD.out.skip (fun b hb _ => ⟨hb.2, ?_⟩)⟩, HU.out⟩
        have h1 := forest_idx hb.1.1 hb.1.2
        exact ⟨_, by rw [← HQN.out]; exact h1.1, h1.2⟩
end Go.Proofs.YtlcegdamjbpfpaaGreat.mem
