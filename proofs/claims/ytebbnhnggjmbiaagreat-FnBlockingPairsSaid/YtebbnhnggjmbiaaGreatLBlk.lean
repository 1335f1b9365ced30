/-
  FnBlockingPairs returns true at every slice of bytes, and leaves it as it was. No condition.
-/
import Derived.Test.YtebbnhnggjmbiaaGreatRows
import Derived.Test.YtebbnhnggjmbiaaGreatLaw
import Derived.Test.YtebbnhnggjmbiaaGreatCode
import Derived.Test.YtebbnhnggjmbiaaGreatKkM
import Derived.Test.YtebbnhnggjmbiaaGreatDr8b
import Derived.WalkKit
import Derived.ProofKit
import Derived.OpenShut
import Derived.Lib.Hide
import Derived.Deep.QuietTactic
import Derived.BigQuiet
import Derived.OwnWalk
import Derived.Outline
import Derived.Deep.RegionHeld3
import Derived.Deep.RegionHeldLaw
import Derived.IntWalk
namespace Go.Proofs.YtebbnhnggjmbiaaGreat.fnBlockingPairs
open Go.ChangeShapes Go.WideShapes Go.ChangeAt Go.RowKit Go.Proofs.YtebbnhnggjmbiaaGreat.draw Go.Proofs.YtebbnhnggjmbiaaGreat.mem
set_option linter.unusedVariables false

theorem own : ownKnob Tryz.prog.godebug = none := by kernel_rfl
theorem laidOut : laidOutB Tryz.prog = true := by kernel_rfl

theorem own_at {w : World} {p : Option Addr} {n c b : Nat} {d : Nat → Int} (h : OwnS w (.slice p n c) n 1 (fun i _ => .int .i64 (d i)) b) {k : Nat} (hk : k < n) : p = some ⟨b, 0, none⟩ ∧ b < w.heap.size ∧ w.cell? ⟨b, k, none⟩ = some (.int .i64 (d k)) := by
  obtain ⟨p', cap, hv, h1, h2, h3⟩ := h.ex
  injection hv with e1 _ e3
  subst e1
  rcases h3 with h3 | ⟨h3, h4⟩
  · omega
  · refine ⟨h3, h4.lt, ?_⟩
    have := h4.cell k 0 hk (by omega)
    simpa using this
theorem owns_sl {w : World} {v : Value} {n b : Nat} {d : Nat → Int} (h : OwnS w v n 1 (fun i _ => .int .i64 (d i)) b) : Sl w v n d 0 w.heap.size := by
  obtain ⟨p', cap, hv, h1, h2, h3⟩ := h.ex
  refine ⟨p', cap, hv, ?_⟩
  rcases h3 with h3 | ⟨h3, h4⟩
  · exact .inl h3
  · refine .inr ⟨b, 0, h3, Nat.zero_le _, h4.lt, fun k hk => ?_⟩
    have := h4.cell k 0 hk (by omega)
    simpa using this
theorem fv_at0 {n : Nat} {N : Nat → Nod} {m : Nat} {P : Nat → Pip} {K : Nat} {d : Nat → Int} {r l r' l' : Int} (h : fvC n N m P K d r l = 0) (hr : 0 ≤ r' ∧ r' < n) (hl : -500000000000000000 ≤ l' ∧ l' ≤ 500000000000000000) : fvC n N m P K d r' l' = 0 := by
  have hz : (inR r' 0 (n - 1) && rlB l') = true := by
    rw [Bool.and_eq_true]
    exact ⟨inR_iff.2 ⟨hr.1, by omega⟩, inR_iff.2 hl⟩
  unfold fvC at h ⊢
  split at h
  · next hf =>
    rw [if_pos hf, if_pos hz]
    split at h
    · exact h
    · omega
  · next hf => exact absurd h hf
theorem xl_bnd0 {n : Nat} {N : Nat → Nod} {m : Nat} {P : Nat → Pip} {K : Nat} {d : Nat → Int} {r l : Int} (h : fvC n N m P K d r l = 0) {j : Nat} (hj : j < n) : l - 50000000000000 ≤ xl n m P d r l j ∧ xl n m P d r l j ≤ l + 50000000000000 := by
  obtain ⟨hB, hKm, hn1, hn24, hr0, hr1, _, _, _, _⟩ := fv_ok h
  exact lvl_bnd (x := d) (root := r) (level := l) (z := ((j : Nat) : Int)) hB hn24 (fv_con h).2 ⟨hr0, hr1⟩ ⟨Int.natCast_nonneg _, by omega⟩
theorem rng_pair {n : Nat} {N : Nat → Nod} {m : Nat} {P : Nat → Pip} {K : Nat} {d : Nat → Int} {r : Int} (h : fvC n N m P K d r 0 = 0) : fvC n N m P K d 0 0 = 0 ∧ (rrH n N m P d r < rrL n N m P d r ↔ bdA n N (xl n m P d 0 0) < n) := by
  obtain ⟨hB, hKm, hn1, hn24, hr0, hr1, _, _, _, _⟩ := fv_ok h
  refine ⟨fv_at0 h ⟨Int.le_refl _, by omega⟩ ⟨by omega, by omega⟩, ?_⟩
  obtain ⟨R, rfl⟩ := Int.eq_ofNat_of_zero_le hr0
  unfold rrH rrL
  exact rng_bd (by omega) (-xl n m P d 0 0 R) (fun j hj => xl_root n m P d R j)
theorem rr_tight {n : Nat} {N : Nat → Nod} {m : Nat} {P : Nat → Pip} {K : Nat} {d : Nat → Int} {r : Int} (h : rrC n N m P K d r = 0) : rrL n N m P d r ≤ rrH n N m P d r ∧ -60000000000000 ≤ rrL n N m P d r ∧ rrH n N m P d r ≤ 60000000000000 := by
  obtain ⟨hf, hl⟩ := rr_ok h
  obtain ⟨hB, hKm, hn1, hn24, hr0, hr1, hl0, hl1, hfn, hbd⟩ := fv_ok hf
  have h0 := xl_bnd0 hf (j := 0) (by omega)
  have hn := nod_bounds hB 0 (by omega)
  have a := (mxF_ge (f := loF N (xl n m P d r 0)) (s := loF N (xl n m P d r 0) 0) (k := n)).1
  have b := (mnF_ge (f := hiF N (xl n m P d r 0)) (s := hiF N (xl n m P d r 0) 0) (k := n)).1
  refine ⟨hl, ?_, ?_⟩
  · unfold rrL
    unfold loF at a ⊢
    omega
  · unfold rrH
    unfold hiF at b ⊢
    omega
theorem lev_call {n : Nat} {N : Nat → Nod} {m : Nat} {P : Nat → Pip} {K : Nat} {D : Nat → Int} {r l : Int} (h : fvC n N m P K D r l = 0) (hN : ∀ i, i < n → (N i).s.size ≤ 9223372036854775807) (hK : K ≤ 2000000) : ∀ w v va, NetAt w v n N m P 0 w.heap.size → Sl w va K D 0 w.heap.size → Calls Tryz.prog 26 #[v, va, .int .i64 r, .int .i64 l] w (LIPost w n (xl n m P D r l) 0) := by
  intro w v va hn hv
  have := forestLevelsI_any w v n N m P 0 _ hn (Nat.le_refl _) hN va K D 0 _ hv (Nat.le_refl _) (by omega) r l
  have hfn : fvN n N m P K D r l = n := by unfold fvN; rw [if_pos h]
  rw [h, hfn] at this
  exact this
theorem in_call {n : Nat} {N : Nat → Nod} {m : Nat} {P : Nat → Pip} (hB : netB n N m P = true) (x : Nat → Int) (hN : ∀ i, i < n → (N i).s.size ≤ 9223372036854775807) : ∀ w v va, NetAt w v n N m P 0 w.heap.size → Sl w va n x 0 w.heap.size → Calls Tryz.prog 27 #[v, va] w (BPost w (decide ((fl (inB N x) n).length = n))) := by
  intro w v va hn hv
  have hz := net_sz hB
  have := isWithinI_any w v n N m P 0 _ hn (Nat.le_refl _) hN va n x 0 _ hv (Nat.le_refl _) (by omega)
  have hi : iwB n N m P n x = decide ((fl (inB N x) n).length = n) := by
    unfold iwB
    rw [hB, decide_eq_true (rfl : n = n)]
    rfl
  rw [hi] at this
  exact this
theorem node_at3 {w : World} {p0 p1 : Option Addr} {n c0 m c1 b1 b2 : Nat} {N : Nat → Nod} {P : Nat → Pip} (h : NetOwn w (.agg #[.slice p0 n c0, .slice p1 m c1]) n N m P b1 b2) {k : Nat} (hk : k < n) :
    p0 = some ⟨b1, 0, none⟩ ∧ b1 < w.heap.size ∧ w.cell? ⟨b1, k * 3 + 1, none⟩ = some (.int .i64 (N k).lo) ∧ w.cell? ⟨b1, k * 3 + 2, none⟩ = some (.int .i64 (N k).hi) := by
  obtain ⟨v0, v1, he, g0, g1, hd⟩ := h.ex
  simp only [Value.agg.injEq, Array.mk.injEq, List.cons.injEq, and_true] at he
  obtain ⟨rfl, rfl⟩ := he
  obtain ⟨p', cap, hv, h1, h2, h3⟩ := g0.ex
  injection hv with e1 _ e3
  subst e1
  rcases h3 with h3 | ⟨h3, h4⟩
  · omega
  · exact ⟨h3, h4.lt, h4.cell k 1 hk (by omega), h4.cell k 2 hk (by omega)⟩
theorem bkFacts (n : Nat) (N : Nat → Nod) (m : Nat) (P : Nat → Pip) (K : Nat) (D : Nat → Int) (hN : ∀ i, i < n → (N i).s.size ≤ 9223372036854775807) (hK : K ≤ 2000000) :
    ∃ ba bv bc : Int, (∀ w v va, NetAt w v n N m P 0 w.heap.size → Sl w va K D 0 w.heap.size → Calls Tryz.prog 25 #[v, va] w (IIIPost w ba bv bc)) ∧ (∀ w v va, NetAt w v n N m P 0 w.heap.size → Sl w va K D 0 w.heap.size → Calls Tryz.prog 33 #[v, va] w (IIIPost w ba bv bc)) ∧
      (bc = 0 → ∃ (A B : Nat) (g x y : Int), ba = (A : Nat) ∧ bv = (B : Nat) ∧ A < n ∧ B < n ∧ (∀ w v va, NetAt w v n N m P 0 w.heap.size → Sl w va K D 0 w.heap.size → Calls Tryz.prog 34 #[v, va, .int .i64 (A : Nat), .int .i64 (B : Nat)] w (IIPost w g 0)) ∧ (∀ w v va, NetAt w v n N m P 0 w.heap.size → Sl w va K D 0 w.heap.size → Calls Tryz.prog 13 #[v, va, .int .i64 0] w (IIIPost w x y 7)) ∧ g < (N A).lo - (N B).hi ∧ 0 ≤ (N A).lo ∧ (N A).lo ≤ 100000000 ∧ 0 ≤ (N B).hi ∧ (N B).hi ≤ 100000000) := by
  refine ⟨bpA n N m P K D, bpB n N m P K D, bpC n N m P K D, fun w v va h hv => blockingPairI_any w v n N m P 0 _ h (Nat.le_refl _) hN va K D 0 _ hv (Nat.le_refl _) (by omega), fun w v va h hv => blockingPairS_any w v n N m P 0 _ h (Nat.le_refl _) hN va K D 0 _ hv (Nat.le_refl _) (by omega), fun h0 => ?_⟩
  have hp : fvC n N m P K D 0 0 = 0 ∧ bdA n N (xl n m P D 0 0) < n := by
    unfold bpC at h0
    split at h0
    · next hf =>
      split at h0
      · next hlt => exact ⟨hf, hlt⟩
      · omega
    · next hf => exact absurd h0 hf
  obtain ⟨hf, hlt⟩ := hp
  obtain ⟨hB, hKm, hn1, hn24, hr0, hr1, _, _, _, _⟩ := fv_ok hf
  obtain ⟨hb, hbad⟩ := bd_at hlt
  have eA : bpA n N m P K D = (bdA n N (xl n m P D 0 0) : Nat) := by unfold bpA; rw [if_pos h0]
  have eB : bpB n N m P K D = (bdR n N (xl n m P D 0 0) (bdA n N (xl n m P D 0 0)) : Nat) := by unfold bpB; rw [if_pos h0]
  have nA := nod_bounds hB _ hlt
  have nB := nod_bounds hB _ hb
  rw [eA, eB]
  generalize bdA n N (xl n m P D 0 0) = A at *
  generalize bdR n N (xl n m P D 0 0) A = B at *
  have hgc : gpC n N m P K D (A : Nat) (B : Nat) = 0 := by
    have h := hf
    unfold fvC at h
    unfold gpC
    split at h
    · next hfl =>
      rw [if_pos hfl, if_pos (by rw [Bool.and_eq_true]; exact ⟨inR_iff.2 ⟨Int.natCast_nonneg _, by omega⟩, inR_iff.2 ⟨Int.natCast_nonneg _, by omega⟩⟩)]
      split at h
      · exact h
      · omega
    · next hfl => exact absurd h hfl
  have hga : gpA n N m P K D (A : Nat) (B : Nat) = xl n m P D 0 0 A - xl n m P D 0 0 B := by
    unfold gpA
    rw [if_pos hgc]
    unfold xl lvl
    omega
  have hrc : rrC n N m P K D 0 = 7 := by
    unfold rrC
    rw [if_pos hf, if_pos]
    refine (rng_pair hf).2.2 ?_
    rw [bd_iff]
    exact ⟨A, hlt, B, hb, hbad⟩
  refine ⟨A, B, gpA n N m P K D (A : Nat) (B : Nat), rrA n N m P K D 0, rrZ n N m P K D 0, rfl, rfl, hlt, hb, fun w v va h hv => ?_, fun w v va h hv => ?_, ?_, nA.1, nA.2.1, nB.2.2.1, nB.2.2.2⟩
  · have := gapBetweenI_any w v n N m P 0 _ h (Nat.le_refl _) hN va K D 0 _ hv (Nat.le_refl _) (by omega) (A : Nat) (B : Nat)
    rw [hgc] at this
    exact this
  · have := rootRangeI_any w v n N m P 0 _ h (Nat.le_refl _) hN va K D 0 _ hv (Nat.le_refl _) (by omega) 0
    rw [hrc] at this
    exact this
  · rw [hga]
    unfold hiF loF at hbad
    omega
set_option maxRecDepth 100000 in
set_option maxHeartbeats 20000000 in
theorem walk (v : Value) (w : World) (hc : CodeArg w v) :
    Calls Tryz.prog 8 #[v] w fun e w' => e = .returned (.bool true) ∧ Below w.heap.size w w' := by
  obtain ⟨p, len, cap, rfl, hlen, hcode⟩ := hc
  by_cases h4 : (4096 : Int) < len
  · clear hcode
    go_enter Tryz.func8, Tryz.ntmps8
    go_wp2_with (go_at_call 23; refine (draw.big_any _ _ _ _).mono ?_; rintro e w' ⟨rfl, rfl⟩)
    go_ret
    exact ⟨rfl, Below.refl _ _⟩
  have hc := hcode (by omega)
  clear hcode
  go_enter Tryz.func8, Tryz.ntmps8
  go_wp2_with (go_at_call 23; refine (draw.big_any _ _ _ _).mono ?_; rintro e w' ⟨rfl, rfl⟩)
  refine (draw.drawBlockingPair w _ len hc).mono ?_
  rintro e w1 ⟨v, n, m, N, P, b1, b2, vl, K, D, rfl, hn, hm, hK, hnm, o1, l1, l2, hL1, C1⟩
  obtain ⟨ba, bv, bc, ti, ts, hz⟩ := bkFacts n N m P K D hnm (by omega)
  have TI := Lib.hid ti
  have TS := Lib.hid ts
  have HZ := Lib.hid hz
  clear ti ts hz
  clear hc
  obtain ⟨pl, cl, rfl⟩ := draw.sl_sh hL1
  have hb2 : (bc != bc) = false := by simp
  have hb3 : (ba != ba) = false := by simp
  have hb4 : (bv != bv) = false := by simp
  have lxx := o1.lts
  obtain ⟨sx1, sx2, sx3, sx4, rfl⟩ := o1.shape
  go_wp2_with fail
  have bb := mem.below_new w1 (.cells #[.slice sx1 n sx2, .slice sx3 m sx4] 33)
  have B_x := boxed w1 (.slice sx1 n sx2) (.slice sx3 m sx4) 33
  have hs2 := bb.size
  have C2 := belowNext C1 bb
  have L2 := hL1.next bb
  have x2 := o1.next bb
  clear bb C1 hL1 o1
  generalize hW2 : w1.alloc (Obj.cells #[.slice sx1 n sx2, .slice sx3 m sx4] 33) = w2 at *
  clear hW2
  have Bx2 := B_x
  clear B_x
  have lBx := Bx2.lt
  refine (TI.out _ _ _ x2.net L2.zero).mono ?_
  rintro e w3 ⟨rfl, bb⟩
  have hs3 := bb.size
  have C3 := belowNext C2 bb
  have L3 := L2.next bb
  have x3 := x2.next bb
  have Bx3 := Bx2.next bb
  clear bb C2 L2 x2 Bx2
  have qBx0 := Bx3.b0
  have qBx1 := Bx3.b1
  have qBx2 := Bx3.lt
  go_wp2_with fail
  refine (TS.out _ _ _ x3.net L3.zero).mono ?_
  rintro e w4 ⟨rfl, bb⟩
  have hs4 := bb.size
  have C4 := belowNext C3 bb
  have L4 := L3.next bb
  have x4 := x3.next bb
  have Bx4 := Bx3.next bb
  clear qBx0 qBx1 qBx2
  clear bb C3 L3 x3 Bx3
  by_cases hrc : bc = 0
  · subst hrc
    obtain ⟨A, B, g, x, y, rfl, rfl, hA, hB, q1, q2, hg, a0, a1, d0, d1⟩ := HZ.out (by trivial)
    have Q1 := Lib.hid q1
    have Q2 := Lib.hid q2
    clear q1 q2
    clear HZ TI TS
    have qBx0 := Bx4.b0
    have qBx1 := Bx4.b1
    have qBx2 := Bx4.lt
    go_wp2_with fail
    refine (Q1.out _ _ _ x4.net L4.zero).mono ?_
    rintro e w5 ⟨rfl, bb⟩
    have hs5 := bb.size
    have C5 := belowNext C4 bb
    have L5 := L4.next bb
    have x5 := x4.next bb
    have Bx5 := Bx4.next bb
    clear qBx0 qBx1 qBx2
    clear bb C4 L4 x4 Bx4
    have qBx0 := Bx5.b0
    have qBx1 := Bx5.b1
    have qBx2 := Bx5.lt
    go_wp2_with fail
    refine (Q2.out _ _ _ x5.net L5.zero).mono ?_
    rintro e w6 ⟨rfl, bb⟩
    have hs6 := bb.size
    have C6 := belowNext C5 bb
    have L6 := L5.next bb
    have x6 := x5.next bb
    have Bx6 := Bx5.next bb
    clear qBx0 qBx1 qBx2
    clear bb C5 L5 x5 Bx5
    obtain ⟨rfl, hb1w, yA, _⟩ := node_at3 x6 hA
    obtain ⟨_, _, _, yB⟩ := node_at3 x6 hB
    have A0 : (0 : Int) ≤ (A : Int) := Int.natCast_nonneg _
    have A1 : (A : Int) < (n : Int) := by omega
    have B0 : (0 : Int) ≤ (B : Int) := Int.natCast_nonneg _
    have B1 : (B : Int) < (n : Int) := by omega
    obtain ⟨s0, s1, s2⟩ := num.root_spec (N A).lo a0
    have sle := (num.root_le a0 (by omega : (N A).lo ≤ 1000000000000000000)).2
    generalize (N A).lo = la at *
    generalize (N B).hi = hb at *
    obtain ⟨sq, hsq⟩ : ∃ s, s = num.root la := ⟨_, rfl⟩
    rw [← hsq] at s0 s1 sle
    have HROOT := Lib.hid (show num.rootV la = sq ∧ num.rootE la = 0 by have hin : num.inR la 0 1000000000000000000 = true := num.inR_iff.2 ⟨a0, by omega⟩; unfold num.rootV num.rootE; rw [if_pos hin, if_pos hin, hsq]; exact ⟨rfl, rfl⟩)
    clear hsq s2
    have hss : sq * sq ≤ 1000000000 * 1000000000 := Int.mul_le_mul sle sle s0 (by omega)
    have hss0 : 0 ≤ sq * sq := Int.mul_nonneg s0 s0
    have w1' : IntKind.i64.wrap (la - hb) = la - hb := IntWalk.i64_in _ (by omega)
    have w2' : IntKind.i64.wrap (sq * sq) = sq * sq := IntWalk.i64_in _ (by omega)
    have hd1 : decide (g < la - hb) = true := decide_eq_true hg
    have hd2 : decide (sq * sq ≤ la) = true := decide_eq_true s1
    clear hss hss0 hg s1 s0 sle
    have qBx0 := Bx6.b0
    have qBx1 := Bx6.b1
    have qBx2 := Bx6.lt
    go_wp2_with fail
    refine (num.pressureOfI_any _ _).mono ?_
    rintro e w' ⟨rfl, rfl⟩
    rw [HROOT.out.1, HROOT.out.2]
    go_wp2_with fail
    go_quiet (fail)
    go_wp2_with fail
    go_ret
    exact ⟨rfl, mem.below_drN1 C6 _⟩
  · have hrc' : (bc != 0) = true := by simpa using hrc
    clear hrc
    have qBx0 := Bx4.b0
    have qBx1 := Bx4.b1
    have qBx2 := Bx4.lt
    go_wp2_with fail
    go_ret
    exact ⟨rfl, C4⟩

set_option maxRecDepth 100000 in
theorem lifted (os : Os) (started : os.Started) (H : Type) (enc : TypeId × Value → H) :
    ReturnsInHanded {} Tryz.checked os 8 .any (Rows.fnBlockingPairsSpec.pre6 enc Tryz.prog Tryz.f8 Rows.fnBlockingPairsRow.domain false) (Rows.fnBlockingPairsSpec.post enc Tryz.prog Tryz.f8 false true false false) := by
  refine returnsInHanded_of_change (C := Tryz.checked) own started (by kernel_rfl) Tryz.func8
    (ChangeSpec.witness6 (enc := enc) (C := Tryz.checked) false ⟨#[], #[.slice none 0 0], []⟩ 8 (by kernel_rfl) (by kernel_rfl) (by kernel_rfl) (by kernel_rfl)) ?_
  intro W base args ds gs before hval0 hW hcnd _
  have hval : ∀ (j : Nat) t v, Tryz.f8.params[j]? = some t → args[j]? = some v → Value.okWide Tryz.prog W .any base t v := hval0
  have hW' := hW
  obtain ⟨p, q, hA0, hV, rfl, hfz, hnd⟩ := hW
  have hA : DataW.TrodAll enc Tryz.prog W 0 (fun _ => true) true Tryz.f8.params.toList args.toList ds p := hA0
  rw [Tryz.params8] at hA hval
  obtain ⟨v0, vs0, d0, ds0, p0, q0, hargs, rfl, rfl, h0, r0⟩ := trodAll_cons hA
  obtain ⟨rfl, rfl, rfl⟩ := trodAll_nil r0
  obtain rfl : args = #[v0] := by cases args; simp_all
  obtain ⟨rfl, rfl⟩ := trodVars_none hV
  have hc := open_code (hval 0 46 v0 rfl rfl) h0
  refine (walk v0 W hc).mono fun e W' ⟨he, hg⟩ => ?_
  subst he
  exact ⟨_, rfl, law.law_post hW' hg laidOut (by kernel_rfl) rfl rfl (by kernel_rfl) Tryz.underlying4⟩

theorem over : Rows.fnBlockingPairsRow.holds Tryz.pinned (OpenSpec.ofChange Rows.fnBlockingPairsSpec) :=
  OpenClaim.holds_of_wide 8 Tryz.f8 rfl rfl rfl rfl rfl rfl rfl ⟨rfl, rfl, rfl, rfl, rfl⟩ rfl rfl rfl rfl rfl (by kernel_rfl) Tryz.func8 (by kernel_rfl)
    (of_decide_eq_true (by kernel_rfl)) (by unfold Func.isWrapper; first | (rw [if_pos (by decide +kernel)]; kernel_rfl) | (rw [if_neg (by decide +kernel)]; exact ⟨rfl, rfl⟩))
    (fun os started H enc _ => lifted os started H enc)

theorem proved : Rows.FnBlockingPairsSaid :=
  over
#print axioms proved
end Go.Proofs.YtebbnhnggjmbiaaGreat.fnBlockingPairs
