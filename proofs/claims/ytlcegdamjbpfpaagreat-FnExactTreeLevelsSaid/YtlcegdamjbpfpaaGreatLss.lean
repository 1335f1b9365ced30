/-
  The specification's drop of a pipe and drops of a flow list. Conditions: as each states.
-/
import Derived.Test.YtlcegdamjbpfpaaGreatRows
import Derived.Test.YtlcegdamjbpfpaaGreatBsM
import Derived.Test.YtlcegdamjbpfpaaGreatPot
import Derived.IntWalk
import Derived.Deep.RegionHeld3
namespace Go.Proofs.YtlcegdamjbpfpaaGreat.mem
open Go.RowKit
set_option linter.unusedVariables false

theorem l01Signed_any (x : Int) (w : World) (h0 : -30000 ≤ x) (h1 : x ≤ 30000) : Calls Tryz.prog 114 #[.int .i64 x] w fun e w' => e = .returned (.int .i64 (x * (x.natAbs : Int))) ∧ w = w' := by
  obtain ⟨s0, s1⟩ := sq_bnd h0 h1
  have e : (30000 : Int) * 30000 = 900000000 := by decide
  rw [e] at s0 s1
  have W1 : IntKind.i64.wrap (x * (x.natAbs : Int)) = x * (x.natAbs : Int) := IntWalk.i64_in _ (by omega)
  clear e s0 s1
  go_enter Tryz.func114, Tryz.ntmps114
  go_wp2_with (go_at_call 133; refine (absS_any _ _ (by omega) (by omega)).mono ?_; rintro e w' ⟨rfl, rfl⟩)
  go_ret
  exact ⟨by first | rfl | (rw [W1]; rfl), rfl⟩
set_option maxRecDepth 100000 in
set_option maxHeartbeats 4000000 in
theorem l07Drop_any (w : World) (v : Value) (n : Nat) (N : Nat → Nod) (m : Nat) (P : Nat → Pip) (lo hi : Nat) (h : NetAt w v n N m P lo hi) (hhi : hi ≤ w.heap.size) (hB : netB n N m P = true) (a : Nat) (ha : a < m) (x : Int) (h0 : -30000 ≤ x) (h1 : x ≤ 30000) :
    Calls Tryz.prog 71 #[v, .int .i64 (a : Nat), .int .i64 x] w fun e w' => e = .returned (.int .i64 (drp (P a) x)) ∧ Below w.heap.size w w' := by
  obtain ⟨p0, c0, p1, c1, rfl, hn9, hm9⟩ := h.parts
  have hd := drp_bnd (net_pip hB ha) h0 h1
  have W2 : IntKind.i64.wrap ((P a).k * (x * (x.natAbs : Int))) = drp (P a) x := IntWalk.i64_in _ (by unfold drp at hd; omega)
  have A0 := boxed w (.slice p0 n c0) (.slice p1 m c1) 33
  have B0 := below_new w (.cells #[.slice p0 n c0, .slice p1 m c1] 33)
  obtain ⟨bp, op, rfl, q1, q2, r0, r1, r2, r3, r4⟩ := (h.below B0 hhi).pipe ha
  have e0 := A0.b0
  have e1 := A0.b1
  have a0 : (0 : Int) ≤ (a : Int) := Int.natCast_nonneg _
  have a1 : (a : Int) < (m : Int) := by omega
  have HBB := Lib.hid B0
  clear h hB hd B0 A0
  go_enter Tryz.func71, Tryz.ntmps71
  go_wp2_with fail
  go_quiet ((go_at_call 114; exact Calls.quiet_of_same ((l01Signed_any _ _ (by omega) (by omega)).mono fun e w' h => ⟨h.1, h.2.symm⟩)))
  go_wp2_with fail
  go_ret
  exact ⟨rfl, below_drN1 HBB.out _⟩

set_option maxRecDepth 100000 in
set_option maxHeartbeats 8000000 in
theorem l07Drops_any (w : World) (v : Value) (n : Nat) (N : Nat → Nod) (m : Nat) (P : Nat → Pip) (lo hi : Nat) (h : NetAt w v n N m P lo hi) (hhi : hi ≤ w.heap.size) (hB : netB n N m P = true) (va : Value) (x : Nat → Int) (la ha : Nat) (hv : Sl w va m x la ha) (hha : ha ≤ w.heap.size) (hx : ∀ a, a < m → -30000 ≤ x a ∧ x a ≤ 30000) :
    Calls Tryz.prog 57 #[v, va] w fun e w' => ∃ v2 g, e = .returned v2 ∧ Own w' v2 m (fun i => drp (P i) (x i)) g ∧ w.heap.size ≤ g ∧ Below w.heap.size w w' := by
  obtain ⟨p0, c0, p1, c1, rfl, hn9, hm9⟩ := h.parts
  obtain ⟨hn1, hn24, hm40⟩ := net_sz hB
  obtain ⟨pa, ca, rfl⟩ := hv.sh
  have HV := Lib.hid h
  have HB := Lib.hid hB
  have HS := Lib.hid hv
  have HX := Lib.hid hx
  have A0 := (boxed w (.slice p0 n c0) (.slice p1 m c1) 33).keep (Below.heap_alloc _ (.cells #[] 2) _ (by simp only [World.size_alloc]; omega))
  have B0 := (below_new w (.cells #[.slice p0 n c0, .slice p1 m c1] 33)).trans ((below_new _ (.cells #[] 2)).mono (by simp only [World.size_alloc]; omega))
  have F0 := Own.nilled (w.alloc (.cells #[.slice p0 n c0, .slice p1 m c1] 33)) (fun i => drp (P i) (x i))
  have hs0 : ((w.alloc (.cells #[.slice p0 n c0, .slice p1 m c1] 33)).alloc (.cells #[] 2)).heap.size = w.heap.size + 1 + 1 := by simp
  simp only [World.size_alloc] at F0
  have HA := Lib.hid A0
  have HF := Lib.hid F0
  have HBB := Lib.hid B0
  clear A0 F0 B0 h hB hv hx
  go_enter Tryz.func57, Tryz.ntmps57
  go_wp2_with fail
  obtain ⟨w2, hw2⟩ : ∃ w2, ((w.alloc (.cells #[.slice p0 n c0, .slice p1 m c1] 33)).alloc (.cells #[] 2)) = w2 := ⟨_, rfl⟩
  rw [hw2] at hs0 HA HF HBB ⊢
  clear hw2
  go_loopw [5, 6] (fun ov iv wr => ∃ (k g : Nat) (ov' : Value), ov' = ov ∧ iv = .int .i64 k ∧ k ≤ m ∧ Own wr ov' k (fun i => drp (P i) (x i)) g ∧ w.heap.size + 1 ≤ g ∧ Below (w.heap.size + 1) w2 wr) (fun _ iv _ => m - (intOf iv).toNat)
  case atStart => exact ⟨0, _, _, rfl, rfl, Nat.zero_le _, HF.out, Nat.le_refl _, Below.refl _ _⟩
  case round =>
    obtain ⟨k, g, ov, rfl, rfl, hk, ho, hg, hb⟩ := hrel
    obtain ⟨co, rfl⟩ := ho.shape
    clear HF
    have HO := Lib.hid ho
    have HL := Lib.hid hb
    have hsz := hb.size
    have lg := ho.lt
    clear ho hb
    have k0 : (0 : Int) ≤ (k : Int) := Int.natCast_nonneg _
    generalize hQ : Exit.then _ _ = Q
    have HQ := Lib.hid hQ
    clear hQ
    have HB1 := Lib.hid (HBB.out.trans (HL.out.mono (by omega)))
    by_cases hlt : k < m
    · have k1 : (k : Int) < (m : Int) := by omega
      obtain ⟨p', c', ee, hxx⟩ := (HS.out.below HB1.out hha).ex
      injection ee with e1 _ e3
      subst e1 e3
      obtain ⟨ba, oa, rfl, g1, g2, hxx⟩ : ∃ b o, pa = some ⟨b, o, none⟩ ∧ la ≤ b ∧ b < ha ∧ ∀ k, k < m → wr.cell? ⟨b, o + k, none⟩ = some (.int .i64 (x k)) := by
        rcases hxx with e | e
        · omega
        · exact e
      have yx := hxx k hlt
      have f0 : wr.cell? ⟨w.heap.size, 0, none⟩ = some (.slice p0 n c0) := (HA.out.below HL.out (by omega)).b0
      have f1 : wr.cell? ⟨w.heap.size, 1, none⟩ = some (.slice p1 m c1) := (HA.out.below HL.out (by omega)).b1
      have hAny : ∀ X : World, Below (w.heap.size + 1) wr X → X.cell? ⟨w.heap.size, 0, none⟩ = some (.slice p0 n c0) ∧ X.cell? ⟨w.heap.size, 1, none⟩ = some (.slice p1 m c1) ∧ X.cell? ⟨ba, oa + k, none⟩ = some (.int .i64 (x k)) := fun X h => ⟨(h.cell (p := ⟨w.heap.size, 0, none⟩) (by show w.heap.size < _; omega)).trans f0, (h.cell (p := ⟨w.heap.size, 1, none⟩) (by show w.heap.size < _; omega)).trans f1, (h.cell (p := ⟨ba, oa + k, none⟩) (by show ba < _; omega)).trans yx⟩
      obtain ⟨x0, x1⟩ := HX.out k hlt
      clear hxx
      go_wp2_with fail
      go_region_held3 (fun w' : World => w'.cell? ⟨w.heap.size, 0, none⟩ = some (.slice p0 n c0) ∧ w'.cell? ⟨w.heap.size, 1, none⟩ = some (.slice p1 m c1) ∧ w'.cell? ⟨ba, oa + k, none⟩ = some (.int .i64 (x k)))
        (first | exact hAny _ (below_drw (Below.refl _ _)) | exact hAny _ KX | exact hAny _ KY | exact hAny _ KZ)
        (first
          | (go_at_call 71; refine (l07Drop_any _ _ n N m P lo hi ((HV.out.below HB1.out hhi).drew) (show hi ≤ wr.heap.size by omega) HB.out k hlt _ x0 x1).mono ?_; rintro e wX ⟨rfl, hb5⟩; have hb5' := below_dr0 hb5; have KX : Below (w.heap.size + 1) wr wX := hb5'.mono (by omega); obtain ⟨v7, wz, g7, hr7, ap⟩ := app_run (wX.alloc (.cells #[.int .i64 (drp (P k) (x k))] 2)) _ k _ g (drp (P k) (x k)) wX.heap.size ((HO.out.below hb5' (Nat.le_refl _)).alloc _) (cell_new1 wX _) (by omega); have zX := hb5'.size; have KY : Below (w.heap.size + 1) wr (wX.alloc (.cells #[.int .i64 (drp (P k) (x k))] 2)) := below_alloc KX (by omega) _; have apb := ap.below (B := w.heap.size + 1) hg (by rw [szal]; omega); have KZ : Below (w.heap.size + 1) wr wz := KY.trans apb.1)
          | (refine step_appT hr7 rfl (.tmp 14) (.tmp 22) rfl rfl rfl rfl ?_))
      have HO7 := Lib.hid (ap.own.congr (e := fun i => drp (P i) (x i)) (fun j hj => by unfold upd; split <;> first | rfl | (next h => subst h; rfl)))
      have HL7 := Lib.hid (HL.out.trans KZ)
      have hg7 := apb.2
      clear hAny KX KY KZ ap apb hr7 hb5 hb5' f0 f1 yx
      go_wp2_with fail
      rw [← HQ.out]
      refine ⟨⟨_, _, _, _, _, _, _, _, _, _, _, _, _, _, _, _, _, _, ?rel, rfl⟩, ?measure⟩
      case rel => exact ⟨k + 1, g7, v7, rfl, by go_num, hlt, HO7.out, hg7, HL7.out⟩
      case measure => simp [intOf]; omega
    · have hkn : m = k := by omega
      subst hkn
      have k1 : ¬ ((m : Int) < (m : Int)) := by omega
      go_wp2_with fail
      rw [← HQ.out]
      go_wp2_with fail
      go_ret
      exact ⟨_, g, rfl, HO.out, by omega, HB1.out⟩
end Go.Proofs.YtlcegdamjbpfpaaGreat.mem
