/-
  Several texts in one: Esa, Esb, Esc, Esd, Ese, Esf, Esg, Esh, Eag.
-/
import Derived.Test.YtpgcieefipjjfaaGreatRows
import Derived.Test.YtpgcieefipjjfaaGreatEnM
import Derived.Test.YtpgcieefipjjfaaGreatTsM
import Derived.BigQuiet
import Derived.IntWalk
import Derived.Test.YtpgcieefipjjfaaGreatLfm
namespace Go.Proofs.YtpgcieefipjjfaaGreat.mem
open Go.RowKit
set_option linter.unusedVariables false

set_option maxRecDepth 100000 in
set_option maxHeartbeats 8000000 in
theorem l10Energy_any (w : World) (v : Value) (n : Nat) (N : Nat → Nod) (m : Nat) (P : Nat → Pip) (lo hi : Nat) (h : NetAt w v n N m P lo hi) (hhi : hi ≤ w.heap.size) (hB : netB n N m P = true) (va : Value) (x : Nat → Int) (la ha : Nat) (hv : Sl w va m x la ha) (hha : ha ≤ w.heap.size) (hx : ∀ k, k < m → -30000 ≤ x k ∧ x k ≤ 30000) :
    Calls Tryz.prog 48 #[v, va] w fun e w' => e = .returned (.int .i64 (egS P x m)) ∧ Below w.heap.size w w' := by
  obtain ⟨p0, c0, p1, c1, rfl, hn9, hm9⟩ := h.parts
  obtain ⟨hn1, hn24, hm40⟩ := net_sz hB
  obtain ⟨pa, ca, rfl⟩ := hv.sh
  have HV := Lib.hid h
  have HSV := Lib.hid hv
  have HBN := Lib.hid hB
  have HE := Lib.hid (show ∀ k, k < m → EgB (P k).k ((x k).natAbs : Int) from fun k hk => egB_of (net_pip hB hk) (hx k hk).1 (hx k hk).2)
  have HX := Lib.hid hx
  have A0 := boxed w (.slice p0 n c0) (.slice p1 m c1) 27
  have B0 := below_new w (.cells #[.slice p0 n c0, .slice p1 m c1] 27)
  have hs0 : (w.alloc (.cells #[.slice p0 n c0, .slice p1 m c1] 27)).heap.size = w.heap.size + 1 := by simp
  clear h hB hv hx
  go_enter Tryz.func48, Tryz.ntmps48
  go_wp2_with fail
  obtain ⟨w1, hw1⟩ : ∃ w1, w.alloc (.cells #[.slice p0 n c0, .slice p1 m c1] 27) = w1 := ⟨_, rfl⟩
  rw [hw1] at A0 B0 hs0 ⊢
  clear hw1
  have HA := Lib.hid A0
  have HBB := Lib.hid B0
  clear A0 B0
  go_loopw [5, 6] (fun sv iv wr => ∃ k : Nat, sv = .int .i64 (egS P x k) ∧ iv = .int .i64 k ∧ k ≤ m ∧ w1.heap.size ≤ wr.heap.size ∧ Below w1.heap.size w1 wr) (fun _ iv _ => m - (intOf iv).toNat)
  case atStart => exact ⟨0, rfl, rfl, Nat.zero_le _, Nat.le_refl _, Below.refl _ _⟩
  case round =>
    obtain ⟨k, rfl, rfl, hk, hsz, hb⟩ := hrel
    have HL := Lib.hid hb
    clear hb
    have k0 : (0 : Int) ≤ (k : Int) := Int.natCast_nonneg _
    have BW := Lib.hid (HBB.out.trans (HL.out.mono (by omega)))
    by_cases hlt : k < m
    · have k1 : (k : Int) < (m : Int) := by omega
      obtain ⟨p', c', ee, hxx⟩ := (HSV.out.below BW.out hha).ex
      injection ee with e1 _ e3
      subst e1 e3
      obtain ⟨ba, oa, rfl, ga1, ga2, hxx⟩ : ∃ b o, pa = some ⟨b, o, none⟩ ∧ la ≤ b ∧ b < ha ∧ ∀ k, k < m → wr.cell? ⟨b, o + k, none⟩ = some (.int .i64 (x k)) := by
        rcases hxx with e | e
        · omega
        · exact e
      have yx := hxx k hlt
      clear hxx
      obtain ⟨bp, op, rfl, q1, q2, r0, r1, r2, r3, r4⟩ := (HV.out.below BW.out hhi).pipe hlt
      have f0 : wr.cell? ⟨w.heap.size, 0, none⟩ = some (.slice p0 n c0) := (HA.out.below HL.out (by omega)).b0
      have f1 : wr.cell? ⟨w.heap.size, 1, none⟩ = some (.slice (some ⟨bp, op, none⟩) m c1) := (HA.out.below HL.out (by omega)).b1
      obtain ⟨z0, z1⟩ := HX.out k hlt
      have he := HE.out k hlt
      have h1 := he.one
      have h2 := he.two
      have h3 := he.thr
      have hs := egS_bnd (P := P) (x := x) (k := k) (fun j hj => HE.out j (by omega))
      have HS := Lib.hid (show egS P x (k + 1) = egS P x k + (P k).k * ((x k).natAbs : Int) * ((x k).natAbs : Int) * ((x k).natAbs : Int) from rfl)
      have hs1 : egS P x k ≤ 1080000000000000000 := by omega
      have hs2 := hs.1
      clear hs
      go_wp2_with (go_at_call 62; refine (absS_any _ _ (by omega) (by omega)).mono ?_; rintro e w' ⟨rfl, rfl⟩)
      go_roundw
      case rel => exact ⟨k + 1, by rw [HS.out], by go_num, hlt, hsz, HL.out⟩
      case measure => simp [intOf]; omega
    · have hkn : k = m := by omega
      subst hkn
      have k1 : ¬ ((k : Int) < (k : Int)) := by omega
      go_wp2_with fail
      go_ret
      exact ⟨rfl, BW.out⟩

set_option maxRecDepth 100000 in
set_option maxHeartbeats 8000000 in
theorem l10Residual_any (w : World) (v : Value) (n : Nat) (N : Nat → Nod) (m : Nat) (P : Nat → Pip) (lo hi : Nat) (h : NetAt w v n N m P lo hi) (hhi : hi ≤ w.heap.size) (hB : netB n N m P = true) (va : Value) (x : Nat → Int) (la ha : Nat) (hv : Sl w va m x la ha) (hha : ha ≤ w.heap.size) (hx : ∀ k, k < m → -30000 ≤ x k ∧ x k ≤ 30000) (vb : Value) (y : Nat → Int) (lb hb : Nat) (hu : Sl w vb m y lb hb) (hhb : hb ≤ w.heap.size) (hy : ∀ k, k < m → -1 ≤ y k ∧ y k ≤ 1) :
    Calls Tryz.prog 28 #[v, va, vb] w fun e w' => e = .returned (.int .i64 (rsS P x y m)) ∧ Below w.heap.size w w' := by
  obtain ⟨p0, c0, p1, c1, rfl, hn9, hm9⟩ := h.parts
  obtain ⟨hn1, hn24, hm40⟩ := net_sz hB
  obtain ⟨pa, ca, rfl⟩ := hv.sh
  have HV := Lib.hid h
  have HSV := Lib.hid hv
  have HBN := Lib.hid hB
  have HE := Lib.hid (show ∀ k, k < m → EgB (P k).k ((x k).natAbs : Int) from fun k hk => egB_of (net_pip hB hk) (hx k hk).1 (hx k hk).2)
  have HX := Lib.hid hx
  obtain ⟨pb, cb, rfl⟩ := hu.sh
  have HSU := Lib.hid hu
  have HY := Lib.hid hy
  clear hu hy
  have HDR := Lib.hid (show ∀ k, k < m → -900000000000 ≤ drp (P k) (x k) ∧ drp (P k) (x k) ≤ 900000000000 from fun k hk => drp_bnd (net_pip hB hk) (hx k hk).1 (hx k hk).2)
  have A0 := boxed w (.slice p0 n c0) (.slice p1 m c1) 27
  have B0 := below_new w (.cells #[.slice p0 n c0, .slice p1 m c1] 27)
  have hs0 : (w.alloc (.cells #[.slice p0 n c0, .slice p1 m c1] 27)).heap.size = w.heap.size + 1 := by simp
  clear h hB hv hx
  go_enter Tryz.func28, Tryz.ntmps28
  go_wp2_with fail
  obtain ⟨w1, hw1⟩ : ∃ w1, w.alloc (.cells #[.slice p0 n c0, .slice p1 m c1] 27) = w1 := ⟨_, rfl⟩
  rw [hw1] at A0 B0 hs0 ⊢
  clear hw1
  have HA := Lib.hid A0
  have HBB := Lib.hid B0
  clear A0 B0
  go_loopw [7, 8] (fun sv iv wr => ∃ k : Nat, sv = .int .i64 (rsS P x y k) ∧ iv = .int .i64 k ∧ k ≤ m ∧ w1.heap.size ≤ wr.heap.size ∧ Below w1.heap.size w1 wr) (fun _ iv _ => m - (intOf iv).toNat)
  case atStart => exact ⟨0, rfl, rfl, Nat.zero_le _, Nat.le_refl _, Below.refl _ _⟩
  case round =>
    obtain ⟨k, rfl, rfl, hk, hsz, hb⟩ := hrel
    have HL := Lib.hid hb
    clear hb
    have k0 : (0 : Int) ≤ (k : Int) := Int.natCast_nonneg _
    have BW := Lib.hid (HBB.out.trans (HL.out.mono (by omega)))
    by_cases hlt : k < m
    · have k1 : (k : Int) < (m : Int) := by omega
      obtain ⟨p', c', ee, hxx⟩ := (HSV.out.below BW.out hha).ex
      injection ee with e1 _ e3
      subst e1 e3
      obtain ⟨ba, oa, rfl, ga1, ga2, hxx⟩ : ∃ b o, pa = some ⟨b, o, none⟩ ∧ la ≤ b ∧ b < ha ∧ ∀ k, k < m → wr.cell? ⟨b, o + k, none⟩ = some (.int .i64 (x k)) := by
        rcases hxx with e | e
        · omega
        · exact e
      have yx := hxx k hlt
      clear hxx
      obtain ⟨p'', c'', ee, hyy⟩ := (HSU.out.below BW.out hhb).ex
      injection ee with e1 _ e3
      subst e1 e3
      obtain ⟨by', oy, rfl, gb1, gb2, hyy⟩ : ∃ b o, pb = some ⟨b, o, none⟩ ∧ lb ≤ b ∧ b < hb ∧ ∀ k, k < m → wr.cell? ⟨b, o + k, none⟩ = some (.int .i64 (y k)) := by
        rcases hyy with e | e
        · omega
        · exact e
      have yc := hyy k hlt
      clear hyy
      obtain ⟨bp, op, rfl, q1, q2, r0, r1, r2, r3, r4⟩ := (HV.out.below BW.out hhi).pipe hlt
      have f0 : wr.cell? ⟨w.heap.size, 0, none⟩ = some (.slice p0 n c0) := (HA.out.below HL.out (by omega)).b0
      have f1 : wr.cell? ⟨w.heap.size, 1, none⟩ = some (.slice (some ⟨bp, op, none⟩) m c1) := (HA.out.below HL.out (by omega)).b1
      obtain ⟨z0, z1⟩ := HX.out k hlt
      have hyk := HY.out k hlt
      have hd := mulc (HDR.out k hlt) hyk
      have hs := rsS_bnd (P := P) (x := x) (y := y) (k := k) (fun j hj => HDR.out j (by omega)) (fun j hj => HY.out j (by omega))
      have HS := Lib.hid (show rsS P x y (k + 1) = rsS P x y k + y k * drp (P k) (x k) by rw [Int.mul_comm]; rfl)
      rw [Int.mul_comm] at hd
      have wa : IntKind.i64.wrap (y k * drp (P k) (x k)) = y k * drp (P k) (x k) := IntWalk.i64_in _ (by omega)
      have wb : IntKind.i64.wrap (rsS P x y k + y k * drp (P k) (x k)) = rsS P x y k + y k * drp (P k) (x k) := IntWalk.i64_in _ (by omega)
      clear hd hs hyk r0 r1 r2 r3 r4
      have hAny : ∀ X : World, Below wr.heap.size wr X → X.cell? ⟨w.heap.size, 0, none⟩ = some (.slice p0 n c0) ∧ X.cell? ⟨w.heap.size, 1, none⟩ = some (.slice (some ⟨bp, op, none⟩) m c1) ∧ X.cell? ⟨ba, oa + k, none⟩ = some (.int .i64 (x k)) ∧ X.cell? ⟨by', oy + k, none⟩ = some (.int .i64 (y k)) := fun X h => ⟨(h.cell (p := ⟨w.heap.size, 0, none⟩) (by show w.heap.size < _; omega)).trans f0, (h.cell (p := ⟨w.heap.size, 1, none⟩) (by show w.heap.size < _; omega)).trans f1, (h.cell (p := ⟨ba, oa + k, none⟩) (by show ba < _; omega)).trans yx, (h.cell (p := ⟨by', oy + k, none⟩) (by show by' < _; omega)).trans yc⟩
      go_wp2_with fail
      go_region_held3 (fun w' : World => w'.cell? ⟨w.heap.size, 0, none⟩ = some (.slice p0 n c0) ∧ w'.cell? ⟨w.heap.size, 1, none⟩ = some (.slice (some ⟨bp, op, none⟩) m c1) ∧ w'.cell? ⟨ba, oa + k, none⟩ = some (.int .i64 (x k)) ∧ w'.cell? ⟨by', oy + k, none⟩ = some (.int .i64 (y k)))
        (first | exact hAny _ (below_drw (Below.refl _ _)) | exact hAny _ KX)
        (first
          | (go_at_call 49; refine (l07Drop_any _ _ n N m P lo hi ((HV.out.below BW.out hhi).drew) (show hi ≤ wr.heap.size by omega) HBN.out k hlt _ z0 z1).mono ?_; rintro e wX ⟨rfl, hb5⟩; have KX := below_dr0 hb5; have zX := KX.size))
      clear hAny f0 f1 yx yc
      go_wp2_with fail
      go_roundw
      case rel => exact ⟨k + 1, by rw [HS.out], by go_num, hlt, by omega, HL.out.trans (KX.mono hsz)⟩
      case measure => simp [intOf]; omega
    · have hkn : k = m := by omega
      subst hkn
      have k1 : ¬ ((k : Int) < (k : Int)) := by omega
      go_wp2_with fail
      go_ret
      exact ⟨rfl, BW.out⟩

set_option maxRecDepth 100000 in
set_option maxHeartbeats 8000000 in
theorem l10Bound_any (w : World) (v : Value) (n : Nat) (N : Nat → Nod) (m : Nat) (P : Nat → Pip) (lo hi : Nat) (h : NetAt w v n N m P lo hi) (hhi : hi ≤ w.heap.size) (hB : netB n N m P = true) (va : Value) (x : Nat → Int) (la ha : Nat) (hv : Sl w va m x la ha) (hha : ha ≤ w.heap.size) (hx : ∀ k, k < m → -30000 ≤ x k ∧ x k ≤ 30000) (vb : Value) (y : Nat → Int) (lb hb : Nat) (hu : Sl w vb m y lb hb) (hhb : hb ≤ w.heap.size) (hy : ∀ k, k < m → -1 ≤ y k ∧ y k ≤ 1) :
    Calls Tryz.prog 37 #[v, va, vb] w fun e w' => e = .returned (.int .i64 (bdS P x y m)) ∧ Below w.heap.size w w' := by
  obtain ⟨p0, c0, p1, c1, rfl, hn9, hm9⟩ := h.parts
  obtain ⟨hn1, hn24, hm40⟩ := net_sz hB
  obtain ⟨pa, ca, rfl⟩ := hv.sh
  have HV := Lib.hid h
  have HSV := Lib.hid hv
  have HBN := Lib.hid hB
  have HE := Lib.hid (show ∀ k, k < m → EgB (P k).k ((x k).natAbs : Int) from fun k hk => egB_of (net_pip hB hk) (hx k hk).1 (hx k hk).2)
  have HX := Lib.hid hx
  obtain ⟨pb, cb, rfl⟩ := hu.sh
  have HSU := Lib.hid hu
  have HY := Lib.hid hy
  clear hu hy
  have A0 := boxed w (.slice p0 n c0) (.slice p1 m c1) 27
  have B0 := below_new w (.cells #[.slice p0 n c0, .slice p1 m c1] 27)
  have hs0 : (w.alloc (.cells #[.slice p0 n c0, .slice p1 m c1] 27)).heap.size = w.heap.size + 1 := by simp
  clear h hB hv hx
  go_enter Tryz.func37, Tryz.ntmps37
  go_wp2_with fail
  obtain ⟨w1, hw1⟩ : ∃ w1, w.alloc (.cells #[.slice p0 n c0, .slice p1 m c1] 27) = w1 := ⟨_, rfl⟩
  rw [hw1] at A0 B0 hs0 ⊢
  clear hw1
  have HA := Lib.hid A0
  have HBB := Lib.hid B0
  clear A0 B0
  go_loopw [7, 8] (fun sv iv wr => ∃ k : Nat, sv = .int .i64 (bdS P x y k) ∧ iv = .int .i64 k ∧ k ≤ m ∧ w1.heap.size ≤ wr.heap.size ∧ Below w1.heap.size w1 wr) (fun _ iv _ => m - (intOf iv).toNat)
  case atStart => exact ⟨0, rfl, rfl, Nat.zero_le _, Nat.le_refl _, Below.refl _ _⟩
  case round =>
    obtain ⟨k, rfl, rfl, hk, hsz, hb⟩ := hrel
    have HL := Lib.hid hb
    clear hb
    have k0 : (0 : Int) ≤ (k : Int) := Int.natCast_nonneg _
    have BW := Lib.hid (HBB.out.trans (HL.out.mono (by omega)))
    by_cases hlt : k < m
    · have k1 : (k : Int) < (m : Int) := by omega
      obtain ⟨p', c', ee, hxx⟩ := (HSV.out.below BW.out hha).ex
      injection ee with e1 _ e3
      subst e1 e3
      obtain ⟨ba, oa, rfl, ga1, ga2, hxx⟩ : ∃ b o, pa = some ⟨b, o, none⟩ ∧ la ≤ b ∧ b < ha ∧ ∀ k, k < m → wr.cell? ⟨b, o + k, none⟩ = some (.int .i64 (x k)) := by
        rcases hxx with e | e
        · omega
        · exact e
      have yx := hxx k hlt
      clear hxx
      obtain ⟨p'', c'', ee, hyy⟩ := (HSU.out.below BW.out hhb).ex
      injection ee with e1 _ e3
      subst e1 e3
      obtain ⟨by', oy, rfl, gb1, gb2, hyy⟩ : ∃ b o, pb = some ⟨b, o, none⟩ ∧ lb ≤ b ∧ b < hb ∧ ∀ k, k < m → wr.cell? ⟨b, o + k, none⟩ = some (.int .i64 (y k)) := by
        rcases hyy with e | e
        · omega
        · exact e
      have yc := hyy k hlt
      clear hyy
      obtain ⟨bp, op, rfl, q1, q2, r0, r1, r2, r3, r4⟩ := (HV.out.below BW.out hhi).pipe hlt
      have f0 : wr.cell? ⟨w.heap.size, 0, none⟩ = some (.slice p0 n c0) := (HA.out.below HL.out (by omega)).b0
      have f1 : wr.cell? ⟨w.heap.size, 1, none⟩ = some (.slice (some ⟨bp, op, none⟩) m c1) := (HA.out.below HL.out (by omega)).b1
      obtain ⟨z0, z1⟩ := HX.out k hlt
      have he := HE.out k hlt
      have hyk := HY.out k hlt
      have hd := bdT_bnd (P := P) (x := x) he
      have hs := bdS_bnd (P := P) (x := x) (y := y) (k := k) (fun j hj => HE.out j (by omega))
      have he1 := he.a1
      have he0 := he.a0
      have hk0 := he.k0
      have hk1 := he.k1
      have HS := Lib.hid (bdS_abs (P := P) (x := x) (y := y) (k := k) hyk)
      have hya : ((y k).natAbs : Int) = 0 ∨ ((y k).natAbs : Int) = 1 := by omega
      have hyr : -9223372036854775807 ≤ y k ∧ y k ≤ 9223372036854775807 := by omega
      have wa : IntKind.i64.wrap (3 * ((x k).natAbs : Int)) = 3 * ((x k).natAbs : Int) := IntWalk.i64_in _ (by omega)
      have wb : IntKind.i64.wrap (3 * ((x k).natAbs : Int) + 1) = 3 * ((x k).natAbs : Int) + 1 := IntWalk.i64_in _ (by omega)
      have wc : IntKind.i64.wrap (((y k).natAbs : Int) * (P k).k) = ((y k).natAbs : Int) * (P k).k := IntWalk.i64_in _ (by rcases hya with e | e <;> rw [e] <;> omega)
      have wd : IntKind.i64.wrap (((y k).natAbs : Int) * (P k).k * (3 * ((x k).natAbs : Int) + 1)) = ((y k).natAbs : Int) * (P k).k * (3 * ((x k).natAbs : Int) + 1) := IntWalk.i64_in _ (by unfold bdT at hd; rcases hya with e | e <;> rw [e] <;> simp only [Int.zero_mul, Int.one_mul] <;> omega)
      have we : IntKind.i64.wrap (bdS P x y k + ((y k).natAbs : Int) * (P k).k * (3 * ((x k).natAbs : Int) + 1)) = bdS P x y k + ((y k).natAbs : Int) * (P k).k * (3 * ((x k).natAbs : Int) + 1) := IntWalk.i64_in _ (by unfold bdT at hd; rcases hya with e | e <;> rw [e] <;> simp only [Int.zero_mul, Int.one_mul] <;> omega)
      clear hd hs he he1 he0 hk0 hk1 hya hyk
      go_wp2_with fail
      go_quiet ((go_at_call 62; exact Calls.quiet_of_same ((absS_any _ _ (by omega) (by omega)).mono fun e w' h => ⟨h.1, h.2.symm⟩)))
      go_wp2_with fail
      go_roundw
      case rel => exact ⟨k + 1, by rw [HS.out], by go_num, hlt, by (first | omega | (simp; omega)), below_drN1 HL.out _⟩
      case measure => simp [intOf]; omega
    · have hkn : k = m := by omega
      subst hkn
      have k1 : ¬ ((k : Int) < (k : Int)) := by omega
      go_wp2_with fail
      go_ret
      exact ⟨rfl, BW.out⟩
end Go.Proofs.YtpgcieefipjjfaaGreat.mem

namespace Go.Proofs.YtpgcieefipjjfaaGreat.mem
open Go.RowKit
set_option linter.unusedVariables false

set_option maxRecDepth 100000 in
set_option maxHeartbeats 8000000 in
theorem l10Code_any (w : World) (v : Value) (n : Nat) (N : Nat → Nod) (m : Nat) (P : Nat → Pip) (lo hi : Nat) (h : NetAt w v n N m P lo hi) (hhi : hi ≤ w.heap.size) (hN : ∀ i, i < n → (N i).s.size ≤ 9223372036854775807) (va : Value) (K : Nat) (d : Nat → Int) (la ha : Nat) (hv : Sl w va K d la ha) (hha : ha ≤ w.heap.size) (hK9 : K ≤ 9223372036854775807) (x : Int) :
    Calls Tryz.prog 36 #[v, va, .int .i64 x] w (fun e w' => e = .returned (.int .i64 (ckC n N m P K d x)) ∧ Below w.heap.size w w') := by
  obtain ⟨p0, c0, p1, c1, rfl, hn9, hm9⟩ := h.parts
  have HV := Lib.hid h
  have HN := Lib.hid hN
  obtain ⟨pa, ca, rfl⟩ := hv.sh
  have HSV := Lib.hid hv
  have A0 := boxed w (.slice p0 n c0) (.slice p1 m c1) 27
  have B0 := below_new w (.cells #[.slice p0 n c0, .slice p1 m c1] 27)
  have hs0 : (w.alloc (.cells #[.slice p0 n c0, .slice p1 m c1] 27)).heap.size = w.heap.size + 1 := by simp
  clear h hN hv
  go_enter Tryz.func36, Tryz.ntmps36
  have e0' := A0.b0
  have e1' := A0.b1
  go_wp2_with fail
  refine (l05Code_any _ _ n N m P lo hi (HV.out.below B0 hhi) (by omega) HN.out _ K d la ha (HSV.out.below B0 hha) (by omega) hK9).mono ?_
  rintro e w1 ⟨rfl, b1⟩
  have A1 := A0.below b1 (by omega)
  have B1 := B0.trans (b1.mono (by omega))
  have hs1 := b1.size
  have e0 := A1.b0
  have e1 := A1.b1
  have e2 : w.heap.size < w1.heap.size := by omega
  clear A0 B0 b1 e0' e1'
  by_cases hc : flC n N m P K d = 0
  · obtain ⟨hB, rfl, hf⟩ := flC_ok hc
    have hm40 := (net_sz hB).2.2
    have HB := Lib.hid hB
    have HC := Lib.hid hc
    have HF := Lib.hid (show ∀ k, k < K → -30000 ≤ d k ∧ d k ≤ 30000 from fun k hk => flQ_iff.1 (flB_iff.1 hf k hk))
    have H1 := Lib.hid (HSV.out.below B1 hha)
    rw [hc]
    clear hc hB hf
    cases hch : chB n P K x
    · have H4 := Lib.hid (show ckC n N K P K d x = 4 by unfold ckC; rw [if_pos HC.out, hch]; rfl)
      have HCB := Lib.hid hch
      clear hch
      go_wp2_with (first
        | (go_at_call 32; refine (l05Chords_any w1 _ n N K P lo hi (HV.out.below B1 hhi) (by omega) HN.out HB.out).mono ?_; rintro e w2 ⟨vc, gc, rfl, oc, hgc, b2⟩; have HC2 := Lib.hid oc)
        | (go_at_call 57; refine (l02Has_any _ _ _ (fd (chP n P K) K) 0 _ (HC2.out.ownS.cs (.inr rfl) (Nat.le_refl _)) _).mono ?_; rintro e w' ⟨rfl, rfl⟩; rw [show hasB (chN n P K) (fd (chP n P K) K) x = _ from HCB.out]))
      go_ret
      exact ⟨ret_i H4.out.symm, B1.trans (b2.mono (by omega))⟩
    · have H4 := Lib.hid (show ckC n N K P K d x = 0 by unfold ckC; rw [if_pos HC.out, hch]; rfl)
      have HCB := Lib.hid hch
      clear hch
      go_wp2_with (first
        | (go_at_call 32; refine (l05Chords_any w1 _ n N K P lo hi (HV.out.below B1 hhi) (by omega) HN.out HB.out).mono ?_; rintro e w2 ⟨vc, gc, rfl, oc, hgc, b2⟩; have HC2 := Lib.hid oc)
        | (go_at_call 57; refine (l02Has_any _ _ _ (fd (chP n P K) K) 0 _ (HC2.out.ownS.cs (.inr rfl) (Nat.le_refl _)) _).mono ?_; rintro e w' ⟨rfl, rfl⟩; rw [show hasB (chN n P K) (fd (chP n P K) K) x = _ from HCB.out]))
      go_ret
      exact ⟨ret_i H4.out.symm, B1.trans (b2.mono (by omega))⟩
  · have hb1 : (flC n N m P K d == 0) = false := by simpa using hc
    have H4 := Lib.hid (show ckC n N m P K d x = flC n N m P K d by unfold ckC; rw [if_neg hc])
    clear hc
    go_wp2_with fail
    go_ret
    exact ⟨ret_i H4.out.symm, B1⟩

end Go.Proofs.YtpgcieefipjjfaaGreat.mem

namespace Go.Proofs.YtpgcieefipjjfaaGreat.mem
open Go.RowKit
set_option linter.unusedVariables false

set_option maxRecDepth 100000 in
set_option maxHeartbeats 8000000 in
theorem residualBoundS_any (w : World) (v : Value) (n : Nat) (N : Nat → Nod) (m : Nat) (P : Nat → Pip) (lo hi : Nat) (h : NetAt w v n N m P lo hi) (hhi : hi ≤ w.heap.size) (hN : ∀ i, i < n → (N i).s.size ≤ 9223372036854775807) (va : Value) (K : Nat) (d : Nat → Int) (la ha : Nat) (hv : Sl w va K d la ha) (hha : ha ≤ w.heap.size) (hK9 : K ≤ 9223372036854775807) (x : Int) :
    Calls Tryz.prog 16 #[v, va, .int .i64 x] w (IIPost w (bdV n N m P K d x) (ckC n N m P K d x)) := by
  obtain ⟨p0, c0, p1, c1, rfl, hn9, hm9⟩ := h.parts
  have HV := Lib.hid h
  have HN := Lib.hid hN
  obtain ⟨pa, ca, rfl⟩ := hv.sh
  have HSV := Lib.hid hv
  have A0 := boxed w (.slice p0 n c0) (.slice p1 m c1) 27
  have B0 := below_new w (.cells #[.slice p0 n c0, .slice p1 m c1] 27)
  have hs0 : (w.alloc (.cells #[.slice p0 n c0, .slice p1 m c1] 27)).heap.size = w.heap.size + 1 := by simp
  clear h hN hv
  go_enter Tryz.func16, Tryz.ntmps16
  have e0' := A0.b0
  have e1' := A0.b1
  go_wp2_with fail
  refine (l10Code_any _ _ n N m P lo hi (HV.out.below B0 hhi) (by omega) HN.out _ K d la ha (HSV.out.below B0 hha) (by omega) hK9 x).mono ?_
  rintro e w1 ⟨rfl, b1⟩
  have A1 := A0.below b1 (by omega)
  have B1 := B0.trans (b1.mono (by omega))
  have hs1 := b1.size
  have e0 := A1.b0
  have e1 := A1.b1
  have e2 : w.heap.size < w1.heap.size := by omega
  clear A0 B0 b1 e0' e1'
  by_cases hc : ckC n N m P K d x = 0
  · obtain ⟨hfc, hch⟩ := ckC_ok hc
    obtain ⟨hB, rfl, hf⟩ := flC_ok hfc
    have hm40 := (net_sz hB).2.2
    have HB := Lib.hid hB
    have HC := Lib.hid hc
    have HF := Lib.hid (show ∀ k, k < K → -30000 ≤ d k ∧ d k ≤ 30000 from fun k hk => flQ_iff.1 (flB_iff.1 hf k hk))
    have H1 := Lib.hid (HSV.out.below B1 hha)
    obtain ⟨c, rfl, hcm, hcp⟩ := chB_yes hch
    have HCP := Lib.hid hcp
    rw [hc]
    clear hc hB hf hfc hch hcp
    have HR := Lib.hid (show bdV n N K P K d (c : Int) = bdS P d (cyc P (fE n P K) (fD n P K) c) K by unfold bdV cyD; rw [if_pos HC.out, Int.toNat_natCast])
    have HCR := Lib.hid (show ∀ k, k < K → -1 ≤ cyc P (fE n P K) (fD n P K) c k ∧ cyc P (fE n P K) (fD n P K) c k ≤ 1 from fun k _ => cyc_one HB.out hcm HCP.out k)
    go_wp2_with fail
    have g0 := range2 e0 e1
    have nN : (Tryz.prog.info? 27).map (·.size) = some 2 := by kernel_rfl
    have UN := Tryz.underlying27
    have hi1 : hi ≤ w1.heap.size := by omega
    have ha1 : ha ≤ w1.heap.size := by omega
    have KS : ∀ W : World, Below w1.heap.size w1 W → (Below w1.heap.size w1 W ∧ W.rangeAt w.heap.size 0 [.slice p0 n c0, .slice p1 K c1]) := fun W hW => ⟨hW, range_blockN g0 (hW.block _ e2)⟩
    refine wp_region_noPanic ?_
    refine wp_region_held_drew (S := fun w' : World => Below w1.heap.size w1 w' ∧ w'.rangeAt w.heap.size 0 [.slice p0 n c0, .slice p1 K c1]) (by kernel_rfl) (KS _ (below_drw (Below.refl _ _))) (fun sH => ?_)
    refine wpAnyH_take (i := 0) (v := .agg #[.slice p0 n c0, .slice p1 K c1]) nthe0 (by kernel_rfl) (by kernel_rfl) (by kernel_rfl) (fun _ _ _ h => h) (yieldsIf_load_mid (by rfl) _ _ rfl w.heap.size 0 rfl [.slice p0 n c0, .slice p1 K c1] _ (fun _ h => h.2) UN rfl (by exact nN)) sH ?_
    try simp only [Act.put, List.setIfInBounds_toArray, List.set_cons_zero, List.set_cons_succ]
    refine wpAnyH_take (i := 1) (v := ?_) nthe1 (by kernel_rfl) (by kernel_rfl) (by kernel_rfl) (fun _ _ _ h => h) (Or.inl ⟨by rfl, ?_⟩) sH ?_
    rotate_left
    · intro wS hSw; (try dsimp only at hSw); go_simp; try with_reducible rfl
    try simp only [Act.put, List.setIfInBounds_toArray, List.set_cons_zero, List.set_cons_succ]
    refine wpAnyH_take (i := 2) (v := .agg #[.slice p0 n c0, .slice p1 K c1]) nthe2 (by kernel_rfl) (by kernel_rfl) (by kernel_rfl) (fun _ _ _ h => h) (yieldsIf_load_mid (by rfl) _ _ rfl w.heap.size 0 rfl [.slice p0 n c0, .slice p1 K c1] _ (fun _ h => h.2) UN rfl (by exact nN)) sH ?_
    try simp only [Act.put, List.setIfInBounds_toArray, List.set_cons_zero, List.set_cons_succ]
    refine wpAnyH_take (i := 3) (v := ?_) nthe3 (by kernel_rfl) (by kernel_rfl) (by kernel_rfl) (fun _ _ _ h => h) (Or.inl ⟨by rfl, ?_⟩) sH ?_
    rotate_left
    · intro wS hSw; (try dsimp only at hSw); go_simp; try with_reducible rfl
    try simp only [Act.put, List.setIfInBounds_toArray, List.set_cons_zero, List.set_cons_succ]
    refine wpAnyH_ready (rs := [4]) (by kernel_rfl) (by simp) (AllReadyH.cons nthe4 (fun KON hKON => ?_) AllReadyH.nil)
    clear sH
    go_simp
    refine (l05Cycle_any _ _ n N K P lo hi (HV.out.below (B1.trans (below_drw (Below.refl w1.heap.size w1) |>.mono (by omega))) hhi) hi1 HN.out HB.out c hcm HCP.out).mono ?_
    rintro e wX ⟨vy, gy, rfl, oy, hgy, hbX⟩
    obtain ⟨cy, rfl⟩ := oy.shape
    have KX : Below w1.heap.size w1 wX := below_dr0 hbX
    refine hKON.out _ _ (KS _ KX) (fun sH => ?_)
    clear hKON KON
    try simp only [Act.put, List.setIfInBounds_toArray, List.set_cons_zero, List.set_cons_succ]
    refine wpAnyH_ready (rs := [5]) (by kernel_rfl) (by simp) (AllReadyH.cons nthe5 (fun KON hKON => ?_) AllReadyH.nil)
    clear sH
    go_simp
    refine (l10Bound_any _ _ n N K P lo hi (HV.out.below (B1.trans (KX.mono (by omega))) hhi) (Nat.le_trans hi1 KX.size) HB.out _ d la ha (H1.out.below KX ha1) (Nat.le_trans ha1 KX.size) HF.out _ _ gy (gy + 1) oy.sl oy.lt HCR.out).mono ?_
    rintro e wY ⟨rfl, hbY⟩
    have KY : Below w1.heap.size w1 wY := KX.trans (hbY.mono KX.size)
    refine hKON.out _ _ (KS _ KY) (fun sH => ?_)
    clear hKON KON
    try simp only [Act.put, List.setIfInBounds_toArray, List.set_cons_zero, List.set_cons_succ]
    refine wpAnyH_take (i := 6) (v := ?_) nthe6 (by kernel_rfl) (by kernel_rfl) (by kernel_rfl) (fun _ _ _ h => h) (Or.inl ⟨by rfl, ?_⟩) sH ?_
    rotate_left
    · intro wS hSw; (try dsimp only at hSw); go_simp; try with_reducible rfl
    try simp only [Act.put, List.setIfInBounds_toArray, List.set_cons_zero, List.set_cons_succ]
    refine wpAnyH_take (i := 7) (v := ?_) nthe7 (by kernel_rfl) (by kernel_rfl) (by kernel_rfl) (fun _ _ _ h => h) (Or.inl ⟨by rfl, ?_⟩) sH ?_
    rotate_left
    · intro wS hSw; (try dsimp only at hSw); go_simp; try with_reducible rfl
    try simp only [Act.put, List.setIfInBounds_toArray, List.set_cons_zero, List.set_cons_succ]
    refine wpAnyH_done (by kernel_rfl) ?_ _
    refine NoPanic.normal ?_
    go_wp2_with fail
    go_ret2
    exact ⟨ret_2 HR.out.symm HC.out.symm, B1.trans (KY.mono (by omega))⟩
  · have hb1 : (ckC n N m P K d x != 0) = true := by simpa using hc
    have H3 := Lib.hid (show bdV n N m P K d x = 0 by unfold bdV; rw [if_neg hc])
    clear hc
    go_wp2_with fail
    go_ret2
    exact ⟨ret_2 H3.out.symm rfl, B1⟩
end Go.Proofs.YtpgcieefipjjfaaGreat.mem

namespace Go.Proofs.YtpgcieefipjjfaaGreat.mem
open Go.RowKit
set_option linter.unusedVariables false

set_option maxRecDepth 100000 in
set_option maxHeartbeats 8000000 in
theorem l10Lower_any (w : World) (v : Value) (n : Nat) (N : Nat → Nod) (m : Nat) (P : Nat → Pip) (lo hi : Nat) (h : NetAt w v n N m P lo hi) (hhi : hi ≤ w.heap.size) (hB : netB n N m P = true) (va : Value) (x : Nat → Int) (la ha : Nat) (hv : Sl w va m x la ha) (hha : ha ≤ w.heap.size) (hx : ∀ k, k < m → -30000 ≤ x k ∧ x k ≤ 30000) (vb : Value) (y : Nat → Int) (lb hb : Nat) (hu : Sl w vb m y lb hb) (hhb : hb ≤ w.heap.size) (hy : ∀ k, k < m → -1 ≤ y k ∧ y k ≤ 1) (t : Int) (ht : -1000000 ≤ t ∧ t ≤ 1000000) :
    Calls Tryz.prog 26 #[v, va, vb, .int .i64 t] w fun e w' => e = .returned (.bool (loB m P x y t)) ∧ Below w.heap.size w w' := by
  obtain ⟨p0, c0, p1, c1, rfl, hn9, hm9⟩ := h.parts
  obtain ⟨hn1, hn24, hm40⟩ := net_sz hB
  obtain ⟨pa, ca, rfl⟩ := hv.sh
  obtain ⟨pb, cb, rfl⟩ := hu.sh
  have HV := Lib.hid h
  have HSV := Lib.hid hv
  have HSU := Lib.hid hu
  have HBN := Lib.hid hB
  have HX := Lib.hid hx
  have HTY := Lib.hid (show ∀ k, k < m → (-4611686018427387904 ≤ x k + t * y k ∧ x k + t * y k ≤ 4611686018427387904) ∧ (-4611686018427387904 ≤ t * y k ∧ t * y k ≤ 4611686018427387904) from fun k hk => by
    have h1 := mulc ht (hy k hk)
    have h2 := hx k hk
    omega)
  have A0 := boxed w (.slice p0 n c0) (.slice p1 m c1) 27
  have B0 := below_new w (.cells #[.slice p0 n c0, .slice p1 m c1] 27)
  have hs0 : (w.alloc (.cells #[.slice p0 n c0, .slice p1 m c1] 27)).heap.size = w.heap.size + 1 := by simp
  clear h hB hv hx hu hy
  go_enter Tryz.func26, Tryz.ntmps26
  go_upto_region 1 with (fail)
  obtain ⟨w1, hw1⟩ : ∃ w1, w.alloc (.cells #[.slice p0 n c0, .slice p1 m c1] 27) = w1 := ⟨_, rfl⟩
  rw [hw1] at A0 B0 hs0 ⊢
  clear hw1
  go_upto_region 2 with (go_at_call 47; refine (l05Add_any _ _ _ m x y t la ha lb hb (HSV.out.below B0 hha) (by omega) (HSU.out.below B0 hhb) (by omega) (by omega) (fun k hk => (HTY.out k hk).1) (fun k hk => (HTY.out k hk).2)).mono ?_; rintro e w2 ⟨v2, g, rfl, oz, hg, b2⟩)
  obtain ⟨cz, rfl⟩ := oz.shape
  have lz := oz.lt
  have s2 := b2.size
  have B2 := B0.trans (b2.mono (by omega))
  have A2 := A0.below b2 (by omega)
  have g0 := range2 A2.b0 A2.b1
  have l2 : w.heap.size < w2.heap.size := by omega
  have hi2 : hi ≤ w2.heap.size := by omega
  have ha2 : ha ≤ w2.heap.size := by omega
  have hw2 : w.heap.size ≤ w2.heap.size := by omega
  have HOZ := Lib.hid oz
  have HS2 := Lib.hid (HSV.out.below B2 hha)
  have nN : (Tryz.prog.info? 27).map (·.size) = some 2 := by kernel_rfl
  have UN := Tryz.underlying27
  clear oz A0 A2 B0 b2
  have KS : ∀ W : World, Below w2.heap.size w2 W → (Below w2.heap.size w2 W ∧ W.rangeAt w.heap.size 0 [.slice p0 n c0, .slice p1 m c1]) := fun W hW => ⟨hW, range_blockN g0 (hW.block _ l2)⟩
  have hli : liB m m (fun k => x k + t * y k) = flB (fun k => x k + t * y k) m := by unfold liB; rw [decide_eq_true rfl, Bool.and_true]
  cases hf : flB (fun k => x k + t * y k) m
  · have HL := Lib.hid (show loB m P x y t = false by unfold loB; rw [hf]; rfl)
    refine wp_region_noPanic ?_
    refine wp_region_held_drew (S := fun w' : World => Below w2.heap.size w2 w' ∧ w'.rangeAt w.heap.size 0 [.slice p0 n c0, .slice p1 m c1]) (by kernel_rfl) (KS _ (below_drw (Below.refl _ _))) (fun sH => ?_)
    refine wpAnyH_take (i := 0) (v := .agg #[.slice p0 n c0, .slice p1 m c1]) nthe0 (by kernel_rfl) (by kernel_rfl) (by kernel_rfl) (fun _ _ _ h => h) (yieldsIf_load_mid (by rfl) _ _ rfl w.heap.size 0 rfl [.slice p0 n c0, .slice p1 m c1] _ (fun _ h => h.2) UN rfl (by exact nN)) sH ?_
    try simp only [Act.put, List.setIfInBounds_toArray, List.set_cons_zero, List.set_cons_succ]
    refine wpAnyH_take (i := 1) (v := ?_) nthe1 (by kernel_rfl) (by kernel_rfl) (by kernel_rfl) (fun _ _ _ h => h) (Or.inl ⟨by rfl, ?_⟩) sH ?_
    rotate_left
    · intro wS hSw; (try dsimp only at hSw); go_simp; try with_reducible rfl
    try simp only [Act.put, List.setIfInBounds_toArray, List.set_cons_zero, List.set_cons_succ]
    refine wpAnyH_ready (rs := [2]) (by kernel_rfl) (by simp) (AllReadyH.cons nthe2 (fun KON hKON => ?_) AllReadyH.nil)
    clear sH
    go_simp
    refine (l05List_any _ p0 p1 n m c0 c1 _ m _ g (g + 1) (HOZ.out.below (below_drw (Below.refl w2.heap.size w2)) (Nat.le_refl _)).sl (show g + 1 ≤ w2.heap.size by omega) (by omega) hm9).mono ?_
    rintro e wX ⟨rfl, hbX⟩
    rw [hli, hf]
    have KX : Below w2.heap.size w2 wX := below_dr0 hbX
    refine hKON.out _ _ (KS _ KX) (fun sH => ?_)
    clear hKON KON
    try simp only [Act.put, List.setIfInBounds_toArray, List.set_cons_zero, List.set_cons_succ]
    refine wpAnyH_take (i := 3) (v := ?_) nthe3 (by kernel_rfl) (by kernel_rfl) (by kernel_rfl) (fun _ _ _ h => h) (Or.inl ⟨by rfl, ?_⟩) sH ?_
    rotate_left
    · intro wS hSw; (try dsimp only at hSw); go_simp; try with_reducible rfl
    try simp only [Act.put, List.setIfInBounds_toArray, List.set_cons_zero, List.set_cons_succ]
    refine wpAnyH_take (i := 4) (v := undef) nthe4 (by kernel_rfl) (by kernel_rfl) (by kernel_rfl) (fun _ _ _ h => h) (Or.inr ⟨by rfl, rfl⟩) sH ?_
    try simp only [Act.put, List.setIfInBounds_toArray, List.set_cons_zero, List.set_cons_succ]
    refine wpAnyH_take (i := 5) (v := undef) nthe5 (by kernel_rfl) (by kernel_rfl) (by kernel_rfl) (fun _ _ _ h => h) (Or.inr ⟨by rfl, rfl⟩) sH ?_
    try simp only [Act.put, List.setIfInBounds_toArray, List.set_cons_zero, List.set_cons_succ]
    refine wpAnyH_take (i := 6) (v := undef) nthe6 (by kernel_rfl) (by kernel_rfl) (by kernel_rfl) (fun _ _ _ h => h) (Or.inr ⟨by rfl, rfl⟩) sH ?_
    try simp only [Act.put, List.setIfInBounds_toArray, List.set_cons_zero, List.set_cons_succ]
    refine wpAnyH_take (i := 7) (v := undef) nthe7 (by kernel_rfl) (by kernel_rfl) (by kernel_rfl) (fun _ _ _ h => h) (Or.inr ⟨by rfl, rfl⟩) sH ?_
    try simp only [Act.put, List.setIfInBounds_toArray, List.set_cons_zero, List.set_cons_succ]
    refine wpAnyH_take (i := 8) (v := undef) nthe8 (by kernel_rfl) (by kernel_rfl) (by kernel_rfl) (fun _ _ _ h => h) (Or.inr ⟨by rfl, rfl⟩) sH ?_
    try simp only [Act.put, List.setIfInBounds_toArray, List.set_cons_zero, List.set_cons_succ]
    refine wpAnyH_take (i := 9) (v := undef) nthe9 (by kernel_rfl) (by kernel_rfl) (by kernel_rfl) (fun _ _ _ h => h) (Or.inr ⟨by rfl, rfl⟩) sH ?_
    try simp only [Act.put, List.setIfInBounds_toArray, List.set_cons_zero, List.set_cons_succ]
    refine wpAnyH_take (i := 10) (v := undef) nthe10 (by kernel_rfl) (by kernel_rfl) (by kernel_rfl) (fun _ _ _ h => h) (Or.inr ⟨by rfl, rfl⟩) sH ?_
    try simp only [Act.put, List.setIfInBounds_toArray, List.set_cons_zero, List.set_cons_succ]
    refine wpAnyH_take (i := 11) (v := ?_) nthe11 (by kernel_rfl) (by kernel_rfl) (by kernel_rfl) (fun _ _ _ h => h) (Or.inl ⟨by rfl, ?_⟩) sH ?_
    rotate_left
    · intro wS hSw; (try dsimp only at hSw); go_simp; try with_reducible rfl
    try simp only [Act.put, List.setIfInBounds_toArray, List.set_cons_zero, List.set_cons_succ]
    refine wpAnyH_take (i := 12) (v := ?_) nthe12 (by kernel_rfl) (by kernel_rfl) (by kernel_rfl) (fun _ _ _ h => h) (Or.inl ⟨by rfl, ?_⟩) sH ?_
    rotate_left
    · intro wS hSw; (try dsimp only at hSw); go_simp; try with_reducible rfl
    try simp only [Act.put, List.setIfInBounds_toArray, List.set_cons_zero, List.set_cons_succ]
    refine wpAnyH_done (by kernel_rfl) ?_ _
    refine NoPanic.normal ?_
    go_wp2_with fail
    go_ret
    exact ⟨ret_b HL.out.symm, B2.trans (KX.mono hw2)⟩
  · have HL := Lib.hid (show loB m P x y t = decide (egS P (fun k => x k + t * y k) m < egS P x m) by unfold loB; rw [hf]; rfl)
    have HZR := Lib.hid (show ∀ k, k < m → -30000 ≤ x k + t * y k ∧ x k + t * y k ≤ 30000 from fun k hk => flQ_iff.1 (flB_iff.1 hf k hk))
    refine wp_region_noPanic ?_
    refine wp_region_held_drew (S := fun w' : World => Below w2.heap.size w2 w' ∧ w'.rangeAt w.heap.size 0 [.slice p0 n c0, .slice p1 m c1]) (by kernel_rfl) (KS _ (below_drw (Below.refl _ _))) (fun sH => ?_)
    refine wpAnyH_take (i := 0) (v := .agg #[.slice p0 n c0, .slice p1 m c1]) nthe0 (by kernel_rfl) (by kernel_rfl) (by kernel_rfl) (fun _ _ _ h => h) (yieldsIf_load_mid (by rfl) _ _ rfl w.heap.size 0 rfl [.slice p0 n c0, .slice p1 m c1] _ (fun _ h => h.2) UN rfl (by exact nN)) sH ?_
    try simp only [Act.put, List.setIfInBounds_toArray, List.set_cons_zero, List.set_cons_succ]
    refine wpAnyH_take (i := 1) (v := ?_) nthe1 (by kernel_rfl) (by kernel_rfl) (by kernel_rfl) (fun _ _ _ h => h) (Or.inl ⟨by rfl, ?_⟩) sH ?_
    rotate_left
    · intro wS hSw; (try dsimp only at hSw); go_simp; try with_reducible rfl
    try simp only [Act.put, List.setIfInBounds_toArray, List.set_cons_zero, List.set_cons_succ]
    refine wpAnyH_ready (rs := [2]) (by kernel_rfl) (by simp) (AllReadyH.cons nthe2 (fun KON hKON => ?_) AllReadyH.nil)
    clear sH
    go_simp
    refine (l05List_any _ p0 p1 n m c0 c1 _ m _ g (g + 1) (HOZ.out.below (below_drw (Below.refl w2.heap.size w2)) (Nat.le_refl _)).sl (show g + 1 ≤ w2.heap.size by omega) (by omega) hm9).mono ?_
    rintro e wX ⟨rfl, hbX⟩
    rw [hli, hf]
    have KX : Below w2.heap.size w2 wX := below_dr0 hbX
    refine hKON.out _ _ (KS _ KX) (fun sH => ?_)
    clear hKON KON
    try simp only [Act.put, List.setIfInBounds_toArray, List.set_cons_zero, List.set_cons_succ]
    refine wpAnyH_take (i := 3) (v := ?_) nthe3 (by kernel_rfl) (by kernel_rfl) (by kernel_rfl) (fun _ _ _ h => h) (Or.inl ⟨by rfl, ?_⟩) sH ?_
    rotate_left
    · intro wS hSw; (try dsimp only at hSw); go_simp; try with_reducible rfl
    try simp only [Act.put, List.setIfInBounds_toArray, List.set_cons_zero, List.set_cons_succ]
    refine wpAnyH_take (i := 4) (v := .agg #[.slice p0 n c0, .slice p1 m c1]) nthe4 (by kernel_rfl) (by kernel_rfl) (by kernel_rfl) (fun _ _ _ h => h) (yieldsIf_load_mid (by rfl) _ _ rfl w.heap.size 0 rfl [.slice p0 n c0, .slice p1 m c1] _ (fun _ h => h.2) UN rfl (by exact nN)) sH ?_
    try simp only [Act.put, List.setIfInBounds_toArray, List.set_cons_zero, List.set_cons_succ]
    refine wpAnyH_take (i := 5) (v := ?_) nthe5 (by kernel_rfl) (by kernel_rfl) (by kernel_rfl) (fun _ _ _ h => h) (Or.inl ⟨by rfl, ?_⟩) sH ?_
    rotate_left
    · intro wS hSw; (try dsimp only at hSw); go_simp; try with_reducible rfl
    try simp only [Act.put, List.setIfInBounds_toArray, List.set_cons_zero, List.set_cons_succ]
    refine wpAnyH_take (i := 7) (v := .agg #[.slice p0 n c0, .slice p1 m c1]) nthe7 (by kernel_rfl) (by kernel_rfl) (by kernel_rfl) (fun _ _ _ h => h) (yieldsIf_load_mid (by rfl) _ _ rfl w.heap.size 0 rfl [.slice p0 n c0, .slice p1 m c1] _ (fun _ h => h.2) UN rfl (by exact nN)) sH ?_
    try simp only [Act.put, List.setIfInBounds_toArray, List.set_cons_zero, List.set_cons_succ]
    refine wpAnyH_take (i := 8) (v := ?_) nthe8 (by kernel_rfl) (by kernel_rfl) (by kernel_rfl) (fun _ _ _ h => h) (Or.inl ⟨by rfl, ?_⟩) sH ?_
    rotate_left
    · intro wS hSw; (try dsimp only at hSw); go_simp; try with_reducible rfl
    try simp only [Act.put, List.setIfInBounds_toArray, List.set_cons_zero, List.set_cons_succ]
    refine wpAnyH_ready (rs := [6]) (by kernel_rfl) (by simp) (AllReadyH.cons nthe6 (fun KON hKON => ?_) AllReadyH.nil)
    clear sH
    go_simp
    refine (l10Energy_any _ _ n N m P lo hi (HV.out.below (B2.trans (KX.mono hw2)) hhi) (Nat.le_trans hi2 KX.size) HBN.out _ _ g (g + 1) (HOZ.out.below KX (Nat.le_refl _)).sl (Nat.le_trans lz KX.size) HZR.out).mono ?_
    rintro e wY ⟨rfl, hbY⟩
    have KY : Below w2.heap.size w2 wY := KX.trans (hbY.mono KX.size)
    refine hKON.out _ _ (KS _ KY) (fun sH => ?_)
    clear hKON KON
    try simp only [Act.put, List.setIfInBounds_toArray, List.set_cons_zero, List.set_cons_succ]
    refine wpAnyH_ready (rs := [9]) (by kernel_rfl) (by simp) (AllReadyH.cons nthe9 (fun KON hKON => ?_) AllReadyH.nil)
    clear sH
    go_simp
    refine (l10Energy_any _ _ n N m P lo hi (HV.out.below (B2.trans (KY.mono hw2)) hhi) (Nat.le_trans hi2 KY.size) HBN.out _ x la ha (HS2.out.below KY ha2) (Nat.le_trans ha2 KY.size) HX.out).mono ?_
    rintro e wZ ⟨rfl, hbZ⟩
    have KZ : Below w2.heap.size w2 wZ := KY.trans (hbZ.mono KY.size)
    refine hKON.out _ _ (KS _ KZ) (fun sH => ?_)
    clear hKON KON
    try simp only [Act.put, List.setIfInBounds_toArray, List.set_cons_zero, List.set_cons_succ]
    refine wpAnyH_take (i := 10) (v := ?_) nthe10 (by kernel_rfl) (by kernel_rfl) (by kernel_rfl) (fun _ _ _ h => h) (Or.inl ⟨by rfl, ?_⟩) sH ?_
    rotate_left
    · intro wS hSw; (try dsimp only at hSw); go_simp; try with_reducible rfl
    try simp only [Act.put, List.setIfInBounds_toArray, List.set_cons_zero, List.set_cons_succ]
    refine wpAnyH_take (i := 11) (v := ?_) nthe11 (by kernel_rfl) (by kernel_rfl) (by kernel_rfl) (fun _ _ _ h => h) (Or.inl ⟨by rfl, ?_⟩) sH ?_
    rotate_left
    · intro wS hSw; (try dsimp only at hSw); go_simp; try with_reducible rfl
    try simp only [Act.put, List.setIfInBounds_toArray, List.set_cons_zero, List.set_cons_succ]
    refine wpAnyH_take (i := 12) (v := ?_) nthe12 (by kernel_rfl) (by kernel_rfl) (by kernel_rfl) (fun _ _ _ h => h) (Or.inl ⟨by rfl, ?_⟩) sH ?_
    rotate_left
    · intro wS hSw; (try dsimp only at hSw); go_simp; try with_reducible rfl
    try simp only [Act.put, List.setIfInBounds_toArray, List.set_cons_zero, List.set_cons_succ]
    refine wpAnyH_done (by kernel_rfl) ?_ _
    refine NoPanic.normal ?_
    go_wp2_with fail
    go_ret
    exact ⟨ret_b HL.out.symm, B2.trans (KZ.mono hw2)⟩
end Go.Proofs.YtpgcieefipjjfaaGreat.mem

namespace Go.Proofs.YtpgcieefipjjfaaGreat.mem
open Go.RowKit
set_option linter.unusedVariables false

end Go.Proofs.YtpgcieefipjjfaaGreat.mem

namespace Go.Proofs.YtpgcieefipjjfaaGreat.mem
open Go.RowKit
set_option linter.unusedVariables false

set_option maxRecDepth 100000 in
set_option maxHeartbeats 8000000 in
theorem residualsOfS_any (w : World) (v : Value) (n : Nat) (N : Nat → Nod) (m : Nat) (P : Nat → Pip) (lo hi : Nat) (h : NetAt w v n N m P lo hi) (hhi : hi ≤ w.heap.size) (hN : ∀ i, i < n → (N i).s.size ≤ 9223372036854775807) (va : Value) (K : Nat) (d : Nat → Int) (la ha : Nat) (hv : Sl w va K d la ha) (hha : ha ≤ w.heap.size) (hK9 : K ≤ 9223372036854775807) :
    Calls Tryz.prog 9 #[v, va] w (LIPost w (cfN n N m P K d) (rsD n P m d) (flC n N m P K d)) := by
  obtain ⟨p0, c0, p1, c1, rfl, hn9, hm9⟩ := h.parts
  have HV := Lib.hid h
  have HN := Lib.hid hN
  obtain ⟨pa, ca, rfl⟩ := hv.sh
  have HSV := Lib.hid hv
  have A0 := boxed w (.slice p0 n c0) (.slice p1 m c1) 27
  have B0 := below_new w (.cells #[.slice p0 n c0, .slice p1 m c1] 27)
  have hs0 : (w.alloc (.cells #[.slice p0 n c0, .slice p1 m c1] 27)).heap.size = w.heap.size + 1 := by simp
  clear h hN hv
  go_enter Tryz.func9, Tryz.ntmps9
  have e0' := A0.b0
  have e1' := A0.b1
  go_wp2_with fail
  refine (l05Code_any _ _ n N m P lo hi (HV.out.below B0 hhi) (by omega) HN.out _ K d la ha (HSV.out.below B0 hha) (by omega) hK9).mono ?_
  rintro e w1 ⟨rfl, b1⟩
  have A1 := A0.below b1 (by omega)
  have B1 := B0.trans (b1.mono (by omega))
  have hs1 := b1.size
  have e0 := A1.b0
  have e1 := A1.b1
  have e2 : w.heap.size < w1.heap.size := by omega
  clear A0 B0 b1 e0' e1'
  by_cases hc : flC n N m P K d = 0
  · obtain ⟨hB, rfl, hf⟩ := flC_ok hc
    have hm40 := (net_sz hB).2.2
    have HB := Lib.hid hB
    have HC := Lib.hid hc
    have HF := Lib.hid (show ∀ k, k < K → -30000 ≤ d k ∧ d k ≤ 30000 from fun k hk => flQ_iff.1 (flB_iff.1 hf k hk))
    have H1 := Lib.hid (HSV.out.below B1 hha)
    rw [hc]
    clear hc hB hf
    go_wp2_with fail
    refine (l05Basis_any w1 _ n N K P lo hi (HV.out.below B1 hhi) (by omega) HN.out HB.out).mono ?_
    rintro e w2 ⟨vb, rfl, hb2, b2⟩
    obtain ⟨pb, cb, rfl⟩ := hb2.shape
    have A2 := A1.below b2 e2
    have B2 := B1.trans (b2.mono (by omega))
    have hs2 := b2.size
    have HBA := Lib.hid hb2
    have H2 := Lib.hid (H1.out.below b2 (by omega))
    have hcn := chN_le n P K
    have HR := Lib.hid (show cfN n N K P K d = chN n P K by unfold cfN; rw [if_pos HC.out])
    have b3 := below_new w2 (.cells #[] 2)
    have HF0 := Lib.hid (Own.nilled w2 (rsD n P K d))
    have A3 := A2.below b3 (by omega)
    have B3 := B2.trans (b3.mono (by omega))
    have hs3 : (w2.alloc (.cells #[] 2)).heap.size = w2.heap.size + 1 := by simp
    have b3' := Lib.hid b3
    clear A1 A2 B1 b2 hb2 e0 e1 b3
    go_wp2_with fail
    obtain ⟨w3, hw3⟩ : ∃ w3, w2.alloc (.cells #[] 2) = w3 := ⟨_, rfl⟩
    rw [hw3] at HF0 A3 B3 hs3 b3' ⊢
    clear hw3
    have HA := Lib.hid A3
    have HBB := Lib.hid B3
    have l3 : w.heap.size < w2.heap.size := by omega
    clear A3 B3
    go_loopw [8, 9] (fun ov iv wr => ∃ (k g : Nat) (ov' : Value), ov' = ov ∧ iv = .int .i64 k ∧ k ≤ chN n P K ∧ Own wr ov' k (rsD n P K d) g ∧ w2.heap.size ≤ g ∧ w3.heap.size ≤ wr.heap.size ∧ Below w2.heap.size w3 wr) (fun _ iv _ => chN n P K - (intOf iv).toNat)
    case atStart => exact ⟨0, _, _, rfl, rfl, Nat.zero_le _, HF0.out, Nat.le_refl _, Nat.le_refl _, Below.refl _ _⟩
    case round =>
      obtain ⟨k, g, ov, rfl, rfl, hk, ho, hg, hsz, hb⟩ := hrel
      obtain ⟨co, rfl⟩ := ho.shape
      clear HF0
      have HO := Lib.hid ho
      have HL := Lib.hid hb
      have lg := ho.lt
      clear ho hb
      have k0 : (0 : Int) ≤ (k : Int) := Int.natCast_nonneg _
      have HL2 := Lib.hid (b3'.out.trans HL.out)
      have BW := Lib.hid (HBB.out.trans (HL.out.mono (by omega)))
      by_cases hlt : k < chN n P K
      · have k1 : (k : Int) < (chN n P K : Int) := by omega
        obtain ⟨q, cap, G, C, ee, hql, hrow⟩ : ∃ (q cap : Nat) (G C : Nat → Nat), Value.slice pb (chN n P K) cb = .slice (some ⟨q, 0, none⟩) (chN n P K) cap ∧ q < w2.heap.size ∧ ∀ k, k < chN n P K → w2.cell? ⟨q, k, none⟩ = some (.slice (some ⟨G k, 0, none⟩) K (C k)) ∧ Own w2 (.slice (some ⟨G k, 0, none⟩) K (C k)) K ((fun i => cyc P (fE n P K) (fD n P K) (chS n P K i)) k) (G k) := by
          rcases HBA.out.at_ with e | e
          · omega
          · exact e
        obtain ⟨rfl, rfl⟩ : pb = some ⟨q, 0, none⟩ ∧ cb = cap := by
          injection ee with h1 _ h3
          exact ⟨h1, h3⟩
        clear ee
        obtain ⟨yr, yo⟩ := hrow k hlt
        clear hrow
        dsimp only at yo
        obtain ⟨hcm, hcp⟩ := chS_at (n := n) (P := P) (m := K) hlt
        have HCR := Lib.hid (show ∀ a, a < K → -1 ≤ cyc P (fE n P K) (fD n P K) (chS n P K k) a ∧ cyc P (fE n P K) (fD n P K) (chS n P K k) a ≤ 1 from fun a _ => cyc_one HB.out hcm hcp a)
        have f0 : wr.cell? ⟨w.heap.size, 0, none⟩ = some (.slice p0 n c0) := (HA.out.below HL.out (by omega)).b0
        have f1 : wr.cell? ⟨w.heap.size, 1, none⟩ = some (.slice p1 K c1) := (HA.out.below HL.out (by omega)).b1
        have y2 : wr.cell? ⟨q, k, none⟩ = some (.slice (some ⟨G k, 0, none⟩) K (C k)) := (HL2.out.cell (p := ⟨q, k, none⟩) hql).trans yr
        have HY := Lib.hid (yo.below HL2.out (Nat.le_refl _))
        have lG := yo.lt
        have HSL := Lib.hid (H2.out.below HL2.out (by omega))
        have HRD := Lib.hid (show rsS P d (cyc P (fE n P K) (fD n P K) (chS n P K k)) K = rsD n P K d k from rfl)
        clear yr yo
        have hAny : ∀ X : World, Below w2.heap.size wr X → X.cell? ⟨w.heap.size, 0, none⟩ = some (.slice p0 n c0) ∧ X.cell? ⟨w.heap.size, 1, none⟩ = some (.slice p1 K c1) ∧ X.cell? ⟨q, k, none⟩ = some (.slice (some ⟨G k, 0, none⟩) K (C k)) := fun X h => ⟨(h.cell (p := ⟨w.heap.size, 0, none⟩) l3).trans f0, (h.cell (p := ⟨w.heap.size, 1, none⟩) l3).trans f1, (h.cell (p := ⟨q, k, none⟩) hql).trans y2⟩
        go_wp2_with fail
        go_region_held3 (fun w' : World => w'.cell? ⟨w.heap.size, 0, none⟩ = some (.slice p0 n c0) ∧ w'.cell? ⟨w.heap.size, 1, none⟩ = some (.slice p1 K c1) ∧ w'.cell? ⟨q, k, none⟩ = some (.slice (some ⟨G k, 0, none⟩) K (C k)))
          (first | exact hAny _ (below_drw (Below.refl _ _)) | exact hAny _ KX | exact hAny _ KY | exact hAny _ KZ)
          (first
            | (go_at_call 28; refine (l10Residual_any _ _ n N K P lo hi ((HV.out.below BW.out hhi).drew) (show hi ≤ wr.heap.size by omega) HB.out _ d la ha (sl_dr HSL.out) (show ha ≤ wr.heap.size by omega) HF.out _ _ (G k) (G k + 1) (sl_dr HY.out.sl) (show G k + 1 ≤ wr.heap.size by omega) HCR.out).mono ?_; rintro e wX ⟨rfl, hb5⟩; rw [HRD.out]; have hb5' := below_dr0 hb5; have zX := hb5'.size; have KX : Below w2.heap.size wr wX := hb5'.mono (by omega); obtain ⟨v7, wz, g7, hr7, ap⟩ := app_run (wX.alloc (.cells #[.int .i64 (rsD n P K d k)] 2)) _ k _ g (rsD n P K d k) wX.heap.size ((HO.out.below hb5' (Nat.le_refl _)).alloc _) (cell_new1 wX _) (by omega); have KY : Below w2.heap.size wr (wX.alloc (.cells #[.int .i64 (rsD n P K d k)] 2)) := below_alloc KX (by omega) _; have apb := ap.below (B := w2.heap.size) hg (by rw [szal]; omega); have KZ : Below w2.heap.size wr wz := KY.trans apb.1)
            | (refine step_appT hr7 rfl (.tmp 25) (.tmp 33) rfl rfl rfl rfl ?_))
        have HO7 := Lib.hid ap.own'
        have HL7 := Lib.hid (HL.out.trans KZ)
        have hg7 := apb.2
        have sz7 := KZ.size
        clear hAny KX KY KZ ap apb hr7 hb5 hb5' f0 f1 y2
        go_wp2_with fail
        go_roundw
        case rel => exact ⟨k + 1, g7, v7, rfl, by go_num, hlt, HO7.out, hg7, by omega, HL7.out⟩
        case measure => simp [intOf]; omega
      · have hkn : chN n P K = k := by omega
        have HO' : Own wr (.slice (some ⟨g, 0, none⟩) k co) (chN n P K) (rsD n P K d) g := by rw [hkn]; exact HO.out
        have k1 : ¬ ((k : Int) < (chN n P K : Int)) := by omega
        have HO2 := Lib.hid HO'
        clear HO' hkn
        go_wp2_with fail
        go_ret2
        exact li_ok HR.out.symm (by rw [HC.out]; rfl) HO2.out (by omega) BW.out
  · have hb1 : (flC n N m P K d != 0) = true := by simpa using hc
    have H3 := Lib.hid (show cfN n N m P K d = 0 by unfold cfN; rw [if_neg hc])
    clear hc
    go_wp2_with fail
    go_ret2
    exact li_err H3.out rfl rfl B1
end Go.Proofs.YtpgcieefipjjfaaGreat.mem

namespace Go.Proofs.YtpgcieefipjjfaaGreat.mem
open Go.RowKit
set_option linter.unusedVariables false

set_option maxRecDepth 100000 in
set_option maxHeartbeats 8000000 in
theorem isRelaxedS_any (w : World) (v : Value) (n : Nat) (N : Nat → Nod) (m : Nat) (P : Nat → Pip) (lo hi : Nat) (h : NetAt w v n N m P lo hi) (hhi : hi ≤ w.heap.size) (hN : ∀ i, i < n → (N i).s.size ≤ 9223372036854775807) (va : Value) (K : Nat) (d : Nat → Int) (la ha : Nat) (hv : Sl w va K d la ha) (hha : ha ≤ w.heap.size) (hK9 : K ≤ 9223372036854775807) :
    Calls Tryz.prog 7 #[v, va] w (fun e w' => e = .returned (.bool (ixB n N m P K d)) ∧ Below w.heap.size w w') := by
  obtain ⟨p0, c0, p1, c1, rfl, hn9, hm9⟩ := h.parts
  have HV := Lib.hid h
  have HN := Lib.hid hN
  obtain ⟨pa, ca, rfl⟩ := hv.sh
  have HSV := Lib.hid hv
  have A0 := boxed w (.slice p0 n c0) (.slice p1 m c1) 27
  have B0 := below_new w (.cells #[.slice p0 n c0, .slice p1 m c1] 27)
  have hs0 : (w.alloc (.cells #[.slice p0 n c0, .slice p1 m c1] 27)).heap.size = w.heap.size + 1 := by simp
  clear h hN hv
  go_enter Tryz.func7, Tryz.ntmps7
  have e0' := A0.b0
  have e1' := A0.b1
  go_wp2_with fail
  refine (l05Code_any _ _ n N m P lo hi (HV.out.below B0 hhi) (by omega) HN.out _ K d la ha (HSV.out.below B0 hha) (by omega) hK9).mono ?_
  rintro e w1 ⟨rfl, b1⟩
  have A1 := A0.below b1 (by omega)
  have B1 := B0.trans (b1.mono (by omega))
  have hs1 := b1.size
  have e0 := A1.b0
  have e1 := A1.b1
  have e2 : w.heap.size < w1.heap.size := by omega
  clear A0 B0 b1 e0' e1'
  by_cases hc : flC n N m P K d = 0
  · obtain ⟨hB, rfl, hf⟩ := flC_ok hc
    have hm40 := (net_sz hB).2.2
    have HB := Lib.hid hB
    have HC := Lib.hid hc
    have HF := Lib.hid (show ∀ k, k < K → -30000 ≤ d k ∧ d k ≤ 30000 from fun k hk => flQ_iff.1 (flB_iff.1 hf k hk))
    have H1 := Lib.hid (HSV.out.below B1 hha)
    rw [hc]
    clear hc hB hf
    go_wp2_with fail
    refine (l05Basis_any w1 _ n N K P lo hi (HV.out.below B1 hhi) (by omega) HN.out HB.out).mono ?_
    rintro e w2 ⟨vb, rfl, hb2, b2⟩
    obtain ⟨pb, cb, rfl⟩ := hb2.shape
    have A2 := A1.below b2 e2
    have B2 := B1.trans (b2.mono (by omega))
    have hs2 := b2.size
    have HBA := Lib.hid hb2
    have H2 := Lib.hid (H1.out.below b2 (by omega))
    have hcn := chN_le n P K
    have HR := Lib.hid (show ixB n N K P K d = rxB n K P d (chN n P K) by unfold ixB; rw [decide_eq_true HC.out, Bool.true_and])
    have HA := Lib.hid A2
    have HBB := Lib.hid B2
    have l3 : w.heap.size < w2.heap.size := by omega
    have nN : (Tryz.prog.info? 27).map (·.size) = some 2 := by kernel_rfl
    have UN := Tryz.underlying27
    clear A1 A2 B1 B2 b2 hb2 e0 e1
    go_wp2_with fail
    go_loopw [6] (fun iv wr => ∃ k : Nat, iv = .int .i64 k ∧ k ≤ chN n P K ∧ rxB n K P d k = true ∧ w2.heap.size ≤ wr.heap.size ∧ Below w2.heap.size w2 wr) (fun iv _ => chN n P K - (intOf iv).toNat)
    case atStart => exact ⟨0, rfl, Nat.zero_le _, rfl, Nat.le_refl _, Below.refl _ _⟩
    case round =>
      obtain ⟨k, rfl, hk, hrx, hsz, hb⟩ := hrel
      have HL := Lib.hid hb
      have HRX := Lib.hid hrx
      clear hb hrx
      have k0 : (0 : Int) ≤ (k : Int) := Int.natCast_nonneg _
      have BW := Lib.hid (HBB.out.trans (HL.out.mono (by omega)))
      by_cases hlt : k < chN n P K
      · have k1 : (k : Int) < (chN n P K : Int) := by omega
        obtain ⟨q, cap, G, C, ee, hql, hrow⟩ : ∃ (q cap : Nat) (G C : Nat → Nat), Value.slice pb (chN n P K) cb = .slice (some ⟨q, 0, none⟩) (chN n P K) cap ∧ q < w2.heap.size ∧ ∀ k, k < chN n P K → w2.cell? ⟨q, k, none⟩ = some (.slice (some ⟨G k, 0, none⟩) K (C k)) ∧ Own w2 (.slice (some ⟨G k, 0, none⟩) K (C k)) K ((fun i => cyc P (fE n P K) (fD n P K) (chS n P K i)) k) (G k) := by
          rcases HBA.out.at_ with e | e
          · omega
          · exact e
        obtain ⟨rfl, rfl⟩ : pb = some ⟨q, 0, none⟩ ∧ cb = cap := by
          injection ee with h1 _ h3
          exact ⟨h1, h3⟩
        clear ee
        obtain ⟨yr, yo⟩ := hrow k hlt
        clear hrow
        dsimp only at yo
        obtain ⟨hcm, hcp⟩ := chS_at (n := n) (P := P) (m := K) hlt
        have HCR := Lib.hid (show ∀ a, a < K → -1 ≤ cyc P (fE n P K) (fD n P K) (chS n P K k) a ∧ cyc P (fE n P K) (fD n P K) (chS n P K k) a ≤ 1 from fun a _ => cyc_one HB.out hcm hcp a)
        have g0 := range2 (HA.out.below HL.out (by omega)).b0 (HA.out.below HL.out (by omega)).b1
        have y2 : wr.cell? ⟨q, k, none⟩ = some (.slice (some ⟨G k, 0, none⟩) K (C k)) := (HL.out.cell (p := ⟨q, k, none⟩) hql).trans yr
        have HY := Lib.hid (yo.below HL.out (Nat.le_refl _))
        have lG := yo.lt
        have HSL := Lib.hid (H2.out.below HL.out (by omega))
        have HT1 := Lib.hid (show loB K P d (cyc P (fE n P K) (fD n P K) (chS n P K k)) 1 = true → rxB n K P d (chN n P K) = false from fun g => rxB_no (by rw [g]; rfl) hlt)
        have HT2 := Lib.hid (show loB K P d (cyc P (fE n P K) (fD n P K) (chS n P K k)) (-1) = true → rxB n K P d (chN n P K) = false from fun g => rxB_no (by rw [g, Bool.or_true]) hlt)
        have HT3 := Lib.hid (show loB K P d (cyc P (fE n P K) (fD n P K) (chS n P K k)) 1 = false → loB K P d (cyc P (fE n P K) (fD n P K) (chS n P K k)) (-1) = false → rxB n K P d (k + 1) = true from fun g1 g2 => by unfold rxB; rw [HRX.out, g1, g2]; rfl)
        clear yr yo
        have hir : hi ≤ wr.heap.size := by omega
        have har : ha ≤ wr.heap.size := by omega
        have hwr : w.heap.size ≤ wr.heap.size := by omega
        have lwr : w.heap.size < wr.heap.size := by omega
        have lqr : q < wr.heap.size := by omega
        have lGr : G k + 1 ≤ wr.heap.size := by omega
        have KS : ∀ W : World, Below wr.heap.size wr W → (Below wr.heap.size wr W ∧ W.rangeAt w.heap.size 0 [.slice p0 n c0, .slice p1 K c1] ∧ W.cell? ⟨q, k, none⟩ = some (.slice (some ⟨G k, 0, none⟩) K (C k))) := fun W hW => ⟨hW, range_blockN g0 (hW.block _ lwr), (hW.cell (p := ⟨q, k, none⟩) lqr).trans y2⟩
        go_wp2_with fail
        cases ht1 : loB K P d (cyc P (fE n P K) (fD n P K) (chS n P K k)) 1
        · cases ht2 : loB K P d (cyc P (fE n P K) (fD n P K) (chS n P K k)) (-1)
          · refine wp_region_noPanic ?_
            refine wp_region_held_drew (S := fun w' : World => Below wr.heap.size wr w' ∧ w'.rangeAt w.heap.size 0 [.slice p0 n c0, .slice p1 K c1] ∧ w'.cell? ⟨q, k, none⟩ = some (.slice (some ⟨G k, 0, none⟩) K (C k))) (by kernel_rfl) (KS _ (below_drw (Below.refl _ _))) (fun sH => ?_)
            refine wpAnyH_take (i := 0) (v := .agg #[.slice p0 n c0, .slice p1 K c1]) nthe0 (by kernel_rfl) (by kernel_rfl) (by kernel_rfl) (fun _ _ _ h => h) (yieldsIf_load_mid (by rfl) _ _ rfl w.heap.size 0 rfl [.slice p0 n c0, .slice p1 K c1] _ (fun _ h => h.2.1) UN rfl (by exact nN)) sH ?_
            try simp only [Act.put, List.setIfInBounds_toArray, List.set_cons_zero, List.set_cons_succ]
            refine wpAnyH_take (i := 1) (v := ?_) nthe1 (by kernel_rfl) (by kernel_rfl) (by kernel_rfl) (fun _ _ _ h => h) (Or.inl ⟨by rfl, ?_⟩) sH ?_
            rotate_left
            · intro wS hSw; (try dsimp only at hSw); go_simp; try with_reducible rfl
            try simp only [Act.put, List.setIfInBounds_toArray, List.set_cons_zero, List.set_cons_succ]
            refine wpAnyH_take (i := 2) (v := ?_) nthe2 (by kernel_rfl) (by kernel_rfl) (by kernel_rfl) (fun _ _ _ h => h) (Or.inl ⟨by rfl, ?_⟩) sH ?_
            rotate_left
            · intro wS hSw; (try dsimp only at hSw); go_simp; try with_reducible rfl
            try simp only [Act.put, List.setIfInBounds_toArray, List.set_cons_zero, List.set_cons_succ]
            refine wpAnyH_take (i := 3) (v := ?_) nthe3 (by kernel_rfl) (by kernel_rfl) (by kernel_rfl) (fun _ _ _ h => h) (Or.inl ⟨by rfl, ?_⟩) sH ?_
            rotate_left
            · intro wS hSw; (try dsimp only at hSw); go_simp; try with_reducible rfl
            try simp only [Act.put, List.setIfInBounds_toArray, List.set_cons_zero, List.set_cons_succ]
            refine wpAnyH_take (i := 4) (v := ?_) nthe4 (by kernel_rfl) (by kernel_rfl) (by kernel_rfl) (fun _ _ _ h => h) (Or.inl ⟨by rfl, ?_⟩) sH ?_
            rotate_left
            · intro wS hSw; (try dsimp only at hSw); go_simp; try with_reducible rfl
            try simp only [Act.put, List.setIfInBounds_toArray, List.set_cons_zero, List.set_cons_succ]
            refine wpAnyH_take (i := 5) (v := ?_) nthe5 (by kernel_rfl) (by kernel_rfl) (by kernel_rfl) (fun _ _ _ h => h) (Or.inl ⟨by rfl, ?_⟩) sH ?_
            rotate_left
            · intro wS hSw; (try dsimp only at hSw); go_simp; try with_reducible rfl
            try simp only [Act.put, List.setIfInBounds_toArray, List.set_cons_zero, List.set_cons_succ]
            refine wpAnyH_ready (rs := [6]) (by kernel_rfl) (by simp) (AllReadyH.cons nthe6 (fun KON hKON => ?_) AllReadyH.nil)
            clear sH
            go_simp
            refine (l10Lower_any _ _ n N K P lo hi (HV.out.below (BW.out.trans ((below_drw (Below.refl wr.heap.size wr)).mono hwr)) hhi) (Nat.le_trans hir (below_drw (Below.refl wr.heap.size wr)).size) HB.out _ d la ha (HSL.out.below (below_drw (Below.refl wr.heap.size wr)) har) (Nat.le_trans har (below_drw (Below.refl wr.heap.size wr)).size) HF.out _ _ (G k) (G k + 1) (HY.out.sl.below (below_drw (Below.refl wr.heap.size wr)) lGr) (Nat.le_trans lGr (below_drw (Below.refl wr.heap.size wr)).size) HCR.out (1) (by omega)).mono ?_
            rintro e wX ⟨rfl, hbwX⟩
            rw [ht1]
            have KX : Below wr.heap.size wr wX := (below_drw (Below.refl wr.heap.size wr)).trans (hbwX.mono (below_drw (Below.refl wr.heap.size wr)).size)
            refine hKON.out _ _ (KS _ KX) (fun sH => ?_)
            clear hKON KON
            try simp only [Act.put, List.setIfInBounds_toArray, List.set_cons_zero, List.set_cons_succ]
            refine wpAnyH_take (i := 7) (v := ?_) nthe7 (by kernel_rfl) (by kernel_rfl) (by kernel_rfl) (fun _ _ _ h => h) (Or.inl ⟨by rfl, ?_⟩) sH ?_
            rotate_left
            · intro wS hSw; (try dsimp only at hSw); go_simp; try with_reducible rfl
            try simp only [Act.put, List.setIfInBounds_toArray, List.set_cons_zero, List.set_cons_succ]
            refine wpAnyH_take (i := 8) (v := .agg #[.slice p0 n c0, .slice p1 K c1]) nthe8 (by kernel_rfl) (by kernel_rfl) (by kernel_rfl) (fun _ _ _ h => h) (yieldsIf_load_mid (by rfl) _ _ rfl w.heap.size 0 rfl [.slice p0 n c0, .slice p1 K c1] _ (fun _ h => h.2.1) UN rfl (by exact nN)) sH ?_
            try simp only [Act.put, List.setIfInBounds_toArray, List.set_cons_zero, List.set_cons_succ]
            refine wpAnyH_take (i := 9) (v := ?_) nthe9 (by kernel_rfl) (by kernel_rfl) (by kernel_rfl) (fun _ _ _ h => h) (Or.inl ⟨by rfl, ?_⟩) sH ?_
            rotate_left
            · intro wS hSw; (try dsimp only at hSw); go_simp; try with_reducible rfl
            try simp only [Act.put, List.setIfInBounds_toArray, List.set_cons_zero, List.set_cons_succ]
            refine wpAnyH_take (i := 10) (v := ?_) nthe10 (by kernel_rfl) (by kernel_rfl) (by kernel_rfl) (fun _ _ _ h => h) (Or.inl ⟨by rfl, ?_⟩) sH ?_
            rotate_left
            · intro wS hSw; (try dsimp only at hSw); go_simp; try with_reducible rfl
            try simp only [Act.put, List.setIfInBounds_toArray, List.set_cons_zero, List.set_cons_succ]
            refine wpAnyH_take (i := 11) (v := ?_) nthe11 (by kernel_rfl) (by kernel_rfl) (by kernel_rfl) (fun _ _ _ h => h) (Or.inl ⟨by rfl, ?_⟩) sH ?_
            rotate_left
            · intro wS hSw; (try dsimp only at hSw); go_simp; try with_reducible rfl
            try simp only [Act.put, List.setIfInBounds_toArray, List.set_cons_zero, List.set_cons_succ]
            refine wpAnyH_take (i := 12) (v := ?_) nthe12 (by kernel_rfl) (by kernel_rfl) (by kernel_rfl) (fun _ _ _ h => h) (Or.inl ⟨by rfl, ?_⟩) sH ?_
            rotate_left
            · intro wS hSw; (try dsimp only at hSw); go_simp; try with_reducible rfl
            try simp only [Act.put, List.setIfInBounds_toArray, List.set_cons_zero, List.set_cons_succ]
            refine wpAnyH_take (i := 13) (v := ?_) nthe13 (by kernel_rfl) (by kernel_rfl) (by kernel_rfl) (fun _ _ _ h => h) (Or.inl ⟨by rfl, ?_⟩) sH ?_
            rotate_left
            · intro wS hSw; (try dsimp only at hSw); go_simp; try with_reducible rfl
            try simp only [Act.put, List.setIfInBounds_toArray, List.set_cons_zero, List.set_cons_succ]
            refine wpAnyH_ready (rs := [14]) (by kernel_rfl) (by simp) (AllReadyH.cons nthe14 (fun KON hKON => ?_) AllReadyH.nil)
            clear sH
            go_simp
            refine (l10Lower_any _ _ n N K P lo hi (HV.out.below (BW.out.trans (KX.mono hwr)) hhi) (Nat.le_trans hir KX.size) HB.out _ d la ha (HSL.out.below KX har) (Nat.le_trans har KX.size) HF.out _ _ (G k) (G k + 1) (HY.out.sl.below KX lGr) (Nat.le_trans lGr KX.size) HCR.out (-1) (by omega)).mono ?_
            rintro e wY ⟨rfl, hbwY⟩
            rw [ht2]
            have KY : Below wr.heap.size wr wY := KX.trans (hbwY.mono KX.size)
            refine hKON.out _ _ (KS _ KY) (fun sH => ?_)
            clear hKON KON
            try simp only [Act.put, List.setIfInBounds_toArray, List.set_cons_zero, List.set_cons_succ]
            refine wpAnyH_take (i := 15) (v := ?_) nthe15 (by kernel_rfl) (by kernel_rfl) (by kernel_rfl) (fun _ _ _ h => h) (Or.inl ⟨by rfl, ?_⟩) sH ?_
            rotate_left
            · intro wS hSw; (try dsimp only at hSw); go_simp; try with_reducible rfl
            try simp only [Act.put, List.setIfInBounds_toArray, List.set_cons_zero, List.set_cons_succ]
            refine wpAnyH_done (by kernel_rfl) ?_ _
            refine NoPanic.normal ?_
            have HN1 := Lib.hid (HT3.out ht1 ht2)
            have zY := KY.size
            go_wp2_with fail
            go_roundw
            case rel => exact ⟨k + 1, by go_num, hlt, HN1.out, by omega, HL.out.trans (KY.mono hsz)⟩
            case measure => simp [intOf]; omega
          · refine wp_region_noPanic ?_
            refine wp_region_held_drew (S := fun w' : World => Below wr.heap.size wr w' ∧ w'.rangeAt w.heap.size 0 [.slice p0 n c0, .slice p1 K c1] ∧ w'.cell? ⟨q, k, none⟩ = some (.slice (some ⟨G k, 0, none⟩) K (C k))) (by kernel_rfl) (KS _ (below_drw (Below.refl _ _))) (fun sH => ?_)
            refine wpAnyH_take (i := 0) (v := .agg #[.slice p0 n c0, .slice p1 K c1]) nthe0 (by kernel_rfl) (by kernel_rfl) (by kernel_rfl) (fun _ _ _ h => h) (yieldsIf_load_mid (by rfl) _ _ rfl w.heap.size 0 rfl [.slice p0 n c0, .slice p1 K c1] _ (fun _ h => h.2.1) UN rfl (by exact nN)) sH ?_
            try simp only [Act.put, List.setIfInBounds_toArray, List.set_cons_zero, List.set_cons_succ]
            refine wpAnyH_take (i := 1) (v := ?_) nthe1 (by kernel_rfl) (by kernel_rfl) (by kernel_rfl) (fun _ _ _ h => h) (Or.inl ⟨by rfl, ?_⟩) sH ?_
            rotate_left
            · intro wS hSw; (try dsimp only at hSw); go_simp; try with_reducible rfl
            try simp only [Act.put, List.setIfInBounds_toArray, List.set_cons_zero, List.set_cons_succ]
            refine wpAnyH_take (i := 2) (v := ?_) nthe2 (by kernel_rfl) (by kernel_rfl) (by kernel_rfl) (fun _ _ _ h => h) (Or.inl ⟨by rfl, ?_⟩) sH ?_
            rotate_left
            · intro wS hSw; (try dsimp only at hSw); go_simp; try with_reducible rfl
            try simp only [Act.put, List.setIfInBounds_toArray, List.set_cons_zero, List.set_cons_succ]
            refine wpAnyH_take (i := 3) (v := ?_) nthe3 (by kernel_rfl) (by kernel_rfl) (by kernel_rfl) (fun _ _ _ h => h) (Or.inl ⟨by rfl, ?_⟩) sH ?_
            rotate_left
            · intro wS hSw; (try dsimp only at hSw); go_simp; try with_reducible rfl
            try simp only [Act.put, List.setIfInBounds_toArray, List.set_cons_zero, List.set_cons_succ]
            refine wpAnyH_take (i := 4) (v := ?_) nthe4 (by kernel_rfl) (by kernel_rfl) (by kernel_rfl) (fun _ _ _ h => h) (Or.inl ⟨by rfl, ?_⟩) sH ?_
            rotate_left
            · intro wS hSw; (try dsimp only at hSw); go_simp; try with_reducible rfl
            try simp only [Act.put, List.setIfInBounds_toArray, List.set_cons_zero, List.set_cons_succ]
            refine wpAnyH_take (i := 5) (v := ?_) nthe5 (by kernel_rfl) (by kernel_rfl) (by kernel_rfl) (fun _ _ _ h => h) (Or.inl ⟨by rfl, ?_⟩) sH ?_
            rotate_left
            · intro wS hSw; (try dsimp only at hSw); go_simp; try with_reducible rfl
            try simp only [Act.put, List.setIfInBounds_toArray, List.set_cons_zero, List.set_cons_succ]
            refine wpAnyH_ready (rs := [6]) (by kernel_rfl) (by simp) (AllReadyH.cons nthe6 (fun KON hKON => ?_) AllReadyH.nil)
            clear sH
            go_simp
            refine (l10Lower_any _ _ n N K P lo hi (HV.out.below (BW.out.trans ((below_drw (Below.refl wr.heap.size wr)).mono hwr)) hhi) (Nat.le_trans hir (below_drw (Below.refl wr.heap.size wr)).size) HB.out _ d la ha (HSL.out.below (below_drw (Below.refl wr.heap.size wr)) har) (Nat.le_trans har (below_drw (Below.refl wr.heap.size wr)).size) HF.out _ _ (G k) (G k + 1) (HY.out.sl.below (below_drw (Below.refl wr.heap.size wr)) lGr) (Nat.le_trans lGr (below_drw (Below.refl wr.heap.size wr)).size) HCR.out (1) (by omega)).mono ?_
            rintro e wX ⟨rfl, hbwX⟩
            rw [ht1]
            have KX : Below wr.heap.size wr wX := (below_drw (Below.refl wr.heap.size wr)).trans (hbwX.mono (below_drw (Below.refl wr.heap.size wr)).size)
            refine hKON.out _ _ (KS _ KX) (fun sH => ?_)
            clear hKON KON
            try simp only [Act.put, List.setIfInBounds_toArray, List.set_cons_zero, List.set_cons_succ]
            refine wpAnyH_take (i := 7) (v := ?_) nthe7 (by kernel_rfl) (by kernel_rfl) (by kernel_rfl) (fun _ _ _ h => h) (Or.inl ⟨by rfl, ?_⟩) sH ?_
            rotate_left
            · intro wS hSw; (try dsimp only at hSw); go_simp; try with_reducible rfl
            try simp only [Act.put, List.setIfInBounds_toArray, List.set_cons_zero, List.set_cons_succ]
            refine wpAnyH_take (i := 8) (v := .agg #[.slice p0 n c0, .slice p1 K c1]) nthe8 (by kernel_rfl) (by kernel_rfl) (by kernel_rfl) (fun _ _ _ h => h) (yieldsIf_load_mid (by rfl) _ _ rfl w.heap.size 0 rfl [.slice p0 n c0, .slice p1 K c1] _ (fun _ h => h.2.1) UN rfl (by exact nN)) sH ?_
            try simp only [Act.put, List.setIfInBounds_toArray, List.set_cons_zero, List.set_cons_succ]
            refine wpAnyH_take (i := 9) (v := ?_) nthe9 (by kernel_rfl) (by kernel_rfl) (by kernel_rfl) (fun _ _ _ h => h) (Or.inl ⟨by rfl, ?_⟩) sH ?_
            rotate_left
            · intro wS hSw; (try dsimp only at hSw); go_simp; try with_reducible rfl
            try simp only [Act.put, List.setIfInBounds_toArray, List.set_cons_zero, List.set_cons_succ]
            refine wpAnyH_take (i := 10) (v := ?_) nthe10 (by kernel_rfl) (by kernel_rfl) (by kernel_rfl) (fun _ _ _ h => h) (Or.inl ⟨by rfl, ?_⟩) sH ?_
            rotate_left
            · intro wS hSw; (try dsimp only at hSw); go_simp; try with_reducible rfl
            try simp only [Act.put, List.setIfInBounds_toArray, List.set_cons_zero, List.set_cons_succ]
            refine wpAnyH_take (i := 11) (v := ?_) nthe11 (by kernel_rfl) (by kernel_rfl) (by kernel_rfl) (fun _ _ _ h => h) (Or.inl ⟨by rfl, ?_⟩) sH ?_
            rotate_left
            · intro wS hSw; (try dsimp only at hSw); go_simp; try with_reducible rfl
            try simp only [Act.put, List.setIfInBounds_toArray, List.set_cons_zero, List.set_cons_succ]
            refine wpAnyH_take (i := 12) (v := ?_) nthe12 (by kernel_rfl) (by kernel_rfl) (by kernel_rfl) (fun _ _ _ h => h) (Or.inl ⟨by rfl, ?_⟩) sH ?_
            rotate_left
            · intro wS hSw; (try dsimp only at hSw); go_simp; try with_reducible rfl
            try simp only [Act.put, List.setIfInBounds_toArray, List.set_cons_zero, List.set_cons_succ]
            refine wpAnyH_take (i := 13) (v := ?_) nthe13 (by kernel_rfl) (by kernel_rfl) (by kernel_rfl) (fun _ _ _ h => h) (Or.inl ⟨by rfl, ?_⟩) sH ?_
            rotate_left
            · intro wS hSw; (try dsimp only at hSw); go_simp; try with_reducible rfl
            try simp only [Act.put, List.setIfInBounds_toArray, List.set_cons_zero, List.set_cons_succ]
            refine wpAnyH_ready (rs := [14]) (by kernel_rfl) (by simp) (AllReadyH.cons nthe14 (fun KON hKON => ?_) AllReadyH.nil)
            clear sH
            go_simp
            refine (l10Lower_any _ _ n N K P lo hi (HV.out.below (BW.out.trans (KX.mono hwr)) hhi) (Nat.le_trans hir KX.size) HB.out _ d la ha (HSL.out.below KX har) (Nat.le_trans har KX.size) HF.out _ _ (G k) (G k + 1) (HY.out.sl.below KX lGr) (Nat.le_trans lGr KX.size) HCR.out (-1) (by omega)).mono ?_
            rintro e wY ⟨rfl, hbwY⟩
            rw [ht2]
            have KY : Below wr.heap.size wr wY := KX.trans (hbwY.mono KX.size)
            refine hKON.out _ _ (KS _ KY) (fun sH => ?_)
            clear hKON KON
            try simp only [Act.put, List.setIfInBounds_toArray, List.set_cons_zero, List.set_cons_succ]
            refine wpAnyH_take (i := 15) (v := ?_) nthe15 (by kernel_rfl) (by kernel_rfl) (by kernel_rfl) (fun _ _ _ h => h) (Or.inl ⟨by rfl, ?_⟩) sH ?_
            rotate_left
            · intro wS hSw; (try dsimp only at hSw); go_simp; try with_reducible rfl
            try simp only [Act.put, List.setIfInBounds_toArray, List.set_cons_zero, List.set_cons_succ]
            refine wpAnyH_done (by kernel_rfl) ?_ _
            refine NoPanic.normal ?_
            have HN1 := Lib.hid (show ixB n N K P K d = false by rw [HR.out]; exact HT2.out ht2)
            go_wp2_with fail
            go_ret
            exact ⟨ret_b HN1.out.symm, BW.out.trans (KY.mono hwr)⟩
        · refine wp_region_noPanic ?_
          refine wp_region_held_drew (S := fun w' : World => Below wr.heap.size wr w' ∧ w'.rangeAt w.heap.size 0 [.slice p0 n c0, .slice p1 K c1] ∧ w'.cell? ⟨q, k, none⟩ = some (.slice (some ⟨G k, 0, none⟩) K (C k))) (by kernel_rfl) (KS _ (below_drw (Below.refl _ _))) (fun sH => ?_)
          refine wpAnyH_take (i := 0) (v := .agg #[.slice p0 n c0, .slice p1 K c1]) nthe0 (by kernel_rfl) (by kernel_rfl) (by kernel_rfl) (fun _ _ _ h => h) (yieldsIf_load_mid (by rfl) _ _ rfl w.heap.size 0 rfl [.slice p0 n c0, .slice p1 K c1] _ (fun _ h => h.2.1) UN rfl (by exact nN)) sH ?_
          try simp only [Act.put, List.setIfInBounds_toArray, List.set_cons_zero, List.set_cons_succ]
          refine wpAnyH_take (i := 1) (v := ?_) nthe1 (by kernel_rfl) (by kernel_rfl) (by kernel_rfl) (fun _ _ _ h => h) (Or.inl ⟨by rfl, ?_⟩) sH ?_
          rotate_left
          · intro wS hSw; (try dsimp only at hSw); go_simp; try with_reducible rfl
          try simp only [Act.put, List.setIfInBounds_toArray, List.set_cons_zero, List.set_cons_succ]
          refine wpAnyH_take (i := 2) (v := ?_) nthe2 (by kernel_rfl) (by kernel_rfl) (by kernel_rfl) (fun _ _ _ h => h) (Or.inl ⟨by rfl, ?_⟩) sH ?_
          rotate_left
          · intro wS hSw; (try dsimp only at hSw); go_simp; try with_reducible rfl
          try simp only [Act.put, List.setIfInBounds_toArray, List.set_cons_zero, List.set_cons_succ]
          refine wpAnyH_take (i := 3) (v := ?_) nthe3 (by kernel_rfl) (by kernel_rfl) (by kernel_rfl) (fun _ _ _ h => h) (Or.inl ⟨by rfl, ?_⟩) sH ?_
          rotate_left
          · intro wS hSw; (try dsimp only at hSw); go_simp; try with_reducible rfl
          try simp only [Act.put, List.setIfInBounds_toArray, List.set_cons_zero, List.set_cons_succ]
          refine wpAnyH_take (i := 4) (v := ?_) nthe4 (by kernel_rfl) (by kernel_rfl) (by kernel_rfl) (fun _ _ _ h => h) (Or.inl ⟨by rfl, ?_⟩) sH ?_
          rotate_left
          · intro wS hSw; (try dsimp only at hSw); go_simp; try with_reducible rfl
          try simp only [Act.put, List.setIfInBounds_toArray, List.set_cons_zero, List.set_cons_succ]
          refine wpAnyH_take (i := 5) (v := ?_) nthe5 (by kernel_rfl) (by kernel_rfl) (by kernel_rfl) (fun _ _ _ h => h) (Or.inl ⟨by rfl, ?_⟩) sH ?_
          rotate_left
          · intro wS hSw; (try dsimp only at hSw); go_simp; try with_reducible rfl
          try simp only [Act.put, List.setIfInBounds_toArray, List.set_cons_zero, List.set_cons_succ]
          refine wpAnyH_ready (rs := [6]) (by kernel_rfl) (by simp) (AllReadyH.cons nthe6 (fun KON hKON => ?_) AllReadyH.nil)
          clear sH
          go_simp
          refine (l10Lower_any _ _ n N K P lo hi (HV.out.below (BW.out.trans ((below_drw (Below.refl wr.heap.size wr)).mono hwr)) hhi) (Nat.le_trans hir (below_drw (Below.refl wr.heap.size wr)).size) HB.out _ d la ha (HSL.out.below (below_drw (Below.refl wr.heap.size wr)) har) (Nat.le_trans har (below_drw (Below.refl wr.heap.size wr)).size) HF.out _ _ (G k) (G k + 1) (HY.out.sl.below (below_drw (Below.refl wr.heap.size wr)) lGr) (Nat.le_trans lGr (below_drw (Below.refl wr.heap.size wr)).size) HCR.out (1) (by omega)).mono ?_
          rintro e wX ⟨rfl, hbwX⟩
          rw [ht1]
          have KX : Below wr.heap.size wr wX := (below_drw (Below.refl wr.heap.size wr)).trans (hbwX.mono (below_drw (Below.refl wr.heap.size wr)).size)
          refine hKON.out _ _ (KS _ KX) (fun sH => ?_)
          clear hKON KON
          try simp only [Act.put, List.setIfInBounds_toArray, List.set_cons_zero, List.set_cons_succ]
          refine wpAnyH_take (i := 7) (v := ?_) nthe7 (by kernel_rfl) (by kernel_rfl) (by kernel_rfl) (fun _ _ _ h => h) (Or.inl ⟨by rfl, ?_⟩) sH ?_
          rotate_left
          · intro wS hSw; (try dsimp only at hSw); go_simp; try with_reducible rfl
          try simp only [Act.put, List.setIfInBounds_toArray, List.set_cons_zero, List.set_cons_succ]
          refine wpAnyH_take (i := 8) (v := undef) nthe8 (by kernel_rfl) (by kernel_rfl) (by kernel_rfl) (fun _ _ _ h => h) (Or.inr ⟨by rfl, rfl⟩) sH ?_
          try simp only [Act.put, List.setIfInBounds_toArray, List.set_cons_zero, List.set_cons_succ]
          refine wpAnyH_take (i := 9) (v := undef) nthe9 (by kernel_rfl) (by kernel_rfl) (by kernel_rfl) (fun _ _ _ h => h) (Or.inr ⟨by rfl, rfl⟩) sH ?_
          try simp only [Act.put, List.setIfInBounds_toArray, List.set_cons_zero, List.set_cons_succ]
          refine wpAnyH_take (i := 10) (v := undef) nthe10 (by kernel_rfl) (by kernel_rfl) (by kernel_rfl) (fun _ _ _ h => h) (Or.inr ⟨by rfl, rfl⟩) sH ?_
          try simp only [Act.put, List.setIfInBounds_toArray, List.set_cons_zero, List.set_cons_succ]
          refine wpAnyH_take (i := 11) (v := undef) nthe11 (by kernel_rfl) (by kernel_rfl) (by kernel_rfl) (fun _ _ _ h => h) (Or.inr ⟨by rfl, rfl⟩) sH ?_
          try simp only [Act.put, List.setIfInBounds_toArray, List.set_cons_zero, List.set_cons_succ]
          refine wpAnyH_take (i := 12) (v := undef) nthe12 (by kernel_rfl) (by kernel_rfl) (by kernel_rfl) (fun _ _ _ h => h) (Or.inr ⟨by rfl, rfl⟩) sH ?_
          try simp only [Act.put, List.setIfInBounds_toArray, List.set_cons_zero, List.set_cons_succ]
          refine wpAnyH_take (i := 13) (v := undef) nthe13 (by kernel_rfl) (by kernel_rfl) (by kernel_rfl) (fun _ _ _ h => h) (Or.inr ⟨by rfl, rfl⟩) sH ?_
          try simp only [Act.put, List.setIfInBounds_toArray, List.set_cons_zero, List.set_cons_succ]
          refine wpAnyH_take (i := 14) (v := undef) nthe14 (by kernel_rfl) (by kernel_rfl) (by kernel_rfl) (fun _ _ _ h => h) (Or.inr ⟨by rfl, rfl⟩) sH ?_
          try simp only [Act.put, List.setIfInBounds_toArray, List.set_cons_zero, List.set_cons_succ]
          refine wpAnyH_take (i := 15) (v := ?_) nthe15 (by kernel_rfl) (by kernel_rfl) (by kernel_rfl) (fun _ _ _ h => h) (Or.inl ⟨by rfl, ?_⟩) sH ?_
          rotate_left
          · intro wS hSw; (try dsimp only at hSw); go_simp; try with_reducible rfl
          try simp only [Act.put, List.setIfInBounds_toArray, List.set_cons_zero, List.set_cons_succ]
          refine wpAnyH_done (by kernel_rfl) ?_ _
          refine NoPanic.normal ?_
          have HN1 := Lib.hid (show ixB n N K P K d = false by rw [HR.out]; exact HT1.out ht1)
          go_wp2_with fail
          go_ret
          exact ⟨ret_b HN1.out.symm, BW.out.trans (KX.mono hwr)⟩
      · have hkn : k = chN n P K := by omega
        have HF2 := Lib.hid (show ixB n N K P K d = true by rw [HR.out, ← hkn]; exact HRX.out)
        have k1 : ¬ ((k : Int) < (chN n P K : Int)) := by omega
        clear hkn
        go_wp2_with fail
        go_ret
        exact ⟨ret_b HF2.out.symm, BW.out⟩
  · have hb1 : (flC n N m P K d != 0) = true := by simpa using hc
    have HR := Lib.hid (show ixB n N m P K d = false by unfold ixB; rw [decide_eq_false hc, Bool.false_and])
    clear hc
    go_wp2_with fail
    go_ret
    exact ⟨ret_b HR.out.symm, B1⟩
end Go.Proofs.YtpgcieefipjjfaaGreat.mem

namespace Go.Proofs.YtpgcieefipjjfaaGreat.mem
open Go.RowKit
set_option linter.unusedVariables false

end Go.Proofs.YtpgcieefipjjfaaGreat.mem

namespace Go.Proofs.YtpgcieefipjjfaaGreat.mem
open Go.RowKit
set_option linter.unusedVariables false

theorem agreeResidualBound (n : Nat) (N : Nat → Nod) (m : Nat) (P : Nat → Pip) (K : Nat) (d : Nat → Int) (x : Int) (hN : ∀ i, i < n → (N i).s.size ≤ 9223372036854775807) (_hn : n ≤ 2000000) (hm : m ≤ 2000000) (hK : K ≤ 2000000) :
    ∃ ra rc, (∀ w v va, NetAt w v n N m P 0 w.heap.size → Sl w va K d 0 w.heap.size → Calls Tryz.prog 15 #[v, va, .int .i64 x] w (IIPost w ra rc)) ∧ (∀ w v va, NetAt w v n N m P 0 w.heap.size → Sl w va K d 0 w.heap.size → Calls Tryz.prog 16 #[v, va, .int .i64 x] w (IIPost w ra rc)) :=
  ⟨bdV n N m P K d x, ckC n N m P K d x, fun w v va h hv => residualBoundI_any w v n N m P 0 _ h (Nat.le_refl _) hN va K d 0 _ hv (Nat.le_refl _) (by omega) x, fun w v va h hv => residualBoundS_any w v n N m P 0 _ h (Nat.le_refl _) hN va K d 0 _ hv (Nat.le_refl _) (by omega) x⟩
theorem cfN_le2 (n : Nat) (N : Nat → Nod) (m : Nat) (P : Nat → Pip) (K : Nat) (d : Nat → Int) (hm : m ≤ 2000000) : cfN n N m P K d ≤ 2000000 := by
  have := chN_le n P m
  unfold cfN
  split <;> omega
theorem agreeResidualsOf (n : Nat) (N : Nat → Nod) (m : Nat) (P : Nat → Pip) (K : Nat) (d : Nat → Int) (hN : ∀ i, i < n → (N i).s.size ≤ 9223372036854775807) (_hn : n ≤ 2000000) (hm : m ≤ 2000000) (hK : K ≤ 2000000) :
    ∃ rn rd rc, rn ≤ 2000000 ∧ (∀ w v va, NetAt w v n N m P 0 w.heap.size → Sl w va K d 0 w.heap.size → Calls Tryz.prog 8 #[v, va] w (LIPost w rn rd rc)) ∧ (∀ w v va, NetAt w v n N m P 0 w.heap.size → Sl w va K d 0 w.heap.size → Calls Tryz.prog 9 #[v, va] w (LIPost w rn rd rc)) :=
  ⟨cfN n N m P K d, rsD n P m d, flC n N m P K d, cfN_le2 n N m P K d hm, fun w v va h hv => residualsOfI_any w v n N m P 0 _ h (Nat.le_refl _) hN va K d 0 _ hv (Nat.le_refl _) (by omega), fun w v va h hv => residualsOfS_any w v n N m P 0 _ h (Nat.le_refl _) hN va K d 0 _ hv (Nat.le_refl _) (by omega)⟩
theorem agreeIsRelaxed (n : Nat) (N : Nat → Nod) (m : Nat) (P : Nat → Pip) (K : Nat) (d : Nat → Int) (hN : ∀ i, i < n → (N i).s.size ≤ 9223372036854775807) (_hn : n ≤ 2000000) (hm : m ≤ 2000000) (hK : K ≤ 2000000) :
    ∃ r, (∀ w v va, NetAt w v n N m P 0 w.heap.size → Sl w va K d 0 w.heap.size → Calls Tryz.prog 6 #[v, va] w (BPost w r)) ∧ (∀ w v va, NetAt w v n N m P 0 w.heap.size → Sl w va K d 0 w.heap.size → Calls Tryz.prog 7 #[v, va] w (BPost w r)) :=
  ⟨ixB n N m P K d, fun w v va h hv => isRelaxedI_any w v n N m P 0 _ h (Nat.le_refl _) hN va K d 0 _ hv (Nat.le_refl _) (by omega), fun w v va h hv => isRelaxedS_any w v n N m P 0 _ h (Nat.le_refl _) hN va K d 0 _ hv (Nat.le_refl _) (by omega)⟩
end Go.Proofs.YtpgcieefipjjfaaGreat.mem
