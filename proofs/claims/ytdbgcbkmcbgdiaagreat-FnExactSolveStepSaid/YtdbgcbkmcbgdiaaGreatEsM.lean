/-
  Several texts in one: Esa, Esb, Esc, Esd, Ese, Esf, Esg, Esh, Eag.
-/
import Derived.Test.YtdbgcbkmcbgdiaaGreatRows
import Derived.Test.YtdbgcbkmcbgdiaaGreatEnM
import Derived.Test.YtdbgcbkmcbgdiaaGreatTsM
import Derived.BigQuiet
import Derived.IntWalk
import Derived.Test.YtdbgcbkmcbgdiaaGreatLfm
namespace Go.Proofs.YtdbgcbkmcbgdiaaGreat.mem
open Go.RowKit
set_option linter.unusedVariables false

set_option maxRecDepth 100000 in
set_option maxHeartbeats 8000000 in
theorem l10Energy_any (w : World) (v : Value) (n : Nat) (N : Nat → Nod) (m : Nat) (P : Nat → Pip) (lo hi : Nat) (h : NetAt w v n N m P lo hi) (hhi : hi ≤ w.heap.size) (hB : netB n N m P = true) (va : Value) (x : Nat → Int) (la ha : Nat) (hv : Sl w va m x la ha) (hha : ha ≤ w.heap.size) (hx : ∀ k, k < m → -30000 ≤ x k ∧ x k ≤ 30000) :
    Calls Tryz.prog 169 #[v, va] w fun e w' => e = .returned (.int .i64 (egS P x m)) ∧ Below w.heap.size w w' := by
  obtain ⟨p0, c0, p1, c1, rfl, hn9, hm9⟩ := h.parts
  obtain ⟨hn1, hn24, hm40⟩ := net_sz hB
  obtain ⟨pa, ca, rfl⟩ := hv.sh
  have HV := Lib.hid h
  have HSV := Lib.hid hv
  have HBN := Lib.hid hB
  have HE := Lib.hid (show ∀ k, k < m → EgB (P k).k ((x k).natAbs : Int) from fun k hk => egB_of (net_pip hB hk) (hx k hk).1 (hx k hk).2)
  have HX := Lib.hid hx
  have A0 := boxed w (.slice p0 n c0) (.slice p1 m c1) 27
  have B0 := below_new w (.cells #[.slice p0 n c0, .slice p1 m c1] 27)
  have hs0 : (w.alloc (.cells #[.slice p0 n c0, .slice p1 m c1] 27)).heap.size = w.heap.size + 1 := by simp
  clear h hB hv hx
  go_enter Tryz.func169, Tryz.ntmps169
  go_wp2_with fail
  obtain ⟨w1, hw1⟩ : ∃ w1, w.alloc (.cells #[.slice p0 n c0, .slice p1 m c1] 27) = w1 := ⟨_, rfl⟩
  rw [hw1] at A0 B0 hs0 ⊢
  clear hw1
  have HA := Lib.hid A0
  have HBB := Lib.hid B0
  clear A0 B0
  go_loopw [5, 6] (fun sv iv wr => ∃ k : Nat, sv = .int .i64 (egS P x k) ∧ iv = .int .i64 k ∧ k ≤ m ∧ w1.heap.size ≤ wr.heap.size ∧ Below w1.heap.size w1 wr) (fun _ iv _ => m - (intOf iv).toNat)
  case atStart => exact ⟨0, rfl, rfl, Nat.zero_le _, Nat.le_refl _, Below.refl _ _⟩
  case round =>
    obtain ⟨k, rfl, rfl, hk, hsz, hb⟩ := hrel
    have HL := Lib.hid hb
    clear hb
    have k0 : (0 : Int) ≤ (k : Int) := Int.natCast_nonneg _
    have BW := Lib.hid (HBB.out.trans (HL.out.mono (by omega)))
    by_cases hlt : k < m
    · have k1 : (k : Int) < (m : Int) := by omega
      obtain ⟨p', c', ee, hxx⟩ := (HSV.out.below BW.out hha).ex
      injection ee with e1 _ e3
      subst e1 e3
      obtain ⟨ba, oa, rfl, ga1, ga2, hxx⟩ : ∃ b o, pa = some ⟨b, o, none⟩ ∧ la ≤ b ∧ b < ha ∧ ∀ k, k < m → wr.cell? ⟨b, o + k, none⟩ = some (.int .i64 (x k)) := by
        rcases hxx with e | e
        · omega
        · exact e
      have yx := hxx k hlt
      clear hxx
      obtain ⟨bp, op, rfl, q1, q2, r0, r1, r2, r3, r4⟩ := (HV.out.below BW.out hhi).pipe hlt
      have f0 : wr.cell? ⟨w.heap.size, 0, none⟩ = some (.slice p0 n c0) := (HA.out.below HL.out (by omega)).b0
      have f1 : wr.cell? ⟨w.heap.size, 1, none⟩ = some (.slice (some ⟨bp, op, none⟩) m c1) := (HA.out.below HL.out (by omega)).b1
      obtain ⟨z0, z1⟩ := HX.out k hlt
      have he := HE.out k hlt
      have h1 := he.one
      have h2 := he.two
      have h3 := he.thr
      have hs := egS_bnd (P := P) (x := x) (k := k) (fun j hj => HE.out j (by omega))
      have HS := Lib.hid (show egS P x (k + 1) = egS P x k + (P k).k * ((x k).natAbs : Int) * ((x k).natAbs : Int) * ((x k).natAbs : Int) from rfl)
      have hs1 : egS P x k ≤ 1080000000000000000 := by omega
      have hs2 := hs.1
      clear hs
      go_wp2_with (go_at_call 126; refine (absS_any _ _ (by omega) (by omega)).mono ?_; rintro e w' ⟨rfl, rfl⟩)
      go_roundw
      case rel => exact ⟨k + 1, by rw [HS.out], by go_num, hlt, hsz, HL.out⟩
      case measure => simp [intOf]; omega
    · have hkn : k = m := by omega
      subst hkn
      have k1 : ¬ ((k : Int) < (k : Int)) := by omega
      go_wp2_with fail
      go_ret
      exact ⟨rfl, BW.out⟩

set_option maxRecDepth 100000 in
set_option maxHeartbeats 8000000 in
theorem l10Residual_any (w : World) (v : Value) (n : Nat) (N : Nat → Nod) (m : Nat) (P : Nat → Pip) (lo hi : Nat) (h : NetAt w v n N m P lo hi) (hhi : hi ≤ w.heap.size) (hB : netB n N m P = true) (va : Value) (x : Nat → Int) (la ha : Nat) (hv : Sl w va m x la ha) (hha : ha ≤ w.heap.size) (hx : ∀ k, k < m → -30000 ≤ x k ∧ x k ≤ 30000) (vb : Value) (y : Nat → Int) (lb hb : Nat) (hu : Sl w vb m y lb hb) (hhb : hb ≤ w.heap.size) (hy : ∀ k, k < m → -1 ≤ y k ∧ y k ≤ 1) :
    Calls Tryz.prog 127 #[v, va, vb] w fun e w' => e = .returned (.int .i64 (rsS P x y m)) ∧ Below w.heap.size w w' := by
  obtain ⟨p0, c0, p1, c1, rfl, hn9, hm9⟩ := h.parts
  obtain ⟨hn1, hn24, hm40⟩ := net_sz hB
  obtain ⟨pa, ca, rfl⟩ := hv.sh
  have HV := Lib.hid h
  have HSV := Lib.hid hv
  have HBN := Lib.hid hB
  have HE := Lib.hid (show ∀ k, k < m → EgB (P k).k ((x k).natAbs : Int) from fun k hk => egB_of (net_pip hB hk) (hx k hk).1 (hx k hk).2)
  have HX := Lib.hid hx
  obtain ⟨pb, cb, rfl⟩ := hu.sh
  have HSU := Lib.hid hu
  have HY := Lib.hid hy
  clear hu hy
  have HDR := Lib.hid (show ∀ k, k < m → -900000000000 ≤ drp (P k) (x k) ∧ drp (P k) (x k) ≤ 900000000000 from fun k hk => drp_bnd (net_pip hB hk) (hx k hk).1 (hx k hk).2)
  have A0 := boxed w (.slice p0 n c0) (.slice p1 m c1) 27
  have B0 := below_new w (.cells #[.slice p0 n c0, .slice p1 m c1] 27)
  have hs0 : (w.alloc (.cells #[.slice p0 n c0, .slice p1 m c1] 27)).heap.size = w.heap.size + 1 := by simp
  clear h hB hv hx
  go_enter Tryz.func127, Tryz.ntmps127
  go_wp2_with fail
  obtain ⟨w1, hw1⟩ : ∃ w1, w.alloc (.cells #[.slice p0 n c0, .slice p1 m c1] 27) = w1 := ⟨_, rfl⟩
  rw [hw1] at A0 B0 hs0 ⊢
  clear hw1
  have HA := Lib.hid A0
  have HBB := Lib.hid B0
  clear A0 B0
  go_loopw [7, 8] (fun sv iv wr => ∃ k : Nat, sv = .int .i64 (rsS P x y k) ∧ iv = .int .i64 k ∧ k ≤ m ∧ w1.heap.size ≤ wr.heap.size ∧ Below w1.heap.size w1 wr) (fun _ iv _ => m - (intOf iv).toNat)
  case atStart => exact ⟨0, rfl, rfl, Nat.zero_le _, Nat.le_refl _, Below.refl _ _⟩
  case round =>
    obtain ⟨k, rfl, rfl, hk, hsz, hb⟩ := hrel
    have HL := Lib.hid hb
    clear hb
    have k0 : (0 : Int) ≤ (k : Int) := Int.natCast_nonneg _
    have BW := Lib.hid (HBB.out.trans (HL.out.mono (by omega)))
    by_cases hlt : k < m
    · have k1 : (k : Int) < (m : Int) := by omega
      obtain ⟨p', c', ee, hxx⟩ := (HSV.out.below BW.out hha).ex
      injection ee with e1 _ e3
      subst e1 e3
      obtain ⟨ba, oa, rfl, ga1, ga2, hxx⟩ : ∃ b o, pa = some ⟨b, o, none⟩ ∧ la ≤ b ∧ b < ha ∧ ∀ k, k < m → wr.cell? ⟨b, o + k, none⟩ = some (.int .i64 (x k)) := by
        rcases hxx with e | e
        · omega
        · exact e
      have yx := hxx k hlt
      clear hxx
      obtain ⟨p'', c'', ee, hyy⟩ := (HSU.out.below BW.out hhb).ex
      injection ee with e1 _ e3
      subst e1 e3
      obtain ⟨by', oy, rfl, gb1, gb2, hyy⟩ : ∃ b o, pb = some ⟨b, o, none⟩ ∧ lb ≤ b ∧ b < hb ∧ ∀ k, k < m → wr.cell? ⟨b, o + k, none⟩ = some (.int .i64 (y k)) := by
        rcases hyy with e | e
        · omega
        · exact e
      have yc := hyy k hlt
      clear hyy
      obtain ⟨bp, op, rfl, q1, q2, r0, r1, r2, r3, r4⟩ := (HV.out.below BW.out hhi).pipe hlt
      have f0 : wr.cell? ⟨w.heap.size, 0, none⟩ = some (.slice p0 n c0) := (HA.out.below HL.out (by omega)).b0
      have f1 : wr.cell? ⟨w.heap.size, 1, none⟩ = some (.slice (some ⟨bp, op, none⟩) m c1) := (HA.out.below HL.out (by omega)).b1
      obtain ⟨z0, z1⟩ := HX.out k hlt
      have hyk := HY.out k hlt
      have hd := mulc (HDR.out k hlt) hyk
      have hs := rsS_bnd (P := P) (x := x) (y := y) (k := k) (fun j hj => HDR.out j (by omega)) (fun j hj => HY.out j (by omega))
      have HS := Lib.hid (show rsS P x y (k + 1) = rsS P x y k + y k * drp (P k) (x k) by rw [Int.mul_comm]; rfl)
      rw [Int.mul_comm] at hd
      have wa : IntKind.i64.wrap (y k * drp (P k) (x k)) = y k * drp (P k) (x k) := IntWalk.i64_in _ (by omega)
      have wb : IntKind.i64.wrap (rsS P x y k + y k * drp (P k) (x k)) = rsS P x y k + y k * drp (P k) (x k) := IntWalk.i64_in _ (by omega)
      clear hd hs hyk r0 r1 r2 r3 r4
      have hAny : ∀ X : World, Below wr.heap.size wr X → X.cell? ⟨w.heap.size, 0, none⟩ = some (.slice p0 n c0) ∧ X.cell? ⟨w.heap.size, 1, none⟩ = some (.slice (some ⟨bp, op, none⟩) m c1) ∧ X.cell? ⟨ba, oa + k, none⟩ = some (.int .i64 (x k)) ∧ X.cell? ⟨by', oy + k, none⟩ = some (.int .i64 (y k)) := fun X h => ⟨(h.cell (p := ⟨w.heap.size, 0, none⟩) (by show w.heap.size < _; omega)).trans f0, (h.cell (p := ⟨w.heap.size, 1, none⟩) (by show w.heap.size < _; omega)).trans f1, (h.cell (p := ⟨ba, oa + k, none⟩) (by show ba < _; omega)).trans yx, (h.cell (p := ⟨by', oy + k, none⟩) (by show by' < _; omega)).trans yc⟩
      go_wp2_with fail
      go_region_held3 (fun w' : World => w'.cell? ⟨w.heap.size, 0, none⟩ = some (.slice p0 n c0) ∧ w'.cell? ⟨w.heap.size, 1, none⟩ = some (.slice (some ⟨bp, op, none⟩) m c1) ∧ w'.cell? ⟨ba, oa + k, none⟩ = some (.int .i64 (x k)) ∧ w'.cell? ⟨by', oy + k, none⟩ = some (.int .i64 (y k)))
        (first | exact hAny _ (below_drw (Below.refl _ _)) | exact hAny _ KX)
        (first
          | (go_at_call 119; refine (l07Drop_any _ _ n N m P lo hi ((HV.out.below BW.out hhi).drew) (show hi ≤ wr.heap.size by omega) HBN.out k hlt _ z0 z1).mono ?_; rintro e wX ⟨rfl, hb5⟩; have KX := below_dr0 hb5; have zX := KX.size))
      clear hAny f0 f1 yx yc
      go_wp2_with fail
      go_roundw
      case rel => exact ⟨k + 1, by rw [HS.out], by go_num, hlt, by omega, HL.out.trans (KX.mono hsz)⟩
      case measure => simp [intOf]; omega
    · have hkn : k = m := by omega
      subst hkn
      have k1 : ¬ ((k : Int) < (k : Int)) := by omega
      go_wp2_with fail
      go_ret
      exact ⟨rfl, BW.out⟩

set_option maxRecDepth 100000 in
set_option maxHeartbeats 8000000 in
theorem l10Bound_any (w : World) (v : Value) (n : Nat) (N : Nat → Nod) (m : Nat) (P : Nat → Pip) (lo hi : Nat) (h : NetAt w v n N m P lo hi) (hhi : hi ≤ w.heap.size) (hB : netB n N m P = true) (va : Value) (x : Nat → Int) (la ha : Nat) (hv : Sl w va m x la ha) (hha : ha ≤ w.heap.size) (hx : ∀ k, k < m → -30000 ≤ x k ∧ x k ≤ 30000) (vb : Value) (y : Nat → Int) (lb hb : Nat) (hu : Sl w vb m y lb hb) (hhb : hb ≤ w.heap.size) (hy : ∀ k, k < m → -1 ≤ y k ∧ y k ≤ 1) :
    Calls Tryz.prog 128 #[v, va, vb] w fun e w' => e = .returned (.int .i64 (bdS P x y m)) ∧ Below w.heap.size w w' := by
  obtain ⟨p0, c0, p1, c1, rfl, hn9, hm9⟩ := h.parts
  obtain ⟨hn1, hn24, hm40⟩ := net_sz hB
  obtain ⟨pa, ca, rfl⟩ := hv.sh
  have HV := Lib.hid h
  have HSV := Lib.hid hv
  have HBN := Lib.hid hB
  have HE := Lib.hid (show ∀ k, k < m → EgB (P k).k ((x k).natAbs : Int) from fun k hk => egB_of (net_pip hB hk) (hx k hk).1 (hx k hk).2)
  have HX := Lib.hid hx
  obtain ⟨pb, cb, rfl⟩ := hu.sh
  have HSU := Lib.hid hu
  have HY := Lib.hid hy
  clear hu hy
  have A0 := boxed w (.slice p0 n c0) (.slice p1 m c1) 27
  have B0 := below_new w (.cells #[.slice p0 n c0, .slice p1 m c1] 27)
  have hs0 : (w.alloc (.cells #[.slice p0 n c0, .slice p1 m c1] 27)).heap.size = w.heap.size + 1 := by simp
  clear h hB hv hx
  go_enter Tryz.func128, Tryz.ntmps128
  go_wp2_with fail
  obtain ⟨w1, hw1⟩ : ∃ w1, w.alloc (.cells #[.slice p0 n c0, .slice p1 m c1] 27) = w1 := ⟨_, rfl⟩
  rw [hw1] at A0 B0 hs0 ⊢
  clear hw1
  have HA := Lib.hid A0
  have HBB := Lib.hid B0
  clear A0 B0
  go_loopw [7, 8] (fun sv iv wr => ∃ k : Nat, sv = .int .i64 (bdS P x y k) ∧ iv = .int .i64 k ∧ k ≤ m ∧ w1.heap.size ≤ wr.heap.size ∧ Below w1.heap.size w1 wr) (fun _ iv _ => m - (intOf iv).toNat)
  case atStart => exact ⟨0, rfl, rfl, Nat.zero_le _, Nat.le_refl _, Below.refl _ _⟩
  case round =>
    obtain ⟨k, rfl, rfl, hk, hsz, hb⟩ := hrel
    have HL := Lib.hid hb
    clear hb
    have k0 : (0 : Int) ≤ (k : Int) := Int.natCast_nonneg _
    have BW := Lib.hid (HBB.out.trans (HL.out.mono (by omega)))
    by_cases hlt : k < m
    · have k1 : (k : Int) < (m : Int) := by omega
      obtain ⟨p', c', ee, hxx⟩ := (HSV.out.below BW.out hha).ex
      injection ee with e1 _ e3
      subst e1 e3
      obtain ⟨ba, oa, rfl, ga1, ga2, hxx⟩ : ∃ b o, pa = some ⟨b, o, none⟩ ∧ la ≤ b ∧ b < ha ∧ ∀ k, k < m → wr.cell? ⟨b, o + k, none⟩ = some (.int .i64 (x k)) := by
        rcases hxx with e | e
        · omega
        · exact e
      have yx := hxx k hlt
      clear hxx
      obtain ⟨p'', c'', ee, hyy⟩ := (HSU.out.below BW.out hhb).ex
      injection ee with e1 _ e3
      subst e1 e3
      obtain ⟨by', oy, rfl, gb1, gb2, hyy⟩ : ∃ b o, pb = some ⟨b, o, none⟩ ∧ lb ≤ b ∧ b < hb ∧ ∀ k, k < m → wr.cell? ⟨b, o + k, none⟩ = some (.int .i64 (y k)) := by
        rcases hyy with e | e
        · omega
        · exact e
      have yc := hyy k hlt
      clear hyy
      obtain ⟨bp, op, rfl, q1, q2, r0, r1, r2, r3, r4⟩ := (HV.out.below BW.out hhi).pipe hlt
      have f0 : wr.cell? ⟨w.heap.size, 0, none⟩ = some (.slice p0 n c0) := (HA.out.below HL.out (by omega)).b0
      have f1 : wr.cell? ⟨w.heap.size, 1, none⟩ = some (.slice (some ⟨bp, op, none⟩) m c1) := (HA.out.below HL.out (by omega)).b1
      obtain ⟨z0, z1⟩ := HX.out k hlt
      have he := HE.out k hlt
      have hyk := HY.out k hlt
      have hd := bdT_bnd (P := P) (x := x) he
      have hs := bdS_bnd (P := P) (x := x) (y := y) (k := k) (fun j hj => HE.out j (by omega))
      have he1 := he.a1
      have he0 := he.a0
      have hk0 := he.k0
      have hk1 := he.k1
      have HS := Lib.hid (bdS_abs (P := P) (x := x) (y := y) (k := k) hyk)
      have hya : ((y k).natAbs : Int) = 0 ∨ ((y k).natAbs : Int) = 1 := by omega
      have hyr : -9223372036854775807 ≤ y k ∧ y k ≤ 9223372036854775807 := by omega
      have wa : IntKind.i64.wrap (3 * ((x k).natAbs : Int)) = 3 * ((x k).natAbs : Int) := IntWalk.i64_in _ (by omega)
      have wb : IntKind.i64.wrap (3 * ((x k).natAbs : Int) + 1) = 3 * ((x k).natAbs : Int) + 1 := IntWalk.i64_in _ (by omega)
      have wc : IntKind.i64.wrap (((y k).natAbs : Int) * (P k).k) = ((y k).natAbs : Int) * (P k).k := IntWalk.i64_in _ (by rcases hya with e | e <;> rw [e] <;> omega)
      have wd : IntKind.i64.wrap (((y k).natAbs : Int) * (P k).k * (3 * ((x k).natAbs : Int) + 1)) = ((y k).natAbs : Int) * (P k).k * (3 * ((x k).natAbs : Int) + 1) := IntWalk.i64_in _ (by unfold bdT at hd; rcases hya with e | e <;> rw [e] <;> simp only [Int.zero_mul, Int.one_mul] <;> omega)
      have we : IntKind.i64.wrap (bdS P x y k + ((y k).natAbs : Int) * (P k).k * (3 * ((x k).natAbs : Int) + 1)) = bdS P x y k + ((y k).natAbs : Int) * (P k).k * (3 * ((x k).natAbs : Int) + 1) := IntWalk.i64_in _ (by unfold bdT at hd; rcases hya with e | e <;> rw [e] <;> simp only [Int.zero_mul, Int.one_mul] <;> omega)
      clear hd hs he he1 he0 hk0 hk1 hya hyk
      go_wp2_with fail
      go_quiet ((go_at_call 126; exact Calls.quiet_of_same ((absS_any _ _ (by omega) (by omega)).mono fun e w' h => ⟨h.1, h.2.symm⟩)))
      go_wp2_with fail
      go_roundw
      case rel => exact ⟨k + 1, by rw [HS.out], by go_num, hlt, by (first | omega | (simp; omega)), below_drN1 HL.out _⟩
      case measure => simp [intOf]; omega
    · have hkn : k = m := by omega
      subst hkn
      have k1 : ¬ ((k : Int) < (k : Int)) := by omega
      go_wp2_with fail
      go_ret
      exact ⟨rfl, BW.out⟩
end Go.Proofs.YtdbgcbkmcbgdiaaGreat.mem

namespace Go.Proofs.YtdbgcbkmcbgdiaaGreat.mem
open Go.RowKit
set_option linter.unusedVariables false

end Go.Proofs.YtdbgcbkmcbgdiaaGreat.mem

namespace Go.Proofs.YtdbgcbkmcbgdiaaGreat.mem
open Go.RowKit
set_option linter.unusedVariables false

end Go.Proofs.YtdbgcbkmcbgdiaaGreat.mem

namespace Go.Proofs.YtdbgcbkmcbgdiaaGreat.mem
open Go.RowKit
set_option linter.unusedVariables false

set_option maxRecDepth 100000 in
set_option maxHeartbeats 8000000 in
theorem l10Lower_any (w : World) (v : Value) (n : Nat) (N : Nat → Nod) (m : Nat) (P : Nat → Pip) (lo hi : Nat) (h : NetAt w v n N m P lo hi) (hhi : hi ≤ w.heap.size) (hB : netB n N m P = true) (va : Value) (x : Nat → Int) (la ha : Nat) (hv : Sl w va m x la ha) (hha : ha ≤ w.heap.size) (hx : ∀ k, k < m → -30000 ≤ x k ∧ x k ≤ 30000) (vb : Value) (y : Nat → Int) (lb hb : Nat) (hu : Sl w vb m y lb hb) (hhb : hb ≤ w.heap.size) (hy : ∀ k, k < m → -1 ≤ y k ∧ y k ≤ 1) (t : Int) (ht : -1000000 ≤ t ∧ t ≤ 1000000) :
    Calls Tryz.prog 148 #[v, va, vb, .int .i64 t] w fun e w' => e = .returned (.bool (loB m P x y t)) ∧ Below w.heap.size w w' := by
  obtain ⟨p0, c0, p1, c1, rfl, hn9, hm9⟩ := h.parts
  obtain ⟨hn1, hn24, hm40⟩ := net_sz hB
  obtain ⟨pa, ca, rfl⟩ := hv.sh
  obtain ⟨pb, cb, rfl⟩ := hu.sh
  have HV := Lib.hid h
  have HSV := Lib.hid hv
  have HSU := Lib.hid hu
  have HBN := Lib.hid hB
  have HX := Lib.hid hx
  have HTY := Lib.hid (show ∀ k, k < m → (-4611686018427387904 ≤ x k + t * y k ∧ x k + t * y k ≤ 4611686018427387904) ∧ (-4611686018427387904 ≤ t * y k ∧ t * y k ≤ 4611686018427387904) from fun k hk => by
    have h1 := mulc ht (hy k hk)
    have h2 := hx k hk
    omega)
  have A0 := boxed w (.slice p0 n c0) (.slice p1 m c1) 27
  have B0 := below_new w (.cells #[.slice p0 n c0, .slice p1 m c1] 27)
  have hs0 : (w.alloc (.cells #[.slice p0 n c0, .slice p1 m c1] 27)).heap.size = w.heap.size + 1 := by simp
  clear h hB hv hx hu hy
  go_enter Tryz.func148, Tryz.ntmps148
  go_upto_region 1 with (fail)
  obtain ⟨w1, hw1⟩ : ∃ w1, w.alloc (.cells #[.slice p0 n c0, .slice p1 m c1] 27) = w1 := ⟨_, rfl⟩
  rw [hw1] at A0 B0 hs0 ⊢
  clear hw1
  go_upto_region 2 with (go_at_call 51; refine (l05Add_any _ _ _ m x y t la ha lb hb (HSV.out.below B0 hha) (by omega) (HSU.out.below B0 hhb) (by omega) (by omega) (fun k hk => (HTY.out k hk).1) (fun k hk => (HTY.out k hk).2)).mono ?_; rintro e w2 ⟨v2, g, rfl, oz, hg, b2⟩)
  obtain ⟨cz, rfl⟩ := oz.shape
  have lz := oz.lt
  have s2 := b2.size
  have B2 := B0.trans (b2.mono (by omega))
  have A2 := A0.below b2 (by omega)
  have g0 := range2 A2.b0 A2.b1
  have l2 : w.heap.size < w2.heap.size := by omega
  have hi2 : hi ≤ w2.heap.size := by omega
  have ha2 : ha ≤ w2.heap.size := by omega
  have hw2 : w.heap.size ≤ w2.heap.size := by omega
  have HOZ := Lib.hid oz
  have HS2 := Lib.hid (HSV.out.below B2 hha)
  have nN : (Tryz.prog.info? 27).map (·.size) = some 2 := by kernel_rfl
  have UN := Tryz.underlying27
  clear oz A0 A2 B0 b2
  have KS : ∀ W : World, Below w2.heap.size w2 W → (Below w2.heap.size w2 W ∧ W.rangeAt w.heap.size 0 [.slice p0 n c0, .slice p1 m c1]) := fun W hW => ⟨hW, range_blockN g0 (hW.block _ l2)⟩
  have hli : liB m m (fun k => x k + t * y k) = flB (fun k => x k + t * y k) m := by unfold liB; rw [decide_eq_true rfl, Bool.and_true]
  cases hf : flB (fun k => x k + t * y k) m
  · have HL := Lib.hid (show loB m P x y t = false by unfold loB; rw [hf]; rfl)
    refine wp_region_noPanic ?_
    refine wp_region_held_drew (S := fun w' : World => Below w2.heap.size w2 w' ∧ w'.rangeAt w.heap.size 0 [.slice p0 n c0, .slice p1 m c1]) (by kernel_rfl) (KS _ (below_drw (Below.refl _ _))) (fun sH => ?_)
    refine wpAnyH_take (i := 0) (v := .agg #[.slice p0 n c0, .slice p1 m c1]) nthe0 (by kernel_rfl) (by kernel_rfl) (by kernel_rfl) (fun _ _ _ h => h) (yieldsIf_load_mid (by rfl) _ _ rfl w.heap.size 0 rfl [.slice p0 n c0, .slice p1 m c1] _ (fun _ h => h.2) UN rfl (by exact nN)) sH ?_
    try simp only [Act.put, List.setIfInBounds_toArray, List.set_cons_zero, List.set_cons_succ]
    refine wpAnyH_take (i := 1) (v := ?_) nthe1 (by kernel_rfl) (by kernel_rfl) (by kernel_rfl) (fun _ _ _ h => h) (Or.inl ⟨by rfl, ?_⟩) sH ?_
    rotate_left
    · intro wS hSw; (try dsimp only at hSw); go_simp; try with_reducible rfl
    try simp only [Act.put, List.setIfInBounds_toArray, List.set_cons_zero, List.set_cons_succ]
    refine wpAnyH_ready (rs := [2]) (by kernel_rfl) (by simp) (AllReadyH.cons nthe2 (fun KON hKON => ?_) AllReadyH.nil)
    clear sH
    go_simp
    refine (l05List_any _ p0 p1 n m c0 c1 _ m _ g (g + 1) (HOZ.out.below (below_drw (Below.refl w2.heap.size w2)) (Nat.le_refl _)).sl (show g + 1 ≤ w2.heap.size by omega) (by omega) hm9).mono ?_
    rintro e wX ⟨rfl, hbX⟩
    rw [hli, hf]
    have KX : Below w2.heap.size w2 wX := below_dr0 hbX
    refine hKON.out _ _ (KS _ KX) (fun sH => ?_)
    clear hKON KON
    try simp only [Act.put, List.setIfInBounds_toArray, List.set_cons_zero, List.set_cons_succ]
    refine wpAnyH_take (i := 3) (v := ?_) nthe3 (by kernel_rfl) (by kernel_rfl) (by kernel_rfl) (fun _ _ _ h => h) (Or.inl ⟨by rfl, ?_⟩) sH ?_
    rotate_left
    · intro wS hSw; (try dsimp only at hSw); go_simp; try with_reducible rfl
    try simp only [Act.put, List.setIfInBounds_toArray, List.set_cons_zero, List.set_cons_succ]
    refine wpAnyH_take (i := 4) (v := undef) nthe4 (by kernel_rfl) (by kernel_rfl) (by kernel_rfl) (fun _ _ _ h => h) (Or.inr ⟨by rfl, rfl⟩) sH ?_
    try simp only [Act.put, List.setIfInBounds_toArray, List.set_cons_zero, List.set_cons_succ]
    refine wpAnyH_take (i := 5) (v := undef) nthe5 (by kernel_rfl) (by kernel_rfl) (by kernel_rfl) (fun _ _ _ h => h) (Or.inr ⟨by rfl, rfl⟩) sH ?_
    try simp only [Act.put, List.setIfInBounds_toArray, List.set_cons_zero, List.set_cons_succ]
    refine wpAnyH_take (i := 6) (v := undef) nthe6 (by kernel_rfl) (by kernel_rfl) (by kernel_rfl) (fun _ _ _ h => h) (Or.inr ⟨by rfl, rfl⟩) sH ?_
    try simp only [Act.put, List.setIfInBounds_toArray, List.set_cons_zero, List.set_cons_succ]
    refine wpAnyH_take (i := 7) (v := undef) nthe7 (by kernel_rfl) (by kernel_rfl) (by kernel_rfl) (fun _ _ _ h => h) (Or.inr ⟨by rfl, rfl⟩) sH ?_
    try simp only [Act.put, List.setIfInBounds_toArray, List.set_cons_zero, List.set_cons_succ]
    refine wpAnyH_take (i := 8) (v := undef) nthe8 (by kernel_rfl) (by kernel_rfl) (by kernel_rfl) (fun _ _ _ h => h) (Or.inr ⟨by rfl, rfl⟩) sH ?_
    try simp only [Act.put, List.setIfInBounds_toArray, List.set_cons_zero, List.set_cons_succ]
    refine wpAnyH_take (i := 9) (v := undef) nthe9 (by kernel_rfl) (by kernel_rfl) (by kernel_rfl) (fun _ _ _ h => h) (Or.inr ⟨by rfl, rfl⟩) sH ?_
    try simp only [Act.put, List.setIfInBounds_toArray, List.set_cons_zero, List.set_cons_succ]
    refine wpAnyH_take (i := 10) (v := undef) nthe10 (by kernel_rfl) (by kernel_rfl) (by kernel_rfl) (fun _ _ _ h => h) (Or.inr ⟨by rfl, rfl⟩) sH ?_
    try simp only [Act.put, List.setIfInBounds_toArray, List.set_cons_zero, List.set_cons_succ]
    refine wpAnyH_take (i := 11) (v := ?_) nthe11 (by kernel_rfl) (by kernel_rfl) (by kernel_rfl) (fun _ _ _ h => h) (Or.inl ⟨by rfl, ?_⟩) sH ?_
    rotate_left
    · intro wS hSw; (try dsimp only at hSw); go_simp; try with_reducible rfl
    try simp only [Act.put, List.setIfInBounds_toArray, List.set_cons_zero, List.set_cons_succ]
    refine wpAnyH_take (i := 12) (v := ?_) nthe12 (by kernel_rfl) (by kernel_rfl) (by kernel_rfl) (fun _ _ _ h => h) (Or.inl ⟨by rfl, ?_⟩) sH ?_
    rotate_left
    · intro wS hSw; (try dsimp only at hSw); go_simp; try with_reducible rfl
    try simp only [Act.put, List.setIfInBounds_toArray, List.set_cons_zero, List.set_cons_succ]
    refine wpAnyH_done (by kernel_rfl) ?_ _
    refine NoPanic.normal ?_
    go_wp2_with fail
    go_ret
    exact ⟨ret_b HL.out.symm, B2.trans (KX.mono hw2)⟩
  · have HL := Lib.hid (show loB m P x y t = decide (egS P (fun k => x k + t * y k) m < egS P x m) by unfold loB; rw [hf]; rfl)
    have HZR := Lib.hid (show ∀ k, k < m → -30000 ≤ x k + t * y k ∧ x k + t * y k ≤ 30000 from fun k hk => flQ_iff.1 (flB_iff.1 hf k hk))
    refine wp_region_noPanic ?_
    refine wp_region_held_drew (S := fun w' : World => Below w2.heap.size w2 w' ∧ w'.rangeAt w.heap.size 0 [.slice p0 n c0, .slice p1 m c1]) (by kernel_rfl) (KS _ (below_drw (Below.refl _ _))) (fun sH => ?_)
    refine wpAnyH_take (i := 0) (v := .agg #[.slice p0 n c0, .slice p1 m c1]) nthe0 (by kernel_rfl) (by kernel_rfl) (by kernel_rfl) (fun _ _ _ h => h) (yieldsIf_load_mid (by rfl) _ _ rfl w.heap.size 0 rfl [.slice p0 n c0, .slice p1 m c1] _ (fun _ h => h.2) UN rfl (by exact nN)) sH ?_
    try simp only [Act.put, List.setIfInBounds_toArray, List.set_cons_zero, List.set_cons_succ]
    refine wpAnyH_take (i := 1) (v := ?_) nthe1 (by kernel_rfl) (by kernel_rfl) (by kernel_rfl) (fun _ _ _ h => h) (Or.inl ⟨by rfl, ?_⟩) sH ?_
    rotate_left
    · intro wS hSw; (try dsimp only at hSw); go_simp; try with_reducible rfl
    try simp only [Act.put, List.setIfInBounds_toArray, List.set_cons_zero, List.set_cons_succ]
    refine wpAnyH_ready (rs := [2]) (by kernel_rfl) (by simp) (AllReadyH.cons nthe2 (fun KON hKON => ?_) AllReadyH.nil)
    clear sH
    go_simp
    refine (l05List_any _ p0 p1 n m c0 c1 _ m _ g (g + 1) (HOZ.out.below (below_drw (Below.refl w2.heap.size w2)) (Nat.le_refl _)).sl (show g + 1 ≤ w2.heap.size by omega) (by omega) hm9).mono ?_
    rintro e wX ⟨rfl, hbX⟩
    rw [hli, hf]
    have KX : Below w2.heap.size w2 wX := below_dr0 hbX
    refine hKON.out _ _ (KS _ KX) (fun sH => ?_)
    clear hKON KON
    try simp only [Act.put, List.setIfInBounds_toArray, List.set_cons_zero, List.set_cons_succ]
    refine wpAnyH_take (i := 3) (v := ?_) nthe3 (by kernel_rfl) (by kernel_rfl) (by kernel_rfl) (fun _ _ _ h => h) (Or.inl ⟨by rfl, ?_⟩) sH ?_
    rotate_left
    · intro wS hSw; (try dsimp only at hSw); go_simp; try with_reducible rfl
    try simp only [Act.put, List.setIfInBounds_toArray, List.set_cons_zero, List.set_cons_succ]
    refine wpAnyH_take (i := 4) (v := .agg #[.slice p0 n c0, .slice p1 m c1]) nthe4 (by kernel_rfl) (by kernel_rfl) (by kernel_rfl) (fun _ _ _ h => h) (yieldsIf_load_mid (by rfl) _ _ rfl w.heap.size 0 rfl [.slice p0 n c0, .slice p1 m c1] _ (fun _ h => h.2) UN rfl (by exact nN)) sH ?_
    try simp only [Act.put, List.setIfInBounds_toArray, List.set_cons_zero, List.set_cons_succ]
    refine wpAnyH_take (i := 5) (v := ?_) nthe5 (by kernel_rfl) (by kernel_rfl) (by kernel_rfl) (fun _ _ _ h => h) (Or.inl ⟨by rfl, ?_⟩) sH ?_
    rotate_left
    · intro wS hSw; (try dsimp only at hSw); go_simp; try with_reducible rfl
    try simp only [Act.put, List.setIfInBounds_toArray, List.set_cons_zero, List.set_cons_succ]
    refine wpAnyH_take (i := 7) (v := .agg #[.slice p0 n c0, .slice p1 m c1]) nthe7 (by kernel_rfl) (by kernel_rfl) (by kernel_rfl) (fun _ _ _ h => h) (yieldsIf_load_mid (by rfl) _ _ rfl w.heap.size 0 rfl [.slice p0 n c0, .slice p1 m c1] _ (fun _ h => h.2) UN rfl (by exact nN)) sH ?_
    try simp only [Act.put, List.setIfInBounds_toArray, List.set_cons_zero, List.set_cons_succ]
    refine wpAnyH_take (i := 8) (v := ?_) nthe8 (by kernel_rfl) (by kernel_rfl) (by kernel_rfl) (fun _ _ _ h => h) (Or.inl ⟨by rfl, ?_⟩) sH ?_
    rotate_left
    · intro wS hSw; (try dsimp only at hSw); go_simp; try with_reducible rfl
    try simp only [Act.put, List.setIfInBounds_toArray, List.set_cons_zero, List.set_cons_succ]
    refine wpAnyH_ready (rs := [6]) (by kernel_rfl) (by simp) (AllReadyH.cons nthe6 (fun KON hKON => ?_) AllReadyH.nil)
    clear sH
    go_simp
    refine (l10Energy_any _ _ n N m P lo hi (HV.out.below (B2.trans (KX.mono hw2)) hhi) (Nat.le_trans hi2 KX.size) HBN.out _ _ g (g + 1) (HOZ.out.below KX (Nat.le_refl _)).sl (Nat.le_trans lz KX.size) HZR.out).mono ?_
    rintro e wY ⟨rfl, hbY⟩
    have KY : Below w2.heap.size w2 wY := KX.trans (hbY.mono KX.size)
    refine hKON.out _ _ (KS _ KY) (fun sH => ?_)
    clear hKON KON
    try simp only [Act.put, List.setIfInBounds_toArray, List.set_cons_zero, List.set_cons_succ]
    refine wpAnyH_ready (rs := [9]) (by kernel_rfl) (by simp) (AllReadyH.cons nthe9 (fun KON hKON => ?_) AllReadyH.nil)
    clear sH
    go_simp
    refine (l10Energy_any _ _ n N m P lo hi (HV.out.below (B2.trans (KY.mono hw2)) hhi) (Nat.le_trans hi2 KY.size) HBN.out _ x la ha (HS2.out.below KY ha2) (Nat.le_trans ha2 KY.size) HX.out).mono ?_
    rintro e wZ ⟨rfl, hbZ⟩
    have KZ : Below w2.heap.size w2 wZ := KY.trans (hbZ.mono KY.size)
    refine hKON.out _ _ (KS _ KZ) (fun sH => ?_)
    clear hKON KON
    try simp only [Act.put, List.setIfInBounds_toArray, List.set_cons_zero, List.set_cons_succ]
    refine wpAnyH_take (i := 10) (v := ?_) nthe10 (by kernel_rfl) (by kernel_rfl) (by kernel_rfl) (fun _ _ _ h => h) (Or.inl ⟨by rfl, ?_⟩) sH ?_
    rotate_left
    · intro wS hSw; (try dsimp only at hSw); go_simp; try with_reducible rfl
    try simp only [Act.put, List.setIfInBounds_toArray, List.set_cons_zero, List.set_cons_succ]
    refine wpAnyH_take (i := 11) (v := ?_) nthe11 (by kernel_rfl) (by kernel_rfl) (by kernel_rfl) (fun _ _ _ h => h) (Or.inl ⟨by rfl, ?_⟩) sH ?_
    rotate_left
    · intro wS hSw; (try dsimp only at hSw); go_simp; try with_reducible rfl
    try simp only [Act.put, List.setIfInBounds_toArray, List.set_cons_zero, List.set_cons_succ]
    refine wpAnyH_take (i := 12) (v := ?_) nthe12 (by kernel_rfl) (by kernel_rfl) (by kernel_rfl) (fun _ _ _ h => h) (Or.inl ⟨by rfl, ?_⟩) sH ?_
    rotate_left
    · intro wS hSw; (try dsimp only at hSw); go_simp; try with_reducible rfl
    try simp only [Act.put, List.setIfInBounds_toArray, List.set_cons_zero, List.set_cons_succ]
    refine wpAnyH_done (by kernel_rfl) ?_ _
    refine NoPanic.normal ?_
    go_wp2_with fail
    go_ret
    exact ⟨ret_b HL.out.symm, B2.trans (KZ.mono hw2)⟩
end Go.Proofs.YtdbgcbkmcbgdiaaGreat.mem

namespace Go.Proofs.YtdbgcbkmcbgdiaaGreat.mem
open Go.RowKit
set_option linter.unusedVariables false

end Go.Proofs.YtdbgcbkmcbgdiaaGreat.mem

namespace Go.Proofs.YtdbgcbkmcbgdiaaGreat.mem
open Go.RowKit
set_option linter.unusedVariables false

end Go.Proofs.YtdbgcbkmcbgdiaaGreat.mem

namespace Go.Proofs.YtdbgcbkmcbgdiaaGreat.mem
open Go.RowKit
set_option linter.unusedVariables false

end Go.Proofs.YtdbgcbkmcbgdiaaGreat.mem

namespace Go.Proofs.YtdbgcbkmcbgdiaaGreat.mem
open Go.RowKit
set_option linter.unusedVariables false

end Go.Proofs.YtdbgcbkmcbgdiaaGreat.mem

namespace Go.Proofs.YtdbgcbkmcbgdiaaGreat.mem
open Go.RowKit
set_option linter.unusedVariables false

theorem cfN_le2 (n : Nat) (N : Nat → Nod) (m : Nat) (P : Nat → Pip) (K : Nat) (d : Nat → Int) (hm : m ≤ 2000000) : cfN n N m P K d ≤ 2000000 := by
  have := chN_le n P m
  unfold cfN
  split <;> omega
end Go.Proofs.YtdbgcbkmcbgdiaaGreat.mem
