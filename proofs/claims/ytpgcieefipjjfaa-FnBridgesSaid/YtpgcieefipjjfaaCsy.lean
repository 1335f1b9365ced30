/-
  CycleBasis, both. Conditions: as each states.
-/
import Derived.Test.YtpgcieefipjjfaaRows
import Derived.Test.YtpgcieefipjjfaaCsw
namespace Go.Proofs.Ytpgcieefipjjfaa.mem
open Go.RowKit
set_option linter.unusedVariables false

noncomputable def cbN (n : Nat) (N : Nat → Nod) (m : Nat) (P : Nat → Pip) : Nat := if netB n N m P = true then chN n P m else 0
/-- the answer: an own list of own lists, and a code -/
def CBPost (w : World) (K m : Nat) (Y : Nat → Nat → Int) (c : Int) (e : Ending) (w' : World) : Prop :=
  ∃ v2, e = .returned (.tuple #[v2, .int .i64 c]) ∧ Bas w' v2 K m Y w.heap.size ∧ Below w.heap.size w w'
theorem cb_ok {w w' : World} {v2 : Value} {K K' m : Nat} {Y : Nat → Nat → Int} {c c' : Int} {e : Ending} (hc : c = c') (hk : K' = K) (hb : Bas w' v2 K m Y w.heap.size) (b : Below w.heap.size w w') (he : e = .returned (.tuple #[v2, .int .i64 c])) : CBPost w K' m Y c' e w' := by
  subst hk hc
  exact ⟨v2, he, hb, b⟩
theorem bas_none (w : World) (m : Nat) (Y : Nat → Nat → Int) (B : Nat) : Bas w (.slice none 0 0) 0 m Y B :=
  ⟨fun _ => 0, fun _ => 0, ⟨World.ownsRow_nil _ _ _ _⟩, fun i hi => by omega, fun i j _ hj => by omega⟩
theorem Bas.apart {w : World} {v u : Value} {K m B n g : Nat} {Y : Nat → Nat → Int} {d : Nat → Int} (h : Bas w v K m Y B) (o : Own w u n d g) : v.ownBlock ≠ some g := by
  obtain ⟨G, C, h1, _⟩ := h.ex
  exact row_own h1 o
set_option maxRecDepth 100000 in
set_option maxHeartbeats 8000000 in
theorem cycleBasisS_any (w : World) (v : Value) (n : Nat) (N : Nat → Nod) (m : Nat) (P : Nat → Pip) (lo hi : Nat) (h : NetAt w v n N m P lo hi) (hhi : hi ≤ w.heap.size) (hN : ∀ i, i < n → (N i).s.size ≤ 9223372036854775807) :
    Calls Try.prog 13 #[v] w (CBPost w (cbN n N m P) m (fun i => cyc P (fE n P m) (fD n P m) (chS n P m i)) (cmC (netB n N m P))) := by
  obtain ⟨p0, c0, p1, c1, rfl, hn9, hm9⟩ := h.parts
  have HV := Lib.hid h
  have HN := Lib.hid hN
  have A0 := boxed w (.slice p0 n c0) (.slice p1 m c1) 33
  have B0 := below_new w (.cells #[.slice p0 n c0, .slice p1 m c1] 33)
  have hs0 : (w.alloc (.cells #[.slice p0 n c0, .slice p1 m c1] 33)).heap.size = w.heap.size + 1 := by simp
  clear h hN
  go_enter Try.func13, Try.ntmps13
  have e0' := A0.b0
  have e1' := A0.b1
  go_wp2_with fail
  refine (sIsNetwork_any _ _ n N m P lo hi (HV.out.below B0 hhi) (by omega) HN.out).mono ?_
  rintro e w1 ⟨rfl, b1⟩
  have A1 := A0.below b1 (by omega)
  have B1 := B0.trans (b1.mono (by omega))
  have hs1 := b1.size
  have e0 := A1.b0
  have e1 := A1.b1
  have e2 : w.heap.size < w1.heap.size := by omega
  clear A0 B0 b1 e0' e1'
  cases hB : netB n N m P
  · have H3 := Lib.hid (show cbN n N m P = 0 by unfold cbN; rw [hB]; rfl)
    have H5 := Lib.hid (show cmC (netB n N m P) = 1 by rw [hB]; rfl)
    clear hB
    go_wp2_with fail
    go_ret2
    exact cb_ok H5.out.symm H3.out (bas_none _ _ _ _) B1 rfl
  · have HB := Lib.hid hB
    have H3 := Lib.hid (show cbN n N m P = chN n P m by unfold cbN; rw [hB]; rfl)
    have H5 := Lib.hid (show cmC (netB n N m P) = 0 by rw [hB]; rfl)
    clear hB
    go_wp2_with fail
    refine (l05Basis_any w1 _ n N m P lo hi (HV.out.below B1 hhi) (by omega) HN.out HB.out).mono ?_
    rintro e w2 ⟨vb, rfl, hb2, b2⟩
    obtain ⟨pb, cb, rfl⟩ := hb2.shape
    have B2 := B1.trans (b2.mono (by omega))
    have HBA := Lib.hid hb2
    clear b2 hb2
    go_wp2_with fail
    go_ret2
    exact cb_ok H5.out.symm H3.out (HBA.out.low (by omega)) B2 rfl
theorem Bas.apartF {w : World} {v u : Value} {K m B B' z n : Nat} {Y : Nat → Nat → Int} {c : Nat → Nat → Value} (h : Bas w v K m Y B) (o : RowE B' 71 z w u n c) : ∀ q, v.ownBlock = some q → ¬ u.ownBlock = some q := by
  obtain ⟨G, C, h1, _⟩ := h.ex
  exact fun q hq hu => rows_apart h1 o (by decide) q hq hu.symm
set_option maxRecDepth 100000 in
set_option maxHeartbeats 8000000 in
theorem cycleBasisI_any (w : World) (v : Value) (n : Nat) (N : Nat → Nod) (m : Nat) (P : Nat → Pip) (lo hi : Nat) (h : NetAt w v n N m P lo hi) (hhi : hi ≤ w.heap.size) (hN : ∀ i, i < n → (N i).s.size ≤ 9223372036854775807) :
    Calls Try.prog 15 #[v] w (CBPost w (cbN n N m P) m (fun i => cyc P (fE n P m) (fD n P m) (chS n P m i)) (cmC (netB n N m P))) := by
  obtain ⟨p0, c0, p1, c1, rfl, hn9, hm9⟩ := h.parts
  have HV := Lib.hid h
  have HN := Lib.hid hN
  have A0 := boxed w (.slice p0 n c0) (.slice p1 m c1) 33
  have B0 := below_new w (.cells #[.slice p0 n c0, .slice p1 m c1] 33)
  have hs0 : (w.alloc (.cells #[.slice p0 n c0, .slice p1 m c1] 33)).heap.size = w.heap.size + 1 := by simp
  clear h hN
  go_enter Try.func15, Try.ntmps15
  have e0' := A0.b0
  have e1' := A0.b1
  go_wp2_with fail
  refine (isNetwork_any _ _ n N m P lo hi (HV.out.below B0 hhi) (by omega) HN.out).mono ?_
  rintro e w1 ⟨rfl, b1⟩
  have A1 := A0.below b1 (by omega)
  have B1 := B0.trans (b1.mono (by omega))
  have hs1 := b1.size
  have e0 := A1.b0
  have e1 := A1.b1
  have e2 : w.heap.size < w1.heap.size := by omega
  clear A0 B0 b1 e0' e1'
  cases hB : netB n N m P
  · have H3 := Lib.hid (show cbN n N m P = 0 by unfold cbN; rw [hB]; rfl)
    have H5 := Lib.hid (show cmC (netB n N m P) = 1 by rw [hB]; rfl)
    clear hB
    go_wp2_with fail
    go_ret2
    exact cb_ok H5.out.symm H3.out (bas_none _ _ _ _) B1 rfl
  · have hm40 := (net_sz hB).2.2
    have hcn := chN_le n P m
    have HB := Lib.hid hB
    have H3 := Lib.hid (show cbN n N m P = chN n P m by unfold cbN; rw [hB]; rfl)
    have H5 := Lib.hid (show cmC (netB n N m P) = 0 by rw [hB]; rfl)
    clear hB
    have b2 := below_new w1 (.cells #[] 40)
    have hs2 : (w1.alloc (.cells #[] 40)).heap.size = w1.heap.size + 1 := by simp
    have HBN := Lib.hid (bas_nil (B := w1.heap.size) (m := m) (Y := (fun i => cyc P (fE n P m) (fD n P m) (chS n P m i))) w1 (Nat.le_refl _))
    have HA := Lib.hid (A1.below b2 (by omega))
    have HBB := Lib.hid (B1.trans (b2.mono (by omega)))
    have HLL := Lib.hid b2
    have f0 := HA.out.b0
    have f1 := HA.out.b1
    have HA1 := Lib.hid A1
    have HB1 := Lib.hid B1
    clear A1 B1 b2
    go_wp2_with fail
    clear f0 f1 e0 e1
    generalize hW : w1.alloc (.cells #[] 40) = w2 at *
    clear hW
    refine (cyclesR_any w2 _ n N m P lo hi (HV.out.below HBB.out hhi) (by omega) HB.out).mono ?_
    rintro e w3 ⟨vc, rfl, oc, b3⟩
    obtain ⟨pc, cc, rfl⟩ := oc.shape
    have hs3 := b3.size
    have HC := Lib.hid oc
    have HB3 := Lib.hid (HBN.out.next b3)
    have HL3 := Lib.hid (HLL.out.trans (b3.mono (by omega)))
    clear oc b3 HBN HLL
    go_wp2_with fail
    go_loopw [4, 14] (fun ov iv wr => ∃ (k : Nat) (ov' : Value), ov' = ov ∧ iv = .int .i64 k ∧ k ≤ chN n P m ∧ Bas wr ov' k m (fun i => cyc P (fE n P m) (fD n P m) (chS n P m i)) w1.heap.size ∧ RowE (w2.heap.size + 1) 71 40 wr (.slice pc (chN n P m) cc) (chN n P m) (fun j => ia (cyc P (fE n P m) (fD n P m) (chS n P m j))) ∧ w3.heap.size ≤ wr.heap.size ∧ Below w1.heap.size w1 wr) (fun _ iv _ => chN n P m - (intOf iv).toNat)
    case atStart => exact ⟨0, _, rfl, rfl, Nat.zero_le _, HB3.out, HC.out, Nat.le_refl _, HL3.out⟩
    case round =>
      obtain ⟨k, ov, rfl, rfl, hk, ho, oc, hsz, hb⟩ := hrel
      obtain ⟨po, co, rfl⟩ := ho.shape
      clear HB3 HC HL3
      have HO := Lib.hid ho
      have HC := Lib.hid oc
      have HL := Lib.hid hb
      have HAP := Lib.hid (ho.apartF oc)
      clear ho oc hb
      have k0 : (0 : Int) ≤ (k : Int) := Int.natCast_nonneg _
      by_cases hlt : k < chN n P m
      · have k1 : (k : Int) < (chN n P m : Int) := by omega
        have lw : w.heap.size < w1.heap.size := e2
        have g00 : wr.cell? ⟨w.heap.size, 0, none⟩ = some (.slice p0 n c0) := ((HA1.out).below HL.out lw).b0
        have g01 : wr.cell? ⟨w.heap.size, 1, none⟩ = some (.slice p1 m c1) := ((HA1.out).below HL.out lw).b1
        obtain ⟨gc, hgc, hgc2⟩ := HC.out.ownS
        obtain ⟨eq5, lg5, hKc, g5⟩ := own_rng hgc hlt
        subst eq5
        generalize hcy : cyc P (fE n P m) (fD n P m) (chS n P m k) = y at *
        have HCY := Lib.hid hcy
        clear hcy hgc
        obtain ⟨Ly, hLy, eLy⟩ : ∃ L : List Value, arr y = List.toArray L ∧ L = arrL y := ⟨_, rfl, rfl⟩
        (try dsimp only at g5)
        rw [← eLy] at g5
        have nLy : Ly.length = 40 := by rw [eLy, arr_len]
        have oLy : ∀ v ∈ Ly, v.oneCell' = true := by rw [eLy]; exact arr_oneL _
        have HLy := Lib.hid hLy
        have HEy := Lib.hid eLy
        clear hLy eLy
        have tC : (wr.alloc (.cells (arr fun _ => 0) 71)).there wr.heap.size 0 40 := (Ob.newA wr _ _).there
        go_upto_region 7 with (first
          | (refine wpList_ixF rfl _ _ rfl gc _ _ k rfl rfl hlt ?_)
          | (refine wpList_ldF rfl _ rfl gc (k * 40) Ly rfl nLy g5 ?_)
          | (refine wpList_allocF rfl rfl ?_)
          | (refine wpList_stF rfl _ _ rfl wr.heap.size Ly rfl rfl nLy oLy tC ?_))
        clear tC g5
        have C0 := (Ob.newA wr (fun _ => 0) 71).setArr y
        rw [← HEy.out] at C0
        have bC := (below_new wr (.cells (arr fun _ => 0) 71)).trans (((Only.refl wr.heap.size (wr.alloc (.cells (arr fun _ => 0) 71))).setCs Ly 0).below (Nat.le_refl _))
        have lC := C0.lt
        obtain ⟨w5, hw5⟩ : ∃ w5, (wr.alloc (.cells (arr fun _ => 0) 71)).setCells wr.heap.size 0 Ly = w5 := ⟨_, rfl⟩
        obtain ⟨bc, hbc⟩ : ∃ bc, wr.heap.size = bc := ⟨_, rfl⟩
        rw [hw5] at C0 bC lC ⊢
        have s5 := bC.size
        rw [hbc] at C0 lC ⊢
        have hbc2 := Nat.le_antisymm_iff.1 hbc
        clear hw5 hbc
        have g1 : w5.rangeAt bc 0 Ly := by rw [HEy.out]; exact (C0.congr (fun k _ => by rfl)).range
        clear C0
        have q00 := (bC.cell (p := ⟨w.heap.size, 0, none⟩) (by show w.heap.size < _; omega)).trans g00
        have q01 := (bC.cell (p := ⟨w.heap.size, 1, none⟩) (by show w.heap.size < _; omega)).trans g01
        clear g00 g01
        go_wp2_with (first
          | (refine wpList_ldF rfl _ rfl bc 0 Ly rfl nLy g1 ?_)
          | (go_at_call 65; rw [← HLy.out]; refine (listOf_any _ p0 p1 n m c0 c1 _ hm40).mono ?_; rintro e wX ⟨v5, g6, rfl, o5, hg5, hb5⟩; obtain ⟨c5, rfl⟩ := o5.shape; have hb5' := bC.trans (hb5.mono s5); have zX := hb5'.size; obtain ⟨v7, wz, hr7, ba7, bw7, bk7⟩ := HO.out.app (by omega) hb5' (o5.congr (fun a _ => by rw [← HCY.out])) (show wr.heap.size ≤ g6 by omega) (by omega))
          | (at_builtin; refine wpList_appT hr7 rfl _ _ rfl rfl rfl rfl ?_))
        have b67 := below_new wX (.cells #[.slice (some ⟨g6, 0, none⟩) m c5] 40)
        have HO7 := Lib.hid ba7
        have HL7 := Lib.hid (HL.out.trans ((hb5'.mono (by omega)).trans bw7))
        have HC7 := Lib.hid ((HC.out.next hb5').keep (X := fun q => (Value.slice po k co).ownBlock = some q) (w' := wz) ⟨bw7.os, bw7.tape, bw7.output, bw7.size, fun q hq hx => bk7 q hx hq⟩ (fun q hq hx => HAP.out q hx hq))
        have zz := bw7.size
        clear ba7 bw7 bk7 hr7 hb5 hb5' bC o5 g1 q00 q01 b67
        go_roundw
        case rel => exact ⟨k + 1, v7, rfl, by go_num, hlt, HO7.out, HC7.out, by omega, HL7.out⟩
        case measure => simp [intOf]; omega
      · have hkn : chN n P m = k := by omega
        have HOF := Lib.hid (show Bas wr (.slice po k co) (chN n P m) m (fun i => cyc P (fE n P m) (fD n P m) (chS n P m i)) w1.heap.size by rw [hkn]; exact HO.out)
        have k1 : ¬ ((k : Int) < (chN n P m : Int)) := by omega
        clear hkn
        go_wp2_with fail
        go_ret2
        exact cb_ok H5.out.symm H3.out (HOF.out.low (by omega)) (HB1.out.trans (HL.out.mono (by omega))) rfl
theorem agreeCycleBasis (n : Nat) (N : Nat → Nod) (m : Nat) (P : Nat → Pip) (hN : ∀ i, i < n → (N i).s.size ≤ 9223372036854775807) (_hn : n ≤ 2000000) (hm : m ≤ 2000000) :
    ∃ rk rm rd rc, rk ≤ 40 ∧ rm ≤ 2000000 ∧ (rk = 0 ∨ rm ≤ 40) ∧ (∀ w v, NetAt w v n N m P 0 w.heap.size → Calls Try.prog 15 #[v] w (CBPost w rk rm rd rc)) ∧ (∀ w v, NetAt w v n N m P 0 w.heap.size → Calls Try.prog 13 #[v] w (CBPost w rk rm rd rc)) := by
  have hc := chN_le n P m
  refine ⟨cbN n N m P, m, (fun i => cyc P (fE n P m) (fD n P m) (chS n P m i)), cmC (netB n N m P), ?_, hm, ?_, fun w v h => cycleBasisI_any w v n N m P 0 _ h (Nat.le_refl _) hN, fun w v h => cycleBasisS_any w v n N m P 0 _ h (Nat.le_refl _) hN⟩
  · cases hB : netB n N m P
    · unfold cbN; rw [hB]; exact Nat.zero_le _
    · have := (net_sz hB).2.2
      unfold cbN; rw [hB, if_pos rfl]; omega
  · cases hB : netB n N m P
    · unfold cbN; rw [hB]; exact .inl rfl
    · exact .inr (net_sz hB).2.2
end Go.Proofs.Ytpgcieefipjjfaa.mem
