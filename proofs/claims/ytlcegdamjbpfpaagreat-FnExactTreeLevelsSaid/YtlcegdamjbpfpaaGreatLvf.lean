/-
  The program's forestLevels. Conditions: as each states.
-/
import Derived.Test.YtlcegdamjbpfpaaGreatRows
import Derived.Test.YtlcegdamjbpfpaaGreatLva
import Derived.Test.YtlcegdamjbpfpaaGreatLvd
import Derived.Laws.EntriesVeiled
namespace Go.Proofs.YtlcegdamjbpfpaaGreat.mem
open Go.RowKit
set_option linter.unusedVariables false

set_option maxRecDepth 100000 in
set_option maxHeartbeats 8000000 in
theorem forestLevels_any (w : World) (v : Value) (n : Nat) (N : Nat → Nod) (m : Nat) (P : Nat → Pip) (lo hi : Nat) (h : NetAt w v n N m P lo hi) (hhi : hi ≤ w.heap.size) (hB : netB n N m P = true) (hone : cnt n P m = 1) (va : Value) (x : Nat → Int) (la ha : Nat) (hv : Sl w va m x la ha) (hha : ha ≤ w.heap.size) (hx : ∀ a, a < m → -30000 ≤ x a ∧ x a ≤ 30000) (X0 : Nat) (hX : X0 < n) (level : Int) (hl0 : -500000000000000000 ≤ level) (hl1 : level ≤ 500000000000000000) :
    Calls Tryz.prog 40 #[v, va, .int .i64 (X0 : Nat), .int .i64 level] w fun e w' => ∃ g, e = .returned (.slice (some ⟨g, 0, none⟩) n n) ∧ Own w' (.slice (some ⟨g, 0, none⟩) n n) n (fun j => lvl n P m x (X0 : Nat) level (j : Nat)) g ∧ w.heap.size ≤ g ∧ Below w.heap.size w w' := by
  obtain ⟨p0, c0, p1, c1, rfl, hn9, hm9⟩ := h.parts
  obtain ⟨hn1, hn24, hm40⟩ := net_sz hB
  obtain ⟨pa, ca, rfl⟩ := hv.sh
  have m1 := fun W => make_int64 W n (by omega)
  have zs : (zeros n).size = n := by unfold zeros; simp [madeCells]
  have m0 : (0 : Int) ≤ (n : Int) := Int.natCast_nonneg _
  have b1 := below_new w (.cells #[.slice p0 n c0, .slice p1 m c1] 33)
  have A1 := boxed w (.slice p0 n c0) (.slice p1 m c1) 33
  have HV := Lib.hid h
  have HB := Lib.hid hB
  have HS := Lib.hid hv
  have HX := Lib.hid hx
  have HONE := Lib.hid hone
  have e0 := A1.b0
  clear h hB hv hx hone
  go_enter Tryz.func40, Tryz.ntmps40
  go_wp2_with fail
  have F2 := Ob.one (w.alloc (.cells #[.slice p0 n c0, .slice p1 m c1] 33)) (.slice pa m ca) 26
  have b2 := below_new (w.alloc (.cells #[.slice p0 n c0, .slice p1 m c1] 33)) (.cells #[.slice pa m ca] 26)
  simp only [World.size_alloc] at F2
  generalize hw2 : (w.alloc (.cells #[.slice p0 n c0, .slice p1 m c1] 33)).alloc (.cells #[.slice pa m ca] 26) = w2 at *
  have hs2 : w2.heap.size = w.heap.size + 1 + 1 := by rw [← hw2]; simp
  have A2 := A1.below b2 (by simp)
  have B2 := b1.trans (b2.mono (by simp))
  clear b2
  have G3 := Own.made2 w2 n (by omega)
  have b3 := below_new w2 (.cells (zeros n) 2)
  rw [hs2] at G3
  generalize hw3 : w2.alloc (.cells (zeros n) 2) = w3 at *
  have hs3 : w3.heap.size = w.heap.size + 1 + 1 + 1 := by rw [← hw3]; simp [hs2]
  have A3 := A2.below b3 (by omega)
  have F3 := F2.below b3 (by omega)
  have B3 := B2.trans (b3.mono (by omega))
  clear b3 A2 F2 B2
  have L4 := Ob.one w3 (.slice (some ⟨w.heap.size + 1 + 1, 0, none⟩) n n) 26
  have b4 := below_new w3 (.cells #[.slice (some ⟨w.heap.size + 1 + 1, 0, none⟩) n n] 26)
  rw [hs3] at L4
  generalize hw4 : w3.alloc (.cells #[.slice (some ⟨w.heap.size + 1 + 1, 0, none⟩) n n] 26) = w4 at *
  have hs4 : w4.heap.size = w.heap.size + 1 + 1 + 1 + 1 := by rw [← hw4]; simp [hs3]
  have A4 := A3.below b4 (by omega)
  have F4 := F3.below b4 (by omega)
  have G4 := G3.below b4 (Nat.le_refl _)
  have B4 := B3.trans (b4.mono (by omega))
  clear b4 A3 F3 G3 B3 hw2 hw3 hw4 b1 A1 e0 hs2 hs3
  refine (forest_any w4 _ n N m P lo hi (HV.out.below B4 hhi) (by omega) HB.out).mono ?_
  rintro e w5 ⟨vf, gf, rfl, of, hgf, b5⟩
  obtain ⟨cf, rfl⟩ := of.shape
  have hs5 := b5.size
  have lf := of.lt
  have A5 := A4.below b5 (by omega)
  have F5 := F4.below b5 (by omega)
  have G5 := G4.below b5 (Nat.le_refl _)
  have L5 := L4.below b5 (by omega)
  have B5 := B4.trans (b5.mono (by omega))
  clear b5 A4 F4 G4 L4 B4
  have mf : ∀ (fn : Fn) (first cap : Array Value) (w : World), (Instr.makeFunc fn first cap).run Tryz.prog w = .ok (.func fn first cap) w := fun _ _ _ _ => rfl
  have HA := Lib.hid A5
  have HF := Lib.hid F5
  have HG := Lib.hid G5
  have HL := Lib.hid L5
  have HO := Lib.hid of
  have HBB := Lib.hid B5
  clear A5 F5 G5 L5 of B5
  go_wp2_with fail
  have F6 := Ob.one w5 (.slice (some ⟨gf, 0, none⟩) (forest n P m).length cf) 26
  have b6 := below_new w5 (.cells #[.slice (some ⟨gf, 0, none⟩) (forest n P m).length cf] 26)
  generalize hw6 : w5.alloc (.cells #[.slice (some ⟨gf, 0, none⟩) (forest n P m).length cf] 26) = w6 at *
  have hs6 : w6.heap.size = w5.heap.size + 1 := by rw [← hw6]; simp
  have I7 := Ob.one w6 (.func (.func 77) #[] #[.pointer (some ⟨w.heap.size + 1 + 1 + 1, 0, none⟩), .pointer (some ⟨w5.heap.size, 0, none⟩), .pointer (some ⟨w.heap.size, 0, none⟩), .pointer (some ⟨w5.heap.size + 1, 0, none⟩), .pointer (some ⟨w.heap.size + 1, 0, none⟩)]) 97
  have b7 := below_new w6 (.cells #[.func (.func 77) #[] #[.pointer (some ⟨w.heap.size + 1 + 1 + 1, 0, none⟩), .pointer (some ⟨w5.heap.size, 0, none⟩), .pointer (some ⟨w.heap.size, 0, none⟩), .pointer (some ⟨w5.heap.size + 1, 0, none⟩), .pointer (some ⟨w.heap.size + 1, 0, none⟩)]] 97)
  rw [hs6] at I7
  generalize hw7 : w6.alloc (.cells #[.func (.func 77) #[] #[.pointer (some ⟨w.heap.size + 1 + 1 + 1, 0, none⟩), .pointer (some ⟨w5.heap.size, 0, none⟩), .pointer (some ⟨w.heap.size, 0, none⟩), .pointer (some ⟨w5.heap.size + 1, 0, none⟩), .pointer (some ⟨w.heap.size + 1, 0, none⟩)]] 97) = w7 at *
  have hs7 : w7.heap.size = w5.heap.size + 1 + 1 := by rw [← hw7]; simp [hs6]
  have b57 := b6.trans (b7.mono (by omega))
  have lga := HG.out.lt
  have E7 : FE n m (forest n P m).length N P (lD (forest n P m)) x p0 c0 p1 c1 lo hi la ha (w.heap.size + 1 + 1) (w.heap.size + 1 + 1 + 1) w5.heap.size w.heap.size (w5.heap.size + 1) (w.heap.size + 1) gf cf (.slice pa m ca) w7 :=
    ⟨HV.out.below (HBB.out.trans (b57.mono (by omega))) hhi, HS.out.below (HBB.out.trans (b57.mono (by omega))) hha, HO.out.keep (b57.block _ lf), HL.out.below b57 (by omega), F6.below b7 (by omega), HA.out.below b57 (by omega), I7, HF.out.below b57 (by omega), by omega, by omega, by omega, by omega, by omega, by omega, by omega, by omega, by omega⟩
  have G7 := HG.out.keep (b57.block _ lga)
  have HB7 := Lib.hid (HBB.out.trans (b57.mono (by omega)))
  have HBD := Lib.hid (fun (z : Int) (hz : 0 ≤ z ∧ z < n) => lvl_bnd (x := x) (root := ((X0 : Nat) : Int)) (level := level) (z := z) HB.out hn24 HX.out ⟨Int.natCast_nonneg _, by omega⟩ hz)
  have hfill := fill_any HB.out HX.out (lv := lvl n P m x (X0 : Nat) level) (fun z hz => by have := HBD.out z hz; omega) (fun a ha hf z hz => lvl_step HB.out ha hf hz) (2 * n + 2) w7 X0 (-1) _ hX ((fo_net HB.out).fu_start ⟨Int.natCast_nonneg _, by omega⟩) E7 G7
  rw [lvl_root] at hfill
  have HE7 := Lib.hid E7
  clear E7 G7 b57 b6 b7 I7 F6 hw6 hw7 HBD
  refine hfill.mono ?_
  clear hfill
  rintro e w8 ⟨rfl, d', o8, hgr, ⟨V, hD⟩, u8⟩
  have E8 := HE7.out.upd u8
  have y8 : w8.cell? ⟨w.heap.size + 1 + 1 + 1, 0, none⟩ = some (.slice (some ⟨w.heap.size + 1 + 1, 0, none⟩) n n) := E8.ol.cell 0 (by omega)
  have hfin : ∀ j : Nat, j < n → d' j = lvl n P m x (X0 : Nat) level (j : Nat) := fun j hj => by
    have hall := (fo_net (P := P) (m := m) HB.out).all (fo_r0 HB.out) (fo_r2 HB.out) (cmp_one HB.out HONE.out) (V := V) (x := ((X0 : Nat) : Int)) ⟨Int.natCast_nonneg _, by omega⟩ hD.own (fun z hz a ha hf he => by
      have hin := (inF_fE HB.out a).2 hf
      by_cases e : z = ((X0 : Nat) : Int)
      · subst e
        exact hD.nod a ⟨⟨ha, hin⟩, by omega⟩ he
      · exact hD.oth z hz e a ⟨ha, hin⟩ he) ((j : Nat) : Int) ⟨Int.natCast_nonneg _, by omega⟩
    have := (hD.lev _ hall).2.2
    rwa [Int.toNat_natCast] at this
  have HO8 := Lib.hid (o8.congr hfin)
  have HB8 := Lib.hid (HB7.out.trans (u8.below (by omega) (fun k _ hk => by omega)))
  clear o8 hgr hD u8 E8 hfin
  go_wp2_with fail
  go_ret
  exact ⟨_, rfl, HO8.out, by omega, HB8.out⟩
end Go.Proofs.YtlcegdamjbpfpaaGreat.mem
