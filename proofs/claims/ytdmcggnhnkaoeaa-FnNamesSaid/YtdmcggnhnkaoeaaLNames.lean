/-
  FnNames returns true at every slice of bytes, and leaves it as it was. No condition.
-/
import Derived.Test.YtdmcggnhnkaoeaaRows
import Derived.Test.YtdmcggnhnkaoeaaLaw
import Derived.Test.YtdmcggnhnkaoeaaCode
import Derived.Test.YtdmcggnhnkaoeaaLikeN
import Derived.Test.YtdmcggnhnkaoeaaNetRN
import Derived.Test.YtdmcggnhnkaoeaaNetNN
import Derived.Test.YtdmcggnhnkaoeaaDrH
import Derived.WalkKit
import Derived.ProofKit
import Derived.OpenShut
import Derived.Lib.Hide
import Derived.Deep.QuietTactic
import Derived.BigQuiet
import Derived.OwnWalk
import Derived.Outline
import Derived.Deep.RegionHeld3
import Derived.Deep.RegionHeldLaw
import Derived.Deep.Cut
import Derived.IntWalk
namespace Go.Proofs.Ytdmcggnhnkaoeaa.fnNames
open Go.ChangeShapes Go.WideShapes Go.ChangeAt Go.RowKit Go.Proofs.Ytdmcggnhnkaoeaa.draw Go.Proofs.Ytdmcggnhnkaoeaa.mem
set_option linter.unusedVariables false

theorem own : ownKnob Try.prog.godebug = none := by kernel_rfl
theorem laidOut : laidOutB Try.prog = true := by kernel_rfl

theorem rn_back (N : Nat → Nod) (k : Nat) (s : ByteArray) : rnN (rnN N k s) k (N k).s = N := by
  funext i
  unfold rnN
  by_cases h : i = k
  · subst h
    simp
  · simp [h]
theorem rnC_0 {n : Nat} {N : Nat → Nod} {m : Nat} {P : Nat → Pip} {x : Int} {s : ByteArray} (h : rnC n N m P x s = 0) : netB n N m P = true ∧ inR x 0 (n - 1) = true ∧ netB n (rnN N x.toNat s) m P = true := by
  unfold rnC at h
  split at h
  · rename_i hc
    have := codeB_0' hc
    refine ⟨this.1, this.2, ?_⟩
    split at h
    · assumption
    · cases h
  · exact absurd h (by assumption)
theorem nn_rn {n : Nat} {N : Nat → Nod} {m : Nat} {P : Nat → Pip} {k : Nat} {s : ByteArray} (hk : k < n) (h : netB n (rnN N k s) m P = true) : nnF (rnN N k s) n s = some k := by
  have hd := nodes_of h
  have e : ((rnN N k s) k).s = s := by unfold rnN; simp
  refine nnF_some hk (nnP_iff.2 e) (fun x hx => ?_)
  cases hp : nnP (rnN N k s) s x
  · rfl
  · exact absurd ((nnP_iff.1 hp).trans e.symm) (hd x k hx hk)
theorem renFacts (n : Nat) (N : Nat → Nod) (m : Nat) (P : Nat → Pip) (x : Int) (s : ByteArray) (hN : ∀ i, i < n → (N i).s.size ≤ 9223372036854775807) (hn : n ≤ 1000) (hm : m ≤ 1000) (hs : s.size ≤ 9223372036854775807) :
    ∃ (rn rm : Nat) (rN : Nat → Nod) (rc : Int), rn ≤ 1000 ∧ rm ≤ 1000 ∧
      (∀ w v, NetAt w v n N m P 0 w.heap.size → Calls Try.prog 30 #[v, .int .i64 x, .string s] w (NIPost w rn rN rm P rc)) ∧ (∀ w v, NetAt w v n N m P 0 w.heap.size → Calls Try.prog 31 #[v, .int .i64 x, .string s] w (NIPost w rn rN rm P rc)) ∧
      (rc = 0 → ∃ k : Nat, x = k ∧ k < n ∧ (∀ w v, NetAt w v rn rN rm P 0 w.heap.size → Calls Try.prog 32 #[v, .string s] w (IIPost w k 0)) ∧ ∀ w v, NetAt w v rn rN rm P 0 w.heap.size → Calls Try.prog 30 #[v, .int .i64 x, .string (N k).s] w (NIPost w n N m P 0)) := by
  refine ⟨rnK n N m P x s n, rnK n N m P x s m, rnN N x.toNat s, rnC n N m P x s, by unfold rnK; split <;> omega, by unfold rnK; split <;> omega, fun w v h => renameI_any w v n N m P 0 _ h (Nat.le_refl _) hN (by omega) (by omega) x s hs, fun w v h => renameS_any w v n N m P 0 _ h (Nat.le_refl _) hN (by omega) (by omega) x s hs, fun hc => ?_⟩
  obtain ⟨h0, h1, h2⟩ := rnC_0 hc
  have hx := inR_iff.1 h1
  obtain ⟨k, rfl⟩ := Int.eq_ofNat_of_zero_le hx.1
  have hk : k < n := by omega
  have e1 : rnK n N m P k s n = n := if_pos hc
  have e2 : rnK n N m P k s m = m := if_pos hc
  rw [e1, e2]
  simp only [Int.toNat_natCast] at h2 ⊢
  have hN2 : ∀ i, i < n → ((rnN N k s) i).s.size ≤ 9223372036854775807 := fun i hi => by unfold rnN; split; exact hs; exact hN i hi
  refine ⟨k, rfl, hk, fun w v h => ?_, fun w v h => ?_⟩
  · have := nodeNamedI_any w v n (rnN N k s) m P 0 _ h (Nat.le_refl _) hN2 s hs
    have a1 : nnV n (rnN N k s) m P s = k := by unfold nnV; rw [if_pos h2, nn_rn hk h2]; rfl
    have a2 : nnC n (rnN N k s) m P s = 0 := by unfold nnC; rw [if_pos h2, nn_rn hk h2]; rfl
    rw [a1, a2] at this
    exact this
  · have hc2 : rnC n (rnN N k s) m P k (N k).s = 0 := by
      unfold rnC
      rw [h2, h1]
      simp only [Int.toNat_natCast, rn_back, h0]
      rfl
    have := renameI_any w v n (rnN N k s) m P 0 _ h (Nat.le_refl _) hN2 (by omega) (by omega) k (N k).s (hN k hk)
    rw [hc2] at this
    unfold rnK at this
    rw [if_pos hc2, if_pos hc2] at this
    simp only [Int.toNat_natCast, rn_back] at this
    exact this

set_option maxRecDepth 100000 in
set_option maxHeartbeats 20000000 in
theorem walk (v : Value) (w : World) (hc : CodeArg w v) :
    Calls Try.prog 6 #[v] w fun e w' => e = .returned (.bool true) ∧ Below w.heap.size w w' := by
  obtain ⟨p, len, cap, rfl, hlen, hcode⟩ := hc
  by_cases h4 : (4096 : Int) < len
  · clear hcode
    go_enter Try.func6, Try.ntmps6
    go_wp2_with (go_at_call 9; refine (draw.big_any _ _ _ _).mono ?_; rintro e w' ⟨rfl, rfl⟩)
    go_ret
    exact ⟨rfl, Below.refl _ _⟩
  have hc := hcode (by omega)
  clear hcode
  go_enter Try.func6, Try.ntmps6
  go_wp2_with (go_at_call 9; refine (draw.big_any _ _ _ _).mono ?_; rintro e w' ⟨rfl, rfl⟩)
  refine (draw.renameDraw w _ len hc).mono ?_
  rintro e w1 ⟨v, n, m, N, P, b1, b2, x, s, rfl, hn, hm, hnm, o1, l1, l2, x0, x1, hss, C1⟩
  obtain ⟨rn, rm, rN, rc, hrn, hrm, ti, ts, hz⟩ := renFacts n N m P x s hnm hn hm hss
  have TI := Lib.hid ti
  have TS := Lib.hid ts
  have HZ := Lib.hid hz
  clear ti ts hz hc x0 x1 hss
  have hb2 : (rc != rc) = false := by simp
  have lxx := o1.lts
  obtain ⟨sx1, sx2, sx3, sx4, rfl⟩ := o1.shape
  go_wp2_with fail
  have bb := mem.below_new w1 (.cells #[.slice sx1 n sx2, .slice sx3 m sx4] 27)
  have B_x := boxed w1 (.slice sx1 n sx2) (.slice sx3 m sx4) 27
  have hs2 := bb.size
  have C2 := belowNext C1 bb
  have x2 := o1.next bb
  clear bb C1 o1
  generalize hW2 : w1.alloc (Obj.cells #[.slice sx1 n sx2, .slice sx3 m sx4] 27) = w2 at *
  clear hW2
  have Bx2 := B_x
  clear B_x
  have lBx := Bx2.lt
  refine (TI.out _ _ x2.net).mono ?_
  rintro e w3 ⟨xr, gr1, gr2, rfl, or', lr1, lr2, bb⟩
  have hs3 := bb.size
  have C3 := belowNext C2 bb
  have x3 := x2.next bb
  have Bx3 := Bx2.next bb
  clear bb C2 x2 Bx2
  have lxr := or'.lts
  obtain ⟨sr1, sr2, sr3, sr4, rfl⟩ := or'.shape
  have qBx0 := Bx3.b0
  have qBx1 := Bx3.b1
  have qBx2 := Bx3.lt
  go_wp2_with fail
  have bb := mem.below_new w3 (.cells #[.slice sr1 rn sr2, .slice sr3 rm sr4] 27)
  have B_r := boxed w3 (.slice sr1 rn sr2) (.slice sr3 rm sr4) 27
  have hs4 := bb.size
  have C4 := belowNext C3 bb
  have x4 := x3.next bb
  have Bx4 := Bx3.next bb
  have r4 := or'.next bb
  clear qBx0 qBx1 qBx2
  clear bb C3 x3 Bx3 or'
  generalize hW4 : w3.alloc (Obj.cells #[.slice sr1 rn sr2, .slice sr3 rm sr4] 27) = w4 at *
  clear hW4
  have Br4 := B_r
  clear B_r
  have lBr := Br4.lt
  refine (TS.out _ _ x4.net).mono ?_
  rintro e w5 ⟨xs, gs1, gs2, rfl, os', ls1, ls2, bb⟩
  have hs5 := bb.size
  have C5 := belowNext C4 bb
  have x5 := x4.next bb
  have Bx5 := Bx4.next bb
  have r5 := r4.next bb
  have Br5 := Br4.next bb
  clear bb C4 x4 Bx4 r4 Br4
  have lxs := os'.lts
  obtain ⟨ss1, ss2, ss3, ss4, rfl⟩ := os'.shape
  have qBx0 := Bx5.b0
  have qBx1 := Bx5.b1
  have qBx2 := Bx5.lt
  have qBr0 := Br5.b0
  have qBr1 := Br5.b1
  have qBr2 := Br5.lt
  go_wp2_with fail
  have bb := mem.below_new w5 (.cells #[.slice ss1 rn ss2, .slice ss3 rm ss4] 27)
  have B_s := boxed w5 (.slice ss1 rn ss2) (.slice ss3 rm ss4) 27
  have hs6 := bb.size
  have C6 := belowNext C5 bb
  have x6 := x5.next bb
  have Bx6 := Bx5.next bb
  have r6 := r5.next bb
  have Br6 := Br5.next bb
  have s6 := os'.next bb
  clear qBx0 qBx1 qBx2 qBr0 qBr1 qBr2
  clear bb C5 x5 Bx5 r5 Br5 os'
  generalize hW6 : w5.alloc (Obj.cells #[.slice ss1 rn ss2, .slice ss3 rm ss4] 27) = w6 at *
  clear hW6
  have Bs6 := B_s
  clear B_s
  have lBs := Bs6.lt
  refine (likeNet_any _ _ _ rn rN rm P 0 w6.heap.size 0 w6.heap.size r6.net s6.net (Nat.le_refl _) (Nat.le_refl _) (by omega) (by omega)).mono ?_
  rintro e w7 ⟨rfl, bb⟩
  have hs7 := bb.size
  have C7 := belowNext C6 bb
  have x7 := x6.next bb
  have Bx7 := Bx6.next bb
  have r7 := r6.next bb
  have Br7 := Br6.next bb
  have s7 := s6.next bb
  have Bs7 := Bs6.next bb
  clear bb C6 x6 Bx6 r6 Br6 s6 Bs6
  clear s7 Bs7
  by_cases hrc : rc = 0
  · subst hrc
    obtain ⟨k, rfl, hk, tn, tb⟩ := HZ.out rfl
    have TN := Lib.hid tn
    have TB := Lib.hid tb
    clear tn tb HZ
    have hkI : (k : Int) < n := by omega
    have hkk : ((k : Int) == k) = true := by simp
    have qBx0 := Bx7.b0
    have qBx1 := Bx7.b1
    have qBx2 := Bx7.lt
    have qBr0 := Br7.b0
    have qBr1 := Br7.b1
    have qBr2 := Br7.lt
    go_wp2_with fail
    refine (TN.out _ _ r7.net).mono ?_
    rintro e w8 ⟨rfl, bb⟩
    have hs8 := bb.size
    have C8 := belowNext C7 bb
    have x8 := x7.next bb
    have Bx8 := Bx7.next bb
    have r8 := r7.next bb
    have Br8 := Br7.next bb
    clear qBx0 qBx1 qBx2 qBr0 qBr1 qBr2
    clear bb C7 x7 Bx7 r7 Br7
    obtain ⟨rfl, hR⟩ := rn_at x8 (by omega)
    have HR := Lib.hid hR
    have hRl := hR.lt
    clear hR
    have qBx0 := Bx8.b0
    have qBx1 := Bx8.b1
    have qBx2 := Bx8.lt
    have qBr0 := Br8.b0
    have qBr1 := Br8.b1
    have qBr2 := Br8.lt
    have hq : w8.cell? ⟨b1, k * 3, none⟩ = some (.string (N k).s) := HR.out.cell k 0 hk (by omega)
    have hAny : ∀ X : World, Below w8.heap.size w8 X → (fun w' => w'.cell? ⟨w3.heap.size, 0, none⟩ = some (.slice sr1 rn sr2) ∧ w'.cell? ⟨w3.heap.size, 1, none⟩ = some (.slice sr3 rm sr4) ∧ w'.cell? ⟨w1.heap.size, 0, none⟩ = some (.slice (some ⟨b1, 0, none⟩) n sx2) ∧ w'.cell? ⟨b1, k * 3, none⟩ = some (.string (N k).s)) X := fun X h => ⟨(Br8.below h Br8.lt).b0, (Br8.below h Br8.lt).b1, (Bx8.below h Bx8.lt).b0, (HR.out.below h hRl).cell k 0 hk (by omega)⟩
    have K0 : Below w8.heap.size w8 w8.drew := ⟨rfl, rfl, rfl, Nat.le_refl _, fun _ _ => rfl⟩
    have KA : Below w8.heap.size w8 (w8.alloc (Obj.cells #[.slice none 0 0, .slice none 0 0] 27)).drew := (mem.below_new w8 (Obj.cells #[.slice none 0 0, .slice none 0 0] 27)).trans ⟨rfl, rfl, rfl, Nat.le_refl _, fun _ _ => rfl⟩
    have hsA : w8.heap.size + 1 ≤ (w8.alloc (Obj.cells #[.slice none 0 0, .slice none 0 0] 27)).drew.heap.size := by simp
    have OA : Ob (w8.alloc (Obj.cells #[.slice none 0 0, .slice none 0 0] 27)).drew w8.heap.size 2 (bx (.slice none 0 0) (.slice none 0 0)) := (boxed w8 (.slice none 0 0) (.slice none 0 0) 27).keep rfl
    go_upto_region 11 with (fail)
    go_region_held3 (fun w' => w'.cell? ⟨w3.heap.size, 0, none⟩ = some (.slice sr1 rn sr2) ∧ w'.cell? ⟨w3.heap.size, 1, none⟩ = some (.slice sr3 rm sr4) ∧ w'.cell? ⟨w1.heap.size, 0, none⟩ = some (.slice (some ⟨b1, 0, none⟩) n sx2) ∧ w'.cell? ⟨b1, k * 3, none⟩ = some (.string (N k).s))
      (first | exact hAny _ K0 | exact hAny _ KA | exact hAny _ KX | exact hAny _ (KX.trans ((mem.below_new _ _).mono KX.size)) | exact hAny _ (below_set (below_set KX (Nat.le_refl _) 0 _) (Nat.le_refl _) 1 _) | exact hAny _ (below_set (below_set (KX.trans ((mem.below_new _ _).mono KX.size)) KX.size 0 _) KX.size 1 _) | exact hAny _ (mem.below_new _ _))
      (first | (go_at_call 30; refine (TB.out _ _ (by first | exact (r8.below K0 (Nat.le_refl _)).net | exact (r8.below KA (Nat.le_refl _)).net)).mono ?_; rintro e wx ⟨xb, gb1, gb2, rfl, ob', lb1, lb2, bb⟩; obtain ⟨sb1, sb2, sb3, sb4, rfl⟩ := ob'.shape; have KX := (by first | exact K0.trans (bb.mono (Nat.le_refl _)) | exact KA.trans (bb.mono (by omega)) : Below w8.heap.size w8 wx); (first | (have OX := (OA.next bb : Ob wx w8.heap.size 2 _); have oc0 := OX.b0; have oc1 := OX.b1; have of0 := OX.free 0; have of1 := OX.free 1) | skip)))
    · have hsx := KX.size
      clear qBx0 qBx1 qBx2 qBr0 qBr1 qBr2
      have bb' := KX.trans ((mem.below_new wx (Obj.cells #[.slice sb1 n sb2, .slice sb3 m sb4] 27)).mono KX.size)
      have oZ := ob'.next (mem.below_new wx (Obj.cells #[.slice sb1 n sb2, .slice sb3 m sb4] 27))
      have bZ := boxed wx (.slice sb1 n sb2) (.slice sb3 m sb4) 27
      clear hq HR KX hAny bb ob' K0 KA OA 
      have hs9 := bb'.size
      have C9 := belowNext C8 bb'
      have x9 := x8.next bb'
      have Bx9 := Bx8.next bb'
      have r9 := r8.next bb'
      have Br9 := Br8.next bb'
      clear bb' C8 x8 Bx8 r8 Br8
      generalize hW9 : wx.alloc (Obj.cells #[.slice sb1 n sb2, .slice sb3 m sb4] 27) = w9 at *
      clear hW9
      have qBx0 := Bx9.b0
      have qBx1 := Bx9.b1
      have qBx2 := Bx9.lt
      have qBr0 := Br9.b0
      have qBr1 := Br9.b1
      have qBr2 := Br9.lt
      have qBb0 := bZ.b0
      have qBb1 := bZ.b1
      have qBb2 := bZ.lt
      go_wp2_with fail
      refine (likeNet_any _ _ _ n N m P 0 w9.heap.size 0 w9.heap.size oZ.net x9.net (Nat.le_refl _) (Nat.le_refl _) (by omega) (by omega)).mono ?_
      rintro e w10 ⟨rfl, bb⟩
      have hs10 := bb.size
      have C10 := belowNext C9 bb
      have x10 := x9.next bb
      have Bx10 := Bx9.next bb
      have r10 := r9.next bb
      have Br10 := Br9.next bb
      have b10 := oZ.next bb
      have Bb10 := bZ.next bb
      clear qBx0 qBx1 qBx2 qBr0 qBr1 qBr2 qBb0 qBb1 qBb2
      clear bb C9 x9 Bx9 r9 Br9 oZ bZ
      have qBx0 := Bx10.b0
      have qBx1 := Bx10.b1
      have qBx2 := Bx10.lt
      have qBr0 := Br10.b0
      have qBr1 := Br10.b1
      have qBr2 := Br10.lt
      have qBb0 := Bb10.b0
      have qBb1 := Bb10.b1
      have qBb2 := Bb10.lt
      go_wp2_with fail
      go_ret
      exact ⟨rfl, C10⟩
    · have hsx := KX.size
      have hO := ((mem.Only.refl w8.heap.size wx).setCell 0 (.slice sb1 n sb2)).setCell 1 (.slice sb3 m sb4)
      clear qBx0 qBx1 qBx2 qBr0 qBr1 qBr2
      have bb' := below_set (below_set KX (Nat.le_refl _) 0 (.slice sb1 n sb2)) (Nat.le_refl _) 1 (.slice sb3 m sb4)
      have oZ := ob'.upd (Upd.of_only hO) (.inr (by omega)) (.inr (by omega))
      have bZ := (((OX.set 0 (.slice sb1 n sb2) (by omega)).set 1 (.slice sb3 m sb4) (by omega)).congr (e := bx (.slice sb1 n sb2) (.slice sb3 m sb4)) (fun k hk => by rcases (by omega : k = 0 ∨ k = 1) with rfl | rfl <;> rfl))
      clear hq HR KX hAny bb ob' K0 KA OA OX oc0 oc1 of0 of1 hO
      have hs9 := bb'.size
      have C9 := belowNext C8 bb'
      have x9 := x8.next bb'
      have Bx9 := Bx8.next bb'
      have r9 := r8.next bb'
      have Br9 := Br8.next bb'
      clear bb' C8 x8 Bx8 r8 Br8
      generalize hW9 : ((wx.setCell ⟨w8.heap.size, 0, none⟩ (.slice sb1 n sb2)).setCell ⟨w8.heap.size, 1, none⟩ (.slice sb3 m sb4)) = w9 at *
      clear hW9
      have qBx0 := Bx9.b0
      have qBx1 := Bx9.b1
      have qBx2 := Bx9.lt
      have qBr0 := Br9.b0
      have qBr1 := Br9.b1
      have qBr2 := Br9.lt
      have qBb0 := bZ.b0
      have qBb1 := bZ.b1
      have qBb2 := bZ.lt
      go_wp2_with fail
      refine (likeNet_any _ _ _ n N m P 0 w9.heap.size 0 w9.heap.size oZ.net x9.net (Nat.le_refl _) (Nat.le_refl _) (by omega) (by omega)).mono ?_
      rintro e w10 ⟨rfl, bb⟩
      have hs10 := bb.size
      have C10 := belowNext C9 bb
      have x10 := x9.next bb
      have Bx10 := Bx9.next bb
      have r10 := r9.next bb
      have Br10 := Br9.next bb
      have b10 := oZ.next bb
      have Bb10 := bZ.next bb
      clear qBx0 qBx1 qBx2 qBr0 qBr1 qBr2 qBb0 qBb1 qBb2
      clear bb C9 x9 Bx9 r9 Br9 oZ bZ
      have qBx0 := Bx10.b0
      have qBx1 := Bx10.b1
      have qBx2 := Bx10.lt
      have qBr0 := Br10.b0
      have qBr1 := Br10.b1
      have qBr2 := Br10.lt
      have qBb0 := Bb10.b0
      have qBb1 := Bb10.b1
      have qBb2 := Bb10.lt
      go_wp2_with fail
      go_ret
      exact ⟨rfl, C10⟩
  · have hrc' : (rc != 0) = true := by simpa using hrc
    have qBx0 := Bx7.b0
    have qBx1 := Bx7.b1
    have qBx2 := Bx7.lt
    have qBr0 := Br7.b0
    have qBr1 := Br7.b1
    have qBr2 := Br7.lt
    go_wp2_with fail
    go_ret
    exact ⟨rfl, C7⟩

set_option maxRecDepth 100000 in
theorem lifted (os : Os) (started : os.Started) (H : Type) (enc : TypeId × Value → H) :
    ReturnsInHanded {} Try.checked os 6 .any (Rows.fnNamesSpec.pre6 enc Try.prog Try.f6 Rows.fnNamesRow.domain false) (Rows.fnNamesSpec.post enc Try.prog Try.f6 false true false false) := by
  refine returnsInHanded_of_change (C := Try.checked) own started (by kernel_rfl) Try.func6
    (ChangeSpec.witness6 (enc := enc) (C := Try.checked) false ⟨#[], #[.slice none 0 0], []⟩ 8 (by kernel_rfl) (by kernel_rfl) (by kernel_rfl) (by kernel_rfl)) ?_
  intro W base args ds gs before hval0 hW hcnd _
  have hval : ∀ (j : Nat) t v, Try.f6.params[j]? = some t → args[j]? = some v → Value.okWide Try.prog W .any base t v := hval0
  have hW' := hW
  obtain ⟨p, q, hA0, hV, rfl, hfz, hnd⟩ := hW
  have hA : DataW.TrodAll enc Try.prog W 0 (fun _ => true) true Try.f6.params.toList args.toList ds p := hA0
  rw [Try.params6] at hA hval
  obtain ⟨v0, vs0, d0, ds0, p0, q0, hargs, rfl, rfl, h0, r0⟩ := trodAll_cons hA
  obtain ⟨rfl, rfl, rfl⟩ := trodAll_nil r0
  obtain rfl : args = #[v0] := by cases args; simp_all
  obtain ⟨rfl, rfl⟩ := trodVars_none hV
  have hc := open_code (hval 0 22 v0 rfl rfl) h0
  refine (walk v0 W hc).mono fun e W' ⟨he, hg⟩ => ?_
  subst he
  exact ⟨_, rfl, law.law_post hW' hg laidOut (by kernel_rfl) rfl rfl (by kernel_rfl) Try.underlying4⟩

theorem over : Rows.fnNamesRow.holds Try.pinned (OpenSpec.ofChange Rows.fnNamesSpec) :=
  OpenClaim.holds_of_wide 6 Try.f6 rfl rfl rfl rfl rfl rfl rfl ⟨rfl, rfl, rfl, rfl, rfl⟩ rfl rfl rfl rfl rfl (by kernel_rfl) Try.func6 (by kernel_rfl)
    (of_decide_eq_true (by kernel_rfl)) (by unfold Func.isWrapper; first | (rw [if_pos (by decide +kernel)]; kernel_rfl) | (rw [if_neg (by decide +kernel)]; exact ⟨rfl, rfl⟩))
    (fun os started H enc _ => lifted os started H enc)

theorem proved : Rows.FnNamesSaid :=
  over
#print axioms proved
end Go.Proofs.Ytdmcggnhnkaoeaa.fnNames
