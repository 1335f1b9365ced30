/-
  FnResiduals returns true at every slice of bytes, and leaves it as it was. No condition.
-/
import Derived.Test.YtpgcieefipjjfaaGreatRows
import Derived.Test.YtpgcieefipjjfaaGreatLaw
import Derived.Test.YtpgcieefipjjfaaGreatCode
import Derived.Test.YtpgcieefipjjfaaGreatLikeI
import Derived.Test.YtpgcieefipjjfaaGreatEsM
import Derived.Test.YtpgcieefipjjfaaGreatDeM
import Derived.WalkKit
import Derived.ProofKit
import Derived.OpenShut
import Derived.Lib.Hide
import Derived.Deep.QuietTactic
import Derived.BigQuiet
import Derived.OwnWalk
import Derived.Outline
import Derived.Deep.RegionHeld3
import Derived.Deep.RegionHeldLaw
import Derived.IntWalk
namespace Go.Proofs.YtpgcieefipjjfaaGreat.fnResiduals
open Go.ChangeShapes Go.WideShapes Go.ChangeAt Go.RowKit Go.Proofs.YtpgcieefipjjfaaGreat.draw Go.Proofs.YtpgcieefipjjfaaGreat.mem
set_option linter.unusedVariables false

theorem own : ownKnob Tryz.prog.godebug = none := by kernel_rfl
theorem laidOut : laidOutB Tryz.prog = true := by kernel_rfl

theorem own_at {w : World} {p : Option Addr} {n c b : Nat} {d : Nat → Int} (h : OwnS w (.slice p n c) n 1 (fun i _ => .int .i64 (d i)) b) {k : Nat} (hk : k < n) : p = some ⟨b, 0, none⟩ ∧ b < w.heap.size ∧ w.cell? ⟨b, k, none⟩ = some (.int .i64 (d k)) := by
  obtain ⟨p', cap, hv, h1, h2, h3⟩ := h.ex
  injection hv with e1 _ e3
  subst e1
  rcases h3 with h3 | ⟨h3, h4⟩
  · omega
  · refine ⟨h3, h4.lt, ?_⟩
    have := h4.cell k 0 hk (by omega)
    simpa using this
theorem owns_sl {w : World} {v : Value} {n b : Nat} {d : Nat → Int} (h : OwnS w v n 1 (fun i _ => .int .i64 (d i)) b) : Sl w v n d 0 w.heap.size := by
  obtain ⟨p', cap, hv, h1, h2, h3⟩ := h.ex
  refine ⟨p', cap, hv, ?_⟩
  rcases h3 with h3 | ⟨h3, h4⟩
  · exact .inl h3
  · refine .inr ⟨b, 0, h3, Nat.zero_le _, h4.lt, fun k hk => ?_⟩
    have := h4.cell k 0 hk (by omega)
    simpa using this
theorem sl_at {w : World} {p : Option Addr} {n c lo hi : Nat} {d : Nat → Int} (h : Sl w (.slice p n c) n d lo hi) {k : Nat} (hk : k < n) : ∃ b o, p = some ⟨b, o, none⟩ ∧ lo ≤ b ∧ b < hi ∧ w.cell? ⟨b, o + k, none⟩ = some (.int .i64 (d k)) := by
  obtain ⟨p', cap, hv, h3⟩ := h.ex
  injection hv with e1 _ e3
  subst e1
  rcases h3 with h3 | ⟨b, o, h3, h4, h5, h6⟩
  · omega
  · exact ⟨b, o, h3, h4, h5, h6 k hk⟩
theorem sizeN_any (x : Int) (w : World) (h1 : -4000000000000000000 ≤ x) (h2 : x ≤ 4000000000000000000) : Calls Tryz.prog 13 #[.int .i64 x] w fun e w' => e = .returned (.int .i64 (x.natAbs : Int)) ∧ w = w' := by
  have h3 : -4611686018427387904 ≤ -x ∧ -x ≤ 4611686018427387904 := by omega
  have h4 : max x (-x) = (x.natAbs : Int) := by omega
  have H4 := Lib.hid h4
  clear h4
  go_enter Tryz.func13, Tryz.ntmps13
  go_wp2_with fail
  go_ret
  exact ⟨by rw [← H4.out]; rfl, rfl⟩
/-- is one of the first flows as great as can be? -/
def faB (d : Nat → Int) : Nat → Bool
  | 0 => false
  | k + 1 => faB d k || decide (30000 ≤ (d k).natAbs)
theorem faB_no {d : Nat → Int} : ∀ {n : Nat}, faB d n = false → ∀ k, k < n → (d k).natAbs < 30000
  | 0, _, k, hk => by omega
  | n + 1, h, k, hk => by
    unfold faB at h
    rw [Bool.or_eq_false_iff, decide_eq_false_iff_not] at h
    by_cases e : k = n
    · subst e; omega
    · exact faB_no h.1 k (by omega)
theorem chB_at {n : Nat} {P : Nat → Pip} {m j : Nat} (hj : j < chN n P m) : chB n P m ((chS n P m j : Nat) : Int) = true := hasB_yes (k := j) hj (chS_fd n P m j)
theorem loB_near {m : Nat} {P : Nat → Pip} {x y : Nat → Int} {t : Int} (ht : t = 1 ∨ t = -1) (hx : ∀ k, k < m → (x k).natAbs < 30000) (hy : ∀ k, k < m → -1 ≤ y k ∧ y k ≤ 1) (h : loB m P x y t = false) : egS P x m ≤ egS P (fun k => x k + t * y k) m := by
  have hf : flB (fun k => x k + t * y k) m = true := flB_iff.2 fun k hk => flQ_iff.2 (by
    have h1 := hx k hk
    have h2 := hy k hk
    have h3 : -1 ≤ t * y k ∧ t * y k ≤ 1 := by rcases ht with rfl | rfl <;> omega
    omega)
  unfold loB at h
  rw [hf, Bool.true_and, decide_eq_false_iff_not] at h
  omega
theorem rdFacts (n : Nat) (N : Nat → Nod) (m : Nat) (P : Nat → Pip) (K : Nat) (d : Nat → Int) (hN : ∀ i, i < n → (N i).s.size ≤ 9223372036854775807) (hm : m ≤ 1000) (hK : K ≤ 2000000) :
    ∃ (bb : Bool) (xn : Nat) (xd : Nat → Int) (xc : Int) (cn : Nat) (cd : Nat → Int) (cc : Int), xn ≤ 1000 ∧ cn ≤ 1000 ∧ (∀ w v va, NetAt w v n N m P 0 w.heap.size → Sl w va K d 0 w.heap.size → Calls Tryz.prog 6 #[v, va] w (BPost w bb)) ∧ (∀ w v va, NetAt w v n N m P 0 w.heap.size → Sl w va K d 0 w.heap.size → Calls Tryz.prog 7 #[v, va] w (BPost w bb)) ∧ (∀ w v va, NetAt w v n N m P 0 w.heap.size → Sl w va K d 0 w.heap.size → Calls Tryz.prog 8 #[v, va] w (LIPost w xn xd xc)) ∧ (∀ w v va, NetAt w v n N m P 0 w.heap.size → Sl w va K d 0 w.heap.size → Calls Tryz.prog 9 #[v, va] w (LIPost w xn xd xc)) ∧
      (∀ w v, NetAt w v n N m P 0 w.heap.size → Calls Tryz.prog 11 #[v] w (LIPost w cn cd cc)) ∧ (∀ w v, NetAt w v n N m P 0 w.heap.size → Calls Tryz.prog 12 #[v] w (LIPost w cn cd cc)) ∧
      (xc = 0 → cc = 0 ∧ cn = xn ∧ K ≤ 40 ∧ (∀ k, k < K → -30000 ≤ d k ∧ d k ≤ 30000) ∧ ∃ bd : Nat → Int, ∀ j, j < xn → (∀ w v va, NetAt w v n N m P 0 w.heap.size → Sl w va K d 0 w.heap.size → Calls Tryz.prog 14 #[v, va, .int .i64 (cd j)] w (IIPost w (xd j) 0)) ∧ (∀ w v va, NetAt w v n N m P 0 w.heap.size → Sl w va K d 0 w.heap.size → Calls Tryz.prog 15 #[v, va, .int .i64 (cd j)] w (IIPost w (bd j) 0)) ∧ (∀ w v va, NetAt w v n N m P 0 w.heap.size → Sl w va K d 0 w.heap.size → Calls Tryz.prog 16 #[v, va, .int .i64 (cd j)] w (IIPost w (bd j) 0)) ∧ (-36000000000000 ≤ xd j ∧ xd j ≤ 36000000000000) ∧ (bb = true → faB d K = false → 3 * ((xd j).natAbs : Int) ≤ bd j)) := by
  refine ⟨ixB n N m P K d, cfN n N m P K d, rsD n P m d, flC n N m P K d, coN n N m P, fd (chP n P m) m, cmC (netB n N m P), ?_, ?_, fun w v va h hv => isRelaxedI_any w v n N m P 0 _ h (Nat.le_refl _) hN va K d 0 _ hv (Nat.le_refl _) (by omega), fun w v va h hv => isRelaxedS_any w v n N m P 0 _ h (Nat.le_refl _) hN va K d 0 _ hv (Nat.le_refl _) (by omega), fun w v va h hv => residualsOfI_any w v n N m P 0 _ h (Nat.le_refl _) hN va K d 0 _ hv (Nat.le_refl _) (by omega), fun w v va h hv => residualsOfS_any w v n N m P 0 _ h (Nat.le_refl _) hN va K d 0 _ hv (Nat.le_refl _) (by omega), fun w v h => chordsOfI_any w v n N m P 0 _ h (Nat.le_refl _) hN, fun w v h => chordsOfS_any w v n N m P 0 _ h (Nat.le_refl _) hN, fun hc => ?_⟩
  · have := chN_le n P m
    unfold cfN
    split <;> omega
  · have := chN_le n P m
    unfold coN
    split <;> omega
  obtain ⟨hB, rfl, hf⟩ := flC_ok hc
  have hm40 := (net_sz hB).2.2
  have hfr : ∀ k, k < K → -30000 ≤ d k ∧ d k ≤ 30000 := fun k hk => flQ_iff.1 (flB_iff.1 hf k hk)
  have hc1 : cmC (netB n N K P) = 0 := by rw [hB]; rfl
  have hcn : coN n N K P = chN n P K := by unfold coN; rw [if_pos hc1]
  have hxn : cfN n N K P K d = chN n P K := by unfold cfN; rw [if_pos hc]
  refine ⟨hc1, by rw [hcn, hxn], hm40, hfr, fun j => bdS P d (cyc P (fE n P K) (fD n P K) (chS n P K j)) K, fun j hj => ?_⟩
  rw [hxn] at hj
  obtain ⟨hjm, hjp⟩ := chS_at (n := n) (P := P) (m := K) hj
  have hck : ckC n N K P K d (fd (chP n P K) K j) = 0 := by
    rw [chS_fd]
    unfold ckC
    rw [if_pos hc, if_pos (chB_at hj)]
  have hcy : cyD n P K (fd (chP n P K) K j) = cyc P (fE n P K) (fD n P K) (chS n P K j) := by
    rw [chS_fd]
    unfold cyD
    rw [Int.toNat_natCast]
  have v1 : rsV n N K P K d (fd (chP n P K) K j) = rsD n P K d j := by unfold rsV rsD; rw [if_pos hck, hcy]
  have v2 : bdV n N K P K d (fd (chP n P K) K j) = bdS P d (cyc P (fE n P K) (fD n P K) (chS n P K j)) K := by unfold bdV; rw [if_pos hck, hcy]
  have c1 := fun w v va (h : NetAt w v n N K P 0 w.heap.size) hv => residualOfI_any w v n N K P 0 _ h (Nat.le_refl _) hN va K d 0 _ hv (Nat.le_refl _) (by omega) (fd (chP n P K) K j)
  have c2 := fun w v va (h : NetAt w v n N K P 0 w.heap.size) hv => residualBoundI_any w v n N K P 0 _ h (Nat.le_refl _) hN va K d 0 _ hv (Nat.le_refl _) (by omega) (fd (chP n P K) K j)
  have c3 := fun w v va (h : NetAt w v n N K P 0 w.heap.size) hv => residualBoundS_any w v n N K P 0 _ h (Nat.le_refl _) hN va K d 0 _ hv (Nat.le_refl _) (by omega) (fd (chP n P K) K j)
  rw [v1, hck] at c1
  rw [v2, hck] at c2 c3
  have hr := rsS_bnd (P := P) (x := d) (y := cyc P (fE n P K) (fD n P K) (chS n P K j)) (k := K) (fun a ha => drp_bnd (net_pip hB ha) (hfr a ha).1 (hfr a ha).2) (fun a _ => cyc_one hB hjm hjp a)
  refine ⟨c1, c2, c3, by unfold rsD; omega, fun hb hfa => ?_⟩
  have hrx : rxB n K P d (chN n P K) = true := by
    unfold ixB at hb
    rw [Bool.and_eq_true] at hb
    exact hb.2
  obtain ⟨l1, l2⟩ := rxB_yes hrx j hj
  have hnear := faB_no hfa
  exact res_bound (fun a ha => by have := pip_k (net_pip hB ha); omega) (fun a _ => cyc_one hB hjm hjp a) (loB_near (.inl rfl) hnear (fun a _ => cyc_one hB hjm hjp a) l1) (loB_near (.inr rfl) hnear (fun a _ => cyc_one hB hjm hjp a) l2)
set_option maxRecDepth 100000 in
set_option maxHeartbeats 20000000 in
theorem walk (v : Value) (w : World) (hc : CodeArg w v) :
    Calls Tryz.prog 3 #[v] w fun e w' => e = .returned (.bool true) ∧ Below w.heap.size w w' := by
  obtain ⟨p, len, cap, rfl, hlen, hcode⟩ := hc
  by_cases h4 : (4096 : Int) < len
  · clear hcode
    go_enter Tryz.func3, Tryz.ntmps3
    go_wp2_with (go_at_call 4; refine (draw.big_any _ _ _ _).mono ?_; rintro e w' ⟨rfl, rfl⟩)
    go_ret
    exact ⟨rfl, Below.refl _ _⟩
  have hc := hcode (by omega)
  clear hcode
  go_enter Tryz.func3, Tryz.ntmps3
  go_wp2_with (go_at_call 4; refine (draw.big_any _ _ _ _).mono ?_; rintro e w' ⟨rfl, rfl⟩)
  refine (draw.drawIsRelaxed w _ len hc).mono ?_
  rintro e w1 ⟨v, n, m, N, P, b1, b2, vl, K, D, rfl, hn, hm, hK, hnm, o1, l1, l2, hK1, C1⟩
  obtain ⟨rb, xn, xd, xc, cn, cd, cc, hxn, hcn, ti, ts, q1, q2, q3, q4, hz⟩ := rdFacts n N m P K D hnm hm (by omega)
  have TI := Lib.hid ti
  have TS := Lib.hid ts
  have Q1 := Lib.hid q1
  have Q2 := Lib.hid q2
  have Q3 := Lib.hid q3
  have Q4 := Lib.hid q4
  have HZ := Lib.hid hz
  clear ti ts q1 q2 q3 q4 hz
  clear hc
  obtain ⟨pk, ck, rfl⟩ := draw.sl_sh hK1
  have hb2 : (rb != rb) = false := by simp
  have hb3 : (xc != xc) = false := by simp
  have hb4 : (cc != cc) = false := by simp
  have lxx := o1.lts
  obtain ⟨sx1, sx2, sx3, sx4, rfl⟩ := o1.shape
  go_wp2_with fail
  have bb := mem.below_new w1 (.cells #[.slice sx1 n sx2, .slice sx3 m sx4] 27)
  have B_x := boxed w1 (.slice sx1 n sx2) (.slice sx3 m sx4) 27
  have hs2 := bb.size
  have C2 := belowNext C1 bb
  have LK2 := hK1.next bb
  have x2 := o1.next bb
  clear bb C1 hK1 o1
  generalize hW2 : w1.alloc (Obj.cells #[.slice sx1 n sx2, .slice sx3 m sx4] 27) = w2 at *
  clear hW2
  have Bx2 := B_x
  clear B_x
  have lBx := Bx2.lt
  refine (TI.out _ _ _ x2.net LK2.zero).mono ?_
  rintro e w3 ⟨rfl, bb⟩
  have hs3 := bb.size
  have C3 := belowNext C2 bb
  have LK3 := LK2.next bb
  have x3 := x2.next bb
  have Bx3 := Bx2.next bb
  clear bb C2 LK2 x2 Bx2
  have qBx0 := Bx3.b0
  have qBx1 := Bx3.b1
  have qBx2 := Bx3.lt
  go_wp2_with fail
  refine (TS.out _ _ _ x3.net LK3.zero).mono ?_
  rintro e w4 ⟨rfl, bb⟩
  have hs4 := bb.size
  have C4 := belowNext C3 bb
  have LK4 := LK3.next bb
  have x4 := x3.next bb
  have Bx4 := Bx3.next bb
  clear qBx0 qBx1 qBx2
  clear bb C3 LK3 x3 Bx3
  have qBx0 := Bx4.b0
  have qBx1 := Bx4.b1
  have qBx2 := Bx4.lt
  go_wp2_with fail
  refine (Q1.out _ _ _ x4.net LK4.zero).mono ?_
  rintro e w5 ⟨xA, gA, rfl, oA, lA, bb⟩
  have hs5 := bb.size
  have C5 := belowNext C4 bb
  have LK5 := LK4.next bb
  have x5 := x4.next bb
  have Bx5 := Bx4.next bb
  clear qBx0 qBx1 qBx2
  clear bb C4 LK4 x4 Bx4
  have lxA := oA.lt
  obtain ⟨sA1, sA2, rfl⟩ := oA.shape
  have qBx0 := Bx5.b0
  have qBx1 := Bx5.b1
  have qBx2 := Bx5.lt
  go_wp2_with fail
  refine (Q2.out _ _ _ x5.net LK5.zero).mono ?_
  rintro e w6 ⟨xB, gB, rfl, oB, lB, bb⟩
  have hs6 := bb.size
  have C6 := belowNext C5 bb
  have LK6 := LK5.next bb
  have x6 := x5.next bb
  have Bx6 := Bx5.next bb
  have A6 := oA.next bb
  clear qBx0 qBx1 qBx2
  clear bb C5 LK5 x5 Bx5 oA
  have lxB := oB.lt
  obtain ⟨sB1, sB2, rfl⟩ := oB.shape
  have qBx0 := Bx6.b0
  have qBx1 := Bx6.b1
  have qBx2 := Bx6.lt
  go_wp2_with fail
  refine (likeInts_any _ _ _ xn xd 0 w6.heap.size 0 w6.heap.size (A6.cs (.inr rfl) (Nat.le_refl _)) (oB.cs (.inr rfl) (Nat.le_refl _))).mono ?_
  rintro e w7 ⟨rfl, bb⟩
  have hs7 := bb.size
  have C7 := belowNext C6 bb
  have LK7 := LK6.next bb
  have x7 := x6.next bb
  have Bx7 := Bx6.next bb
  have A7 := A6.next bb
  have B7 := oB.next bb
  clear qBx0 qBx1 qBx2
  clear bb C6 LK6 x6 Bx6 A6 oB
  clear B7
  by_cases hxc : xc = 0
  · subst hxc
    obtain ⟨hcc, hcx, hK40, hbd, bd, hbj⟩ := HZ.out (by trivial)
    subst hcc hcx
    have HBD := Lib.hid hbd
    have HBJ := Lib.hid hbj
    clear hbd hbj
    clear HZ
    have hb5 : ((cn : Int) != cn) = false := by simp
    have qBx0 := Bx7.b0
    have qBx1 := Bx7.b1
    have qBx2 := Bx7.lt
    go_wp2_with fail
    refine (Q3.out _ _  x7.net).mono ?_
    rintro e w8 ⟨xD, gD, rfl, oD, lD, bb⟩
    have hs8 := bb.size
    have C8 := belowNext C7 bb
    have LK8 := LK7.next bb
    have x8 := x7.next bb
    have Bx8 := Bx7.next bb
    have A8 := A7.next bb
    clear qBx0 qBx1 qBx2
    clear bb C7 LK7 x7 Bx7 A7
    have lxD := oD.lt
    obtain ⟨sD1, sD2, rfl⟩ := oD.shape
    have qBx0 := Bx8.b0
    have qBx1 := Bx8.b1
    have qBx2 := Bx8.lt
    go_wp2_with fail
    refine (Q4.out _ _  x8.net).mono ?_
    rintro e w9 ⟨xE, gE, rfl, oE, lE, bb⟩
    have hs9 := bb.size
    have C9 := belowNext C8 bb
    have LK9 := LK8.next bb
    have x9 := x8.next bb
    have Bx9 := Bx8.next bb
    have A9 := A8.next bb
    have D9 := oD.next bb
    clear qBx0 qBx1 qBx2
    clear bb C8 LK8 x8 Bx8 A8 oD
    have lxE := oE.lt
    obtain ⟨sE1, sE2, rfl⟩ := oE.shape
    have qBx0 := Bx9.b0
    have qBx1 := Bx9.b1
    have qBx2 := Bx9.lt
    go_wp2_with fail
    refine (likeInts_any _ _ _ cn cd 0 w9.heap.size 0 w9.heap.size (D9.cs (.inr rfl) (Nat.le_refl _)) (oE.cs (.inr rfl) (Nat.le_refl _))).mono ?_
    rintro e w10 ⟨rfl, bb⟩
    have hs10 := bb.size
    have C10 := belowNext C9 bb
    have LK10 := LK9.next bb
    have x10 := x9.next bb
    have Bx10 := Bx9.next bb
    have A10 := A9.next bb
    have D10 := D9.next bb
    have E10 := oE.next bb
    clear qBx0 qBx1 qBx2
    clear bb C9 LK9 x9 Bx9 A9 D9 oE
    clear E10
    have qBx0 := Bx10.b0
    have qBx1 := Bx10.b1
    have qBx2 := Bx10.lt
    go_wp2_with fail
    clear qBx0 qBx1 qBx2
    go_loopw [14, 15] (fun fv iv wr => ∃ k : Nat, fv = .bool (faB D k) ∧ iv = .int .i64 k ∧ k ≤ K ∧ w10 = wr) (fun _ iv _ => K - (intOf iv).toNat)
    case atStart => exact ⟨0, rfl, rfl, Nat.zero_le _, rfl⟩
    case round =>
      obtain ⟨k, rfl, rfl, hk, rfl⟩ := hrel
      have k0 : (0 : Int) ≤ (k : Int) := Int.natCast_nonneg _
      by_cases hlt : k < K
      · have hkI : (k : Int) < K := by omega
        obtain ⟨ba, oa, rfl, hg1, hgA, hqA⟩ := sl_at LK10 hlt
        have hbk := HBD.out k hlt
        have HS := Lib.hid (show faB D (k + 1) = (faB D k || decide (30000 ≤ (D k).natAbs)) from rfl)
        cases hfa : faB D k
        · skip
          have HS2 := Lib.hid (show faB D (k + 1) = decide (30000 ≤ (D k).natAbs) by rw [HS.out, hfa]; rfl)
          have HS3 := Lib.hid (show decide ((30000 : Int) ≤ ((D k).natAbs : Int)) = decide (30000 ≤ (D k).natAbs) from decide_eq_decide.2 (by omega))
          go_wp2_with (go_at_call 13; refine (sizeN_any _ _ (by omega) (by omega)).mono ?_; rintro e w' ⟨rfl, rfl⟩)
          go_roundw
          case rel => exact ⟨k + 1, by rw [HS2.out]; first | rfl | rw [HS3.out], by go_num, hlt, (by trivial)⟩
          case measure => simp [intOf]; omega
        · skip
          have HS2 := Lib.hid (show faB D (k + 1) = true by rw [HS.out, hfa]; rfl)
          go_wp2_with fail
          go_roundw
          case rel => exact ⟨k + 1, by rw [HS2.out], by go_num, hlt, (by trivial)⟩
          case measure => simp [intOf]; omega
      · obtain rfl : K = k := by omega
        generalize hfa : faB D K = fa at *
        have HFA := Lib.hid hfa
        clear hfa
        have qBx0 := Bx10.b0
        have qBx1 := Bx10.b1
        have qBx2 := Bx10.lt
        go_wp2_with fail
        clear qBx0 qBx1 qBx2
        go_loopw [16] (fun iv wr => ∃ j : Nat, iv = .int .i64 j ∧ j ≤ cn ∧ Below w10.heap.size w10 wr) (fun iv _ => cn - (intOf iv).toNat)
        case atStart => exact ⟨0, rfl, Nat.zero_le _, Below.refl _ _⟩
        case round =>
          obtain ⟨j, rfl, hj, bb⟩ := hrel
          have HBK := Lib.hid bb
          obtain ⟨w11, hwb⟩ : ∃ w', w' = wr := ⟨_, rfl⟩
          subst hwb
          have hszK := bb.size
          have hs11 := bb.size
          have C11 := belowNext C10 bb
          have LK11 := LK10.next bb
          have x11 := x10.next bb
          have Bx11 := Bx10.next bb
          have A11 := A10.next bb
          have D11 := D10.next bb
          clear bb C10 LK10 x10 Bx10 A10 D10
          have j0 : (0 : Int) ≤ (j : Int) := Int.natCast_nonneg _
          by_cases hlt : j < cn
          · have hjI : (j : Int) < cn := by omega
            obtain ⟨d1, d2, d3, ⟨d4, d5⟩, d6⟩ := HBJ.out j hlt
            have D1 := Lib.hid d1
            have D2 := Lib.hid d2
            have D3 := Lib.hid d3
            have D6 := Lib.hid d6
            clear d1 d2 d3 d6
            obtain ⟨xj, hxj⟩ : ∃ xj, xd j = xj := ⟨_, rfl⟩
            obtain ⟨bj, hbj⟩ : ∃ bj, bd j = bj := ⟨_, rfl⟩
            obtain ⟨cj, hcj⟩ : ∃ cj, cd j = cj := ⟨_, rfl⟩
            rw [hxj] at D1 D6 d4 d5
            rw [hbj] at D2 D3 D6
            rw [hcj] at D1 D2 D3
            have HXJ := Lib.hid hxj
            have HCJ := Lib.hid hcj
            clear hxj hcj
            clear hbj
            obtain ⟨rfl, hgD, hqD⟩ := own_at D11 hlt
            rw [HCJ.out] at hqD
            have qBx0 := Bx11.b0
            have qBx1 := Bx11.b1
            have qBx2 := Bx11.lt
            go_wp2_with fail
            have hAny : ∀ X : World, Below w11.heap.size w11 X → (fun w' => w'.cell? ⟨w1.heap.size, 0, none⟩ = some (.slice sx1 n sx2) ∧ w'.cell? ⟨w1.heap.size, 1, none⟩ = some (.slice sx3 m sx4) ∧ w'.cell? ⟨gD, j, none⟩ = some (.int .i64 cj)) X := fun X h => ⟨(Bx11.below h Bx11.lt).b0, (Bx11.below h Bx11.lt).b1, (h.cell (p := ⟨gD, j, none⟩) hgD).trans hqD⟩
            have K0 : Below w11.heap.size w11 w11.drew := ⟨rfl, rfl, rfl, Nat.le_refl _, fun _ _ => rfl⟩
            go_region_held3 (fun w' => w'.cell? ⟨w1.heap.size, 0, none⟩ = some (.slice sx1 n sx2) ∧ w'.cell? ⟨w1.heap.size, 1, none⟩ = some (.slice sx3 m sx4) ∧ w'.cell? ⟨gD, j, none⟩ = some (.int .i64 cj)) (first | exact hAny _ K0 | exact hAny _ K1)
              (first | (go_at_call 14; refine (D1.out _ _ _ (x11.below K0 (Nat.le_refl _)).net (LK11.next K0).zero).mono ?_; rintro e wx1 ⟨rfl, ba⟩; have K1 : Below w11.heap.size w11 wx1 := K0.trans (ba.mono K0.size); clear ba))
            obtain ⟨w12, hwb⟩ : ∃ w', w' = wx1 := ⟨_, rfl⟩
            subst hwb
            have bb := K1
            have AC12 := Lib.hid ((Below.refl w11.heap.size w11).trans (K1.mono ((Below.refl w11.heap.size w11)).size))
            clear hAny K0 K1 hgD hqD
            have hs12 := bb.size
            have C12 := belowNext C11 bb
            have LK12 := LK11.next bb
            have x12 := x11.next bb
            have Bx12 := Bx11.next bb
            have A12 := A11.next bb
            have D12 := D11.next bb
            clear qBx0 qBx1 qBx2
            clear bb C11 LK11 x11 Bx11 A11 D11
            obtain ⟨_, hgD, hqD⟩ := own_at D12 hlt
            rw [HCJ.out] at hqD
            have qBx0 := Bx12.b0
            have qBx1 := Bx12.b1
            have qBx2 := Bx12.lt
            go_wp2_with fail
            have hAny : ∀ X : World, Below w12.heap.size w12 X → (fun w' => w'.cell? ⟨w1.heap.size, 0, none⟩ = some (.slice sx1 n sx2) ∧ w'.cell? ⟨w1.heap.size, 1, none⟩ = some (.slice sx3 m sx4) ∧ w'.cell? ⟨gD, j, none⟩ = some (.int .i64 cj)) X := fun X h => ⟨(Bx12.below h Bx12.lt).b0, (Bx12.below h Bx12.lt).b1, (h.cell (p := ⟨gD, j, none⟩) hgD).trans hqD⟩
            have K0 : Below w12.heap.size w12 w12.drew := ⟨rfl, rfl, rfl, Nat.le_refl _, fun _ _ => rfl⟩
            go_region_held3 (fun w' => w'.cell? ⟨w1.heap.size, 0, none⟩ = some (.slice sx1 n sx2) ∧ w'.cell? ⟨w1.heap.size, 1, none⟩ = some (.slice sx3 m sx4) ∧ w'.cell? ⟨gD, j, none⟩ = some (.int .i64 cj)) (first | exact hAny _ K0 | exact hAny _ K1)
              (first | (go_at_call 15; refine (D2.out _ _ _ (x12.below K0 (Nat.le_refl _)).net (LK12.next K0).zero).mono ?_; rintro e wx1 ⟨rfl, ba⟩; have K1 : Below w12.heap.size w12 wx1 := K0.trans (ba.mono K0.size); clear ba))
            obtain ⟨w13, hwb⟩ : ∃ w', w' = wx1 := ⟨_, rfl⟩
            subst hwb
            have bb := K1
            have AC13 := Lib.hid (AC12.out.trans (K1.mono AC12.out.size))
            clear hAny K0 K1 hgD hqD
            have hs13 := bb.size
            have C13 := belowNext C12 bb
            have LK13 := LK12.next bb
            have x13 := x12.next bb
            have Bx13 := Bx12.next bb
            have A13 := A12.next bb
            have D13 := D12.next bb
            clear qBx0 qBx1 qBx2
            clear bb C12 LK12 x12 Bx12 A12 D12
            obtain ⟨_, hgD, hqD⟩ := own_at D13 hlt
            rw [HCJ.out] at hqD
            have qBx0 := Bx13.b0
            have qBx1 := Bx13.b1
            have qBx2 := Bx13.lt
            go_wp2_with fail
            have hAny : ∀ X : World, Below w13.heap.size w13 X → (fun w' => w'.cell? ⟨w1.heap.size, 0, none⟩ = some (.slice sx1 n sx2) ∧ w'.cell? ⟨w1.heap.size, 1, none⟩ = some (.slice sx3 m sx4) ∧ w'.cell? ⟨gD, j, none⟩ = some (.int .i64 cj)) X := fun X h => ⟨(Bx13.below h Bx13.lt).b0, (Bx13.below h Bx13.lt).b1, (h.cell (p := ⟨gD, j, none⟩) hgD).trans hqD⟩
            have K0 : Below w13.heap.size w13 w13.drew := ⟨rfl, rfl, rfl, Nat.le_refl _, fun _ _ => rfl⟩
            go_region_held3 (fun w' => w'.cell? ⟨w1.heap.size, 0, none⟩ = some (.slice sx1 n sx2) ∧ w'.cell? ⟨w1.heap.size, 1, none⟩ = some (.slice sx3 m sx4) ∧ w'.cell? ⟨gD, j, none⟩ = some (.int .i64 cj)) (first | exact hAny _ K0 | exact hAny _ K1)
              (first | (go_at_call 16; refine (D3.out _ _ _ (x13.below K0 (Nat.le_refl _)).net (LK13.next K0).zero).mono ?_; rintro e wx1 ⟨rfl, ba⟩; have K1 : Below w13.heap.size w13 wx1 := K0.trans (ba.mono K0.size); clear ba))
            obtain ⟨w14, hwb⟩ : ∃ w', w' = wx1 := ⟨_, rfl⟩
            subst hwb
            have bb := K1
            have AC14 := Lib.hid (AC13.out.trans (K1.mono AC13.out.size))
            clear hAny K0 K1 hgD hqD
            have hs14 := bb.size
            have C14 := belowNext C13 bb
            have LK14 := LK13.next bb
            have x14 := x13.next bb
            have Bx14 := Bx13.next bb
            have A14 := A13.next bb
            have D14 := D13.next bb
            clear qBx0 qBx1 qBx2
            clear bb C13 LK13 x13 Bx13 A13 D13
            obtain ⟨rfl, hgA2, hqA2⟩ := own_at A14 hlt
            rw [HXJ.out] at hqA2
            have e1 : (xj != xj) = false := by simp
            have e2 : (bj != bj) = false := by simp
            have HLJ := Lib.hid (HBK.out.trans (AC14.out.mono hszK))
            cases rb
            · go_wp2_with fail
              go_roundw
              case rel => exact ⟨j + 1, by go_num, hlt, HLJ.out⟩
              case measure => simp [intOf]; omega
            · cases fa
              · have d7 := D6.out (by trivial) (by trivial)
                have e3 : decide (bj < 3 * (xj.natAbs : Int)) = false := decide_eq_false (by omega)
                go_wp2_with (go_at_call 13; refine (sizeN_any _ _ (by omega) (by omega)).mono ?_; rintro e w' ⟨rfl, rfl⟩)
                go_roundw
                case rel => exact ⟨j + 1, by go_num, hlt, HLJ.out⟩
                case measure => simp [intOf]; omega
              · go_wp2_with fail
                go_roundw
                case rel => exact ⟨j + 1, by go_num, hlt, HLJ.out⟩
                case measure => simp [intOf]; omega
          · obtain rfl : cn = j := by omega
            have qBx0 := Bx11.b0
            have qBx1 := Bx11.b1
            have qBx2 := Bx11.lt
            go_wp2_with fail
            go_ret
            exact ⟨rfl, C11⟩
  · have hxc' : (xc != 0) = true := by simpa using hxc
    have qBx0 := Bx7.b0
    have qBx1 := Bx7.b1
    have qBx2 := Bx7.lt
    go_wp2_with fail
    go_ret
    exact ⟨rfl, C7⟩

set_option maxRecDepth 100000 in
theorem lifted (os : Os) (started : os.Started) (H : Type) (enc : TypeId × Value → H) :
    ReturnsInHanded {} Tryz.checked os 3 .any (Rows.fnResidualsSpec.pre6 enc Tryz.prog Tryz.f3 Rows.fnResidualsRow.domain false) (Rows.fnResidualsSpec.post enc Tryz.prog Tryz.f3 false true false false) := by
  refine returnsInHanded_of_change (C := Tryz.checked) own started (by kernel_rfl) Tryz.func3
    (ChangeSpec.witness6 (enc := enc) (C := Tryz.checked) false ⟨#[], #[.slice none 0 0], []⟩ 8 (by kernel_rfl) (by kernel_rfl) (by kernel_rfl) (by kernel_rfl)) ?_
  intro W base args ds gs before hval0 hW hcnd _
  have hval : ∀ (j : Nat) t v, Tryz.f3.params[j]? = some t → args[j]? = some v → Value.okWide Tryz.prog W .any base t v := hval0
  have hW' := hW
  obtain ⟨p, q, hA0, hV, rfl, hfz, hnd⟩ := hW
  have hA : DataW.TrodAll enc Tryz.prog W 0 (fun _ => true) true Tryz.f3.params.toList args.toList ds p := hA0
  rw [Tryz.params3] at hA hval
  obtain ⟨v0, vs0, d0, ds0, p0, q0, hargs, rfl, rfl, h0, r0⟩ := trodAll_cons hA
  obtain ⟨rfl, rfl, rfl⟩ := trodAll_nil r0
  obtain rfl : args = #[v0] := by cases args; simp_all
  obtain ⟨rfl, rfl⟩ := trodVars_none hV
  have hc := open_code (hval 0 22 v0 rfl rfl) h0
  refine (walk v0 W hc).mono fun e W' ⟨he, hg⟩ => ?_
  subst he
  exact ⟨_, rfl, law.law_post hW' hg laidOut (by kernel_rfl) rfl rfl (by kernel_rfl) Tryz.underlying4⟩

theorem over : Rows.fnResidualsRow.holds Tryz.pinned (OpenSpec.ofChange Rows.fnResidualsSpec) :=
  OpenClaim.holds_of_wide 3 Tryz.f3 rfl rfl rfl rfl rfl rfl rfl ⟨rfl, rfl, rfl, rfl, rfl⟩ rfl rfl rfl rfl rfl (by kernel_rfl) Tryz.func3 (by kernel_rfl)
    (of_decide_eq_true (by kernel_rfl)) (by unfold Func.isWrapper; first | (rw [if_pos (by decide +kernel)]; kernel_rfl) | (rw [if_neg (by decide +kernel)]; exact ⟨rfl, rfl⟩))
    (fun os started H enc _ => lifted os started H enc)

theorem proved : Rows.FnResidualsSaid :=
  over
#print axioms proved
end Go.Proofs.YtpgcieefipjjfaaGreat.fnResiduals
