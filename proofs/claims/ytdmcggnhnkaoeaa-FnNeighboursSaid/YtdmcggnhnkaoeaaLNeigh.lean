/-
  FnNeighbours returns true at every slice of bytes, and leaves it as it was. No condition.
-/
import Derived.Test.YtdmcggnhnkaoeaaRows
import Derived.Test.YtdmcggnhnkaoeaaLaw
import Derived.Test.YtdmcggnhnkaoeaaCode
import Derived.Test.YtdmcggnhnkaoeaaLikeI
import Derived.Test.YtdmcggnhnkaoeaaNetNC
import Derived.Test.YtdmcggnhnkaoeaaNetPB
import Derived.Test.YtdmcggnhnkaoeaaPA
import Derived.Test.YtdmcggnhnkaoeaaDrV
import Derived.WalkKit
import Derived.ProofKit
import Derived.OpenShut
import Derived.Lib.Hide
import Derived.Deep.QuietTactic
import Derived.BigQuiet
import Derived.OwnWalk
import Derived.Outline
import Derived.Deep.RegionHeld3
import Derived.Deep.RegionHeldLaw
import Derived.IntWalk
namespace Go.Proofs.Ytdmcggnhnkaoeaa.fnNeighbours
open Go.ChangeShapes Go.WideShapes Go.ChangeAt Go.RowKit Go.Proofs.Ytdmcggnhnkaoeaa.draw Go.Proofs.Ytdmcggnhnkaoeaa.mem
set_option linter.unusedVariables false

theorem own : ownKnob Try.prog.godebug = none := by kernel_rfl
theorem laidOut : laidOutB Try.prog = true := by kernel_rfl

theorem oth_back {q : Pip} {y : Int} (h : endB q y = true) (hne : q.f ≠ q.t) : endB q (othV q y) = true ∧ othV q (othV q y) = y := by
  unfold endB at h ⊢
  unfold othV
  simp only [Bool.or_eq_true, beq_iff_eq] at h ⊢
  by_cases e : q.f = y
  · subst e
    rw [if_pos rfl]
    exact ⟨.inr rfl, if_neg hne⟩
  · have e2 : q.t = y := by rcases h with h | h; exact absurd h e; exact h
    rw [if_neg e, if_pos rfl]
    exact ⟨.inl rfl, e2⟩
theorem fl_at {p : Nat → Bool} {m i : Nat} (hi : i < (fl p m).length) : ∃ a : Nat, fd p m i = a ∧ a < m ∧ p a = true :=
  ⟨_, rfl, fl_get hi⟩
theorem fl_has {p : Nat → Bool} {m k : Nat} (hk : k < m) (hp : p k = true) : ∃ i, i < (fl p m).length ∧ fd p m i = k := by
  have : k ∈ fl p m := by unfold fl; rw [List.mem_filter]; exact ⟨by simpa using hk, hp⟩
  obtain ⟨i, hi, e⟩ := List.mem_iff_getElem.1 this
  refine ⟨i, hi, ?_⟩
  unfold fd
  rw [List.getElem?_eq_getElem hi, e]
  rfl
theorem own_at {w : World} {p : Option Addr} {n c b : Nat} {d : Nat → Int} (h : OwnS w (.slice p n c) n 1 (fun i _ => .int .i64 (d i)) b) {k : Nat} (hk : k < n) : p = some ⟨b, 0, none⟩ ∧ b < w.heap.size ∧ w.cell? ⟨b, k, none⟩ = some (.int .i64 (d k)) := by
  obtain ⟨p', cap, hv, h1, h2, h3⟩ := h.ex
  injection hv with e1 _ e3
  subst e1
  rcases h3 with h3 | ⟨h3, h4⟩
  · omega
  · refine ⟨h3, h4.lt, ?_⟩
    have := h4.cell k 0 hk (by omega)
    simpa using this
theorem neighFacts (n : Nat) (N : Nat → Nod) (m : Nat) (P : Nat → Pip) (x : Int) (hN : ∀ i, i < n → (N i).s.size ≤ 9223372036854775807) (hn : n ≤ 1000) (hm : m ≤ 1000) :
    ∃ (nb : Nat) (nd : Nat → Int) (rc : Int), nb ≤ 1000 ∧
      (∀ w v, NetAt w v n N m P 0 w.heap.size → Calls Try.prog 21 #[v, .int .i64 x] w (LIPost w nb nd rc)) ∧ (∀ w v, NetAt w v n N m P 0 w.heap.size → Calls Try.prog 26 #[v, .int .i64 x] w (LIPost w nb nd rc)) ∧
      (rc = 0 → ∃ (cb cp : Nat → Nat) (db dp : Nat → Nat → Int) (ca : Nat) (da : Nat → Int), ca ≤ 1000 ∧ upto cp nb = ca ∧ (∀ i, i < nb → ∃ j, j < cb i ∧ db i j = x) ∧
        (∀ i, i < nb → ∀ w v, NetAt w v n N m P 0 w.heap.size → Calls Try.prog 21 #[v, .int .i64 (nd i)] w (LIPost w (cb i) (db i) 0)) ∧
        (∀ i, i < nb → ∀ w v, NetAt w v n N m P 0 w.heap.size → Calls Try.prog 22 #[v, .int .i64 x, .int .i64 (nd i)] w (LIPost w (cp i) (dp i) 0)) ∧
        (∀ w v, NetAt w v n N m P 0 w.heap.size → Calls Try.prog 23 #[v, .int .i64 x] w (LIPost w ca da 0)) ∧
        (∀ w v, NetAt w v n N m P 0 w.heap.size → Calls Try.prog 28 #[v, .int .i64 x] w (LIPost w ca da 0))) := by
  refine ⟨nbN n N m P x, fd (nbk P x m) n, paC n N m P x, by unfold nbN; have := fl_le (nbk P x m) n; split <;> omega, fun w v h => neighboursI_any w v n N m P 0 _ h (Nat.le_refl _) hN x, fun w v h => neighboursS_any w v n N m P 0 _ h (Nat.le_refl _) hN x, fun hc => ?_⟩
  obtain ⟨hv, hx⟩ := codeB_zero hc
  have hP : ∀ k, k < m → pipB n (P k) = true := fun k hk => net_pip hv hk
  have hx' := inR_iff.1 hx
  obtain ⟨a, rfl⟩ := Int.eq_ofNat_of_zero_le hx'.1
  have han : a < n := by omega
  have e1 : nbN n N m P a = (fl (nbk P a m) n).length := if_pos hc
  have e2 : paN n N m P a = (fl (paP P a) m).length := if_pos hc
  rw [e1]
  have key : ∀ i, i < (fl (nbk P a m) n).length → ∃ j : Nat, fd (nbk P a m) n i = (j : Nat) ∧ inR (j : Int) 0 (n - 1) = true ∧ nbk P j m a = true := by
    intro i hi
    obtain ⟨j, h1, h2, h3⟩ := fl_at hi
    refine ⟨j, h1, inR_iff.2 ⟨by omega, by omega⟩, ?_⟩
    unfold nbk at h3 ⊢
    rw [List.any_eq_true] at h3 ⊢
    obtain ⟨k, hk, hq⟩ := h3
    rw [Bool.and_eq_true, beq_iff_eq] at hq
    obtain ⟨q1, q2⟩ := oth_back hq.1 (pipB_parts (hP k (by simpa using hk))).2.2
    rw [hq.2] at q1 q2
    exact ⟨k, hk, by rw [q1, q2]; simp⟩
  refine ⟨fun i => (fl (nbk P (fd (nbk P a m) n i) m) n).length, fun i => (fl (pbP P a (fd (nbk P a m) n i)) m).length, fun i => fd (nbk P (fd (nbk P a m) n i) m) n, fun i => fd (pbP P a (fd (nbk P a m) n i)) m, (fl (paP P a) m).length, fd (paP P a) m, by have := fl_le (paP P a) m; omega, pipes_add hP, fun i hi => ?_, fun i hi w v h => ?_, fun i hi w v h => ?_, fun w v h => ?_, fun w v h => ?_⟩
  · obtain ⟨j, h1, h2, h3⟩ := key i hi
    dsimp only
    rw [h1]
    exact fl_has han h3
  · obtain ⟨j, h1, h2, h3⟩ := key i hi
    have := neighboursI_any w v n N m P 0 _ h (Nat.le_refl _) hN (fd (nbk P a m) n i)
    have p1 : paC n N m P (fd (nbk P a m) n i) = 0 := by rw [h1]; unfold paC; rw [hv, h2]; rfl
    have p2 : nbN n N m P (fd (nbk P a m) n i) = _ := if_pos p1
    rw [p1, p2] at this
    exact this
  · obtain ⟨j, h1, h2, h3⟩ := key i hi
    have := pipesBetweenI_any w v n N m P 0 _ h (Nat.le_refl _) hN a (fd (nbk P a m) n i)
    have p1 : pbC n N m P a (fd (nbk P a m) n i) = 0 := by rw [h1]; unfold pbC; rw [hv, h2, hx]; rfl
    have p2 : pbN n N m P a (fd (nbk P a m) n i) = _ := if_pos p1
    rw [p1, p2] at this
    exact this
  · have := pipesAtI_any w v n N m P 0 _ h (Nat.le_refl _) hN a
    rw [hc, e2] at this
    exact this
  · have := pipesAtS_any w v n N m P 0 _ h (Nat.le_refl _) hN a
    rw [hc, e2] at this
    exact this

set_option maxRecDepth 100000 in
set_option maxHeartbeats 20000000 in
theorem walk (v : Value) (w : World) (hc : CodeArg w v) :
    Calls Try.prog 5 #[v] w fun e w' => e = .returned (.bool true) ∧ Below w.heap.size w w' := by
  obtain ⟨p, len, cap, rfl, hlen, hcode⟩ := hc
  by_cases h4 : (4096 : Int) < len
  · clear hcode
    go_enter Try.func5, Try.ntmps5
    go_wp2_with (go_at_call 9; refine (draw.big_any _ _ _ _).mono ?_; rintro e w' ⟨rfl, rfl⟩)
    go_ret
    exact ⟨rfl, Below.refl _ _⟩
  have hc := hcode (by omega)
  clear hcode
  go_enter Try.func5, Try.ntmps5
  go_wp2_with (go_at_call 9; refine (draw.big_any _ _ _ _).mono ?_; rintro e w' ⟨rfl, rfl⟩)
  refine (draw.neighDraw w _ len hc).mono ?_
  rintro e w1 ⟨v, n, m, N, P, b1, b2, x, rfl, hn, hm, hnm, o1, l1, l2, x0, x1, C1⟩
  obtain ⟨nb, nd, rc, hnb, ti, ts, hz⟩ := neighFacts n N m P x hnm hn hm
  have TI := Lib.hid ti
  have TS := Lib.hid ts
  have HZ := Lib.hid hz
  clear ti ts hz
  clear hc x0 x1
  have hb2 : (rc != rc) = false := by simp
  have lxx := o1.lts
  obtain ⟨sx1, sx2, sx3, sx4, rfl⟩ := o1.shape
  go_wp2_with fail
  have bb := mem.below_new w1 (.cells #[.slice sx1 n sx2, .slice sx3 m sx4] 27)
  have B_x := boxed w1 (.slice sx1 n sx2) (.slice sx3 m sx4) 27
  have hs2 := bb.size
  have C2 := belowNext C1 bb
  have x2 := o1.next bb
  clear bb C1 o1
  generalize hW2 : w1.alloc (Obj.cells #[.slice sx1 n sx2, .slice sx3 m sx4] 27) = w2 at *
  clear hW2
  have Bx2 := B_x
  clear B_x
  have lBx := Bx2.lt
  refine (TI.out _ _ x2.net).mono ?_
  rintro e w3 ⟨xA, gA, rfl, oA, lA, bb⟩
  have hs3 := bb.size
  have C3 := belowNext C2 bb
  have x3 := x2.next bb
  have Bx3 := Bx2.next bb
  clear bb C2 x2 Bx2
  have lxA := oA.lt
  obtain ⟨sA1, sA2, rfl⟩ := oA.shape
  have qBx0 := Bx3.b0
  have qBx1 := Bx3.b1
  have qBx2 := Bx3.lt
  go_wp2_with fail
  refine (TS.out _ _ x3.net).mono ?_
  rintro e w4 ⟨xB, gB, rfl, oB, lB, bb⟩
  have hs4 := bb.size
  have C4 := belowNext C3 bb
  have x4 := x3.next bb
  have Bx4 := Bx3.next bb
  have A4 := oA.next bb
  clear qBx0 qBx1 qBx2
  clear bb C3 x3 Bx3 oA
  have lxB := oB.lt
  obtain ⟨sB1, sB2, rfl⟩ := oB.shape
  have qBx0 := Bx4.b0
  have qBx1 := Bx4.b1
  have qBx2 := Bx4.lt
  go_wp2_with fail
  refine (likeInts_any _ _ _ nb nd 0 w4.heap.size 0 w4.heap.size (A4.cs (.inr rfl) (Nat.le_refl _)) (oB.cs (.inr rfl) (Nat.le_refl _))).mono ?_
  rintro e w5 ⟨rfl, bb⟩
  have hs5 := bb.size
  have C5 := belowNext C4 bb
  have x5 := x4.next bb
  have Bx5 := Bx4.next bb
  have A5 := A4.next bb
  have B5 := oB.next bb
  clear qBx0 qBx1 qBx2
  clear bb C4 x4 Bx4 A4 oB
  clear B5
  by_cases hrc : rc = 0
  · subst hrc
    obtain ⟨cb, cp, db, dp, ca, da, hca, rfl, e1, q1, q2, q3, q4⟩ := HZ.out rfl
    have E1 := Lib.hid e1
    have Q1 := Lib.hid q1
    have Q2 := Lib.hid q2
    have Q3 := Lib.hid q3
    have Q4 := Lib.hid q4
    clear e1 q1 q2 q3 q4
    clear HZ
    have qBx0 := Bx5.b0
    have qBx1 := Bx5.b1
    have qBx2 := Bx5.lt
    go_wp2_with fail
    clear qBx0 qBx1 qBx2
    go_loopw [10, 9, 11, 12, 13, 14] (fun i c _ _ _ _ wr => ∃ k : Nat, i = .int .i64 k ∧ c = .int .i64 (upto cp k : Nat) ∧ k ≤ nb ∧ Below w5.heap.size w5 wr) (fun i _ _ _ _ _ _ => nb - (intOf i).toNat)
    case atStart => exact ⟨0, rfl, rfl, Nat.zero_le _, Below.refl _ _⟩
    case round =>
      obtain ⟨k, rfl, rfl, hk, bb⟩ := hrel
      obtain ⟨w6, hwb⟩ : ∃ w', w' = wr := ⟨_, rfl⟩
      subst hwb
      have CL := bb
      have hs6 := bb.size
      have C6 := belowNext C5 bb
      have x6 := x5.next bb
      have Bx6 := Bx5.next bb
      have A6 := A5.next bb
      clear bb C5 x5 Bx5 A5
      by_cases hlt : k < nb
      · have hkI : (k : Int) < nb := by omega
        have hsum : upto cp k + cp k ≤ 1000 := Nat.le_trans (upto_mono (f := cp) (j := k + 1) hlt) hca
        have hadd : IntKind.i64.wrap (((upto cp k : Nat) : Int) + (cp k : Int)) = ((upto cp (k + 1) : Nat) : Int) := by rw [IntWalk.i64_in _ (by omega)]; show _ = ((upto cp k + cp k : Nat) : Int); omega
        obtain ⟨rfl, hgA, hq⟩ := own_at A6 hlt
        have qBx0 := Bx6.b0
        have qBx1 := Bx6.b1
        have qBx2 := Bx6.lt
        go_wp2_with fail
        have hAny : ∀ X : World, Below w6.heap.size w6 X → (fun w' => w'.cell? ⟨w1.heap.size, 0, none⟩ = some (.slice sx1 n sx2) ∧ w'.cell? ⟨w1.heap.size, 1, none⟩ = some (.slice sx3 m sx4) ∧ w'.cell? ⟨gA, k, none⟩ = some (.int .i64 (nd k))) X := fun X h => ⟨(Bx6.below h Bx6.lt).b0, (Bx6.below h Bx6.lt).b1, (h.cell (p := ⟨gA, k, none⟩) hgA).trans hq⟩
        have K0 : Below w6.heap.size w6 w6.drew := ⟨rfl, rfl, rfl, Nat.le_refl _, fun _ _ => rfl⟩
        go_region_held3 (fun w' => w'.cell? ⟨w1.heap.size, 0, none⟩ = some (.slice sx1 n sx2) ∧ w'.cell? ⟨w1.heap.size, 1, none⟩ = some (.slice sx3 m sx4) ∧ w'.cell? ⟨gA, k, none⟩ = some (.int .i64 (nd k))) (first | exact hAny _ K0 | exact hAny _ KX)
          (first | (go_at_call 21; refine (Q1.out k hlt _ _ (x6.below K0 (Nat.le_refl _)).net).mono ?_; rintro e wx ⟨xF, gF, rfl, oF, lF, ba⟩; have KX : Below w6.heap.size w6 wx := K0.trans (ba.mono (Nat.le_refl _))))
        obtain ⟨w7, hwb⟩ : ∃ w', w' = wx := ⟨_, rfl⟩
        subst hwb
        have bb := KX
        clear hAny K0 KX ba hq hgA
        have hs7 := bb.size
        have C7 := belowNext C6 bb
        have x7 := x6.next bb
        have Bx7 := Bx6.next bb
        have A7 := A6.next bb
        have L7 := belowNext CL bb
        clear qBx0 qBx1 qBx2
        clear bb C6 x6 Bx6 A6 CL
        have lxF := oF.lt
        obtain ⟨sF1, sF2, rfl⟩ := oF.shape
        obtain ⟨_, hgA, hq⟩ := own_at A7 hlt
        have qBx0 := Bx7.b0
        have qBx1 := Bx7.b1
        have qBx2 := Bx7.lt
        go_wp2_with fail
        have hAny : ∀ X : World, Below w7.heap.size w7 X → (fun w' => w'.cell? ⟨w1.heap.size, 0, none⟩ = some (.slice sx1 n sx2) ∧ w'.cell? ⟨w1.heap.size, 1, none⟩ = some (.slice sx3 m sx4) ∧ w'.cell? ⟨gA, k, none⟩ = some (.int .i64 (nd k))) X := fun X h => ⟨(Bx7.below h Bx7.lt).b0, (Bx7.below h Bx7.lt).b1, (h.cell (p := ⟨gA, k, none⟩) hgA).trans hq⟩
        have K0 : Below w7.heap.size w7 w7.drew := ⟨rfl, rfl, rfl, Nat.le_refl _, fun _ _ => rfl⟩
        go_region_held3 (fun w' => w'.cell? ⟨w1.heap.size, 0, none⟩ = some (.slice sx1 n sx2) ∧ w'.cell? ⟨w1.heap.size, 1, none⟩ = some (.slice sx3 m sx4) ∧ w'.cell? ⟨gA, k, none⟩ = some (.int .i64 (nd k))) (first | exact hAny _ K0 | exact hAny _ KX)
          (first | (go_at_call 22; refine (Q2.out k hlt _ _ (x7.below K0 (Nat.le_refl _)).net).mono ?_; rintro e wx ⟨xG, gG, rfl, oG, lG, ba⟩; have KX : Below w7.heap.size w7 wx := K0.trans (ba.mono (Nat.le_refl _))))
        obtain ⟨w8, hwb⟩ : ∃ w', w' = wx := ⟨_, rfl⟩
        subst hwb
        have bb := KX
        clear hAny K0 KX ba hq hgA
        have hs8 := bb.size
        have C8 := belowNext C7 bb
        have x8 := x7.next bb
        have Bx8 := Bx7.next bb
        have A8 := A7.next bb
        have L8 := belowNext L7 bb
        have F8 := oF.next bb
        clear qBx0 qBx1 qBx2
        clear bb C7 x7 Bx7 A7 L7 oF
        have lxG := oG.lt
        obtain ⟨sG1, sG2, rfl⟩ := oG.shape
        have qBx0 := Bx8.b0
        have qBx1 := Bx8.b1
        have qBx2 := Bx8.lt
        go_wp2_with fail
        refine (hasInt_yes _ _ (cb k) (db k) x 0 w8.heap.size (F8.cs (.inr rfl) (Nat.le_refl _)) (E1.out k hlt)).mono ?_
        rintro e w9 ⟨rfl, bb⟩
        have hs9 := bb.size
        have C9 := belowNext C8 bb
        have x9 := x8.next bb
        have Bx9 := Bx8.next bb
        have A9 := A8.next bb
        have L9 := belowNext L8 bb
        have F9 := F8.next bb
        have G9 := oG.next bb
        clear qBx0 qBx1 qBx2
        clear bb C8 x8 Bx8 A8 L8 F8 oG
        clear hsum hkI
        have qBx0 := Bx9.b0
        have qBx1 := Bx9.b1
        have qBx2 := Bx9.lt
        go_wp2_with fail
        go_roundw
        case rel => exact ⟨k + 1, by go_num, (by first | rfl | go_num), hlt, L9⟩
        case measure => simp [intOf]; omega
      · obtain rfl : k = nb := by omega
        have hyy : (((upto cp k : Nat) : Int) == ((upto cp k : Nat) : Int)) = true := by simp
        have qBx0 := Bx6.b0
        have qBx1 := Bx6.b1
        have qBx2 := Bx6.lt
        go_wp2_with fail
        refine (Q3.out _ _ x6.net).mono ?_
        rintro e w7 ⟨xD, gD, rfl, oD, lD, bb⟩
        have hs7 := bb.size
        have C7 := belowNext C6 bb
        have x7 := x6.next bb
        have Bx7 := Bx6.next bb
        have A7 := A6.next bb
        have L7 := belowNext CL bb
        clear qBx0 qBx1 qBx2
        clear bb C6 x6 Bx6 A6 CL
        have lxD := oD.lt
        obtain ⟨sD1, sD2, rfl⟩ := oD.shape
        have qBx0 := Bx7.b0
        have qBx1 := Bx7.b1
        have qBx2 := Bx7.lt
        go_wp2_with fail
        refine (Q4.out _ _ x7.net).mono ?_
        rintro e w8 ⟨xE, gE, rfl, oE, lE, bb⟩
        have hs8 := bb.size
        have C8 := belowNext C7 bb
        have x8 := x7.next bb
        have Bx8 := Bx7.next bb
        have A8 := A7.next bb
        have L8 := belowNext L7 bb
        have D8 := oD.next bb
        clear qBx0 qBx1 qBx2
        clear bb C7 x7 Bx7 A7 L7 oD
        have lxE := oE.lt
        obtain ⟨sE1, sE2, rfl⟩ := oE.shape
        have qBx0 := Bx8.b0
        have qBx1 := Bx8.b1
        have qBx2 := Bx8.lt
        go_wp2_with fail
        refine (likeInts_any _ _ _ (upto cp k) da 0 w8.heap.size 0 w8.heap.size (D8.cs (.inr rfl) (Nat.le_refl _)) (oE.cs (.inr rfl) (Nat.le_refl _))).mono ?_
        rintro e w9 ⟨rfl, bb⟩
        have hs9 := bb.size
        have C9 := belowNext C8 bb
        have x9 := x8.next bb
        have Bx9 := Bx8.next bb
        have A9 := A8.next bb
        have L9 := belowNext L8 bb
        have D9 := D8.next bb
        have E9 := oE.next bb
        clear qBx0 qBx1 qBx2
        clear bb C8 x8 Bx8 A8 L8 D8 oE
        have qBx0 := Bx9.b0
        have qBx1 := Bx9.b1
        have qBx2 := Bx9.lt
        go_wp2_with fail
        go_ret
        exact ⟨rfl, C9⟩
  · have hrc' : (rc != 0) = true := by simpa using hrc
    have qBx0 := Bx5.b0
    have qBx1 := Bx5.b1
    have qBx2 := Bx5.lt
    go_wp2_with fail
    go_ret
    exact ⟨rfl, C5⟩

set_option maxRecDepth 100000 in
theorem lifted (os : Os) (started : os.Started) (H : Type) (enc : TypeId × Value → H) :
    ReturnsInHanded {} Try.checked os 5 .any (Rows.fnNeighboursSpec.pre6 enc Try.prog Try.f5 Rows.fnNeighboursRow.domain false) (Rows.fnNeighboursSpec.post enc Try.prog Try.f5 false true false false) := by
  refine returnsInHanded_of_change (C := Try.checked) own started (by kernel_rfl) Try.func5
    (ChangeSpec.witness6 (enc := enc) (C := Try.checked) false ⟨#[], #[.slice none 0 0], []⟩ 8 (by kernel_rfl) (by kernel_rfl) (by kernel_rfl) (by kernel_rfl)) ?_
  intro W base args ds gs before hval0 hW hcnd _
  have hval : ∀ (j : Nat) t v, Try.f5.params[j]? = some t → args[j]? = some v → Value.okWide Try.prog W .any base t v := hval0
  have hW' := hW
  obtain ⟨p, q, hA0, hV, rfl, hfz, hnd⟩ := hW
  have hA : DataW.TrodAll enc Try.prog W 0 (fun _ => true) true Try.f5.params.toList args.toList ds p := hA0
  rw [Try.params5] at hA hval
  obtain ⟨v0, vs0, d0, ds0, p0, q0, hargs, rfl, rfl, h0, r0⟩ := trodAll_cons hA
  obtain ⟨rfl, rfl, rfl⟩ := trodAll_nil r0
  obtain rfl : args = #[v0] := by cases args; simp_all
  obtain ⟨rfl, rfl⟩ := trodVars_none hV
  have hc := open_code (hval 0 22 v0 rfl rfl) h0
  refine (walk v0 W hc).mono fun e W' ⟨he, hg⟩ => ?_
  subst he
  exact ⟨_, rfl, law.law_post hW' hg laidOut (by kernel_rfl) rfl rfl (by kernel_rfl) Try.underlying4⟩

theorem over : Rows.fnNeighboursRow.holds Try.pinned (OpenSpec.ofChange Rows.fnNeighboursSpec) :=
  OpenClaim.holds_of_wide 5 Try.f5 rfl rfl rfl rfl rfl rfl rfl ⟨rfl, rfl, rfl, rfl, rfl⟩ rfl rfl rfl rfl rfl (by kernel_rfl) Try.func5 (by kernel_rfl)
    (of_decide_eq_true (by kernel_rfl)) (by unfold Func.isWrapper; first | (rw [if_pos (by decide +kernel)]; kernel_rfl) | (rw [if_neg (by decide +kernel)]; exact ⟨rfl, rfl⟩))
    (fun os started H enc _ => lifted os started H enc)

theorem proved : Rows.FnNeighboursSaid :=
  over
#print axioms proved
end Go.Proofs.Ytdmcggnhnkaoeaa.fnNeighbours
