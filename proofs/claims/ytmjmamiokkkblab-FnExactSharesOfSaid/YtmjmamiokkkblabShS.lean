/-
  The contracts of the specification's shares: l01Shares and SharesOf. Condition: the weights read as a slice of integers.
-/
import Derived.Test.YtmjmamiokkkblabRows
import Derived.Test.YtmjmamiokkkblabShI
import Derived.Test.YtmjmamiokkkblabOwn
import Derived.WalkKit
import Derived.ProofKit
import Derived.OwnWalk
import Derived.Lib.Hide
namespace Go.Proofs.Ytmjmamiokkkblab.share
open Go.RowKit Go.Proofs.Ytmjmamiokkkblab.mem Go.Proofs.Ytmjmamiokkkblab.sort
set_option linter.unusedVariables false

theorem below_drewN {B : Nat} {w w' : World} (h : Below B w w') (n : Nat) : Below B w (w'.drewN n) := ⟨h.os, h.tape, h.output, h.size, h.block⟩

set_option maxRecDepth 100000 in
set_option maxHeartbeats 4000000 in
theorem l01Shares_any (w : World) (v : Value) (T : Int) (n : Nat) (d : Nat → Int) (lo hi : Nat) (h : Sl w v n d lo hi) (hhi : hi ≤ w.heap.size) (hc : code T n d = 0) :
    Calls Try.prog 23 #[.int .i64 T, v] w fun e w' => Below w.heap.size w w' ∧ ∃ b cap, e = .returned (.slice (some ⟨b, 0, none⟩) n cap) ∧ w.heap.size ≤ b ∧ b < w'.heap.size ∧ Row w' b n (shr T d n) := by
  have H := Lib.hid h
  clear h
  obtain ⟨c1, c2, c3, c4, c5, c6, c7⟩ := code_facts hc
  have QB := Lib.hid (quo_bd hc)
  have LB := Lib.hid (left_bd (T := T) c6)
  have HS := Lib.hid (sums_of c5 (by omega))
  have HQ := Lib.hid (sums_of (fun k hk => (quo_bd hc k hk).2.1) (by omega))
  have C5 := Lib.hid c5
  have HC := Lib.hid hc
  obtain ⟨p, cap, hv, hcell⟩ := H.out.ex
  subst hv
  have HV := Lib.hid hcell
  clear c5 hcell
  go_enter Try.func23, Try.ntmps23
  go_wp2_with (go_at_call 22; refine (l01Sum_any _ _ n d lo hi H.out HS.out (by omega)).mono ?_; rintro e w' ⟨rfl, rfl⟩)
  generalize hW : (w.alloc (Obj.cells #[] 2)).alloc (Obj.cells #[] 2) = W1
  have f1 : Own W1 (.slice (some ⟨w.heap.size, 0, none⟩) 0 0) 0 (quo T d n) w.heap.size := by
    rw [← hW]; exact (Own.nilled w _).alloc _
  have f2 : Own W1 (.slice (some ⟨w.heap.size + 1, 0, none⟩) 0 0) 0 (rmd T d n) (w.heap.size + 1) := by
    have := Own.nilled (w.alloc (Obj.cells #[] 2)) (rmd T d n)
    rw [hW] at this
    simpa using this
  have f3 : Below w.heap.size w W1 := by rw [← hW]; exact ((Below.refl _ _).alloc (Nat.le_refl _) _).alloc (by simp) _
  have F1 := Lib.hid f1
  have F2 := Lib.hid f2
  have F3 := Lib.hid f3
  clear f1 f2 f3 hW
  go_loopw [6, 7, 8, 9] (fun out rst lft i wr => ∃ (k g1 g2 : Nat) (out' rst' : Value), out' = out ∧ rst' = rst ∧ lft = .int .i64 (T - tot (quo T d n) k) ∧ i = .int .i64 k ∧ k ≤ n ∧ Own wr out k (quo T d n) g1 ∧ Own wr rst k (rmd T d n) g2 ∧ g1 ≠ g2 ∧ w.heap.size ≤ g1 ∧ w.heap.size ≤ g2 ∧ Below w.heap.size w wr) (fun _ _ _ i _ => n - (intOf i).toNat)
  case atStart => exact ⟨0, w.heap.size, w.heap.size + 1, _, _, rfl, rfl, by simp [tot], rfl, Nat.zero_le _, F1.out, F2.out, by omega, Nat.le_refl _, by omega, F3.out⟩
  case round =>
    obtain ⟨k, g1, g2, out, rst, rfl, rfl, rfl, rfl, hk, ho1, ho2, hne, hg1, hg2, hbel⟩ := hrel
    obtain ⟨co1, rfl⟩ := ho1.shape
    obtain ⟨co2, rfl⟩ := ho2.shape
    have O1 := Lib.hid ho1
    have O2 := Lib.hid ho2
    have HB := Lib.hid hbel
    by_cases hlt : k < n
    · rcases HV.out with g0 | ⟨b, o, rfl, j1, j2, j3⟩
      · omega
      have ca : wr.cell? ⟨b, o + k, none⟩ = some (.int .i64 (d k)) := (hbel.cell (p := ⟨b, o + k, none⟩) (by show b < w.heap.size; omega)).trans (j3 k hlt)
      obtain ⟨⟨q1, q2⟩, ⟨q3, q4⟩, q5, q6⟩ := QB.out k hlt
      have e1 : T * d k / tot d n = quo T d n k := rfl
      have e2 : T * d k % tot d n = rmd T d n k := rfl
      have s1 := HQ.out k hk
      have s2 := HQ.out (k + 1) hlt
      have e3 : tot (quo T d n) (k + 1) = tot (quo T d n) k + quo T d n k := rfl
      have l1 := ho1.lt
      have l2 := ho2.lt
      obtain ⟨v1, w1, g1', hr1, ap1⟩ := app_run (wr.alloc (Obj.cells #[.int .i64 (quo T d n k)] 2)) (.slice (some ⟨g1, 0, none⟩) k co1) k (quo T d n) g1 (quo T d n k) wr.heap.size (ho1.alloc _) (by have := heap_alloc_new wr (Obj.cells #[.int .i64 (quo T d n k)] 2); simp only [World.cell?, this]; simp) (by omega)
      have y1 := ap1.below (B := w.heap.size) hg1 (by rw [szal]; omega)
      have y2 := ap1.other (c := g2) (Ne.symm hne) (by rw [szal]; omega)
      have y3 : Own w1 (.slice (some ⟨g2, 0, none⟩) k co2) k (rmd T d n) g2 := (ho2.alloc _).keep y2.1
      have y4 := y3.lt
      have cb : w1.cell? ⟨b, o + k, none⟩ = some (.int .i64 (d k)) := by
        rw [y1.1.cell (p := ⟨b, o + k, none⟩) (by show b < w.heap.size; omega)]
        exact (Below.cell (B := wr.heap.size) (((Below.refl _ wr).alloc (Nat.le_refl _) _)) (p := ⟨b, o + k, none⟩) (by have := hbel.size; show b < wr.heap.size; omega)).trans ca
      obtain ⟨v2, w2, g2', hr2, ap2⟩ := app_run (w1.alloc (Obj.cells #[.int .i64 (rmd T d n k)] 2)) (.slice (some ⟨g2, 0, none⟩) k co2) k (rmd T d n) g2 (rmd T d n k) w1.heap.size (y3.alloc _) (by have := heap_alloc_new w1 (Obj.cells #[.int .i64 (rmd T d n k)] 2); simp only [World.cell?, this]; simp) (by omega)
      have x1 := ap1.own'
      have x2 := ap2.own'
      have x1l := x1.lt
      have x3 := ap2.other (c := g1') (Ne.symm y2.2) (by rw [szal]; omega)
      have z1 := ap2.below (B := w.heap.size) hg2 (by rw [szal]; omega)
      have X1 := Lib.hid ((x1.alloc _).keep x3.1)
      have X2 := Lib.hid x2
      have X3 := Lib.hid x3.2
      have X4 := Lib.hid ((hbel.alloc (by exact hbel.size) (Obj.cells #[.int .i64 (quo T d n k)] 2)).trans y1.1)
      have X5 := Lib.hid ((X4.out.alloc (by exact X4.out.size) (Obj.cells #[.int .i64 (rmd T d n k)] 2)).trans z1.1)
      have X6 := Lib.hid (show w.heap.size ≤ g1' ∧ w.heap.size ≤ g2' from ⟨y1.2, z1.2⟩)
      have E3 := Lib.hid e3
      clear j3 ho1 ho2 hbel y1 y2 y3 x1 x2 x3 z1 ap1 ap2 e3 s2 y4 x1l
      go_wp2_with (at_builtin; (first | refine wpList_app hr1 rfl _ _ rfl rfl rfl rfl ?_ | refine wpList_app hr2 rfl _ _ rfl rfl rfl rfl ?_))
      go_roundw
      case rel => exact ⟨k + 1, g1', g2', v1, v2, rfl, rfl, by rw [E3.out]; go_num, by go_num, hlt, X1.out, X2.out, X3.out, X6.out.1, X6.out.2, X5.out⟩
      case measure => simp [intOf]; omega
    · obtain rfl : n = k := by omega
      obtain ⟨o, hor⟩ : ∃ o, o = ord (rmd T d n) n := ⟨_, rfl⟩
      have OS := Lib.hid (ord_spec (rmd T d n) n)
      rw [← hor] at OS
      have HOR := Lib.hid hor
      obtain ⟨L, hL⟩ : ∃ L : Nat, L = leftN T d n := ⟨_, rfl⟩
      have hLL : T - tot (quo T d n) n = (L : Int) := by rw [hL]; unfold leftN; have := LB.out; omega
      have hLn : L ≤ n := by have := LB.out; omega
      have HL := Lib.hid hL
      have R1 := Lib.hid ho1.row
      have R2 := Lib.hid ho2.row
      have hb1s := ho1.lt
      have hb2s := ho2.lt
      clear ho1 ho2 hbel hL hor O1 O2
      rw [hLL]
      clear hLL
      go_wp2_with fail
      go_loopw [8] (fun lft wq => ∃ t : Nat, lft = .int .i64 ((L : Int) - t) ∧ t ≤ L ∧ Row wq g1 n (part (quo T d n) o t) ∧ Row wq g2 n (rest (rmd T d n) o t) ∧ Below w.heap.size w wq ∧ g1 < wq.heap.size) (fun lft _ => (intOf lft).toNat)
      case atStart => exact ⟨0, by simp, Nat.zero_le _, R1.out.congr (fun k hk => by simp [part, cnt]), R2.out.congr (fun k hk => by simp [rest, cnt]), HB.out, hb1s⟩
      case round =>
        obtain ⟨t, rfl, ht, hp1, hp2, hbq, hzq⟩ := hrel
        have P1 := Lib.hid hp1
        have P2 := Lib.hid hp2
        have HBQ := Lib.hid hbq
        have HZQ := Lib.hid hzq
        clear hp1 hp2 hbq hzq
        by_cases htl : t < L
        · have hpos : (0 : Int) < (L : Int) - t := by omega
          go_wp2_with fail
          go_loopw [11, 12] (fun bst i w3 => ∃ b j : Nat, bst = .int .i64 b ∧ i = .int .i64 j ∧ b < j ∧ j ≤ n ∧ (∀ x, x < j → rest (rmd T d n) o t x ≤ rest (rmd T d n) o t b) ∧ (∀ x, x < b → rest (rmd T d n) o t x < rest (rmd T d n) o t b) ∧ Row w3 g1 n (part (quo T d n) o t) ∧ Row w3 g2 n (rest (rmd T d n) o t) ∧ Below w.heap.size w w3 ∧ g1 < w3.heap.size) (fun _ i _ => n - (intOf i).toNat)
          case atStart =>
            refine ⟨0, 1, rfl, rfl, by omega, c1, fun x hx => ?_, fun x hx => by omega, P1.out, P2.out, HBQ.out, HZQ.out⟩
            obtain rfl : x = 0 := by omega
            exact Int.le_refl _
          case round =>
            obtain ⟨b, j, rfl, rfl, hbj, hjn, hall, hfst, hp1, hp2, hbq, hzq⟩ := hrel
            have P1 := Lib.hid hp1
            have P2 := Lib.hid hp2
            have HBQ := Lib.hid hbq
            have HZQ := Lib.hid hzq
            have HA := Lib.hid hall
            have HF := Lib.hid hfst
            clear hall hfst hbq hzq
            by_cases hlt : j < n
            · have cj := hp2.cell j hlt
              have cb := hp2.cell b (by omega)
              have i1 : (j : Int) < n := by omega
              have i2 : (b : Int) < n := by omega
              have i3 : b < n := by omega
              clear hp1 hp2
              by_cases hgt : rest (rmd T d n) o t b < rest (rmd T d n) o t j
              · have HG := Lib.hid hgt
                go_wp2_with fail
                go_quiet (fail)
                go_wp2_with fail
                go_roundw
                case rel =>
                  refine ⟨j, j + 1, rfl, by go_num, by omega, hlt, fun x hx => ?_, fun x hx => ?_, P1.out.drewN _, P2.out.drewN _, below_drewN HBQ.out _, HZQ.out⟩
                  · by_cases e : x = j
                    · rw [e]; exact Int.le_refl _
                    · exact Int.le_trans (HA.out x (by omega)) (Int.le_of_lt HG.out)
                  · exact Int.lt_of_le_of_lt (HA.out x hx) HG.out
                case measure => simp [intOf]; omega
              · have HG := Lib.hid hgt
                go_wp2_with fail
                go_quiet (fail)
                go_wp2_with fail
                go_roundw
                case rel =>
                  refine ⟨b, j + 1, rfl, by go_num, by omega, hlt, fun x hx => ?_, HF.out, P1.out.drewN _, P2.out.drewN _, below_drewN HBQ.out _, HZQ.out⟩
                  by_cases e : x = j
                  · rw [e]; exact HG.out
                  · exact HA.out x (by omega)
                case measure => simp [intOf]; omega
            · obtain rfl : n = j := by omega
              have hot : o t = (b : Int) := pick (rem := rmd T d n) OS.out.1 OS.out.2 (fun k hk => (QB.out k hk).2.2.1) (by omega) (by omega) HA.out HF.out
              have HOT := Lib.hid hot
              have cb := hp1.cell b hbj
              have fb := hp1.free b hbj
              have fb2 := hp2.free b hbj
              have hq := (QB.out b hbj).2.1
              have hcn := cnt_nonneg o t b
              have hcl := cnt_le o t b
              have hp : 0 ≤ part (quo T d n) o t b ∧ part (quo T d n) o t b ≤ 2000000000 := by unfold part; omega
              have i2 : (b : Int) < n := by omega
              have cc2 := hp2.cell b hbj
              clear hp1 hp2 hot hq hcn hcl
              go_wp2_with fail
              go_roundw
              case rel =>
                have s1 := (P1.out.set b (part (quo T d n) o t b + 1) hbj).only ((Only.refl g2 _).setCell b (.int .i64 (-1))) hne
                have s2 := (P2.out.only ((Only.refl g1 _).setCell b (.int .i64 (part (quo T d n) o t b + 1))) (Ne.symm hne)).set b (-1) hbj
                rw [part_step HOT.out] at s1
                rw [rest_step HOT.out] at s2
                exact ⟨t + 1, congrArg (Value.int .i64) (by omega), htl, s1, s2, (HBQ.out.setCell hg1 _).setCell hg2 _, by have := HZQ.out; simpa [World.setCell] using this⟩
              case measure => simp [intOf]; omega
        · obtain rfl : L = t := by omega
          go_wp2_with fail
          go_ret
          refine ⟨HBQ.out, g1, co1, rfl, hg1, HZQ.out, P1.out.congr (fun i hi => ?_)⟩
          unfold shr
          rw [← HL.out, HOR.out]
end Go.Proofs.Ytmjmamiokkkblab.share
