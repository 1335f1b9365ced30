/-
  The program's relaxedFrom, isStep. Conditions: as each states.
-/
import Derived.Test.YtdbgcbkmcbgdiaaGreatRows
import Derived.Test.YtdbgcbkmcbgdiaaGreatLrq
import Derived.Laws.ResultCell
import Derived.Deep.CutRange
namespace Go.Proofs.YtdbgcbkmcbgdiaaGreat.mem
open Go.RowKit
set_option linter.unusedVariables false

theorem results_nf2 {fn : Func} {p u : Tmp} {tmps : Array Value} {w : World} {b : Nat} {s0 s1 v : Value} {x : Nat → Int} (h : fn.results = #[.cell p 115, .tmp u]) (hp : tmps.getD p undef = .pointer (some ⟨b, 0, none⟩)) (hv : tmps.getD u undef = v) (ho : Ob w b 42 (nfc s0 s1 x)) : (results fn tmps).run Tryz.prog w = .ok (.tuple #[.agg (nfL s0 s1 x).toArray, v]) w := by
  obtain ⟨t, h1⟩ := ho.nrow
  rw [results_cell_tmp h, hp, hv]
  simp [asAddr, run_loadVar_row w b t 115 _ (0, 0) _ h1 Tryz.underlying115 rfl (by rw [List.size_toArray, nfL_len]; exact nf_info), Result.andThen]
theorem pad_cyc {n : Nat} {N : Nat → Nod} {P : Nat → Pip} {m : Nat} (hN : netB n N m P = true) {c : Nat} (hc : c < m) (x : Nat → Int) (t : Int) : (fun a => pad m x a + cyc P (fE n P m) (fD n P m) c a * t) = pad m (fun a => x a + t * cyc P (fE n P m) (fD n P m) c a) := by
  funext a
  by_cases h : a < m
  · rw [pad_at h, pad_at h, Int.mul_comm]
  · rw [cyc_off hN hc (by omega)]
    unfold pad
    rw [if_neg h, if_neg h]
    omega
theorem mvT_pad {n : Nat} {N : Nat → Nod} {P : Nat → Pip} {m : Nat} (hN : netB n N m P = true) {d : Nat → Int} {c : Nat} {st : Int} (hc : c < m) : mvT m P (pad m d) (cyc P (fE n P m) (fD n P m) c) st = mvB m P d (cyc P (fE n P m) (fD n P m) c) st := by
  unfold mvT mvB
  rw [loA_pad hN hc, loA_pad hN hc]
set_option maxRecDepth 100000 in
set_option maxHeartbeats 8000000 in
theorem relaxedFrom_any (w : World) (p0 p1 : Option Addr) (c0 c1 : Nat) (n : Nat) (N : Nat → Nod) (m : Nat) (P : Nat → Pip) (lo hi : Nat) (h : NetAt w (.agg #[.slice p0 n c0, .slice p1 m c1]) n N m P lo hi) (hhi : hi ≤ w.heap.size) (hB : netB n N m P = true) (x0 : Nat → Int) (hx : ∀ k, k < m → -30000 ≤ x0 k ∧ x0 k ≤ 30000) (st0 : Int) (hst : 1 ≤ st0 ∧ st0 ≤ 32768) :
    Calls Tryz.prog 95 #[.agg (nfL (.slice p0 n c0) (.slice p1 m c1) (pad m x0)).toArray, .int .i64 st0] w fun e w' => e = .returned (.tuple #[.agg (nfL (.slice p0 n c0) (.slice p1 m c1) (pad m (rlx m P (fun i => cyc P (fE n P m) (fD n P m) (chS n P m i)) (chN n P m) x0 st0).1)).toArray, .int .i64 (rlx m P (fun i => cyc P (fE n P m) (fD n P m) (chS n P m i)) (chN n P m) x0 st0).2]) ∧ Below w.heap.size w w' := by
  obtain ⟨hn1, hn24, hm40⟩ := net_sz hB
  have hcn := chN_le n P m
  have HV := Lib.hid h
  have HX0 := Lib.hid hx
  have HBN := Lib.hid hB
  have A0 := (Ob.newN w (.slice p0 n c0) (.slice p1 m c1) (pad m x0) 115).keep (Below.heap_alloc _ (.cells #[Value.slice none 0 0, Value.slice none 0 0, Value.int IntKind.i64 0, Value.int IntKind.i64 0, Value.int IntKind.i64 0, Value.int IntKind.i64 0, Value.int IntKind.i64 0, Value.int IntKind.i64 0, Value.int IntKind.i64 0, Value.int IntKind.i64 0, Value.int IntKind.i64 0, Value.int IntKind.i64 0, Value.int IntKind.i64 0, Value.int IntKind.i64 0, Value.int IntKind.i64 0, Value.int IntKind.i64 0, Value.int IntKind.i64 0, Value.int IntKind.i64 0, Value.int IntKind.i64 0, Value.int IntKind.i64 0, Value.int IntKind.i64 0, Value.int IntKind.i64 0, Value.int IntKind.i64 0, Value.int IntKind.i64 0, Value.int IntKind.i64 0, Value.int IntKind.i64 0, Value.int IntKind.i64 0, Value.int IntKind.i64 0, Value.int IntKind.i64 0, Value.int IntKind.i64 0, Value.int IntKind.i64 0, Value.int IntKind.i64 0, Value.int IntKind.i64 0, Value.int IntKind.i64 0, Value.int IntKind.i64 0, Value.int IntKind.i64 0, Value.int IntKind.i64 0, Value.int IntKind.i64 0, Value.int IntKind.i64 0, Value.int IntKind.i64 0, Value.int IntKind.i64 0, Value.int IntKind.i64 0] 115) _ (by rw [szal]; omega))
  have A1 := Ob.newZ (w.alloc (.cells (nfL (.slice p0 n c0) (.slice p1 m c1) (pad m x0)).toArray 115)) 115
  simp only [szal] at A1
  have B0 := (below_new w (.cells (nfL (.slice p0 n c0) (.slice p1 m c1) (pad m x0)).toArray 115)).trans ((below_new _ (.cells #[Value.slice none 0 0, Value.slice none 0 0, Value.int IntKind.i64 0, Value.int IntKind.i64 0, Value.int IntKind.i64 0, Value.int IntKind.i64 0, Value.int IntKind.i64 0, Value.int IntKind.i64 0, Value.int IntKind.i64 0, Value.int IntKind.i64 0, Value.int IntKind.i64 0, Value.int IntKind.i64 0, Value.int IntKind.i64 0, Value.int IntKind.i64 0, Value.int IntKind.i64 0, Value.int IntKind.i64 0, Value.int IntKind.i64 0, Value.int IntKind.i64 0, Value.int IntKind.i64 0, Value.int IntKind.i64 0, Value.int IntKind.i64 0, Value.int IntKind.i64 0, Value.int IntKind.i64 0, Value.int IntKind.i64 0, Value.int IntKind.i64 0, Value.int IntKind.i64 0, Value.int IntKind.i64 0, Value.int IntKind.i64 0, Value.int IntKind.i64 0, Value.int IntKind.i64 0, Value.int IntKind.i64 0, Value.int IntKind.i64 0, Value.int IntKind.i64 0, Value.int IntKind.i64 0, Value.int IntKind.i64 0, Value.int IntKind.i64 0, Value.int IntKind.i64 0, Value.int IntKind.i64 0, Value.int IntKind.i64 0, Value.int IntKind.i64 0, Value.int IntKind.i64 0, Value.int IntKind.i64 0] 115)).mono (by rw [szal]; omega))
  have hs0 : ((w.alloc (.cells (nfL (.slice p0 n c0) (.slice p1 m c1) (pad m x0)).toArray 115)).alloc (.cells #[Value.slice none 0 0, Value.slice none 0 0, Value.int IntKind.i64 0, Value.int IntKind.i64 0, Value.int IntKind.i64 0, Value.int IntKind.i64 0, Value.int IntKind.i64 0, Value.int IntKind.i64 0, Value.int IntKind.i64 0, Value.int IntKind.i64 0, Value.int IntKind.i64 0, Value.int IntKind.i64 0, Value.int IntKind.i64 0, Value.int IntKind.i64 0, Value.int IntKind.i64 0, Value.int IntKind.i64 0, Value.int IntKind.i64 0, Value.int IntKind.i64 0, Value.int IntKind.i64 0, Value.int IntKind.i64 0, Value.int IntKind.i64 0, Value.int IntKind.i64 0, Value.int IntKind.i64 0, Value.int IntKind.i64 0, Value.int IntKind.i64 0, Value.int IntKind.i64 0, Value.int IntKind.i64 0, Value.int IntKind.i64 0, Value.int IntKind.i64 0, Value.int IntKind.i64 0, Value.int IntKind.i64 0, Value.int IntKind.i64 0, Value.int IntKind.i64 0, Value.int IntKind.i64 0, Value.int IntKind.i64 0, Value.int IntKind.i64 0, Value.int IntKind.i64 0, Value.int IntKind.i64 0, Value.int IntKind.i64 0, Value.int IntKind.i64 0, Value.int IntKind.i64 0, Value.int IntKind.i64 0] 115)).heap.size = w.heap.size + 2 := by simp
  have e0 := A0.n0
  have e1 := A0.n1
  clear h hB hx
  go_enter Tryz.func95, Tryz.ntmps95
  go_upto_region 1 with (fail)
  obtain ⟨w1, hw1⟩ : ∃ w1, (w.alloc (.cells (nfL (.slice p0 n c0) (.slice p1 m c1) (pad m x0)).toArray 115)).alloc (.cells #[Value.slice none 0 0, Value.slice none 0 0, Value.int IntKind.i64 0, Value.int IntKind.i64 0, Value.int IntKind.i64 0, Value.int IntKind.i64 0, Value.int IntKind.i64 0, Value.int IntKind.i64 0, Value.int IntKind.i64 0, Value.int IntKind.i64 0, Value.int IntKind.i64 0, Value.int IntKind.i64 0, Value.int IntKind.i64 0, Value.int IntKind.i64 0, Value.int IntKind.i64 0, Value.int IntKind.i64 0, Value.int IntKind.i64 0, Value.int IntKind.i64 0, Value.int IntKind.i64 0, Value.int IntKind.i64 0, Value.int IntKind.i64 0, Value.int IntKind.i64 0, Value.int IntKind.i64 0, Value.int IntKind.i64 0, Value.int IntKind.i64 0, Value.int IntKind.i64 0, Value.int IntKind.i64 0, Value.int IntKind.i64 0, Value.int IntKind.i64 0, Value.int IntKind.i64 0, Value.int IntKind.i64 0, Value.int IntKind.i64 0, Value.int IntKind.i64 0, Value.int IntKind.i64 0, Value.int IntKind.i64 0, Value.int IntKind.i64 0, Value.int IntKind.i64 0, Value.int IntKind.i64 0, Value.int IntKind.i64 0, Value.int IntKind.i64 0, Value.int IntKind.i64 0, Value.int IntKind.i64 0] 115) = w1 := ⟨_, rfl⟩
  rw [hw1] at A0 A1 B0 hs0 e0 e1 ⊢
  clear hw1
  have HA := Lib.hid A0
  have HA1 := Lib.hid A1
  have HB := Lib.hid B0
  replace hs0 := Nat.le_antisymm_iff.1 hs0
  clear A0 A1 B0
  go_step3
  go_wp2_with fail
  refine (cycles_any w1 _ n N m P lo hi (HV.out.below HB.out hhi) (by omega) HBN.out).mono ?_
  rintro e w3 ⟨vc, gc, rfl, oc, hgc, b3⟩
  obtain ⟨pc, cc, rfl⟩ := ownS_shE oc
  have hs3 := b3.size
  have HB3 := Lib.hid (HB.out.trans (b3.mono (by omega)))
  have HA3 := Lib.hid (HA.out.below b3 (by omega))
  have HA4 := Lib.hid (HA1.out.below b3 (by omega))
  generalize hY : (fun i => cyc P (fE n P m) (fD n P m) (chS n P m i)) = Y at *
  have HYE := Lib.hid hY
  have HC := Lib.hid (show OwnS w3 (.slice pc (chN n P m) cc) (chN n P m) 40 (fun j => ia (Y j)) gc by rw [← hY]; exact oc)
  clear oc b3 HB HA HA1 e0 e1 hY
  have hgc2 : gc ≠ w.heap.size ∧ gc ≠ w.heap.size + 1 ∨ chN n P m = 0 := by omega
  go_wp2_with fail
  go_step3
  go_wp2_with fail
  go_loopw [1, 6] (fun sv mv wr => ∃ (f : Nat) (x : Nat → Int) (tot st : Int), sv = .int .i64 st ∧ mv = .int .i64 tot ∧ 0 ≤ st ∧ st ≤ 32768 ∧ 0 ≤ tot ∧ tot ≤ 5000 ∧ 5000 - tot + st ≤ f ∧ rlS m P Y (chN n P m) f x tot st = rlx m P Y (chN n P m) x0 st0 ∧ (∀ k, k < m → -30000 ≤ x k ∧ x k ≤ 30000) ∧ Ob wr w.heap.size 42 (nfc (.slice p0 n c0) (.slice p1 m c1) (pad m x)) ∧ Ob wr (w.heap.size + 1) 42 (nfc (.slice none 0 0) (.slice none 0 0) (fun _ => 0)) ∧ OwnS wr (.slice pc (chN n P m) cc) (chN n P m) 40 (fun j => ia (Y j)) gc ∧ w3.heap.size ≤ wr.heap.size ∧ Below w.heap.size w wr) (fun sv mv _ => (5000 - intOf mv + intOf sv).toNat)
  case atStart => exact ⟨5000 + st0.toNat, x0, 0, st0, rfl, rfl, by omega, by omega, by omega, by omega, by omega, rfl, HX0.out, HA3.out, HA4.out, HC.out, Nat.le_refl _, HB3.out⟩
  case round =>
    obtain ⟨f, x, tot, st, rfl, rfl, s0, s1, t0, t1, hf, hrl, hxr, hob, ho1, hoc, hsz, hb⟩ := hrel
    have HRL := Lib.hid hrl
    have HXR := Lib.hid hxr
    have HOB := Lib.hid hob
    have HO1 := Lib.hid ho1
    have HOC := Lib.hid hoc
    have HBB := Lib.hid hb
    clear hrl hxr hob ho1 hoc hb HA3 HA4 HC HB3
    by_cases hs1 : 0 < st
    · have hd1 : decide (0 < st) = true := decide_eq_true hs1
      obtain ⟨f', rfl⟩ : ∃ f', f = f' + 1 := ⟨f - 1, by omega⟩
      have htot := And.intro t0 t1
      go_wp2_with fail
      go_loopw [6, 20] (fun mv iv wr2 => ∃ (k : Nat) (x' : Nat → Int) (mo : Int), mv = .int .i64 (tot + mo) ∧ iv = .int .i64 k ∧ k ≤ chN n P m ∧ (x', mo) = psS m P Y x st (5000 - tot) k ∧ Ob wr2 w.heap.size 42 (nfc (.slice p0 n c0) (.slice p1 m c1) (pad m x')) ∧ Ob wr2 (w.heap.size + 1) 42 (nfc (.slice none 0 0) (.slice none 0 0) (fun _ => 0)) ∧ OwnS wr2 (.slice pc (chN n P m) cc) (chN n P m) 40 (fun j => ia (Y j)) gc ∧ w3.heap.size ≤ wr2.heap.size ∧ Below w.heap.size w wr2) (fun _ iv _ => chN n P m - (intOf iv).toNat)
      case atStart => exact ⟨0, x, 0, by rw [Int.add_zero], rfl, Nat.zero_le _, rfl, HOB.out, HO1.out, HOC.out, hsz, HBB.out⟩
      case round =>
        obtain ⟨k, x', mo, rfl, rfl, hk, hps, hob, ho1, hoc, hsz2, hb⟩ := hrel
        have HPS := Lib.hid hps
        have hcnt : 0 ≤ mo ∧ mo ≤ 5000 - tot ∧ mo ≤ k := by
          have := psS_cnt (m := m) (P := P) (Y := Y) (x := x) (step := st) (show 0 ≤ 5000 - tot by omega) k
          rw [← hps] at this
          exact this
        have HXP := Lib.hid (show ∀ a, a < m → -30000 ≤ x' a ∧ x' a ≤ 30000 from fun a ha => by
          have := psS_rng (P := P) (Y := Y) (step := st) (left := 5000 - tot) HXR.out k a ha
          rw [← hps] at this
          exact this)
        have HOB := Lib.hid hob
        have HO1 := Lib.hid ho1
        have HC := Lib.hid hoc
        have BW := Lib.hid hb
        clear hps hob ho1 hoc hb HOC HBB
        have k0 : (0 : Int) ≤ (k : Int) := Int.natCast_nonneg _
        have hir : hi ≤ wr.heap.size := by omega
        by_cases hlt : k < chN n P m
        · have k1 : (k : Int) < (chN n P m : Int) := by omega
          obtain ⟨hcm, hcp⟩ := chS_at (n := n) (P := P) (m := m) hlt
          have HCR := Lib.hid (show ∀ a, a < 40 → -1 ≤ Y k a ∧ Y k a ≤ 1 from fun a _ => by rw [← HYE.out]; exact cyc_one HBN.out hcm hcp a)
          have HPC := Lib.hid (show ∀ t, (fun a => pad m x' a + Y k a * t) = pad m (fun a => x' a + t * Y k a) from fun t => by rw [← HYE.out]; exact pad_cyc HBN.out hcm x' t)
          have HMT := Lib.hid (show mvT m P (pad m x') (Y k) st = mvB m P x' (Y k) st by rw [← HYE.out]; exact mvT_pad HBN.out hcm)
          have HP1 := Lib.hid (show mo < 5000 - tot → mvB m P x' (Y k) st ≠ 0 → psS m P Y x st (5000 - tot) (k + 1) = (fun a => x' a + mvB m P x' (Y k) st * Y k a, mo + 1) from fun h1 h2 => ps_move HPS.out h1 h2)
          have HP2 := Lib.hid (show mo < 5000 - tot → mvB m P x' (Y k) st = 0 → psS m P Y x st (5000 - tot) (k + 1) = (x', mo) from fun h1 h2 => ps_stay HPS.out h1 (by omega) h2)
          have hmv := mvB_rng (m := m) (P := P) (x := x') (y := Y k) (st := st) (by omega)
          have HVI := Lib.hid (mvB_in (P := P) (x := x') (y := Y k) (st := st) HXP.out)
          have HMX := Lib.hid (rl_break (f := f') (by omega) htot hk HPS.out)
          obtain ⟨eq5, lg5, hKc, g5⟩ := own_rng HC.out hlt
          subst eq5
          generalize hy : Y k = y at *
          clear hy
          obtain ⟨Ly, hLy, eLy⟩ : ∃ L : List Value, arr y = List.toArray L ∧ L = arrL y := ⟨_, rfl, rfl⟩
          rw [← eLy] at g5
          have nLy : Ly.length = 40 := by rw [eLy, arr_len]
          have oLy : ∀ v ∈ Ly, v.oneCell' = true := by rw [eLy]; exact arr_oneL _
          have HLy := Lib.hid hLy
          have HEy := Lib.hid eLy
          clear hLy eLy
          have tC : (wr.alloc (.cells (arr fun _ => 0) 111)).there wr.heap.size 0 40 := (Ob.newA wr _ _).there
          generalize hmq : mvB m P x' y st = t at *
          clear hmq
          go_upto_region 8 with (first
            | (refine wpList_ixF rfl _ _ rfl gc _ _ k rfl rfl hlt ?_)
            | (refine wpList_ldF rfl _ rfl gc (k * 40) Ly rfl nLy g5 ?_)
            | (refine wpList_allocF rfl rfl ?_)
            | (refine wpList_stF rfl _ _ rfl wr.heap.size Ly rfl rfl nLy oLy tC ?_))
          clear tC g5
          have C0 := (Ob.newA wr (fun _ => 0) 111).setArr y
          rw [← HEy.out] at C0
          have bC := (below_new wr (.cells (arr fun _ => 0) 111)).trans (((Only.refl wr.heap.size (wr.alloc (.cells (arr fun _ => 0) 111))).setCs Ly 0).below (Nat.le_refl _))
          have lC := C0.lt
          obtain ⟨w5, hw5⟩ : ∃ w5, (wr.alloc (.cells (arr fun _ => 0) 111)).setCells wr.heap.size 0 Ly = w5 := ⟨_, rfl⟩
          obtain ⟨bc, hbc⟩ : ∃ bc, wr.heap.size = bc := ⟨_, rfl⟩
          rw [hw5] at C0 bC lC ⊢
          have s5 := bC.size
          rw [hbc] at C0 lC ⊢
          have hbc2 := Nat.le_antisymm_iff.1 hbc
          clear hw5 hbc
          have HC5 := Lib.hid C0
          have g1 : w5.rangeAt bc 0 Ly := by rw [HEy.out]; exact (HC5.out.congr (fun k _ => by rfl)).range
          clear C0
          have HB5 := Lib.hid (BW.out.trans (bC.mono (by omega)))
          have HOB5 := Lib.hid (HOB.out.below bC (by omega))
          have HO15 := Lib.hid (HO1.out.below bC (by omega))
          have HOC5 := Lib.hid (HC.out.below bC (by omega))
          have l5 : w.heap.size + 1 < w5.heap.size := by omega
          have gne : gc ≠ w.heap.size ∧ gc ≠ w.heap.size + 1 := by omega
          have hbd : ∀ a, a < 40 → -90000 ≤ y a * t ∧ y a * t ≤ 90000 := fun a ha => by
            have := mulc (b := 32768) hmv (HCR.out a ha)
            rw [Int.mul_comm]
            omega
          have HBD := Lib.hid hbd
          have HPR := Lib.hid (show ∀ a, -30000 ≤ pad m x' a ∧ pad m x' a ≤ 30000 from fun a => pad_rng HXP.out a)
          clear bC hbd HOB HO1 HC BW
          by_cases hmx : tot + mo = 5000
          · have hb5 : (tot + mo == 5000) = true := by simpa using hmx
            have HR := Lib.hid (show rlx m P Y (chN n P m) x0 st0 = (x', 5000) by rw [← HRL.out]; exact HMX.out hmx)
            clear HP1 HP2 HMX
            have g0 := HOB5.out.nall
            have t5 := HO15.out.there
            go_wp2_with (first
              | (refine wpList_ldN rfl _ rfl w.heap.size (.slice p0 n c0) (.slice p1 m c1) (pad m x') rfl g0 ?_)
              | (refine wpList_stN rfl _ _ rfl (w.heap.size + 1) (.slice p0 n c0) (.slice p1 m c1) (pad m x') rfl rfl rfl rfl t5 ?_))
            have a6 := HO15.out.nput (.slice p0 n c0) (.slice p1 m c1) (pad m x')
            try rw [Exit.noGoto_ret]
            refine bodyPost_ret (results_nf2 rfl rfl rfl a6) rfl ⟨by (first | rw [HYE.out, HR.out] | rw [HR.out]); try rfl, HB5.out.trans (((Only.refl (w.heap.size + 1) w5).setCs (nfL (.slice p0 n c0) (.slice p1 m c1) (pad m x')) 0).below (by omega))⟩
          · have hb5 : (tot + mo == 5000) = false := by simpa using hmx
            have hml : mo < 5000 - tot := by omega
            have hw1 : IntKind.i64.wrap (tot + mo + 1) = tot + mo + 1 := IntWalk.i64_in _ (by omega)
            have g0 := HOB5.out.nall
            by_cases ht0 : t = 0
            · have hb6 : (t != 0) = false := by simpa using ht0
              have HN := Lib.hid (HP2.out hml ht0)
              clear HP1 HP2 HMX ht0
              go_wp2_with (first
                | (refine wpList_ldN rfl _ rfl w.heap.size (.slice p0 n c0) (.slice p1 m c1) (pad m x') rfl g0 ?_)
                | (refine wpList_ldF rfl _ rfl bc 0 Ly rfl nLy g1 ?_)
                | (go_at_call 145; rw [← HLy.out]; refine (moveOf_any w5 p0 p1 c0 c1 n N m P lo hi (HV.out.below HB5.out hhi) (by omega) HBN.out (pad m x') (fun a _ => HPR.out a) y HCR.out st (by omega)).mono ?_; rintro e wX ⟨rfl, hbX⟩; rw [HMT.out]; have zX := hbX.size))
              go_roundw
              case rel => exact ⟨k + 1, x', mo, rfl, by go_num, hlt, HN.out.symm, HOB5.out.below hbX (by omega), HO15.out.below hbX (by omega), HOC5.out.below hbX (Nat.le_refl _), by omega, HB5.out.trans (hbX.mono (by omega))⟩
              case measure => simp [intOf]; omega
            · have hb6 : (t != 0) = true := by simpa using ht0
              have HN := Lib.hid (HP1.out hml ht0)
              have HPC2 := Lib.hid (HPC.out t)
              clear HP1 HP2 HMX ht0 HPC
              generalize hz : (fun a => x' a + t * y a) = z at *
              clear hz
              have HKS := Lib.hid (show ∀ W : World, Below w5.heap.size w5 W → W.rangeAt w.heap.size 0 (nfL (.slice p0 n c0) (.slice p1 m c1) (pad m x')) ∧ W.rangeAt bc 0 Ly from fun W hW => ⟨range_blockN g0 (hW.block _ (by omega)), range_blockN g1 (hW.block _ lC)⟩)
              go_upto_region 12 with (first
                | (refine wpList_ldN rfl _ rfl w.heap.size (.slice p0 n c0) (.slice p1 m c1) (pad m x') rfl g0 ?_)
                | (refine wpList_ldF rfl _ rfl bc 0 Ly rfl nLy g1 ?_)
                | (refine wpList_ldN rfl _ rfl w.heap.size (.slice p0 n c0) (.slice p1 m c1) (pad m x') rfl g2 ?_)
                | (refine wpList_ldF rfl _ rfl bc 0 Ly rfl nLy g3 ?_)
                | (go_at_call 145; rw [← HLy.out]; refine (moveOf_any w5 p0 p1 c0 c1 n N m P lo hi (HV.out.below HB5.out hhi) (by omega) HBN.out (pad m x') (fun a _ => HPR.out a) y HCR.out st (by omega)).mono ?_; rintro e wX ⟨rfl, hbX⟩; rw [HMT.out]; have zX := hbX.size; have g2 := (HKS.out wX hbX).1; have g3 := (HKS.out wX hbX).2)
                | (go_at_call 146; have hpc := plusCycle_any wX (.slice p0 n c0) (.slice p1 m c1) rfl rfl (pad m x') y t (fun a ha => by have h1 := HBD.out a ha; have h2 := HPR.out a; omega) (fun a ha => by have h1 := HBD.out a ha; omega); rw [HPC2.out, HLy.out] at hpc; refine hpc.mono ?_; clear hpc; rintro e wC ⟨rfl, hbC⟩; have zC := hbC.size; have hC5 := hbX.trans (hbC.mono zX); have t5 := (HOB5.out.below hC5 (by omega)).there)
                | (refine wpList_stN rfl _ _ rfl w.heap.size (.slice p0 n c0) (.slice p1 m c1) (pad m z) rfl rfl rfl rfl t5 ?_))
              have oy := (Only.refl w.heap.size wC).setCs (nfL (.slice p0 n c0) (.slice p1 m c1) (pad m z)) 0
              have zz : wC.heap.size ≤ (wC.setCells w.heap.size 0 (nfL (.slice p0 n c0) (.slice p1 m c1) (pad m z))).heap.size := (oy.below (B := 0) (Nat.zero_le _)).size
              have q1 := Lib.hid ((HOB5.out.below hC5 (by omega)).nput (.slice p0 n c0) (.slice p1 m c1) (pad m z))
              have q2 := Lib.hid ((HO15.out.below hC5 (by omega)).only oy (by omega))
              have q3 := Lib.hid ((HOC5.out.below hC5 (Nat.le_refl _)).keep (.inr (oy.block gc gne.1)))
              have q4 := Lib.hid ((HB5.out.trans (hC5.mono (by omega))).trans (oy.below (Nat.le_refl _)))
              obtain ⟨wS, hwS⟩ : ∃ wS, wC.setCells w.heap.size 0 (nfL (.slice p0 n c0) (.slice p1 m c1) (pad m z)) = wS := ⟨_, rfl⟩
              rw [hwS] at q1 q2 q3 q4 zz ⊢
              have zS : w3.heap.size ≤ wS.heap.size := by omega
              clear hwS oy zz g2 g3 g0 g1 hbX hbC hC5 t5
              go_wp2_with fail
              go_roundw
              case rel => exact ⟨k + 1, z, mo + 1, by rw [Int.add_assoc], by go_num, hlt, HN.out.symm, q1.out, q2.out, q3.out, zS, q4.out⟩
              case measure => simp [intOf]; omega
        · have hkn : k = chN n P m := by omega
          have HRN := Lib.hid (show rlS m P Y (chN n P m) f' x' (tot + mo) (if mo = 0 then st / 2 else st) = rlx m P Y (chN n P m) x0 st0 by rw [← rl_pass (by omega) htot (by rw [← hkn]; exact HPS.out)]; exact HRL.out)
          have k1 : ¬ ((k : Int) < (chN n P m : Int)) := by omega
          clear hkn
          by_cases hm0 : mo = 0
          · subst hm0
            have hR2 := HRN.out
            rw [if_pos rfl] at hR2
            have HR2 := Lib.hid hR2
            have hb5 : (tot + 0 == tot) = true := by simp
            have hd4 : st.tdiv 2 = st / 2 := Int.tdiv_eq_ediv_of_nonneg s0
            have hq0 : 0 ≤ st / 2 ∧ st / 2 < st := by omega
            clear hR2
            go_wp2_with fail
            go_roundw
            case rel => exact ⟨f', x', tot + 0, st / 2, rfl, rfl, by omega, by omega, by omega, by omega, by omega, HR2.out, HXP.out, HOB.out, HO1.out, HC.out, hsz2, BW.out⟩
            case measure => simp [intOf]; omega
          · have hR2 := HRN.out
            rw [if_neg hm0] at hR2
            have HR2 := Lib.hid hR2
            have hb5 : (tot + mo == tot) = false := by simpa using (show ¬ tot + mo = tot by omega)
            clear hR2
            go_wp2_with fail
            go_roundw
            case rel => exact ⟨f', x', tot + mo, st, rfl, rfl, by omega, by omega, by omega, by omega, by omega, HR2.out, HXP.out, HOB.out, HO1.out, HC.out, hsz2, BW.out⟩
            case measure => simp [intOf]; omega
    · have hd1 : decide (0 < st) = false := decide_eq_false hs1
      have HR := Lib.hid (show rlx m P Y (chN n P m) x0 st0 = (x, tot) by rw [← HRL.out, rlS_stop (by omega)])
      have g0 := HOB.out.nall
      have t5 := HO1.out.there
      go_wp2_with (first
        | (refine wpList_ldN rfl _ rfl w.heap.size (.slice p0 n c0) (.slice p1 m c1) (pad m x) rfl g0 ?_)
        | (refine wpList_stN rfl _ _ rfl (w.heap.size + 1) (.slice p0 n c0) (.slice p1 m c1) (pad m x) rfl rfl rfl rfl t5 ?_))
      have a6 := HO1.out.nput (.slice p0 n c0) (.slice p1 m c1) (pad m x)
      try rw [Exit.noGoto_ret]
      refine bodyPost_ret (results_nf2 rfl rfl rfl a6) rfl ⟨by (first | rw [HYE.out, HR.out] | rw [HR.out]); try rfl, HBB.out.trans (((Only.refl (w.heap.size + 1) wr).setCs (nfL (.slice p0 n c0) (.slice p1 m c1) (pad m x)) 0).below (by omega))⟩
end Go.Proofs.YtdbgcbkmcbgdiaaGreat.mem
