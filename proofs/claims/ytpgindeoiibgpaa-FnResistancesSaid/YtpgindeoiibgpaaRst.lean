/-
  Chapter 9's program and specification: DropFor, BestResistance. Conditions: as each states.
-/
import Derived.Test.YtpgindeoiibgpaaRsq
namespace Go.Proofs.Ytpgindeoiibgpaa.rst
open Go.RowKit Go.Proofs.Ytpgindeoiibgpaa.num Go.Proofs.Ytpgindeoiibgpaa.share Go.Proofs.Ytpgindeoiibgpaa.mem
set_option linter.unusedVariables false

theorem cell_two0 (w : World) (v u : Value) (t s : TypeId) : ((w.alloc (.cells #[v] t)).alloc (.cells #[u] s)).cell? ⟨w.heap.size, 0, none⟩ = some v := by
  have e := Below.heap_alloc (w.alloc (.cells #[v] t)) (.cells #[u] s) w.heap.size (by simp)
  exact (World.cell?_of_block (a := ⟨w.heap.size, 0, none⟩) e).trans (cell_one w v t)
theorem cell_two1 (w : World) (v u : Value) (t s : TypeId) : ((w.alloc (.cells #[v] t)).alloc (.cells #[u] s)).cell? ⟨w.heap.size + 1, 0, none⟩ = some u := by
  have h := cell_one (w.alloc (.cells #[v] t)) u s
  have e : (w.alloc (.cells #[v] t)).heap.size = w.heap.size + 1 := by simp
  rw [e] at h
  exact h
theorem below_two (w : World) (o q : Obj) : Below w.heap.size w ((w.alloc o).alloc q) := belowNext (below_new w o) (below_new _ q)
theorem drop_no (n : Nat) (d : Nat → Int) (f r c : Int) (h : DropIs n d f r) (g : codR n d = c) (h0 : c ≠ 0) : 0 = r ∧ c = dropC n d f := by
  subst g
  have e : dropC n d f = codR n d := by unfold dropC cod; rw [if_neg h0]
  exact ⟨(h.no (by rw [e]; exact h0)).symm, e.symm⟩
theorem drop_no2 (n : Nat) (d : Nat → Int) (f r : Int) (h : DropIs n d f r) (g : codR n d = 0) (h0 : inR f 0 30000 = false) : 0 = r ∧ 2 = dropC n d f := by
  have e : dropC n d f = 2 := by unfold dropC cod; rw [if_pos g, if_neg (by rw [h0]; simp)]
  exact ⟨(h.no (by rw [e]; omega)).symm, e.symm⟩
theorem drop_yes (n : Nat) (d : Nat → Int) (f r : Int) (h : DropIs n d f r) (g : codR n d = 0) (h0 : inR f 0 30000 = true) : IsDrop d n f r ∧ 0 = dropC n d f := by
  have e : dropC n d f = 0 := by unfold dropC cod; rw [if_pos g, if_pos h0]
  exact ⟨h.yes e, e.symm⟩
set_option maxRecDepth 100000 in
set_option maxHeartbeats 4000000 in
theorem DropFor_any (w : World) (v : Value) (n : Nat) (d : Nat → Int) (lo hi : Nat) (f r : Int) (h : Sl w v n d lo hi) (hn : n ≤ 9223372036854775807) (hhi : hi ≤ w.heap.size) (hr : DropIs n d f r) :
    Calls Try.prog 14 #[v, .int .i64 f] w fun e w' => e = .returned (.tuple #[.int .i64 r, .int .i64 (dropC n d f)]) ∧ Below w.heap.size w w' := by
  have hsl := h
  obtain ⟨p, cap, rfl, hc⟩ := h
  clear hc
  have y0 := cell_two0 w (.slice p n cap) (.int .i64 f) 24 2
  have y1 := cell_two1 w (.slice p n cap) (.int .i64 f) 24 2
  have hB := below_two w (.cells #[.slice p n cap] 24) (.cells #[.int .i64 f] 2)
  have HB := Lib.hid hB
  have HE : Hid (EnD _ w.heap.size (w.heap.size + 1) (.slice p n cap) n d f lo hi) := Lib.hid ⟨y0, y1, hsl.below hB hhi, Nat.le_trans hhi hB.size⟩
  have hSL := HE.out.sl
  have HSL := Lib.hid hSL
  clear hsl hB
  generalize hc : codR n d = c
  have HC := Lib.hid hc
  by_cases h0 : c = 0
  · obtain ⟨n0, n8, hR⟩ := codR_facts (hc.trans h0)
    have HR := Lib.hid hR
    subst h0
    clear hR
    cases hx : inR f 0 30000
    · have HX := Lib.hid hx
      have HV := Lib.hid (drop_no2 n d f r hr hc hx)
      clear hx hc hr hSL
      go_enter Try.func14, Try.ntmps14
      go_wp2_with (first | (go_at_call 38; refine (checkR_any _ _ n d _ _ HSL.out hn).mono ?_; rintro e w' ⟨rfl, rfl⟩; rw [HC.out]) | (go_at_call 39; refine (num.inRange_any _ _ _ _).mono ?_; rintro e w' ⟨rfl, rfl⟩; rw [HX.out]))
      go_ret2
      exact ⟨ret_t HV.out.1 HV.out.2, HB.out⟩
    · have HX := Lib.hid hx
      have HV := Lib.hid (drop_yes n d f r hr hc hx)
      have hf := inR_iff.1 hx
      have hk := HR.out 0 n0
      obtain ⟨⟨a1, a2⟩, a3, a4⟩ := enough_bd hk hf
      have HQ := Lib.hid (drv_enough HR.out n0 hf)
      have e1 : IntKind.i64.wrap (d 0 * f) = d 0 * f := IntWalk.i64_in _ (by omega)
      have e2 : IntKind.i64.wrap (d 0 * f * f) = d 0 * f * f := IntWalk.i64_in _ (by omega)
      have n1 : (0 : Int) < (n : Int) := by omega
      have mf : ∀ (fn : Fn) (first cap : Array Value) (w : World), (Instr.makeFunc fn first cap).run Try.prog w = .ok (.func fn first cap) w := fun _ _ _ _ => rfl
      obtain ⟨p', cap', ee, hcc⟩ := hSL
      injection ee with ee1 _ ee3
      subst ee1 ee3
      obtain ⟨b, o, rfl, _, _, hcc⟩ : ∃ b o, p = some ⟨b, o, none⟩ ∧ lo ≤ b ∧ b < hi ∧ ∀ k, k < n → World.cell? _ ⟨b, o + k, none⟩ = some (.int .i64 (d k)) := by
        rcases hcc with e | e
        · omega
        · exact e
      have y2 := hcc 0 n0
      rw [Nat.add_zero] at y2
      clear hx hc hr hcc
      go_enter Try.func14, Try.ntmps14
      go_wp2_with (first | (go_at_call 38; refine (checkR_any _ _ n d _ _ HSL.out hn).mono ?_; rintro e w' ⟨rfl, rfl⟩; rw [HC.out]) | (go_at_call 39; refine (num.inRange_any _ _ _ _).mono ?_; rintro e w' ⟨rfl, rfl⟩; rw [HX.out]))
      go_quiet (fail)
      have HE2 := HE.out.next (mem.below_drewN (Below.refl _ _) nq)
      go_wp2_with (go_at_call 40; refine (least_drop _ _ _ _ n d f _ lo hi HE2 n8 HR.out a3 a4).mono ?_; rintro e w2 ⟨⟨r2, rfl, hL⟩, b2⟩)
      go_ret2
      exact ⟨ret_t ((hL.wide HQ.out a4).uniq HV.out.1) HV.out.2, HB.out.trans ((mem.below_drewN (Below.refl _ _) nq).trans (b2.mono (Nat.le_trans HB.out.size (Nat.le_refl _))))⟩
  · have hb : (c != 0) = true := by simpa using h0
    have HV := Lib.hid (drop_no n d f r c hr hc h0)
    clear hc h0 hr hSL
    go_enter Try.func14, Try.ntmps14
    go_wp2_with (go_at_call 38; refine (checkR_any _ _ n d _ _ HSL.out hn).mono ?_; rintro e w' ⟨rfl, rfl⟩; rw [HC.out])
    go_ret2
    exact ⟨ret_t HV.out.1 HV.out.2, HB.out⟩

/-- what BestResistance tells -/
def bstC (f x r : Int) : Int := if (inR f 0 30000 && inR x 0 1000000000000000000) = true then (if r = 1 then 4 else 0) else 2
def bstV (f x r : Int) : Int := if (inR f 0 30000 && inR x 0 1000000000000000000) = true then (if r = 1 then 0 else r - 1) else 0
theorem bst_no {f x r : Int} (h : (inR f 0 30000 && inR x 0 1000000000000000000) = false) : 0 = bstV f x r ∧ 2 = bstC f x r := by
  unfold bstV bstC
  rw [h]
  exact ⟨rfl, rfl⟩
theorem bst_one {f x r : Int} (h : (inR f 0 30000 && inR x 0 1000000000000000000) = true) (h1 : r = 1) : 0 = bstV f x r ∧ 4 = bstC f x r := by
  unfold bstV bstC
  rw [if_pos h, if_pos h, if_pos h1, if_pos h1]
  exact ⟨rfl, rfl⟩
theorem bst_yes {f x r : Int} (h : (inR f 0 30000 && inR x 0 1000000000000000000) = true) (h1 : ¬ r = 1) : r - 1 = bstV f x r ∧ 0 = bstC f x r := by
  unfold bstV bstC
  rw [if_pos h, if_pos h, if_neg h1, if_neg h1]
  exact ⟨rfl, rfl⟩
theorem best_ex (f x : Int) : ∃ r, Lst (Tgr f x) 1 1001 r := lst_ex _ 1 1000 1001 (by omega)
set_option maxRecDepth 100000 in
set_option maxHeartbeats 4000000 in
theorem BestResistance_any (f x r : Int) (w : World) (hr : Lst (Tgr f x) 1 1001 r) :
    Calls Try.prog 24 #[.int .i64 f, .int .i64 x] w fun e w' => e = .returned (.tuple #[.int .i64 (bstV f x r), .int .i64 (bstC f x r)]) ∧ Below w.heap.size w w' := by
  have y0 := cell_two0 w (.int .i64 f) (.int .i64 x) 2 2
  have y1 := cell_two1 w (.int .i64 f) (.int .i64 x) 2 2
  have hB := below_two w (.cells #[.int .i64 f] 2) (.cells #[.int .i64 x] 2)
  have HB := Lib.hid hB
  have HE : Hid (EnB _ (w.heap.size + 1) w.heap.size x f) := Lib.hid ⟨y1, y0⟩
  clear hB
  cases hf : inR f 0 30000
  · have HV := Lib.hid (bst_no (r := r) (show (inR f 0 30000 && inR x 0 1000000000000000000) = false by rw [hf]; rfl))
    have HF := Lib.hid hf
    clear hf hr
    go_enter Try.func24, Try.ntmps24
    go_wp2_with (go_at_call 39; refine (num.inRange_any _ _ _ _).mono ?_; rintro e w' ⟨rfl, rfl⟩; rw [HF.out])
    go_ret2
    exact ⟨ret_t HV.out.1 HV.out.2, HB.out⟩
  cases hx : inR x 0 1000000000000000000
  · have HV := Lib.hid (bst_no (r := r) (show (inR f 0 30000 && inR x 0 1000000000000000000) = false by rw [hf, hx]; rfl))
    have HF := Lib.hid hf
    have HX := Lib.hid hx
    clear hf hr hx
    go_enter Try.func24, Try.ntmps24
    go_wp2_with (go_at_call 39; refine (num.inRange_any _ _ _ _).mono ?_; rintro e w' ⟨rfl, rfl⟩; first | rw [HF.out] | rw [HX.out])
    go_ret2
    exact ⟨ret_t HV.out.1 HV.out.2, HB.out⟩
  · have hok : (inR f 0 30000 && inR x 0 1000000000000000000) = true := by rw [hf, hx]; rfl
    have HF := Lib.hid hf
    have HX := Lib.hid hx
    have hx' := inR_iff.1 hx
    have hge := hr.ge
    have hle := hr.le
    have HR := Lib.hid hr
    clear hf hx hr
    have mf : ∀ (fn : Fn) (first cap : Array Value) (w : World), (Instr.makeFunc fn first cap).run Try.prog w = .ok (.func fn first cap) w := fun _ _ _ _ => rfl
    by_cases h1 : r = 1
    · have HV := Lib.hid (bst_one hok h1)
      have hb : (r == 1) = true := by simpa using h1
      have H1 := Lib.hid h1
      clear h1 hok
      go_enter Try.func24, Try.ntmps24
      go_wp2_with (first | (go_at_call 39; refine (num.inRange_any _ _ _ _).mono ?_; rintro e w' ⟨rfl, rfl⟩; first | rw [HF.out] | rw [HX.out]) | (go_at_call 40; refine (least_best _ _ _ x f HE.out hx'.1 hx'.2).mono ?_; rintro e w2 ⟨⟨r2, rfl, hL⟩, b2⟩; obtain rfl := hL.uniq HR.out))
      go_ret2
      exact ⟨ret_t HV.out.1 HV.out.2, HB.out.trans (b2.mono HB.out.size)⟩
    · have HV := Lib.hid (bst_yes hok h1)
      have hb : (r == 1) = false := by simpa using h1
      clear h1 hok
      go_enter Try.func24, Try.ntmps24
      go_wp2_with (first | (go_at_call 39; refine (num.inRange_any _ _ _ _).mono ?_; rintro e w' ⟨rfl, rfl⟩; first | rw [HF.out] | rw [HX.out]) | (go_at_call 40; refine (least_best _ _ _ x f HE.out hx'.1 hx'.2).mono ?_; rintro e w2 ⟨⟨r2, rfl, hL⟩, b2⟩; obtain rfl := hL.uniq HR.out))
      go_ret2
      exact ⟨ret_t HV.out.1 HV.out.2, HB.out.trans (b2.mono HB.out.size)⟩
/-- the specification's search from above -/
theorem sBestResistance_any (f x r : Int) (w : World) (hr : Lst (Tgr f x) 1 1001 r) :
    Calls Try.prog 25 #[.int .i64 f, .int .i64 x] w fun e w' => e = .returned (.tuple #[.int .i64 (bstV f x r), .int .i64 (bstC f x r)]) ∧ w = w' := by
  cases hf : inR f 0 30000
  · have HV := Lib.hid (bst_no (r := r) (show (inR f 0 30000 && inR x 0 1000000000000000000) = false by rw [hf]; rfl))
    have HF := Lib.hid hf
    clear hf hr
    go_enter Try.func25, Try.ntmps25
    go_wp2_with (go_at_call 45; refine (num.l01In_any _ _ _ _).mono ?_; rintro e w' ⟨rfl, rfl⟩; rw [HF.out])
    go_ret2
    exact ⟨ret_t HV.out.1 HV.out.2, rfl⟩
  cases hx : inR x 0 1000000000000000000
  · have HV := Lib.hid (bst_no (r := r) (show (inR f 0 30000 && inR x 0 1000000000000000000) = false by rw [hf, hx]; rfl))
    have HF := Lib.hid hf
    have HX := Lib.hid hx
    clear hf hr hx
    go_enter Try.func25, Try.ntmps25
    go_wp2_with (go_at_call 45; refine (num.l01In_any _ _ _ _).mono ?_; rintro e w' ⟨rfl, rfl⟩; first | rw [HF.out] | rw [HX.out])
    go_ret2
    exact ⟨ret_t HV.out.1 HV.out.2, rfl⟩
  · have hok : (inR f 0 30000 && inR x 0 1000000000000000000) = true := by rw [hf, hx]; rfl
    have HOK := Lib.hid hok
    have HF := Lib.hid hf
    have HX := Lib.hid hx
    have hx' := inR_iff.1 hx
    have hge := hr.ge
    have hle := hr.le
    have HR := Lib.hid hr
    clear hf hx hr hok
    go_enter Try.func25, Try.ntmps25
    go_wp2_with (go_at_call 45; refine (num.l01In_any _ _ _ _).mono ?_; rintro e w' ⟨rfl, rfl⟩; first | rw [HF.out] | rw [HX.out])
    go_loop [6] (fun a => ∃ k : Int, a = .int .i64 k ∧ r - 1 ≤ k ∧ k ≤ 1000) (fun a => (intOf a).toNat)
    case atStart => exact ⟨_, rfl, by omega, by omega⟩
    case round =>
      obtain ⟨k, rfl, k0, k1⟩ := hrel
      by_cases hk : 1 ≤ k
      · by_cases hc : f ≤ flw k x
        · have hkr : k = r - 1 := by
            rcases Int.lt_or_le k r with h | h
            · omega
            · have := Tgr.mono hx'.1 HR.out.ge h (HR.out.yes (by omega))
              unfold Tgr at this
              omega
          have HV := Lib.hid (bst_yes HOK.out (show ¬ r = 1 by omega))
          have HK := Lib.hid hkr
          have hd : decide (f ≤ flw k x) = true := by simpa using hc
          clear hkr hc
          go_wp2_with (go_at_call 47; refine (l09Flow_any _ _ _ (by omega) hx'.1 hx'.2).mono ?_; rintro e w' ⟨rfl, rfl⟩)
          go_ret2
          exact ⟨ret_t (HK.out.trans HV.out.1) HV.out.2, rfl⟩
        · have hkr : r ≤ k := by
            rcases Int.lt_or_le k r with h | h
            · have := HR.out.no k hk h
              unfold Tgr at this
              omega
            · exact h
          have hd : decide (f ≤ flw k x) = false := by simpa using hc
          go_wp2_with (go_at_call 47; refine (l09Flow_any _ _ _ (by omega) hx'.1 hx'.2).mono ?_; rintro e w' ⟨rfl, rfl⟩)
          go_round
          case rel => exact ⟨_, rfl, by omega, by omega⟩
          case measure => simp [intOf]; omega
      · have HV := Lib.hid (bst_one HOK.out (show r = 1 by omega))
        go_wp2_with fail
        go_ret2
        exact ⟨ret_t HV.out.1 HV.out.2, rfl⟩
end Go.Proofs.Ytpgindeoiibgpaa.rst
