/-
  Chapter 9's specification: contracts of its functions. Conditions: as each states.
-/
import Derived.Test.YtpgindeoiibgpaaRsp
namespace Go.Proofs.Ytpgindeoiibgpaa.rst
open Go.RowKit Go.Proofs.Ytpgindeoiibgpaa.num Go.Proofs.Ytpgindeoiibgpaa.share Go.Proofs.Ytpgindeoiibgpaa.mem
set_option linter.unusedVariables false

theorem l09Is_any (k : Int) (w : World) : Calls Try.prog 55 #[.int .i64 k] w fun e w' => e = .returned (.bool (inR k 1 1000)) ∧ w = w' := by
  go_enter Try.func55, Try.ntmps55
  go_wp2_with (go_at_call 45; refine (num.l01In_any _ _ _ _).mono ?_; rintro e w' ⟨rfl, rfl⟩)
  go_ret
  exact ⟨rfl, rfl⟩
theorem codR_lim {n : Nat} {d : Nat → Int} (h : inR (n : Int) 1 8 = false) : codR n d = 3 := by
  unfold codR
  rw [if_pos]
  rcases inR_no.1 h with h | h <;> omega
theorem codR_lim0 {n : Nat} (h : inR (n : Int) 1 8 = true) : ¬ (n = 0 ∨ 8 < n) := by
  have := inR_iff.1 h
  omega
set_option maxHeartbeats 4000000 in
theorem l09Code_any (w : World) (v : Value) (n : Nat) (d : Nat → Int) (lo hi : Nat) (h : Sl w v n d lo hi) (hn : n ≤ 9223372036854775807) :
    Calls Try.prog 44 #[v] w fun e w' => e = .returned (.int .i64 (codR n d)) ∧ w = w' := by
  obtain ⟨p, cap, rfl, hc⟩ := h
  have HC := Lib.hid hc
  clear hc
  cases hl : inR (n : Int) 1 8
  · have HCD := Lib.hid (codR_lim (d := d) hl)
    have HL := Lib.hid hl
    clear hl
    go_enter Try.func44, Try.ntmps44
    go_wp2_with (go_at_call 45; refine (num.l01In_any _ _ _ _).mono ?_; rintro e w' ⟨rfl, rfl⟩; rw [HL.out])
    go_ret
    exact ⟨ret_i (by rw [HCD.out]), rfl⟩
  · have HNL := Lib.hid (codR_lim0 hl)
    have HL := Lib.hid hl
    have hn8 : n ≤ 8 := by have := inR_iff.1 hl; omega
    clear hl
    go_enter Try.func44, Try.ntmps44
    go_wp2_with (go_at_call 45; refine (num.l01In_any _ _ _ _).mono ?_; rintro e w' ⟨rfl, rfl⟩; rw [HL.out])
    go_loopw [3] (fun i wr => ∃ k : Nat, i = .int .i64 k ∧ k ≤ n ∧ irB 1 1000 d k = true ∧ w = wr) (fun i _ => n - (intOf i).toNat)
    case atStart => exact ⟨0, rfl, Nat.zero_le _, rfl, rfl⟩
    case round =>
      obtain ⟨k, rfl, hk, hb, rfl⟩ := hrel
      have HF := Lib.hid hb
      clear hb
      by_cases hlt : k < n
      · have k1 : (k : Int) < (n : Int) := by omega
        rcases HC.out with h0 | ⟨b, o, rfl, g1, g2, g3⟩
        · omega
        have y0 := g3 k hlt
        clear g3
        cases hq : inR (d k) 1 1000
        · have HR := Lib.hid (irB_no hlt hq)
          have HQ := Lib.hid hq
          clear hq
          go_wp2_with (go_at_call 55; refine (l09Is_any _ _).mono ?_; rintro e w' ⟨rfl, rfl⟩; rw [HQ.out])
          go_ret
          exact ⟨ret_i (by unfold codR; rw [if_neg HNL.out, if_neg (by rw [HR.out]; simp)]), rfl⟩
        · have HR := Lib.hid (show irB 1 1000 d (k + 1) = true by unfold irB; rw [HF.out, hq]; rfl)
          have HQ := Lib.hid hq
          clear hq
          go_wp2_with (go_at_call 55; refine (l09Is_any _ _).mono ?_; rintro e w' ⟨rfl, rfl⟩; rw [HQ.out])
          go_roundw
          case rel => exact ⟨k + 1, by go_num, hlt, HR.out, by trivial⟩
          case measure => simp [intOf]; omega
      · have hkn : k = n := by omega
        subst hkn
        have k1 : ¬ ((k : Int) < (k : Int)) := by omega
        go_wp2_with fail
        go_ret
        exact ⟨ret_i (by unfold codR; rw [if_neg HNL.out, if_pos HF.out]), rfl⟩
theorem sSeriesOf_any (w : World) (v : Value) (n : Nat) (d : Nat → Int) (lo hi : Nat) (h : Sl w v n d lo hi) (hn : n ≤ 9223372036854775807) :
    Calls Try.prog 28 #[v] w fun e w' => e = .returned (.tuple #[.int .i64 (serV n d), .int .i64 (codR n d)]) ∧ w = w' := by
  have H := Lib.hid h
  obtain ⟨p, cap, rfl, hc⟩ := h
  clear hc
  unfold serV
  generalize hc : codR n d = c
  have HC := Lib.hid hc
  by_cases h0 : c = 0
  · obtain ⟨n0, n8, hR⟩ := codR_facts (hc.trans h0)
    have HS := Lib.hid (ress_sums hR n8)
    subst h0
    clear hc hR
    go_enter Try.func28, Try.ntmps28
    go_wp2_with (first | (go_at_call 44; refine (l09Code_any _ _ n d _ _ H.out hn).mono ?_; rintro e w' ⟨rfl, rfl⟩; rw [HC.out]) | (go_at_call 53; refine (l01Sum_any _ _ n d _ _ H.out HS.out (by omega)).mono ?_; rintro e w' ⟨rfl, rfl⟩))
    go_ret2
    exact ⟨rfl, rfl⟩
  · have hb : (c != 0) = true := by simpa using h0
    rw [if_neg h0]
    clear hc h0
    go_enter Try.func28, Try.ntmps28
    go_wp2_with (go_at_call 44; refine (l09Code_any _ _ n d _ _ H.out hn).mono ?_; rintro e w' ⟨rfl, rfl⟩; rw [HC.out])
    go_ret2
    exact ⟨rfl, rfl⟩
theorem sFlowFor_any (k x : Int) (w : World) : Calls Try.prog 32 #[.int .i64 k, .int .i64 x] w fun e w' => e = .returned (.tuple #[.int .i64 (flV k x), .int .i64 (flC k x)]) ∧ w = w' := by
  unfold flV flC
  cases hk : inR k 1 1000 <;> cases hx : inR x 0 1000000000000000000
  case true.true =>
    have hk' := inR_iff.1 hk
    have hx' := inR_iff.1 hx
    have HK := Lib.hid hk
    have HX := Lib.hid hx
    clear hk hx
    go_enter Try.func32, Try.ntmps32
    go_wp2_with (first | (go_at_call 55; refine (l09Is_any _ _).mono ?_; rintro e w' ⟨rfl, rfl⟩; rw [HK.out]) | (go_at_call 45; refine (num.l01In_any _ _ _ _).mono ?_; rintro e w' ⟨rfl, rfl⟩; rw [HX.out]) | (go_at_call 47; refine (l09Flow_any _ _ _ hk' hx'.1 hx'.2).mono ?_; rintro e w' ⟨rfl, rfl⟩))
    go_ret2
    exact ⟨by simp, rfl⟩
  all_goals
    have HK := Lib.hid hk
    have HX := Lib.hid hx
    clear hk hx
    go_enter Try.func32, Try.ntmps32
    go_wp2_with (first | (go_at_call 55; refine (l09Is_any _ _).mono ?_; rintro e w' ⟨rfl, rfl⟩; rw [HK.out]) | (go_at_call 45; refine (num.l01In_any _ _ _ _).mono ?_; rintro e w' ⟨rfl, rfl⟩; rw [HX.out]))
    go_ret2
    exact ⟨by simp, rfl⟩
theorem tot_step (d : Nat → Int) (x : Int) (k : Nat) : tot (fls d x) k + flw (d k) x = tot (fls d x) (k + 1) := rfl
set_option maxHeartbeats 4000000 in
theorem l09Parallel_any (w : World) (v : Value) (n : Nat) (d : Nat → Int) (lo hi : Nat) (x : Int) (h : Sl w v n d lo hi) (hn : n ≤ 8) (hR : Ress d n) (h0 : 0 ≤ x) (h1 : x ≤ 1000000000000000000) :
    Calls Try.prog 54 #[v, .int .i64 x] w fun e w' => e = .returned (.int .i64 (tot (fls d x) n)) ∧ w = w' := by
  obtain ⟨p, cap, rfl, hc⟩ := h
  have HC := Lib.hid hc
  have HR := Lib.hid hR
  have HS := Lib.hid (fls_sums hR hn h0 h1)
  clear hc hR
  go_enter Try.func54, Try.ntmps54
  go_wp2_with fail
  go_loop [5, 6] (fun q i => ∃ j : Nat, q = .int .i64 (tot (fls d x) j) ∧ i = .int .i64 j ∧ j ≤ n) (fun _ i => n - (intOf i).toNat)
  case atStart => exact ⟨0, rfl, rfl, Nat.zero_le _⟩
  case round =>
    obtain ⟨j, rfl, rfl, hj⟩ := hrel
    by_cases hlt : j < n
    · rcases HC.out with h0 | ⟨b, o, rfl, g1, g2, g3⟩
      · omega
      have c1 := g3 j hlt
      have s1 := HS.out j hj
      have s2 := HS.out (j + 1) hlt
      have s3 : 0 ≤ tot (fls d x) j + flw (d j) x ∧ tot (fls d x) j + flw (d j) x ≤ 1000000000000 := by rw [tot_step]; exact s2
      have hdk := HR.out j hlt
      clear g3 s2
      go_wp2_with (go_at_call 47; refine (l09Flow_any _ _ _ hdk h0 h1).mono ?_; rintro e w' ⟨rfl, rfl⟩)
      go_round
      case rel => exact ⟨j + 1, rfl, by go_num, hlt⟩
      case measure => simp [intOf]; omega
    · obtain rfl : j = n := by omega
      go_wp2_with fail
      go_ret
      exact ⟨rfl, rfl⟩
/-- the code of a list and a number -/
def cod (n : Nat) (d : Nat → Int) (x lo hi : Int) : Int := if codR n d = 0 then (if inR x lo hi = true then 0 else 2) else codR n d
theorem cod_facts {n : Nat} {d : Nat → Int} {x lo hi : Int} (h : cod n d x lo hi = 0) : codR n d = 0 ∧ inR x lo hi = true := by
  unfold cod at h
  split at h
  · rename_i h0
    split at h
    · rename_i h1; exact ⟨h0, h1⟩
    · omega
  · rename_i h0; exact absurd h h0
def parV (n : Nat) (d : Nat → Int) (x : Int) : Int := if cod n d x 0 1000000000000000000 = 0 then tot (fls d x) n else 0
def parC (n : Nat) (d : Nat → Int) (x : Int) : Int := cod n d x 0 1000000000000000000
theorem par_yes {n : Nat} {d : Nat → Int} {x : Int} (h : codR n d = 0) (g : inR x 0 1000000000000000000 = true) : tot (fls d x) n = parV n d x ∧ 0 = parC n d x := by
  have e : cod n d x 0 1000000000000000000 = 0 := by unfold cod; rw [if_pos h, if_pos g]
  exact ⟨by unfold parV; rw [if_pos e], e.symm⟩
theorem par_no2 {n : Nat} {d : Nat → Int} {x : Int} (h : codR n d = 0) (g : inR x 0 1000000000000000000 = false) : 0 = parV n d x ∧ 2 = parC n d x := by
  have e : cod n d x 0 1000000000000000000 = 2 := by unfold cod; rw [if_pos h, if_neg (by rw [g]; simp)]
  exact ⟨by unfold parV; rw [if_neg (by omega)], e.symm⟩
theorem par_no {n : Nat} {d : Nat → Int} {x c : Int} (h : codR n d = c) (g : c ≠ 0) : 0 = parV n d x ∧ c = parC n d x := by
  subst h
  have e : cod n d x 0 1000000000000000000 = codR n d := by unfold cod; rw [if_neg g]
  exact ⟨by unfold parV; rw [if_neg (by omega)], e.symm⟩
theorem sParallelFlow_any (w : World) (v : Value) (n : Nat) (d : Nat → Int) (lo hi : Nat) (x : Int) (h : Sl w v n d lo hi) (hn : n ≤ 9223372036854775807) :
    Calls Try.prog 29 #[v, .int .i64 x] w fun e w' => e = .returned (.tuple #[.int .i64 (parV n d x), .int .i64 (parC n d x)]) ∧ w = w' := by
  have H := Lib.hid h
  obtain ⟨p, cap, rfl, hc⟩ := h
  clear hc
  generalize hc : codR n d = c
  have HC := Lib.hid hc
  by_cases h0 : c = 0
  · obtain ⟨n0, n8, hR⟩ := codR_facts (hc.trans h0)
    have HR := Lib.hid hR
    subst h0
    clear hR
    cases hx : inR x 0 1000000000000000000
    · have HX := Lib.hid hx
      have HV := Lib.hid (par_no2 hc hx)
      clear hx hc
      go_enter Try.func29, Try.ntmps29
      go_wp2_with (first | (go_at_call 44; refine (l09Code_any _ _ n d _ _ H.out hn).mono ?_; rintro e w' ⟨rfl, rfl⟩; rw [HC.out]) | (go_at_call 45; refine (num.l01In_any _ _ _ _).mono ?_; rintro e w' ⟨rfl, rfl⟩; rw [HX.out]))
      go_ret2
      exact ⟨ret_t HV.out.1 HV.out.2, rfl⟩
    · have HX := Lib.hid hx
      have HV := Lib.hid (par_yes hc hx)
      have hx' := inR_iff.1 hx
      clear hx hc
      go_enter Try.func29, Try.ntmps29
      go_wp2_with (first | (go_at_call 44; refine (l09Code_any _ _ n d _ _ H.out hn).mono ?_; rintro e w' ⟨rfl, rfl⟩; rw [HC.out]) | (go_at_call 45; refine (num.l01In_any _ _ _ _).mono ?_; rintro e w' ⟨rfl, rfl⟩; rw [HX.out]) | (go_at_call 54; refine (l09Parallel_any _ _ n d _ _ x H.out n8 HR.out hx'.1 hx'.2).mono ?_; rintro e w' ⟨rfl, rfl⟩))
      go_ret2
      exact ⟨ret_t HV.out.1 HV.out.2, rfl⟩
  · have hb : (c != 0) = true := by simpa using h0
    have hb2 : (c == 0) = false := by simpa using h0
    have HV := Lib.hid (par_no (x := x) hc h0)
    clear hc h0
    go_enter Try.func29, Try.ntmps29
    go_wp2_with (go_at_call 44; refine (l09Code_any _ _ n d _ _ H.out hn).mono ?_; rintro e w' ⟨rfl, rfl⟩; rw [HC.out])
    go_ret2
    exact ⟨ret_t HV.out.1 HV.out.2, rfl⟩
theorem mid_drop {l h : Int} (h0 : 0 ≤ l) (h1 : l < h) (h2 : h ≤ 900000000000) : 0 ≤ (l + h) / 2 ∧ l ≤ (l + h) / 2 ∧ (l + h) / 2 < h ∧ (l + h) / 2 ≤ 900000000000 := by omega
set_option maxHeartbeats 4000000 in
theorem l09Drop_any (w : World) (v : Value) (n : Nat) (d : Nat → Int) (lo hi : Nat) (f : Int) (r : Int) (h : Sl w v n d lo hi) (hn : n ≤ 8) (hR : Ress d n) (hr : IsDrop d n f r) :
    Calls Try.prog 46 #[v, .int .i64 f] w fun e w' => e = .returned (.int .i64 r) ∧ w = w' := by
  have H := Lib.hid h
  obtain ⟨p, cap, rfl, hc⟩ := h
  clear hc
  have HR := Lib.hid hR
  have HI := Lib.hid hr
  clear hR hr
  go_enter Try.func46, Try.ntmps46
  go_wp2_with fail
  go_loop [5, 6] (fun a b => ∃ l h : Int, a = .int .i64 l ∧ b = .int .i64 h ∧ Hlv (Drv d n f) 0 900000000000 l h) (fun a b => (intOf b - intOf a).toNat)
  case atStart => exact ⟨_, _, rfl, rfl, Hlv.start _ (by omega)⟩
  case round =>
    obtain ⟨l, h, rfl, rfl, g⟩ := hrel
    have HG := Lib.hid g
    have l0 := g.a
    have h9 := g.c
    by_cases hlt : l < h
    · obtain ⟨m1, m2, m3, m4⟩ := mid_drop l0 hlt h9
      clear g
      by_cases hc : f ≤ tot (fls d ((l + h) / 2)) n
      · have HP := Lib.hid (HG.out.down m2 m3 hc)
        go_wp2_with (go_at_call 54; refine (l09Parallel_any _ _ n d _ _ _ H.out hn HR.out (by omega) (by omega)).mono ?_; rintro e w' ⟨rfl, rfl⟩)
        go_round
        case rel => exact ⟨_, _, rfl, rfl, HP.out⟩
        case measure => simp [intOf]; omega
      · have HP := Lib.hid (HG.out.up (fun x y hx hxy _ hp => Drv.mono HR.out hx hxy hp) m2 m3 hc)
        go_wp2_with (go_at_call 54; refine (l09Parallel_any _ _ n d _ _ _ H.out hn HR.out (by omega) (by omega)).mono ?_; rintro e w' ⟨rfl, rfl⟩)
        go_round
        case rel => exact ⟨_, _, rfl, rfl, HP.out⟩
        case measure => simp [intOf]; omega
    · have HD := Lib.hid ((g.done hlt).uniq HI.out)
      clear g
      go_wp2_with fail
      go_ret
      exact ⟨ret_i HD.out, rfl⟩
def dropC (n : Nat) (d : Nat → Int) (f : Int) : Int := cod n d f 0 30000
/-- the drop that DropFor tells -/
structure DropIs (n : Nat) (d : Nat → Int) (f r : Int) : Prop where
  yes : dropC n d f = 0 → IsDrop d n f r
  no : dropC n d f ≠ 0 → r = 0
theorem drop_ex (n : Nat) (d : Nat → Int) (f : Int) : ∃ r, DropIs n d f r := by
  rcases Classical.em (dropC n d f = 0) with h | h
  · obtain ⟨r, g⟩ := lst_ex (Drv d n f) 0 900000000000 900000000000 (by omega)
    exact ⟨r, fun _ => g, fun h2 => absurd h h2⟩
  · exact ⟨0, fun h2 => absurd h2 h, fun _ => rfl⟩
theorem sDropFor_any (w : World) (v : Value) (n : Nat) (d : Nat → Int) (lo hi : Nat) (f r : Int) (h : Sl w v n d lo hi) (hn : n ≤ 9223372036854775807) (hr : DropIs n d f r) :
    Calls Try.prog 15 #[v, .int .i64 f] w fun e w' => e = .returned (.tuple #[.int .i64 r, .int .i64 (dropC n d f)]) ∧ w = w' := by
  have H := Lib.hid h
  obtain ⟨p, cap, rfl, hc⟩ := h
  clear hc
  obtain ⟨hy, hno⟩ := hr
  unfold dropC cod at *
  generalize hc : codR n d = c at *
  have HC := Lib.hid hc
  by_cases h0 : c = 0
  · obtain ⟨n0, n8, hR⟩ := codR_facts (hc.trans h0)
    have HR := Lib.hid hR
    subst h0
    clear hc hR
    cases hx : inR f 0 30000
    · have HX := Lib.hid hx
      obtain rfl := hno (by simp [hx])
      clear hx hy hno
      go_enter Try.func15, Try.ntmps15
      go_wp2_with (first | (go_at_call 44; refine (l09Code_any _ _ n d _ _ H.out hn).mono ?_; rintro e w' ⟨rfl, rfl⟩; rw [HC.out]) | (go_at_call 45; refine (num.l01In_any _ _ _ _).mono ?_; rintro e w' ⟨rfl, rfl⟩; rw [HX.out]))
      go_ret2
      exact ⟨by simp, rfl⟩
    · have HX := Lib.hid hx
      have HI := Lib.hid (hy (by simp [hx]))
      clear hx hy hno
      go_enter Try.func15, Try.ntmps15
      go_wp2_with (first | (go_at_call 44; refine (l09Code_any _ _ n d _ _ H.out hn).mono ?_; rintro e w' ⟨rfl, rfl⟩; rw [HC.out]) | (go_at_call 45; refine (num.l01In_any _ _ _ _).mono ?_; rintro e w' ⟨rfl, rfl⟩; rw [HX.out]) | (go_at_call 46; refine (l09Drop_any _ _ n d _ _ f r H.out n8 HR.out HI.out).mono ?_; rintro e w' ⟨rfl, rfl⟩))
      go_ret2
      exact ⟨by simp, rfl⟩
  · have hb : (c != 0) = true := by simpa using h0
    have hb2 : (c == 0) = false := by simpa using h0
    have H0 := Lib.hid h0
    obtain rfl := hno (by rw [if_neg h0]; exact h0)
    clear hc h0 hy hno
    go_enter Try.func15, Try.ntmps15
    go_wp2_with (go_at_call 44; refine (l09Code_any _ _ n d _ _ H.out hn).mono ?_; rintro e w' ⟨rfl, rfl⟩; rw [HC.out])
    go_ret2
    exact ⟨by simp, rfl⟩
end Go.Proofs.Ytpgindeoiibgpaa.rst
