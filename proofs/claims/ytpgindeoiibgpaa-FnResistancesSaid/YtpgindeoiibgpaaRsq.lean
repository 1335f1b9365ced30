/-
  Chapter 9's program: FlowFor, ParallelFlow, the two closures and the halving over them. Conditions: as each states.
-/
import Derived.Test.YtpgindeoiibgpaaRss
namespace Go.Proofs.Ytpgindeoiibgpaa.rst
open Go.RowKit Go.Proofs.Ytpgindeoiibgpaa.num Go.Proofs.Ytpgindeoiibgpaa.share Go.Proofs.Ytpgindeoiibgpaa.mem
set_option linter.unusedVariables false

theorem cell_one (w : World) (v : Value) (t : TypeId) : (w.alloc (.cells #[v] t)).cell? ⟨w.heap.size, 0, none⟩ = some v := by
  have e := heap_alloc_new w (.cells #[v] t)
  simp only [World.cell?, e]
  rfl
theorem sl_one (w : World) (k : Int) (t : TypeId) : Sl (w.alloc (.cells #[.int .i64 k] t)) (.slice (some ⟨w.heap.size, 0, none⟩) 1 1) 1 (fun _ => k) 0 (w.heap.size + 1) :=
  ⟨_, _, rfl, .inr ⟨w.heap.size, 0, rfl, by omega, by omega, fun j hj => by
    obtain rfl : j = 0 := by omega
    exact cell_one w _ t⟩⟩
theorem below_new (w : World) (o : Obj) : Below w.heap.size w (w.alloc o) := (Below.refl _ _).alloc (Nat.le_refl _) o
theorem irB_one (k : Int) : irB 1 1000 (fun _ => k) 1 = inR k 1 1000 := by simp [irB]
theorem FlowFor_any (k x : Int) (w : World) : Calls Try.prog 21 #[.int .i64 k, .int .i64 x] w fun e w' => e = .returned (.tuple #[.int .i64 (flV k x), .int .i64 (flC k x)]) ∧ Below w.heap.size w w' := by
  have HS := Lib.hid (sl_one w k 2)
  have HB := Lib.hid (below_new w (.cells #[.int .i64 k] 2))
  have H1 := irB_one k
  unfold flV flC
  cases hk : inR k 1 1000 <;> cases hx : inR x 0 1000000000000000000
  case true.true =>
    have hk' := inR_iff.1 hk
    have hx' := inR_iff.1 hx
    have HK := Lib.hid (H1.trans hk)
    have HX := Lib.hid hx
    clear hk hx H1
    go_enter Try.func21, Try.ntmps21
    go_wp2_with (first | (go_at_call 48; refine (areResistances_any _ _ 1 (fun _ => k) _ _ HS.out (by omega)).mono ?_; rintro e w' ⟨rfl, rfl⟩; rw [HK.out]) | (go_at_call 39; refine (num.inRange_any _ _ _ _).mono ?_; rintro e w' ⟨rfl, rfl⟩; rw [HX.out]) | (go_at_call 49; refine (flowThrough_any _ _ _ hk' hx'.1 hx'.2).mono ?_; rintro e w' ⟨rfl, rfl⟩))
    go_ret2
    exact ⟨by simp, HB.out⟩
  all_goals
    have HK := Lib.hid (H1.trans hk)
    have HX := Lib.hid hx
    clear hk hx H1
    go_enter Try.func21, Try.ntmps21
    go_wp2_with (first | (go_at_call 48; refine (areResistances_any _ _ 1 (fun _ => k) _ _ HS.out (by omega)).mono ?_; rintro e w' ⟨rfl, rfl⟩; rw [HK.out]) | (go_at_call 39; refine (num.inRange_any _ _ _ _).mono ?_; rintro e w' ⟨rfl, rfl⟩; rw [HX.out]))
    go_ret2
    exact ⟨by simp, HB.out⟩
theorem ParallelFlow_any (w : World) (v : Value) (n : Nat) (d : Nat → Int) (lo hi : Nat) (x : Int) (h : Sl w v n d lo hi) (hn : n ≤ 9223372036854775807) (hhi : hi ≤ w.heap.size) :
    Calls Try.prog 16 #[v, .int .i64 x] w fun e w' => e = .returned (.tuple #[.int .i64 (parV n d x), .int .i64 (parC n d x)]) ∧ Below w.heap.size w w' := by
  have H := Lib.hid h
  obtain ⟨p, cap, rfl, hc⟩ := h
  clear hc
  generalize hc : codR n d = c
  have HC := Lib.hid hc
  by_cases h0 : c = 0
  · obtain ⟨n0, n8, hR⟩ := codR_facts (hc.trans h0)
    have HR := Lib.hid hR
    subst h0
    clear hR
    cases hx : inR x 0 1000000000000000000
    · have HX := Lib.hid hx
      have HV := Lib.hid (par_no2 hc hx)
      clear hx hc
      go_enter Try.func16, Try.ntmps16
      go_wp2_with (first | (go_at_call 38; refine (checkR_any _ _ n d _ _ H.out hn).mono ?_; rintro e w' ⟨rfl, rfl⟩; rw [HC.out]) | (go_at_call 39; refine (num.inRange_any _ _ _ _).mono ?_; rintro e w' ⟨rfl, rfl⟩; rw [HX.out]))
      go_ret2
      exact ⟨ret_t HV.out.1 HV.out.2, Below.refl _ _⟩
    · have HX := Lib.hid hx
      have HV := Lib.hid (par_yes hc hx)
      have hx' := inR_iff.1 hx
      have HS := Lib.hid (fls_sums HR.out n8 hx'.1 hx'.2)
      clear hx hc
      go_enter Try.func16, Try.ntmps16
      go_wp2_with (first | (go_at_call 38; refine (checkR_any _ _ n d _ _ H.out hn).mono ?_; rintro e w' ⟨rfl, rfl⟩; rw [HC.out]) | (go_at_call 39; refine (num.inRange_any _ _ _ _).mono ?_; rintro e w' ⟨rfl, rfl⟩; rw [HX.out]) | (go_at_call 43; refine (flowsThrough_any _ _ n d _ _ x H.out (by omega) hhi HR.out hx'.1 hx'.2).mono ?_; rintro e w2 ⟨rfl, r2, b2, z2⟩) | (go_at_call 42; refine (sum_any _ _ n (fls d x) 0 w2.heap.size (r2.sl (Nat.zero_le _) (by omega)) HS.out (by omega)).mono ?_; rintro e w' ⟨rfl, rfl⟩))
      go_ret2
      exact ⟨ret_t HV.out.1 HV.out.2, b2⟩
  · have hb : (c != 0) = true := by simpa using h0
    have HV := Lib.hid (par_no (x := x) hc h0)
    clear hc h0
    go_enter Try.func16, Try.ntmps16
    go_wp2_with (go_at_call 38; refine (checkR_any _ _ n d _ _ H.out hn).mono ?_; rintro e w' ⟨rfl, rfl⟩; rw [HC.out])
    go_ret2
    exact ⟨ret_t HV.out.1 HV.out.2, Below.refl _ _⟩

/-- what the closure of DropFor reads -/
structure EnD (w : World) (bl bf : Nat) (v : Value) (n : Nat) (d : Nat → Int) (f : Int) (lo hi : Nat) : Prop where
  c0 : w.cell? ⟨bl, 0, none⟩ = some v
  c1 : w.cell? ⟨bf, 0, none⟩ = some (.int .i64 f)
  sl : Sl w v n d lo hi
  hi : hi ≤ w.heap.size
theorem EnD.next {w w' : World} {bl bf : Nat} {v : Value} {n : Nat} {d : Nat → Int} {f : Int} {lo hi : Nat} (h : EnD w bl bf v n d f lo hi) (g : Below w.heap.size w w') : EnD w' bl bf v n d f lo hi :=
  ⟨(g.cell (p := ⟨bl, 0, none⟩) (World.block_lt_of_cell? w _ h.c0)).trans h.c0, (g.cell (p := ⟨bf, 0, none⟩) (World.block_lt_of_cell? w _ h.c1)).trans h.c1, h.sl.below g h.hi, Nat.le_trans h.hi g.size⟩
set_option maxHeartbeats 4000000 in
theorem drop1_any (w : World) (bl bf : Nat) (v : Value) (n : Nat) (d : Nat → Int) (f x : Int) (lo hi : Nat) (h : EnD w bl bf v n d f lo hi) (hn : n ≤ 8) (hR : Ress d n) (h0 : 0 ≤ x) (h1 : x ≤ 1000000000000000000) :
    Calls Try.prog 41 #[.int .i64 x, .pointer (some ⟨bl, 0, none⟩), .pointer (some ⟨bf, 0, none⟩)] w fun e w' => e = .returned (.bool (decide (f ≤ tot (fls d x) n))) ∧ Below w.heap.size w w' := by
  have HE := Lib.hid h
  have HR := Lib.hid hR
  have HS := Lib.hid (fls_sums hR hn h0 h1)
  have y0 := h.c0
  have y1 := h.c1
  obtain ⟨p, cap, rfl, hc⟩ := h.sl
  have hAny : ∀ X : World, Below w.heap.size w X → X.cell? ⟨bl, 0, none⟩ = some (.slice p n cap) ∧ X.cell? ⟨bf, 0, none⟩ = some (.int .i64 f) := fun X g => ⟨(HE.out.next g).c0, (HE.out.next g).c1⟩
  have K0 : Below w.heap.size w w.drew := ⟨rfl, rfl, rfl, Nat.le_refl _, fun _ _ => rfl⟩
  clear h hc hR
  go_enter Try.func41, Try.ntmps41
  go_wp2_with fail
  go_region_held3 (fun w' : World => w'.cell? ⟨bl, 0, none⟩ = some (.slice p n cap) ∧ w'.cell? ⟨bf, 0, none⟩ = some (.int .i64 f))
    (first | exact hAny _ SA | exact hAny _ K0)
    (first
      | (go_at_call 43; refine (flowsThrough_any _ _ n d lo hi x (HE.out.next (by assumption : Below w.heap.size w _)).sl (by omega) (HE.out.next (by assumption : Below w.heap.size w _)).hi HR.out h0 h1).mono ?_; rintro e wA ⟨rfl, rA, bA, zA⟩; have SA : Below w.heap.size w wA := Below.trans (by assumption : Below w.heap.size w _) (bA.mono (Below.size (by assumption : Below w.heap.size w _))); clear bA)
      | (go_at_call 42; refine (sum_any _ _ n (fls d x) 0 wA.heap.size (rA.sl (Nat.zero_le _) (by omega)) HS.out (by omega)).mono ?_; rintro e wB ⟨rfl, hwB⟩; subst hwB))
  go_wp2_with fail
  go_ret
  exact ⟨rfl, SA⟩

theorem mid_low {l h m : Int} (h0 : 0 ≤ l) (h1 : l < h) (h2 : h ≤ m) : 0 ≤ l + (h - l) / 2 ∧ l ≤ l + (h - l) / 2 ∧ l + (h - l) / 2 < h ∧ l + (h - l) / 2 ≤ m := by omega
set_option maxHeartbeats 4000000 in
theorem least_drop (w : World) (bl bf : Nat) (v : Value) (n : Nat) (d : Nat → Int) (f top : Int) (lo hi : Nat) (h : EnD w bl bf v n d f lo hi) (hn : n ≤ 8) (hR : Ress d n) (t0 : 0 ≤ top) (t1 : top ≤ 900000000000) :
    Calls Try.prog 40 #[.int .i64 0, .int .i64 top, .func (.func 41) #[] #[.pointer (some ⟨bl, 0, none⟩), .pointer (some ⟨bf, 0, none⟩)]] w fun e w' => (∃ r, e = .returned (.int .i64 r) ∧ Lst (Drv d n f) 0 top r) ∧ Below w.heap.size w w' := by
  have HE := Lib.hid h
  have HR := Lib.hid hR
  clear h hR
  go_enter Try.func40, Try.ntmps40
  go_wp2_with fail
  go_loopw [0, 1] (fun a b wr => ∃ l h : Int, a = .int .i64 l ∧ b = .int .i64 h ∧ Hlv (Drv d n f) 0 top l h ∧ Below w.heap.size w wr) (fun a b _ => (intOf b - intOf a).toNat)
  case atStart => exact ⟨_, _, rfl, rfl, Hlv.start _ t0, Below.refl _ _⟩
  case round =>
    obtain ⟨l, h, rfl, rfl, g, hB⟩ := hrel
    have HG := Lib.hid g
    have HB := Lib.hid hB
    have l0 := g.a
    have h9 := g.c
    by_cases hlt : l < h
    · obtain ⟨m1, m2, m3, m4⟩ := mid_low l0 hlt h9
      clear g hB
      by_cases hc : f ≤ tot (fls d (l + (h - l) / 2)) n
      · have HP := Lib.hid (HG.out.down m2 m3 hc)
        have hd : decide (f ≤ tot (fls d (l + (h - l) / 2)) n) = true := by simpa using hc
        have HD := Lib.hid hd
        clear hc hd
        go_wp2_with (go_at_call 41; refine (drop1_any _ bl bf v n d f _ lo hi (HE.out.next HB.out) hn HR.out (by omega) (by omega)).mono ?_; rintro e w2 ⟨rfl, b2⟩; rw [HD.out])
        go_roundw
        case rel => exact ⟨_, _, rfl, rfl, HP.out, belowNext HB.out b2⟩
        case measure => simp [intOf]; omega
      · have HP := Lib.hid (HG.out.up (fun x y hx hxy _ hp => Drv.mono HR.out hx hxy hp) m2 m3 hc)
        have hd : decide (f ≤ tot (fls d (l + (h - l) / 2)) n) = false := by simpa using hc
        have HD := Lib.hid hd
        clear hc hd
        go_wp2_with (go_at_call 41; refine (drop1_any _ bl bf v n d f _ lo hi (HE.out.next HB.out) hn HR.out (by omega) (by omega)).mono ?_; rintro e w2 ⟨rfl, b2⟩; rw [HD.out])
        go_roundw
        case rel => exact ⟨_, _, rfl, rfl, HP.out, belowNext HB.out b2⟩
        case measure => simp [intOf]; omega
    · have HD := Lib.hid (g.done hlt)
      clear g hB
      go_wp2_with fail
      go_ret
      exact ⟨⟨_, rfl, HD.out⟩, HB.out⟩

/-- what the closure of BestResistance reads -/
structure EnB (w : World) (bx bf : Nat) (x f : Int) : Prop where
  c0 : w.cell? ⟨bx, 0, none⟩ = some (.int .i64 x)
  c1 : w.cell? ⟨bf, 0, none⟩ = some (.int .i64 f)
theorem EnB.next {w w' : World} {bx bf : Nat} {x f : Int} (h : EnB w bx bf x f) (g : Below w.heap.size w w') : EnB w' bx bf x f :=
  ⟨(g.cell (p := ⟨bx, 0, none⟩) (World.block_lt_of_cell? w _ h.c0)).trans h.c0, (g.cell (p := ⟨bf, 0, none⟩) (World.block_lt_of_cell? w _ h.c1)).trans h.c1⟩
set_option maxHeartbeats 4000000 in
theorem best1_any (w : World) (bx bf : Nat) (f x k : Int) (h : EnB w bx bf x f) (hk : 1 ≤ k ∧ k ≤ 1000) (h0 : 0 ≤ x) (h1 : x ≤ 1000000000000000000) :
    Calls Try.prog 52 #[.int .i64 k, .pointer (some ⟨bx, 0, none⟩), .pointer (some ⟨bf, 0, none⟩)] w fun e w' => e = .returned (.bool (decide (flw k x < f))) ∧ Below w.heap.size w w' := by
  have y0 := h.c0
  have y1 := h.c1
  clear h
  go_enter Try.func52, Try.ntmps52
  go_wp2_with fail
  go_quiet ((go_at_call 49; exact Calls.quiet_of_same ((flowThrough_any _ _ _ hk h0 h1).mono fun e w' h => ⟨h.1, h.2.symm⟩)))
  go_wp2_with fail
  go_ret
  exact ⟨rfl, mem.below_drewN (Below.refl _ _) _⟩
set_option maxHeartbeats 4000000 in
theorem least_best (w : World) (bx bf : Nat) (x f : Int) (h : EnB w bx bf x f) (h0 : 0 ≤ x) (h1 : x ≤ 1000000000000000000) :
    Calls Try.prog 40 #[.int .i64 1, .int .i64 1001, .func (.func 52) #[] #[.pointer (some ⟨bx, 0, none⟩), .pointer (some ⟨bf, 0, none⟩)]] w fun e w' => (∃ r, e = .returned (.int .i64 r) ∧ Lst (Tgr f x) 1 1001 r) ∧ Below w.heap.size w w' := by
  have HE := Lib.hid h
  clear h
  go_enter Try.func40, Try.ntmps40
  go_wp2_with fail
  go_loopw [0, 1] (fun a b wr => ∃ l h : Int, a = .int .i64 l ∧ b = .int .i64 h ∧ Hlv (Tgr f x) 1 1001 l h ∧ Below w.heap.size w wr) (fun a b _ => (intOf b - intOf a).toNat)
  case atStart => exact ⟨_, _, rfl, rfl, Hlv.start _ (by omega), Below.refl _ _⟩
  case round =>
    obtain ⟨l, h, rfl, rfl, g, hB⟩ := hrel
    have HG := Lib.hid g
    have HB := Lib.hid hB
    have l0 := g.a
    have h9 := g.c
    by_cases hlt : l < h
    · obtain ⟨m1, m2, m3, m4⟩ := mid_low (show 0 ≤ l by omega) hlt h9
      clear g hB
      by_cases hc : flw (l + (h - l) / 2) x < f
      · have HP := Lib.hid (HG.out.down m2 m3 hc)
        have hd : decide (flw (l + (h - l) / 2) x < f) = true := by simpa using hc
        have HD := Lib.hid hd
        clear hc hd
        go_wp2_with (go_at_call 52; refine (best1_any _ bx bf f x _ (HE.out.next HB.out) (by omega) h0 h1).mono ?_; rintro e w2 ⟨rfl, b2⟩; rw [HD.out])
        go_roundw
        case rel => exact ⟨_, _, rfl, rfl, HP.out, belowNext HB.out b2⟩
        case measure => simp [intOf]; omega
      · have HP := Lib.hid (HG.out.up (fun a b ha hab _ hp => Tgr.mono h0 ha hab hp) m2 m3 hc)
        have hd : decide (flw (l + (h - l) / 2) x < f) = false := by simpa using hc
        have HD := Lib.hid hd
        clear hc hd
        go_wp2_with (go_at_call 52; refine (best1_any _ bx bf f x _ (HE.out.next HB.out) (by omega) h0 h1).mono ?_; rintro e w2 ⟨rfl, b2⟩; rw [HD.out])
        go_roundw
        case rel => exact ⟨_, _, rfl, rfl, HP.out, belowNext HB.out b2⟩
        case measure => simp [intOf]; omega
    · have HD := Lib.hid (g.done hlt)
      clear g hB
      go_wp2_with fail
      go_ret
      exact ⟨⟨_, rfl, HD.out⟩, HB.out⟩
end Go.Proofs.Ytpgindeoiibgpaa.rst
