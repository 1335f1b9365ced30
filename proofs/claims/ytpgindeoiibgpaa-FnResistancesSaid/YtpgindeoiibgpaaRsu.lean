/-
  Chapter 9's program and specification: SplitFlow. Conditions: as each states.
-/
import Derived.Test.YtpgindeoiibgpaaRst
import Derived.Lib.MinMax
namespace Go.Proofs.Ytpgindeoiibgpaa.rst
open Go.RowKit Go.Proofs.Ytpgindeoiibgpaa.num Go.Proofs.Ytpgindeoiibgpaa.share Go.Proofs.Ytpgindeoiibgpaa.mem
set_option linter.unusedVariables false

theorem bas_bd {d : Nat → Int} {n : Nat} {r : Int} (h : Ress d n) (h0 : 0 ≤ r) (h1 : r ≤ 900000000000) : ∀ k, k < n → 0 ≤ bas d r k ∧ bas d r k ≤ 1000000000 := fun k hk =>
  flw_bd (h k hk).1 (show 0 ≤ max (r - 1) 0 by omega) (show max (r - 1) 0 ≤ 1000000000000000000 by omega)
/-- what SplitFlow leaves -/
def SplitPost (w : World) (n : Nat) (d : Nat → Int) (f r : Int) (e : Ending) (w' : World) : Prop :=
  ∃ v b, e = .returned (.tuple #[v, .int .i64 (dropC n d f)]) ∧ Below w.heap.size w w' ∧ w.heap.size ≤ b ∧ Res w' v (if dropC n d f = 0 then n else 0) (pts d n f r) b
theorem split_no {w w' : World} {n : Nat} {d : Nat → Int} {f r c : Int} (hc : c = dropC n d f) (h0 : c ≠ 0) (hB : Below w.heap.size w w') : SplitPost w n d f r (.returned (.tuple #[.slice none 0 0, .int .i64 c])) w' :=
  ⟨_, w.heap.size, by rw [hc], hB, Nat.le_refl _, ⟨.inl ⟨if_neg (by rw [← hc]; exact h0), rfl⟩⟩⟩
theorem split_yes {w w' : World} {n g cap : Nat} {d : Nat → Int} {f r : Int} (hc : 0 = dropC n d f) (hB : Below w.heap.size w w') (hg : w.heap.size ≤ g) (hg2 : g < w'.heap.size) (hR : Row w' g n (pts d n f r)) : SplitPost w n d f r (.returned (.tuple #[.slice (some ⟨g, 0, none⟩) n cap, .int .i64 0])) w' :=
  ⟨_, g, by rw [← hc], hB, hg, ⟨.inr ⟨cap, by rw [if_pos hc.symm], by rw [if_pos hc.symm]; exact hR, hg2⟩⟩⟩
theorem dropC_facts {n : Nat} {d : Nat → Int} {f r : Int} (h : dropC n d f = 0) (g : DropIs n d f r) : 0 < n ∧ n ≤ 8 ∧ Ress d n ∧ (0 ≤ f ∧ f ≤ 30000) ∧ IsDrop d n f r := by
  obtain ⟨h1, h2⟩ := cod_facts h
  obtain ⟨n0, n8, hR⟩ := codR_facts h1
  exact ⟨n0, n8, hR, inR_iff.1 h2, g.yes h⟩
theorem pts_row {d : Nat → Int} {n : Nat} {f r : Int} {k : Nat} (x : Int) (hx : x = pts d n f r k) : ∀ j, j < n → upd (fun j => if j < k then pts d n f r j else bas d r j) k x j = (fun j => if j < k + 1 then pts d n f r j else bas d r j) j := by
  intro j hj
  unfold upd
  by_cases e : j = k
  · rw [if_pos e, hx, e]
    show _ = if k < k + 1 then _ else _
    rw [if_pos (by omega)]
  · rw [if_neg e]
    show (if j < k then _ else _) = if j < k + 1 then _ else _
    by_cases e2 : j < k
    · rw [if_pos e2, if_pos (by omega)]
    · rw [if_neg e2, if_neg (by omega)]
theorem pts_skip {d : Nat → Int} {n : Nat} {f r : Int} {k : Nat} (hx : bas d r k = pts d n f r k) : ∀ j, j < n → (fun j => if j < k then pts d n f r j else bas d r j) j = (fun j => if j < k + 1 then pts d n f r j else bas d r j) j := by
  intro j hj
  show (if j < k then _ else _) = if j < k + 1 then _ else _
  by_cases e2 : j < k
  · rw [if_pos e2, if_pos (by omega)]
  · rw [if_neg e2]
    by_cases e : j = k
    · rw [if_pos (by omega), e, hx]
    · rw [if_neg (by omega)]
theorem lft_up {b m : Nat → Int} {l : Int} {k : Nat} (h : 0 < lft b m l k) (g : b k < m k) : lft b m l k - 1 = lft b m l (k + 1) ∧ b k + 1 = prt b m l k := by
  constructor
  · show _ = if 0 < lft b m l k ∧ b k < m k then _ else _
    rw [if_pos ⟨h, g⟩]
  · unfold prt
    rw [if_pos ⟨h, g⟩]
theorem lft_no {b m : Nat → Int} {l : Int} {k : Nat} (h : ¬ (0 < lft b m l k ∧ b k < m k)) : lft b m l k = lft b m l (k + 1) ∧ b k = prt b m l k := by
  constructor
  · show _ = if 0 < lft b m l k ∧ b k < m k then _ else _
    rw [if_neg h]
  · unfold prt
    rw [if_neg h]
set_option maxRecDepth 100000 in
set_option maxHeartbeats 8000000 in
theorem SplitFlow_any (w : World) (v : Value) (n : Nat) (d : Nat → Int) (lo hi : Nat) (f r : Int) (h : Sl w v n d lo hi) (hn : n ≤ 9223372036854775807) (hhi : hi ≤ w.heap.size) (hr : DropIs n d f r) :
    Calls Try.prog 18 #[v, .int .i64 f] w (SplitPost w n d f r) := by
  have H := Lib.hid h
  obtain ⟨p, cap, rfl, hc⟩ := h
  clear hc
  have HD := Lib.hid hr
  generalize hc : dropC n d f = c
  have HC := Lib.hid hc
  by_cases h0 : c = 0
  · obtain ⟨n0, n8, hR, ⟨f0, f1⟩, hI⟩ := dropC_facts (hc.trans h0) hr
    have r0 := hI.ge
    have r1 := hI.le
    have HR := Lib.hid hR
    have hbs := bas_bd hR r0 r1
    have HBS := Lib.hid hbs
    have HS := Lib.hid (sums_of hbs (by omega))
    have HT := Lib.hid (sums_of (n := n) (fls_bd hR r0 (show r ≤ 1000000000000000000 by omega)) (by omega))
    have hbf := bas_sum hR f0 hI
    have hb0 := (HS.out n (Nat.le_refl _)).1
    have hmx : 0 ≤ max (r - 1) 0 ∧ max (r - 1) 0 ≤ 1000000000000000000 := by omega
    subst h0
    clear hc hR hI hbs hr
    go_enter Try.func18, Try.ntmps18
    go_wp2_with fail
    refine (DropFor_any _ _ n d lo hi f r H.out hn hhi HD.out).mono ?_
    rintro e w1 ⟨rfl, b1⟩
    rw [HC.out]
    have hs1 := b1.size
    have H1 := Lib.hid (H.out.below b1 hhi)
    have B1 := Lib.hid b1
    clear b1
    go_wp2_with fail
    refine (flowsThrough_any _ _ n d lo hi (max (r - 1) 0) H1.out (by omega) (by omega) HR.out hmx.1 hmx.2).mono ?_
    rintro e w2 ⟨rfl, r2, b2, z2⟩
    obtain ⟨g1, hg1⟩ : ∃ g, g = w1.heap.size := ⟨_, rfl⟩
    rw [← hg1] at r2 z2 ⊢
    replace hg1 := Nat.le_antisymm_iff.1 hg1
    replace z2 := Nat.le_antisymm_iff.1 z2
    have H2 := Lib.hid (H1.out.below b2 (by omega))
    have B2 := Lib.hid (B1.out.trans (b2.mono (by omega)))
    have r2' : Row w2 g1 n (bas d r) := r2
    have R2 := Lib.hid r2'
    clear b2 r2 r2'
    go_wp2_with (go_at_call 42; refine (sum_any _ _ n (bas d r) 0 w2.heap.size (R2.out.sl (Nat.zero_le _) (by omega)) HS.out (by omega)).mono ?_; rintro e w' ⟨rfl, rfl⟩)
    refine (flowsThrough_any _ _ n d lo hi r H2.out (by omega) (by omega) HR.out r0 (by omega)).mono ?_
    rintro e w3 ⟨rfl, r3, b3, z3⟩
    obtain ⟨g2, hg2⟩ : ∃ g, g = w2.heap.size := ⟨_, rfl⟩
    rw [← hg2] at r3 z3 ⊢
    replace hg2 := Nat.le_antisymm_iff.1 hg2
    replace z3 := Nat.le_antisymm_iff.1 z3
    have B3 := Lib.hid (B2.out.trans (b3.mono (by omega)))
    have R3 := Lib.hid (R2.out.below b3 (by omega))
    have M3 := Lib.hid r3
    clear b3 r3 R2 B2 H2
    go_wp2_with fail
    go_loopw [34, 9] (fun i l wr => ∃ k : Nat, i = .int .i64 k ∧ l = .int .i64 (lft (bas d r) (fls d r) (f - tot (bas d r) n) k) ∧ k ≤ n ∧ Row wr g1 n (fun j => if j < k then pts d n f r j else bas d r j) ∧ Only g1 w3 wr) (fun i _ _ => n - (intOf i).toNat)
    case atStart => exact ⟨0, rfl, by go_num, Nat.zero_le _, R3.out.congr (fun k hk => by simp), Only.refl _ _⟩
    case round =>
      obtain ⟨k, rfl, rfl, hk, hrow, honly⟩ := hrel
      have HW := Lib.hid hrow
      have HO := Lib.hid honly
      have l0 := lft_ge (b := bas d r) (m := fls d r) (l := f - tot (bas d r) n) (by omega) k
      have l1 := lft_le (b := bas d r) (m := fls d r) (l := f - tot (bas d r) n) k
      by_cases hlt : k < n
      · have k1 : (k : Int) < (n : Int) := by omega
        have fr := hrow.free k hlt
        have ck := hrow.cell k hlt
        rw [if_neg (Nat.lt_irrefl k)] at ck
        have cm := (M3.out.only honly (by omega)).cell k hlt
        have hbk := HBS.out k hlt
        have HKK := Lib.hid (@lft_up (bas d r) (fls d r) (f - tot (bas d r) n) k)
        have HNN := Lib.hid (@lft_no (bas d r) (fls d r) (f - tot (bas d r) n) k)
        clear hrow honly
        generalize hL : lft (bas d r) (fls d r) (f - tot (bas d r) n) k = L at *
        have HL := Lib.hid hL
        clear hL
        by_cases hl : 0 < L
        · by_cases hm : bas d r k < fls d r k
          · obtain ⟨e1, e2⟩ := HKK.out hl hm
            have E1 := Lib.hid e1
            have E2 := Lib.hid e2
            clear e1 e2 HKK HNN
            go_wp2_with fail
            go_roundw
            case rel => exact ⟨k + 1, by go_num, by rw [E1.out], hlt, (HW.out.set k (bas d r k + 1) hlt).congr (pts_row _ E2.out), HO.out.setCell _ _⟩
            case measure => simp [intOf]; omega
          · obtain ⟨e1, e2⟩ := HNN.out (fun g => hm g.2)
            have E1 := Lib.hid e1
            have E2 := Lib.hid e2
            clear e1 e2 HKK HNN
            go_wp2_with fail
            go_roundw
            case rel => exact ⟨k + 1, by go_num, by rw [E1.out], hlt, HW.out.congr (pts_skip E2.out), HO.out⟩
            case measure => simp [intOf]; omega
        · obtain ⟨e1, e2⟩ := HNN.out (fun g => hl g.1)
          have E1 := Lib.hid e1
          have E2 := Lib.hid e2
          clear e1 e2 HKK HNN
          go_wp2_with fail
          go_roundw
          case rel => exact ⟨k + 1, by go_num, by rw [E1.out], hlt, HW.out.congr (pts_skip E2.out), HO.out⟩
          case measure => simp [intOf]; omega
      · have k1 : ¬ ((k : Int) < (n : Int)) := by omega
        clear hrow honly
        go_wp2_with fail
        go_ret2
        exact split_yes HC.out.symm (B3.out.trans (HO.out.below (by omega))) (by omega) (by have := HO.out.size; omega) (HW.out.congr (fun j hj => if_pos (by omega)))
  · have hb : (c != 0) = true := by simpa using h0
    have H0 := Lib.hid h0
    clear hc h0 hr
    go_enter Try.func18, Try.ntmps18
    go_wp2_with (go_at_call 14; refine (DropFor_any _ _ n d lo hi f r H.out hn hhi HD.out).mono ?_; rintro e w1 ⟨rfl, b1⟩; rw [HC.out])
    go_ret2
    exact split_no HC.out.symm H0.out b1

theorem bas_zero (d : Nat → Int) (k : Nat) : bas d 0 k = 0 := by
  show flw (d k) (max (0 - 1) 0) = 0
  rw [show max ((0 : Int) - 1) 0 = 0 by omega]
  exact flw_zero _
theorem bas_tot0 (d : Nat → Int) (n : Nat) : tot (bas d 0) n = 0 := (tot_congr (fun k _ => (bas_zero d k).trans (flw_zero (d k)).symm)).trans (fls_zero d n)
theorem bas_pos {d : Nat → Int} {r : Int} (h : 0 < r) (k : Nat) : flw (d k) (r - 1) = bas d r k := by
  show _ = flw (d k) (max (r - 1) 0)
  rw [show max (r - 1) 0 = r - 1 by omega]
theorem lft_start {b m : Nat → Int} {l : Int} : l = lft b m l 0 := rfl
theorem bas_row {d : Nat → Int} {n : Nat} {r : Int} {k : Nat} (x : Int) (hx : x = bas d r k) : ∀ j, j < n → upd (fun j => if j < k then bas d r j else 0) k x j = (fun j => if j < k + 1 then bas d r j else 0) j := by
  intro j hj
  unfold upd
  by_cases e : j = k
  · rw [if_pos e, hx, e]
    show _ = if k < k + 1 then _ else _
    rw [if_pos (by omega)]
  · rw [if_neg e]
    show (if j < k then _ else _) = if j < k + 1 then _ else _
    by_cases e2 : j < k
    · rw [if_pos e2, if_pos (by omega)]
    · rw [if_neg e2, if_neg (by omega)]
set_option maxRecDepth 100000 in
set_option maxHeartbeats 8000000 in
theorem sSplitFlow_any (w : World) (v : Value) (n : Nat) (d : Nat → Int) (lo hi : Nat) (f r : Int) (h : Sl w v n d lo hi) (hn : n ≤ 9223372036854775807) (hhi : hi ≤ w.heap.size) (hr : DropIs n d f r) :
    Calls Try.prog 19 #[v, .int .i64 f] w (SplitPost w n d f r) := by
  have H := Lib.hid h
  obtain ⟨p, cap, rfl, hc⟩ := h
  have HCC := Lib.hid hc
  clear hc
  have HD := Lib.hid hr
  generalize hc : dropC n d f = c
  have HC := Lib.hid hc
  by_cases h0 : c = 0
  · obtain ⟨n0, n8, hR, ⟨f0, f1⟩, hI⟩ := dropC_facts (hc.trans h0) hr
    have r0 := hI.ge
    have r1 := hI.le
    have HR := Lib.hid hR
    have hbs := bas_bd hR r0 r1
    have HBS := Lib.hid hbs
    have HS := Lib.hid (sums_of hbs (by omega))
    have hbf := bas_sum hR f0 hI
    have hb0 := (HS.out n (Nat.le_refl _)).1
    have hmk := fun W => make_int64 W n (by omega)
    obtain ⟨b, o, rfl, hb1, hb2, hcells⟩ : ∃ b o, p = some ⟨b, o, none⟩ ∧ lo ≤ b ∧ b < hi ∧ ∀ k, k < n → w.cell? ⟨b, o + k, none⟩ = some (.int .i64 (d k)) := by
      rcases HCC.out with e | e
      · omega
      · exact e
    have HL1 := Lib.hid hcells
    subst h0
    clear hc hR hI hbs hr HCC hcells
    go_enter Try.func19, Try.ntmps19
    go_wp2_with (go_at_call 15; refine (sDropFor_any _ _ n d lo hi f r H.out hn HD.out).mono ?_; rintro e w1 ⟨rfl, rfl⟩; rw [HC.out])
    have f1' : Row (w.alloc (Obj.cells (zeros n) 2)) w.heap.size n (fun _ => 0) := row_made w n _
    have f2 : Below w.heap.size w (w.alloc (Obj.cells (zeros n) 2)) := below_new _ _
    have f4 : (w.alloc (Obj.cells (zeros n) 2)).heap.size = w.heap.size + 1 := by simp
    generalize hW : w.alloc (Obj.cells (zeros n) 2) = w2 at *
    obtain ⟨g1, hg1⟩ : ∃ g, g = w.heap.size := ⟨_, rfl⟩
    rw [← hg1] at f1' f4 ⊢
    replace hg1 := Nat.le_antisymm_iff.1 hg1
    replace f4 := Nat.le_antisymm_iff.1 f4
    have R2 := Lib.hid f1'
    have B2 := Lib.hid f2
    have HL2 : Hid (∀ k, k < n → w2.cell? ⟨b, o + k, none⟩ = some (.int .i64 (d k))) := Lib.hid (fun k hk => (f2.cell (p := ⟨b, o + k, none⟩) (by show b < w.heap.size; omega)).trans (HL1.out k hk))
    clear f1' f2 hW hmk
    have n1 : (0 : Int) < (n : Int) := by omega
    by_cases hr0 : r = 0
    · subst hr0
      have hbz := bas_tot0 d n
      have HBZ := Lib.hid hbz
      clear hbz
      go_loopw [10, 9] (fun i l wr => i = .int .i64 0 ∧ l = .int .i64 f ∧ w2 = wr) (fun i _ _ => 0)
      case atStart => exact ⟨rfl, rfl, rfl⟩
      case round =>
        obtain ⟨rfl, rfl, rfl⟩ := hrel
        go_wp2_with fail
        go_loopw [11, 9] (fun i l wr => ∃ k : Nat, i = .int .i64 k ∧ l = .int .i64 (lft (bas d 0) (fls d 0) (f - tot (bas d 0) n) k) ∧ k ≤ n ∧ Row wr g1 n (fun j => if j < k then pts d n f 0 j else bas d 0 j) ∧ Only g1 w2 wr) (fun i _ _ => n - (intOf i).toNat)
        case atStart => exact ⟨0, rfl, (by show Value.int .i64 f = Value.int .i64 (f - tot (bas d 0) n); rw [HBZ.out, Int.sub_zero]), Nat.zero_le _, R2.out.congr (fun j hj => (by show (0 : Int) = if j < 0 then _ else bas d 0 j; rw [if_neg (Nat.not_lt_zero j), bas_zero])), Only.refl _ _⟩
        case round =>
          obtain ⟨k, rfl, rfl, hk, hrow, honly⟩ := hrel
          have HW := Lib.hid hrow
          have HO := Lib.hid honly
          have l0 := lft_ge (b := bas d 0) (m := fls d 0) (l := f - tot (bas d 0) n) (by omega) k
          have l1 := lft_le (b := bas d 0) (m := fls d 0) (l := f - tot (bas d 0) n) k
          have HDN := Lib.hid (@lft_done (bas d 0) (fls d 0) (f - tot (bas d 0) n) k)
          by_cases hlt : k < n
          · have k1 : (k : Int) < (n : Int) := by omega
            have fr := hrow.free k hlt
            have ck := hrow.cell k hlt
            rw [if_neg (Nat.lt_irrefl k)] at ck
            have cm := (HO.out.cell (a := ⟨b, o + k, none⟩) (by show b ≠ g1; omega)).trans (HL2.out k hlt)
            have hbk := HBS.out k hlt
            have hdk := HR.out k hlt
            have HKK := Lib.hid (@lft_up (bas d 0) (fls d 0) (f - tot (bas d 0) n) k)
            have HNN := Lib.hid (@lft_no (bas d 0) (fls d 0) (f - tot (bas d 0) n) k)
            clear hrow honly
            generalize hL : lft (bas d 0) (fls d 0) (f - tot (bas d 0) n) k = L at *
            have HL := Lib.hid hL
            clear hL
            by_cases hl : 0 < L
            · have hld : decide (0 < L) = true := by simpa using hl
              by_cases hm : bas d 0 k < flw (d k) 0
              · obtain ⟨e1, e2⟩ := HKK.out hl hm
                have E1 := Lib.hid e1
                have E2 := Lib.hid e2
                have hmd : decide (bas d 0 k < flw (d k) 0) = true := by simpa using hm
                clear e1 e2 HKK HNN
                go_wp2_with fail
                go_quiet ((go_at_call 47; exact Calls.quiet_of_same ((l09Flow_any _ _ _ hdk r0 (by omega)).mono fun e w' h => ⟨h.1, h.2.symm⟩)))
                go_wp2_with fail
                go_roundw
                case rel => exact ⟨k + 1, by go_num, by rw [E1.out], hlt, ((HW.out.drewN _).set k (bas d 0 k + 1) hlt).congr (pts_row _ E2.out), (HO.out.drewN _).setCell _ _⟩
                case measure => simp [intOf]; omega
              · obtain ⟨e1, e2⟩ := HNN.out (fun g => hm g.2)
                have E1 := Lib.hid e1
                have E2 := Lib.hid e2
                have hmd : decide (bas d 0 k < flw (d k) 0) = false := by simpa using hm
                clear e1 e2 HKK HNN
                go_wp2_with fail
                go_quiet ((go_at_call 47; exact Calls.quiet_of_same ((l09Flow_any _ _ _ hdk r0 (by omega)).mono fun e w' h => ⟨h.1, h.2.symm⟩)))
                go_wp2_with fail
                go_roundw
                case rel => exact ⟨k + 1, by go_num, by rw [E1.out], hlt, (HW.out.drewN _).congr (pts_skip E2.out), HO.out.drewN _⟩
                case measure => simp [intOf]; omega
            · have hld : decide (0 < L) = false := by simpa using hl
              clear HKK HNN
              go_wp2_with fail
              go_ret2
              refine split_yes HC.out.symm (B2.out.trans (HO.out.below (by omega))) (by omega) (by have := HO.out.size; omega) (HW.out.congr (fun j hj => ?_))
              by_cases e : j < k
              · exact if_pos e
              · have := (HDN.out (by omega) j (by omega)).2
                exact (if_neg e).trans this.symm
          · have k1 : ¬ ((k : Int) < (n : Int)) := by omega
            clear hrow honly
            go_wp2_with fail
            go_ret2
            exact split_yes HC.out.symm (B2.out.trans (HO.out.below (by omega))) (by omega) (by have := HO.out.size; omega) (HW.out.congr (fun j hj => if_pos (by omega)))
    · have hrp : 0 < r := by omega
      go_loopw [10, 9] (fun i l wr => ∃ k : Nat, i = .int .i64 k ∧ l = .int .i64 (f - tot (bas d r) k) ∧ k ≤ n ∧ Row wr g1 n (fun j => if j < k then bas d r j else 0) ∧ Only g1 w2 wr) (fun i _ _ => n - (intOf i).toNat)
      case atStart => exact ⟨0, rfl, (by show Value.int .i64 f = Value.int .i64 (f - 0); rw [Int.sub_zero]), Nat.zero_le _, R2.out.congr (fun k hk => by simp), Only.refl _ _⟩
      case round =>
        obtain ⟨k, rfl, rfl, hk, hrow, honly⟩ := hrel
        have HW := Lib.hid hrow
        have HO := Lib.hid honly
        by_cases hlt : k < n
        · have k1 : (k : Int) < (n : Int) := by omega
          have fr := hrow.free k hlt
          have ck := hrow.cell k hlt
          rw [if_neg (Nat.lt_irrefl k)] at ck
          have cm := (HO.out.cell (a := ⟨b, o + k, none⟩) (by show b ≠ g1; omega)).trans (HL2.out k hlt)
          have hdk := HR.out k hlt
          have s1 := HS.out k hk
          have s2 := HS.out (k + 1) hlt
          have s3 : 0 ≤ tot (bas d r) k + flw (d k) (r - 1) ∧ tot (bas d r) k + flw (d k) (r - 1) ≤ 1000000000000 := by rw [bas_pos hrp]; exact s2
          have s4 : 0 ≤ flw (d k) (r - 1) ∧ flw (d k) (r - 1) ≤ 1000000000 := by rw [bas_pos hrp]; exact HBS.out k hlt
          have HV := Lib.hid (show f - tot (bas d r) k - flw (d k) (r - 1) = f - tot (bas d r) (k + 1) by rw [bas_pos hrp]; show _ = f - (tot (bas d r) k + bas d r k); omega)
          clear hrow honly s2
          go_wp2_with (go_at_call 47; refine (l09Flow_any _ _ _ hdk (by omega) (by omega)).mono ?_; rintro e w' ⟨rfl, rfl⟩)
          go_roundw
          case rel => exact ⟨k + 1, by go_num, by rw [HV.out], hlt, (HW.out.set k _ hlt).congr (bas_row _ (bas_pos hrp k)), HO.out.setCell _ _⟩
          case measure => simp [intOf]; omega
        · obtain rfl : n = k := by omega
          have k1 : ¬ ((n : Int) < (n : Int)) := by omega
          clear hrow honly
          have RR : Hid (Row wr g1 n (bas d r)) := Lib.hid (HW.out.congr (fun j hj => if_pos hj))
          have OO := Lib.hid HO.out
          clear HW HO
          go_wp2_with fail
          go_loopw [11, 9] (fun i l wr => ∃ k : Nat, i = .int .i64 k ∧ l = .int .i64 (lft (bas d r) (fls d r) (f - tot (bas d r) n) k) ∧ k ≤ n ∧ Row wr g1 n (fun j => if j < k then pts d n f r j else bas d r j) ∧ Only g1 w2 wr) (fun i _ _ => n - (intOf i).toNat)
          case atStart => exact ⟨0, rfl, by go_num, Nat.zero_le _, RR.out.congr (fun j hj => (by show bas d r j = if j < 0 then _ else bas d r j; rw [if_neg (Nat.not_lt_zero j)])), OO.out⟩
          case round =>
            obtain ⟨k, rfl, rfl, hk, hrow, honly⟩ := hrel
            have HW := Lib.hid hrow
            have HO := Lib.hid honly
            have l0 := lft_ge (b := bas d r) (m := fls d r) (l := f - tot (bas d r) n) (by omega) k
            have l1 := lft_le (b := bas d r) (m := fls d r) (l := f - tot (bas d r) n) k
            have HDN := Lib.hid (@lft_done (bas d r) (fls d r) (f - tot (bas d r) n) k)
            by_cases hlt : k < n
            · have k1 : (k : Int) < (n : Int) := by omega
              have fr := hrow.free k hlt
              have ck := hrow.cell k hlt
              rw [if_neg (Nat.lt_irrefl k)] at ck
              have cm := (HO.out.cell (a := ⟨b, o + k, none⟩) (by show b ≠ g1; omega)).trans (HL2.out k hlt)
              have hbk := HBS.out k hlt
              have hdk := HR.out k hlt
              have HKK := Lib.hid (@lft_up (bas d r) (fls d r) (f - tot (bas d r) n) k)
              have HNN := Lib.hid (@lft_no (bas d r) (fls d r) (f - tot (bas d r) n) k)
              clear hrow honly
              generalize hL : lft (bas d r) (fls d r) (f - tot (bas d r) n) k = L at *
              have HL := Lib.hid hL
              clear hL
              by_cases hl : 0 < L
              · have hld : decide (0 < L) = true := by simpa using hl
                by_cases hm : bas d r k < flw (d k) r
                · obtain ⟨e1, e2⟩ := HKK.out hl hm
                  have E1 := Lib.hid e1
                  have E2 := Lib.hid e2
                  have hmd : decide (bas d r k < flw (d k) r) = true := by simpa using hm
                  clear e1 e2 HKK HNN
                  go_wp2_with fail
                  go_quiet ((go_at_call 47; exact Calls.quiet_of_same ((l09Flow_any _ _ _ hdk r0 (by omega)).mono fun e w' h => ⟨h.1, h.2.symm⟩)))
                  go_wp2_with fail
                  go_roundw
                  case rel => exact ⟨k + 1, by go_num, by rw [E1.out], hlt, ((HW.out.drewN _).set k (bas d r k + 1) hlt).congr (pts_row _ E2.out), (HO.out.drewN _).setCell _ _⟩
                  case measure => simp [intOf]; omega
                · obtain ⟨e1, e2⟩ := HNN.out (fun g => hm g.2)
                  have E1 := Lib.hid e1
                  have E2 := Lib.hid e2
                  have hmd : decide (bas d r k < flw (d k) r) = false := by simpa using hm
                  clear e1 e2 HKK HNN
                  go_wp2_with fail
                  go_quiet ((go_at_call 47; exact Calls.quiet_of_same ((l09Flow_any _ _ _ hdk r0 (by omega)).mono fun e w' h => ⟨h.1, h.2.symm⟩)))
                  go_wp2_with fail
                  go_roundw
                  case rel => exact ⟨k + 1, by go_num, by rw [E1.out], hlt, (HW.out.drewN _).congr (pts_skip E2.out), HO.out.drewN _⟩
                  case measure => simp [intOf]; omega
              · have hld : decide (0 < L) = false := by simpa using hl
                clear HKK HNN
                go_wp2_with fail
                go_ret2
                refine split_yes HC.out.symm (B2.out.trans (HO.out.below (by omega))) (by omega) (by have := HO.out.size; omega) (HW.out.congr (fun j hj => ?_))
                by_cases e : j < k
                · exact if_pos e
                · have := (HDN.out (by omega) j (by omega)).2
                  exact (if_neg e).trans this.symm
            · have k1 : ¬ ((k : Int) < (n : Int)) := by omega
              clear hrow honly
              go_wp2_with fail
              go_ret2
              exact split_yes HC.out.symm (B2.out.trans (HO.out.below (by omega))) (by omega) (by have := HO.out.size; omega) (HW.out.congr (fun j hj => if_pos (by omega)))
  · have hb : (c != 0) = true := by simpa using h0
    have H0 := Lib.hid h0
    clear hc h0 hr
    go_enter Try.func19, Try.ntmps19
    go_wp2_with (go_at_call 15; refine (sDropFor_any _ _ n d lo hi f r H.out hn HD.out).mono ?_; rintro e w1 ⟨rfl, rfl⟩; rw [HC.out])
    go_ret2
    exact split_no HC.out.symm H0.out (Below.refl _ _)
end Go.Proofs.Ytpgindeoiibgpaa.rst
