/-
  NeighboursOf in the specification; the program and the specification agree. Conditions: as each states.
-/
import Derived.Test.YtdmcggnhnkaoeaaRows
import Derived.Test.YtdmcggnhnkaoeaaNetNB
import Derived.WalkKit
import Derived.ProofKit
import Derived.Outline
import Derived.OwnWalk
import Derived.Lib.Hide
import Derived.Deep.RegionHeld3
namespace Go.Proofs.Ytdmcggnhnkaoeaa.mem
open Go.RowKit
set_option linter.unusedVariables false

/-- a number is among the first n -/
def hasB (n : Nat) (d : Nat → Int) (x : Int) : Bool := (List.range n).any fun i => d i == x
theorem hasB_yes {n k : Nat} {d : Nat → Int} {x : Int} (hk : k < n) (h : d k = x) : hasB n d x = true := by
  unfold hasB
  rw [List.any_eq_true]
  exact ⟨k, by simpa using hk, by rw [h]; simp⟩
theorem hasB_no {n : Nat} {d : Nat → Int} {x : Int} (h : ∀ k, k < n → d k ≠ x) : hasB n d x = false := by
  unfold hasB
  rw [List.any_eq_false]
  intro k hk
  simp only [beq_iff_eq]
  exact h k (by simpa using hk)
set_option maxHeartbeats 1000000 in
theorem l02Has_any (w : World) (v : Value) (n : Nat) (d : Nat → Int) (lo hi : Nat) (h : Cs w v n 1 (fun i _ => .int .i64 (d i)) lo hi) (x : Int) :
    Calls Try.prog 67 #[v, .int .i64 x] w fun e w' => e = .returned (.bool (hasB n d x)) ∧ w = w' := by
  obtain ⟨p, cap, rfl, q1, q2, hc⟩ := h
  have HC := Lib.hid hc
  clear hc
  go_enter Try.func67, Try.ntmps67
  go_wp2_with fail
  go_loop [5] (fun i => ∃ k : Nat, i = .int .i64 k ∧ k ≤ n ∧ ∀ y, y < k → d y ≠ x) (fun i => n - (intOf i).toNat)
  case atStart => exact ⟨0, rfl, Nat.zero_le _, fun y hy => by omega⟩
  case round =>
    obtain ⟨k, rfl, hk, hall⟩ := hrel
    have HA := Lib.hid hall
    clear hall
    by_cases hlt : k < n
    · rcases HC.out with h0 | ⟨b, o, rfl, g1, g2, g3⟩
      · omega
      have c1 : w.cell? ⟨b, o + k, none⟩ = some (.int .i64 (d k)) := by have := g3.cell k 0 hlt (by omega); simpa using this
      clear g3
      by_cases he : d k = x
      · have h1 : (d k == x) = true := by rw [beq_iff_eq]; exact he
        have HB := Lib.hid (hasB_yes hlt he)
        clear he
        go_wp2_with fail
        go_ret
        exact ⟨ret_b HB.out.symm, rfl⟩
      · have h1 : (d k == x) = false := by rw [beq_eq_false_iff_ne]; exact he
        have HE := Lib.hid he
        clear he
        go_wp2_with fail
        go_round
        case rel =>
          refine ⟨k + 1, by go_num, hlt, fun y hy => ?_⟩
          by_cases e : y = k
          · subst e; exact HE.out
          · exact HA.out y (by omega)
        case measure => simp [intOf]; omega
    · obtain rfl : k = n := by omega
      have HB := Lib.hid (hasB_no HA.out)
      go_wp2_with fail
      go_ret
      exact ⟨ret_b HB.out.symm, rfl⟩

/-- the other ends of the pipes at x -/
def otd (P : Nat → Pip) (x : Int) (m : Nat) (i : Nat) : Int := othV (P (((fl (paP P x) m)[i]?).getD 0)) x
theorem fl_get {p : Nat → Bool} {m i : Nat} (hi : i < (fl p m).length) : ((fl p m)[i]?).getD 0 < m ∧ p (((fl p m)[i]?).getD 0) = true := by
  rw [List.getElem?_eq_getElem hi, Option.getD_some]
  have := List.getElem_mem hi
  unfold fl at this
  rw [List.mem_filter, List.mem_range] at this
  exact this
theorem has_nb (P : Nat → Pip) (x : Int) (m : Nat) (i : Nat) : hasB (fl (paP P x) m).length (otd P x m) i = nbk P x m i := by
  rw [Bool.eq_iff_iff]
  unfold hasB nbk
  rw [List.any_eq_true, List.any_eq_true]
  constructor
  · rintro ⟨j, hj, h⟩
    obtain ⟨h1, h2⟩ := fl_get (p := paP P x) (by simpa using hj)
    exact ⟨_, by simpa using h1, by
      rw [Bool.and_eq_true]
      exact ⟨h2, h⟩⟩
  · rintro ⟨j, hj, h⟩
    rw [Bool.and_eq_true] at h
    have hm : j ∈ fl (paP P x) m := by
      unfold fl
      rw [List.mem_filter]
      exact ⟨hj, h.1⟩
    obtain ⟨k, hk, he⟩ := List.getElem_of_mem hm
    refine ⟨k, by simpa using hk, ?_⟩
    unfold otd
    rw [List.getElem?_eq_getElem hk, Option.getD_some, he]
    exact h.2
theorem hold3 {w w' : World} {B a c o : Nat} {v0 v1 u : Value} (hb : Below B w w') (ha : a < B) (hc : c < B)
    (h : w.cell? ⟨a, 0, none⟩ = some v0 ∧ w.cell? ⟨a, 1, none⟩ = some v1 ∧ w.cell? ⟨c, o, none⟩ = some u) :
    w'.cell? ⟨a, 0, none⟩ = some v0 ∧ w'.cell? ⟨a, 1, none⟩ = some v1 ∧ w'.cell? ⟨c, o, none⟩ = some u :=
  ⟨(hb.cell (p := ⟨a, 0, none⟩) ha).trans h.1, (hb.cell (p := ⟨a, 1, none⟩) ha).trans h.2.1, (hb.cell (p := ⟨c, o, none⟩) hc).trans h.2.2⟩

set_option maxRecDepth 100000 in
set_option maxHeartbeats 2000000 in
theorem neighboursS_any (w : World) (v : Value) (n : Nat) (N : Nat → Nod) (m : Nat) (P : Nat → Pip) (lo hi : Nat) (h : NetAt w v n N m P lo hi) (hhi : hi ≤ w.heap.size) (hN : ∀ i, i < n → (N i).s.size ≤ 9223372036854775807) (x : Int) :
    Calls Try.prog 26 #[v, .int .i64 x] w (LIPost w (nbN n N m P x) (fd (nbk P x m) n) (paC n N m P x)) := by
  obtain ⟨v0, v1, rfl, g0, g1⟩ := h.ex
  obtain ⟨p0, c0, rfl⟩ := g0.shape
  obtain ⟨p1, c1, rfl⟩ := g1.shape
  have hn9 : n ≤ 9223372036854775807 := by
    obtain ⟨p, cap, he, q1, q2, _⟩ := g0.ex
    omega
  have hm9 : m ≤ 9223372036854775807 := by
    obtain ⟨p, cap, he, q1, q2, _⟩ := g1.ex
    omega
  have HC0 : Hid (n = 0 ∨ ∃ b o, p0 = some ⟨b, o, none⟩ ∧ lo ≤ b ∧ b < hi ∧ At w b o n 3 (nodC N)) := by
    obtain ⟨p, cap, hv, _, _, hc⟩ := g0.ex
    injection hv with e1 _ e2
    subst e1
    exact Lib.hid hc
  have HC1 : Hid (m = 0 ∨ ∃ b o, p1 = some ⟨b, o, none⟩ ∧ lo ≤ b ∧ b < hi ∧ At w b o m 5 (pipC P)) := by
    obtain ⟨p, cap, hv, _, _, hc⟩ := g1.ex
    injection hv with e1 _ e2
    subst e1
    exact Lib.hid hc
  have HV := Lib.hid h
  have HN := Lib.hid hN
  clear h g0 g1 hN
  have A0 := boxed w (.slice p0 n c0) (.slice p1 m c1) 27
  have C0 : Below w.heap.size w _ := below_new w (Obj.cells #[Value.slice p0 n c0, Value.slice p1 m c1] 27)
  have hs0 : w.heap.size + 1 ≤ (w.alloc (Obj.cells #[Value.slice p0 n c0, Value.slice p1 m c1] 27)).heap.size := by simp
  have HP := Lib.hid (show nbN n N m P x = if paC n N m P x = 0 then (fl (nbk P x m) n).length else 0 from rfl)
  have HCD := Lib.hid (show paC n N m P x = codeB (netB n N m P) (inR x 0 (n - 1)) from rfl)
  have HNP := Lib.hid (@net_pip n N m P)
  go_enter Try.func26, Try.ntmps26
  go_wp2_with fail
  refine (l02NodeCode_any _ _ n N m P lo hi (HV.out.below C0 hhi) (by omega) HN.out x).mono ?_
  rintro e w2 ⟨rfl, b2⟩
  have A2 := A0.below b2 (by omega)
  have C2 := C0.trans (b2.mono (by omega))
  have hs2 := Nat.le_trans hs0 b2.size
  have e0 := A2.b0
  have e1 := A2.b1
  have e2 : w.heap.size < w2.heap.size := by omega
  clear b2 A0 C0 hs0
  rw [← HCD.out]
  by_cases hc : paC n N m P x = 0
  rotate_left 1
  · have hcb : (paC n N m P x != 0) = true := by simp [hc]
    have H := Lib.hid (show nbN n N m P x = 0 by rw [HP.out, if_neg hc])
    clear hc
    go_wp2_with fail
    go_ret2
    exact li_err H.out rfl rfl C2
  have hcb : (paC n N m P x != 0) = false := by simp [hc]
  have H := Lib.hid (show nbN n N m P x = (fl (nbk P x m) n).length by rw [HP.out, if_pos hc])
  have HC := Lib.hid hc
  have hz := net_sz (codeB_zero (HCD.out ▸ hc)).1
  have HPI := Lib.hid (fun k (hk : k < m) => HNP.out (codeB_zero (HCD.out ▸ hc)).1 hk)
  have HXR := Lib.hid (codeB_zero (HCD.out ▸ hc)).2
  clear hc
  go_wp2_with fail
  have F0 := Own.nilled w2 (fun i => otd P x m i)
  have A3 := A2.keep (Below.heap_alloc w2 (Obj.cells #[] 2) _ A2.lt)
  have C3 : Below w.heap.size w (w2.alloc (Obj.cells #[] 2)) := below_alloc C2 (by omega) _
  have hs3 : w2.heap.size + 1 ≤ (w2.alloc (Obj.cells #[] 2)).heap.size := by simp
  refine (l02At_any _ _ n N m P lo hi (HV.out.below C3 hhi) (by omega) HN.out (by omega) x).mono ?_
  rintro e w3 ⟨va, ga, rfl, hoa, hga, b3⟩
  have F1 := F0.below b3 (Nat.le_refl _)
  have A4 := A3.below b3 (by omega)
  have C4 := C3.trans (b3.mono (by omega))
  have hs4 := Nat.le_trans hs3 b3.size
  have hga2 : w2.heap.size + 1 ≤ ga := by omega
  obtain ⟨ca, rfl⟩ := hoa.shape
  have f1l := F1.lt
  generalize hL : (fl (paP P x) m).length = L at *
  have HL := Lib.hid hL
  have hLm : L ≤ m := by rw [← hL]; exact fl_le _ _
  generalize hge : w2.heap.size = ge at *
  clear F0 A3 C3 hs3 b3 A2 C2 e0 e1 hL
  go_wp2_with fail
  go_loopw [9, 7] (fun i ends wr => ∃ (k g : Nat) (v' : Value), i = .int .i64 k ∧ v' = ends ∧ k ≤ L ∧ Own wr v' k (fun i => otd P x m i) g ∧ g ≠ ga ∧ w.heap.size + 1 ≤ g ∧ Own wr (.slice (some ⟨ga, 0, none⟩) L ca) L (fd (paP P x) m) ga ∧ Ob wr w.heap.size 2 (bx (.slice p0 n c0) (.slice p1 m c1)) ∧ Below w.heap.size w wr) (fun i _ _ => L - (intOf i).toNat)
  case atStart => exact ⟨0, ge, _, rfl, rfl, Nat.zero_le _, F1, by omega, by omega, hoa, A4, C4⟩
  case round =>
    obtain ⟨k, g, ends, rfl, rfl, hk, ho, hne, hg, hat, hbox, hbel⟩ := hrel
    obtain ⟨co, rfl⟩ := ho.shape
    have hgl := ho.lt
    have hal := hat.lt
    have hbl := hbox.lt
    have HO := Lib.hid ho
    have HAT := Lib.hid hat
    have HB := Lib.hid hbel
    have HX := Lib.hid hbox
    have e0 := hbox.b0
    have e1 := hbox.b1
    clear ho hbel hbox F1 A4 C4 hoa
    by_cases hlt : k < L
    · obtain ⟨a, ha⟩ : ∃ a, a = ((fl (paP P x) m)[k]?).getD 0 := ⟨_, rfl⟩
      have hfg := fl_get (p := paP P x) (m := m) (i := k) (by rw [HL.out]; exact hlt)
      rw [← ha] at hfg
      obtain ⟨ham, hpa⟩ := hfg
      have HPA := Lib.hid (show endB (P a) x = true from hpa)
      have HOT := Lib.hid (show (P a).f + (P a).t - x = otd P x m k by unfold otd; rw [← ha]; exact sum_other (HPI.out a ham) hpa)
      have cc : wr.cell? ⟨ga, k, none⟩ = some (.int .i64 (a : Int)) := by
        have := hat.row.cell k hlt
        unfold fd at this
        rw [← ha] at this
        exact this
      have i0 : (0 : Int) ≤ (k : Int) := Int.natCast_nonneg _
      have i1 : (k : Int) < (L : Int) := by omega
      clear hpa ha hat
      go_wp2_with fail
      go_region_held3 (fun w' => w'.cell? ⟨w.heap.size, 0, none⟩ = some (.slice p0 n c0) ∧ w'.cell? ⟨w.heap.size, 1, none⟩ = some (.slice p1 m c1) ∧ w'.cell? ⟨ga, k, none⟩ = some (.int .i64 (a : Int)))
        (first | exact ⟨e0, e1, cc⟩ | exact SW5 | exact SA4 | exact SW4)
        (first
          | (go_at_call 57; refine (l02Other_any _ _ n N m P lo hi (HV.out.below HB.out hhi).drew (by simp; omega) HN.out (by omega) a ham x (HPI.out a ham) (by omega) HXR.out).mono ?_; rintro e w4 ⟨rfl, hb1⟩; rw [HOT.out]; have hb2 := below_dr0 hb1; have hs4 := hb2.size; have O4 := HO.out.below hb2 (Nat.le_refl _); obtain ⟨v5, w5, g5, hr, ap⟩ := app_run (w4.alloc (.cells #[.int .i64 (otd P x m k)] 2)) _ k _ g (otd P x m k) w4.heap.size (O4.alloc _) (cell_new1 w4 _) (by omega); have SW4 := hold3 hb2 hbl hal ⟨e0, e1, cc⟩; have SA4 := hold3 (below_new w4 (.cells #[.int .i64 (otd P x m k)] 2)) (Nat.lt_of_lt_of_le hbl hs4) (Nat.lt_of_lt_of_le hal hs4) SW4; have SW5 : w5.cell? ⟨w.heap.size, 0, none⟩ = some (.slice p0 n c0) ∧ w5.cell? ⟨w.heap.size, 1, none⟩ = some (.slice p1 m c1) ∧ w5.cell? ⟨ga, k, none⟩ = some (.int .i64 (a : Int)) := ⟨(World.cell?_of_block (ap.other (c := w.heap.size) (by omega) (by rw [szal]; omega)).1).trans SA4.1, (World.cell?_of_block (ap.other (c := w.heap.size) (by omega) (by rw [szal]; omega)).1).trans SA4.2.1, (World.cell?_of_block (ap.other (c := ga) (by omega) (by rw [szal]; omega)).1).trans SA4.2.2⟩)
          | (refine step_app hr rfl (.tmp 28) (.tmp 36) rfl rfl rfl rfl ?_))
      have O5 := Lib.hid ap.own'
      have oa := ap.other (c := ga) (by omega) (by rw [szal]; omega)
      have ob := ap.other (c := w.heap.size) (by omega) (by rw [szal]; omega)
      have bl := ap.below (B := w.heap.size + 1) hg (by rw [szal]; omega)
      have HAT5 := Lib.hid (((HAT.out.below hb2 (Nat.le_refl _)).alloc (.cells #[.int .i64 (otd P x m k)] 2)).keep oa.1)
      have HX5 := Lib.hid (((HX.out.below hb2 hbl).keep (Below.heap_alloc w4 (.cells #[.int .i64 (otd P x m k)] 2) _ (Nat.lt_of_lt_of_le hbl hs4))).keep ob.1)
      have HB5 := Lib.hid ((below_alloc (HB.out.trans (hb2.mono (by omega))) (by omega) (.cells #[.int .i64 (otd P x m k)] 2)).trans (bl.1.mono (by omega)))
      have hg5 := bl.2
      have hne5 := oa.2
      clear ap hr oa ob bl SW4 SA4 SW5 hb1 hb2 O4 hs4 e0 e1 cc
      go_wp2_with fail
      go_roundw
      case rel => exact ⟨k + 1, g5, v5, by go_num, rfl, hlt, O5.out, by omega, hg5, HAT5.out, HX5.out, HB5.out⟩
      case measure => simp [intOf]; omega
    · obtain rfl : k = L := by omega
      go_wp2_with fail
      have G0 := Own.nilled wr (fd (fun i => hasB k (otd P x m) i) 0)
      have O4 := HO.out.alloc (Obj.cells #[] 2)
      have X4 := HX.out.keep (Below.heap_alloc wr (Obj.cells #[] 2) _ hbl)
      have C5 : Below w.heap.size w (wr.alloc (Obj.cells #[] 2)) := below_alloc HB.out (by omega) _
      obtain ⟨W5, hW5⟩ : ∃ W5 : World, W5 = wr.alloc (Obj.cells #[] 2) := ⟨_, rfl⟩
      obtain ⟨gz, hgz⟩ : ∃ gz, gz = wr.heap.size := ⟨_, rfl⟩
      rw [← hW5, ← hgz] at G0
      rw [← hW5] at O4 X4 C5
      rw [← hW5, ← hgz]
      have hgz2 : g < gz := by omega
      clear hW5 hgz HO HX HB HAT hgl hal hbl hat e0 e1
      go_loopw [11, 10] (fun i out wr => ∃ (j g' : Nat) (out' : Value), i = .int .i64 j ∧ out' = out ∧ j ≤ n ∧ Own wr out' (fl (fun i => hasB k (otd P x m) i) j).length (fd (fun i => hasB k (otd P x m) i) j) g' ∧ g + 1 ≤ g' ∧ w.heap.size + 1 ≤ g' ∧ Own wr (.slice (some ⟨g, 0, none⟩) k co) k (fun i => otd P x m i) g ∧ Ob wr w.heap.size 2 (bx (.slice p0 n c0) (.slice p1 m c1)) ∧ Below w.heap.size w wr) (fun i _ _ => n - (intOf i).toNat)
      case atStart => exact ⟨0, gz, _, rfl, rfl, Nat.zero_le _, G0, by omega, by omega, O4, X4, C5⟩
      case round =>
        obtain ⟨j, g', out, rfl, rfl, hj, ho, hg', hg'', hen, hbox, hbel⟩ := hrel
        obtain ⟨cp, rfl⟩ := ho.shape
        have hgl := ho.lt
        have hel := hen.lt
        have hbl := hbox.lt
        have e0 := hbox.b0
        have e1 := hbox.b1
        have HO := Lib.hid ho
        have HE := Lib.hid hen
        have HB := Lib.hid hbel
        have HX := Lib.hid hbox
        clear ho hbel hbox O4 X4 C5 G0
        by_cases hjn : j < n
        · cases hp : hasB k (otd P x m) j
          all_goals
            have HPK := Lib.hid hp
            go_wp2_with fail
            refine (l02Has_any _ _ k (otd P x m) 0 _ (HE.out.ownS.cs (.inr rfl) (Nat.le_refl _)) j).mono ?_
            rintro e w' ⟨rfl, rfl⟩
          · go_wp2_with fail
            go_roundw
            case rel => exact ⟨j + 1, g', _, by go_num, rfl, hjn, fl_keep HPK.out HO.out, hg', hg'', HE.out, HX.out, HB.out⟩
            case measure => simp [intOf]; omega
          · obtain ⟨v5, w5, g5, hr, ap⟩ := coll_run wr _ (fun i => hasB k (otd P x m) i) j g' HO.out (by omega)
            have Y := Lib.hid (coll_below (B := g + 1) ap hg' (by omega))
            have Z := Lib.hid (coll_below (B := w.heap.size + 1) ap hg'' (by omega))
            have O5 := Lib.hid (fl_app HPK.out ap)
            have HE5 := Lib.hid (HE.out.keep (Y.out.1.block g (by omega)))
            clear ap
            go_wp2_with (at_builtin; refine wpList_app hr rfl _ _ rfl rfl rfl rfl ?_)
            go_roundw
            case rel => exact ⟨j + 1, g5, v5, by go_num, rfl, hjn, O5.out, Y.out.2.1, Z.out.2.1, HE5.out, HX.out.below Z.out.1 (by omega), HB.out.trans (Z.out.1.mono (by omega))⟩
            case measure => simp [intOf]; omega
        · obtain rfl : j = n := by omega
          have HQ : Hid (fl (fun i => hasB k (otd P x m) i) j = fl (nbk P x m) j) := by
            have : fl (fun i => hasB k (otd P x m) i) j = fl (nbk P x m) j := fl_congr (fun i _ => by rw [← HL.out]; exact has_nb P x m i)
            exact Lib.hid this
          go_wp2_with fail
          go_ret2
          have HO2 := HO.out
          unfold fd at HO2
          rw [HQ.out] at HO2
          exact li_ok H.out.symm (by rw [HC.out, HQ.out]; rfl) HO2 (by omega) HB.out
theorem agreeNeighboursOf (n : Nat) (N : Nat → Nod) (m : Nat) (P : Nat → Pip) (x : Int) (hN : ∀ i, i < n → (N i).s.size ≤ 9223372036854775807) (hn : n ≤ 2000000) (_hm : m ≤ 2000000) :
    ∃ rn rd rc, rn ≤ 2000000 ∧ (∀ w v, NetAt w v n N m P 0 w.heap.size → Calls Try.prog 21 #[v, .int .i64 x] w (LIPost w rn rd rc)) ∧ (∀ w v, NetAt w v n N m P 0 w.heap.size → Calls Try.prog 26 #[v, .int .i64 x] w (LIPost w rn rd rc)) :=
  ⟨nbN n N m P x, fd (nbk P x m) n, paC n N m P x, by unfold nbN; have := fl_le (nbk P x m) n; split <;> omega, fun w v h => neighboursI_any w v n N m P 0 _ h (Nat.le_refl _) hN x, fun w v h => neighboursS_any w v n N m P 0 _ h (Nat.le_refl _) hN x⟩
end Go.Proofs.Ytdmcggnhnkaoeaa.mem
