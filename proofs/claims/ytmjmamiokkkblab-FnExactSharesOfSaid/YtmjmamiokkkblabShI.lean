/-
  The contract of the program's SharesOf: the code, and the shares in new memory. Condition: the weights read as a slice of integers.
-/
import Derived.Test.YtmjmamiokkkblabRows
import Derived.Test.YtmjmamiokkkblabSum
import Derived.Test.YtmjmamiokkkblabBy
import Derived.WalkKit
import Derived.ProofKit
import Derived.Lib.Hide
namespace Go.Proofs.Ytmjmamiokkkblab.share
open Go.RowKit Go.Proofs.Ytmjmamiokkkblab.mem Go.Proofs.Ytmjmamiokkkblab.sort
set_option linter.unusedVariables false

noncomputable def ord (rem : Nat → Int) (n : Nat) : Nat → Int := Classical.choose (order_ex rem n)
theorem ord_spec (rem : Nat → Int) (n : Nat) : Sorted rem (ord rem n) 0 n ∧ Same (ord rem n) ident 0 n := Classical.choose_spec (order_ex rem n)
def leftN (T : Int) (d : Nat → Int) (n : Nat) : Nat := (T - tot (quo T d n) n).toNat
/-- the shares -/
noncomputable def shr (T : Int) (d : Nat → Int) (n : Nat) : Nat → Int := part (quo T d n) (ord (rmd T d n) n) (leftN T d n)

def SharesPost (w : World) (T : Int) (n : Nat) (d : Nat → Int) (e : Ending) (w' : World) : Prop :=
  Below w.heap.size w w' ∧ ((code T n d ≠ 0 ∧ e = .returned (.tuple #[.slice none 0 0, .int .i64 (code T n d)])) ∨
    (code T n d = 0 ∧ ∃ b cap, e = .returned (.tuple #[.slice (some ⟨b, 0, none⟩) n cap, .int .i64 0]) ∧ w.heap.size ≤ b ∧ b < w'.heap.size ∧ Row w' b n (shr T d n)))

theorem code_facts {T : Int} {n : Nat} {d : Nat → Int} (h : code T n d = 0) : 0 < n ∧ n ≤ 64 ∧ 0 ≤ T ∧ T ≤ 1000000000 ∧ (∀ k, k < n → 0 ≤ d k ∧ d k ≤ 1000000000) ∧ 0 < tot d n ∧ tot d n ≤ 64000000000 := by
  unfold code at h
  split at h
  · omega
  · rename_i h1
    split at h
    · omega
    · rename_i h2
      split at h
      · omega
      · rename_i h3
        split at h
        · omega
        · rename_i h4
          have hall : ∀ k, k < n → 0 ≤ d k ∧ d k ≤ 1000000000 := by
            intro k hk
            refine num.inR_iff.1 ?_
            cases e : num.inR (d k) 0 1000000000
            · exact absurd ⟨k, hk, e⟩ h3
            · rfl
          have hT : 0 ≤ T ∧ T ≤ 1000000000 := by
            refine num.inR_iff.1 ?_
            cases e : num.inR T 0 1000000000
            · exact absurd e h2
            · rfl
          have := tot_bd hall n (Nat.le_refl _)
          exact ⟨by omega, by omega, hT.1, hT.2, hall, by omega, by omega⟩
theorem quo_bd {T : Int} {n : Nat} {d : Nat → Int} (h : code T n d = 0) : ∀ k, k < n → (0 ≤ T * d k ∧ T * d k ≤ 1000000000000000000) ∧ (0 ≤ quo T d n k ∧ quo T d n k ≤ 1000000000) ∧ (0 ≤ rmd T d n k ∧ rmd T d n k ≤ 64000000000) := by
  obtain ⟨h1, h2, h3, h4, h5, h6, h7⟩ := code_facts h
  intro k hk
  have hd := h5 k hk
  have hm := num.mul_bd (a := T) (b := d k) (m := 1000000000) (k := 1000000000) (by omega) h4 (by omega) hd.2
  have hm0 := Int.mul_nonneg h3 hd.1
  have hle : d k ≤ tot d n := by
    have : ∀ m, m ≤ n → k < m → d k ≤ tot d m := by
      intro m
      induction m with
      | zero => intro _ h; omega
      | succ m ih =>
        intro hm hkm
        have hm1 := h5 m (by omega)
        have ht := (tot_bd h5 m (by omega)).1
        simp only [tot]
        by_cases e : k = m
        · subst e; omega
        · have := ih (by omega) (by omega); omega
    exact this n (Nat.le_refl _) hk
  refine ⟨⟨hm0, by omega⟩, ⟨Int.ediv_nonneg hm0 (by omega), ?_⟩, Int.emod_nonneg _ (by omega), ?_⟩
  · unfold quo
    have h8 : T * d k ≤ 1000000000 * tot d n := Int.mul_le_mul h4 hle hd.1 (by omega)
    exact Int.ediv_le_of_le_mul h6 h8
  · unfold rmd
    have := Int.emod_lt_of_pos (T * d k) h6
    omega

set_option maxHeartbeats 4000000 in
theorem shares_any (w : World) (v : Value) (T : Int) (n : Nat) (d : Nat → Int) (lo hi : Nat) (h : Sl w v n d lo hi) (hhi : hi ≤ w.heap.size) (hn : n ≤ 9223372036854775807) :
    Calls Try.prog 7 #[.int .i64 T, v] w (SharesPost w T n d) := by
  have H := Lib.hid h
  clear h
  by_cases hc : code T n d = 0
  · obtain ⟨c1, c2, c3, c4, c5, c6, c7⟩ := code_facts hc
    have QB := Lib.hid (quo_bd hc)
    have LB := Lib.hid (left_bd (T := T) c6)
    have HS := Lib.hid (sums_of c5 (by omega))
    have HQ := Lib.hid (sums_of (fun k hk => (quo_bd hc k hk).2.1) (by omega))
    have C5 := Lib.hid c5
    have HC := Lib.hid hc
    have hmk := fun W => make_int64 W n (by omega)
    obtain ⟨p, cap, hv, hcell⟩ := H.out.ex
    subst hv
    have HV := Lib.hid hcell
    clear c5 hcell
    go_enter Try.func7, Try.ntmps7
    go_wp2_with (first | (go_at_call 18; refine (check_any _ _ T n d lo hi H.out hn).mono ?_; rintro e w' ⟨rfl, rfl⟩) | (go_at_call 19; refine (sum_any _ _ n d lo hi H.out HS.out (by omega)).mono ?_; rintro e w' ⟨rfl, rfl⟩))
    generalize hW : (w.alloc (Obj.cells (zeros n) 2)).alloc (Obj.cells (zeros n) 2) = W1
    have f0 : Only (w.heap.size + 1) W1 W1 := Only.refl _ _
    have f1 : Row W1 w.heap.size n (fun _ => 0) := by
      rw [← hW]
      exact (row_made w n _).below (B := w.heap.size + 1) ((Below.refl _ _).alloc (by simp) _) (by omega)
    have f1' : Row W1 (w.heap.size + 1) n (fun _ => 0) := by
      have := row_made (w.alloc (Obj.cells (zeros n) 2)) n 2
      rw [hW] at this
      simpa using this
    have f2 : Below w.heap.size w W1 := by rw [← hW]; exact ((Below.refl _ _).alloc (Nat.le_refl _) _).alloc (by simp) _
    have f4 : W1.heap.size = w.heap.size + 2 := by rw [← hW]; simp
    have F1 := Lib.hid f1
    have F1' := Lib.hid f1'
    have F2 := Lib.hid f2
    have F4 := Lib.hid f4
    clear f0 f1 f1' f2 f4 hW hmk
    generalize hO2 : w.heap.size + 1 = b2 at *
    generalize hO1 : w.heap.size = b1 at *
    have h12 : b1 ≠ b2 := by omega
    have h12b : b1 < b2 := by omega
    have HO1 := Lib.hid hO1
    have HO2 := Lib.hid hO2
    clear hO1 hO2
    go_loopw [31] (fun i wr => ∃ k : Nat, i = .int .i64 k ∧ k ≤ n ∧ Row wr b1 n (fun j => if j < k then quo T d n j else 0) ∧ Row wr b2 n (fun j => if j < k then rmd T d n j else 0) ∧ Below b1 W1 wr ∧ wr.heap.size = W1.heap.size) (fun i _ => n - (intOf i).toNat)
    case atStart => exact ⟨0, rfl, Nat.zero_le _, F1.out.congr (fun k hk => by simp), F1'.out.congr (fun k hk => by simp), Below.refl _ _, rfl⟩
    case round =>
      obtain ⟨k, rfl, hk, hr1, hr2, hbel, hsz⟩ := hrel
      have R1 := Lib.hid hr1
      have R2 := Lib.hid hr2
      have HB := Lib.hid hbel
      have HSZ := Lib.hid hsz
      by_cases hlt : k < n
      · rcases HV.out with g0 | ⟨b, o, rfl, g1, g2, g3⟩
        · omega
        have ca : wr.cell? ⟨b, o + k, none⟩ = some (.int .i64 (d k)) :=
          ((HB.out.cell (p := ⟨b, o + k, none⟩) (by show b < b1; omega)).trans (F2.out.cell (p := ⟨b, o + k, none⟩) (by show b < b1; omega))).trans (g3 k hlt)
        have c1' := hr1.cell k hlt
        have c2' := hr2.cell k hlt
        have fr1 := hr1.free k hlt
        have fr2 := hr2.free k hlt
        obtain ⟨⟨q1, q2⟩, ⟨q3, q4⟩, q5, q6⟩ := QB.out k hlt
        have e1 : T * d k / tot d n = quo T d n k := rfl
        have e2 : T * d k % tot d n = rmd T d n k := rfl
        clear g3 hr1 hr2 hbel hsz
        go_wp2_with fail
        go_roundw
        case rel =>
          have up : ∀ (f : Nat → Int) j, j < n → upd (fun j => if j < k then f j else 0) k (f k) j = (fun j => if j < k + 1 then f j else 0) j := by
            intro f j hj
            unfold upd
            by_cases e : j = k
            · subst e
              show _ = if j < j + 1 then f j else 0
              rw [if_pos rfl, if_pos (by omega)]
            · rw [if_neg e]
              show (if j < k then f j else 0) = if j < k + 1 then f j else 0
              by_cases e2 : j < k
              · rw [if_pos e2, if_pos (by omega)]
              · rw [if_neg e2, if_neg (by omega)]
          have s1 := ((R1.out.set k (quo T d n k) hlt).only ((Only.refl b2 _).setCell k (.int .i64 (rmd T d n k))) h12).congr (up (quo T d n))
          have s2 := ((R2.out.only ((Only.refl b1 _).setCell k (.int .i64 (quo T d n k))) (Ne.symm h12)).set k (rmd T d n k) hlt).congr (up (rmd T d n))
          exact ⟨k + 1, by go_num, hlt, s1, s2, (HB.out.setCell (Nat.le_refl _) _).setCell (Nat.le_of_lt h12b) _, by rw [← HSZ.out]; simp [World.setCell]⟩
        case measure => simp [intOf]; omega
      · have kn : k = n := by omega
        have r1 : Row wr b1 n (quo T d n) := hr1.congr (fun j hj => if_pos (by omega))
        have r2 : Row wr b2 n (rmd T d n) := hr2.congr (fun j hj => if_pos (by omega))
        have RQ := Lib.hid r1
        have RR := Lib.hid r2
        have hb1s : b1 < wr.heap.size := by rw [hsz, F4.out]; omega
        have hb2s : b2 < wr.heap.size := by rw [hsz, F4.out]; have := HO2.out; omega
        clear hr1 hr2 hbel hsz r1 r2 kn R1 R2
        obtain ⟨L, hL⟩ : ∃ L : Nat, L = leftN T d n := ⟨_, rfl⟩
        have hLL : T - tot (quo T d n) n = (L : Int) := by rw [hL]; unfold leftN; have := LB.out; omega
        have hLn : L ≤ n := by have := LB.out; omega
        have HL := Lib.hid hL
        clear hL
        go_wp2_with (go_at_call 19; refine (sum_any _ _ n (quo T d n) 0 (b1 + 1) (RQ.out.sl (Nat.zero_le _) (by omega)) HQ.out (by omega)).mono ?_; rintro e w' ⟨rfl, rfl⟩)
        refine (byRem_any wr b2 n n (rmd T d n) RR.out hb2s (by omega)).mono ?_
        rintro e w2 ⟨ob, c, rfl, o1, o2, ro, bel, so, sa⟩
        have RO := Lib.hid ro
        have R1' := Lib.hid (RQ.out.below bel hb1s)
        have HBL := Lib.hid (HB.out.trans (bel.mono (Nat.le_of_lt hb1s)))
        have HZZ := Lib.hid (show b1 < w2.heap.size from Nat.lt_of_lt_of_le hb1s bel.size)
        have HVC := Lib.hid (sa.vals (fun k k1 k2 => show (0 : Int) ≤ (k : Int) ∧ (k : Int) < n by omega))
        have HUQ := Lib.hid (order_uniq (ord_spec (rmd T d n) n).1 (ord_spec (rmd T d n) n).2 so sa)
        have hob : b1 ≠ ob := by omega
        clear ro bel so sa
        go_wp2_with fail
        go_loopw [62] (fun i wq => ∃ k : Nat, i = .int .i64 k ∧ k ≤ L ∧ Row wq b1 n (part (quo T d n) c k) ∧ Only b1 w2 wq) (fun i _ => L - (intOf i).toNat)
        case atStart => exact ⟨0, rfl, Nat.zero_le _, R1'.out.congr (fun k hk => by simp [part, cnt]), Only.refl _ _⟩
        case round =>
          obtain ⟨k, rfl, hk, hrow, honly⟩ := hrel
          have HW := Lib.hid hrow
          have HO := Lib.hid honly
          by_cases hlt : k < L
          · have hv := HVC.out k (Nat.zero_le _) (by omega)
            obtain ⟨u, hu⟩ : ∃ u : Nat, c k = (u : Int) := ⟨(c k).toNat, by omega⟩
            have hun : u < n := by omega
            have co := (RO.out.only honly (Ne.symm hob)).cell k (by omega)
            rw [hu] at co
            have cb := hrow.cell u hun
            have fb := hrow.free u hun
            have hq := (QB.out u hun).2.1
            have hcn := cnt_nonneg c k u
            have hcl := cnt_le c k u
            have hp : 0 ≤ part (quo T d n) c k u ∧ part (quo T d n) c k u ≤ 2000000000 := by unfold part; omega
            have HU := Lib.hid hu
            have hkn : (k : Int) < (L : Int) := by omega
            clear hrow honly hv hu hq hcn hcl
            go_wp2_with fail
            go_roundw
            case rel =>
              have hs := HW.out.set u (part (quo T d n) c k u + 1) hun
              rw [part_step HU.out] at hs
              exact ⟨k + 1, by go_num, hlt, hs, HO.out.setCell _ _⟩
            case measure => simp [intOf]; omega
          · have ek : k = L := by omega
            have EK := Lib.hid ek
            clear hrow honly ek
            go_wp2_with fail
            go_ret2
            have hr := HW.out
            rw [EK.out] at hr
            refine ⟨?_, .inr ⟨HC.out, b1, n, rfl, ?_, ?_, ?_⟩⟩
            · rw [HO1.out]; exact F2.out.trans (HBL.out.trans (HO.out.below (Nat.le_refl _)))
            · rw [HO1.out]; exact Nat.le_refl _
            · rw [← HO.out.size]; exact HZZ.out
            · refine hr.congr (fun i hi => ?_)
              unfold shr part
              rw [← HL.out, cnt_congr (fun k hk => HUQ.out k (by omega))]
  · have HC := Lib.hid hc
    have hcb : (code T n d != 0) = true := by rw [bne_iff_ne]; exact hc
    clear hc
    go_enter Try.func7, Try.ntmps7
    go_wp2_with (go_at_call 18; refine (check_any _ _ T n d lo hi H.out hn).mono ?_; rintro e w' ⟨rfl, rfl⟩)
    go_ret2
    exact ⟨Below.refl _ _, .inl ⟨HC.out, rfl⟩⟩
end Go.Proofs.Ytmjmamiokkkblab.share
