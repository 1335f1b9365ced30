/-
  Facts on shares: they add up, each is near its exact share; the laws' sum, size and likeInts over them. Conditions: as each states.
-/
import Derived.Test.YtmjmamiokkkblabRows
import Derived.Test.YtmjmamiokkkblabRes
import Derived.WalkKit
import Derived.ProofKit
import Derived.Lib.Hide
import Derived.Deep.QuietTactic
import Derived.BigQuiet
import Derived.IntWalk
namespace Go.Proofs.Ytmjmamiokkkblab.share
open Go.RowKit Go.Proofs.Ytmjmamiokkkblab.mem Go.Proofs.Ytmjmamiokkkblab.sort
set_option linter.unusedVariables false
set_option maxRecDepth 100000

theorem tot_one {a n : Nat} (h : a < n) : tot (fun j => if (a : Int) = (j : Int) then 1 else 0) n = 1 := by
  have z : ∀ k, k ≤ a → tot (fun j => if (a : Int) = (j : Int) then 1 else 0) k = 0 := by
    intro k
    induction k with
    | zero => intro _; rfl
    | succ k ih =>
      intro hk
      show tot _ k + (if (a : Int) = (k : Int) then 1 else 0) = 0
      rw [ih (by omega), if_neg (by omega)]
      rfl
  induction n with
  | zero => omega
  | succ n ih =>
    show tot _ n + (if (a : Int) = (n : Int) then 1 else 0) = 1
    rcases (by omega : a < n ∨ a = n) with h1 | h1
    · rw [ih h1, if_neg (by omega)]
      rfl
    · subst h1
      rw [z a (Nat.le_refl _), if_pos rfl]
      rfl
theorem tot_zero (n : Nat) : tot (fun _ => 0) n = 0 := by
  induction n with
  | zero => rfl
  | succ n ih =>
    show tot (fun _ => 0) n + 0 = 0
    rw [ih]
    rfl
theorem tot_le {d e : Nat → Int} {n : Nat} (h : ∀ k, k < n → d k ≤ e k) : tot d n ≤ tot e n := by
  induction n with
  | zero => exact Int.le_refl _
  | succ n ih =>
    have h1 := ih (fun k hk => h k (by omega))
    have h2 := h n (by omega)
    show tot d n + d n ≤ tot e n + e n
    omega
theorem le_tot {d : Nat → Int} {n : Nat} (h : ∀ k, k < n → 0 ≤ d k) : ∀ m, m ≤ n → 0 ≤ tot d m ∧ ∀ k, k < m → d k ≤ tot d m := by
  intro m
  induction m with
  | zero => intro _; exact ⟨Int.le_refl _, fun k hk => by omega⟩
  | succ m ih =>
    intro hm
    obtain ⟨h1, h2⟩ := ih (by omega)
    have h3 := h m (by omega)
    have e : tot d (m + 1) = tot d m + d m := rfl
    refine ⟨by omega, fun k hk => ?_⟩
    rcases (by omega : k < m ∨ k = m) with g | g
    · have := h2 k g
      omega
    · subst g
      omega
theorem tot_cnt {rem o : Nat → Int} {n : Nat} (hs : Same o ident 0 n) : ∀ t, t ≤ n → tot (cnt o t) n = t := by
  intro t
  induction t with
  | zero => intro _; exact tot_zero n
  | succ t ih =>
    intro ht
    have h1 := ih (by omega)
    have vt := order_vals hs t (Nat.zero_le _) (by omega)
    obtain ⟨u, hu⟩ : ∃ u : Nat, o t = (u : Int) := ⟨(o t).toNat, by omega⟩
    have h2 := tot_add (cnt o t) (fun i => if o t = (i : Int) then 1 else 0) n
    rw [hu, tot_one (by omega), h1] at h2
    show tot (fun i => cnt o t i + if o t = (i : Int) then 1 else 0) n = _
    rw [hu]
    rw [h2]
    omega
theorem cnt_one {rem o : Nat → Int} {n : Nat} (h : Sorted rem o 0 n) (i : Nat) : ∀ t, t ≤ n → cnt o t i ≤ 1 := by
  intro t
  induction t with
  | zero => intro _; show (0 : Int) ≤ 1; omega
  | succ t ih =>
    intro ht
    have h1 := ih (by omega)
    show cnt o t i + (if o t = (i : Int) then 1 else 0) ≤ 1
    by_cases e : o t = (i : Int)
    · rw [cnt_zero.2 (fun k hk e2 => order_ne h (show k < n by omega) (show t < n by omega) (by omega) (e2.trans e.symm)), if_pos e]
      omega
    · rw [if_neg e]
      omega
theorem left_eq {T : Int} {d : Nat → Int} {n : Nat} : tot d n * (T - tot (quo T d n) n) = tot (rmd T d n) n := by
  have e1 : tot (fun k => T * d k) n = T * tot d n := tot_mul T d n
  have e2 : tot (fun k => T * d k) n = tot d n * tot (quo T d n) n + tot (rmd T d n) n := by
    rw [← tot_mul, ← tot_add]
    exact tot_congr (fun k hk => (Int.mul_ediv_add_emod _ _).symm)
  rw [Int.mul_sub, Int.mul_comm (tot d n) T]
  omega
theorem left_int {T : Int} {d : Nat → Int} {n : Nat} (h : 0 < tot d n) : (leftN T d n : Int) = T - tot (quo T d n) n ∧ leftN T d n ≤ n := by
  have := left_bd (T := T) h
  unfold leftN
  omega
theorem cnt_pos {T : Int} {n : Nat} {d : Nat → Int} (h : code T n d = 0) {i : Nat} (hi : i < n) (hc : cnt (ord (rmd T d n) n) (leftN T d n) i ≠ 0) : 0 < rmd T d n i := by
  obtain ⟨h1, h2, h3, h4, h5, h6, h7⟩ := code_facts h
  obtain ⟨hS, hM⟩ := ord_spec (rmd T d n) n
  obtain ⟨l1, l2⟩ := left_int (T := T) h6
  have hl := left_eq (T := T) (d := d) (n := n)
  have hr : ∀ k, 0 ≤ rmd T d n k ∧ rmd T d n k < tot d n := fun k => ⟨Int.emod_nonneg _ (by omega), Int.emod_lt_of_pos _ h6⟩
  generalize ord (rmd T d n) n = o at *
  generalize leftN T d n = t at *
  generalize rmd T d n = rem at *
  rcases Int.lt_or_le 0 (rem i) with g | g
  · exact g
  exfalso
  have hz : rem i = 0 := by have := hr i; omega
  have hex : ∃ j, j < t ∧ o j = (i : Int) := by
    rcases Classical.em (∃ j, j < t ∧ o j = (i : Int)) with e | e
    · exact e
    · exact absurd (cnt_zero.2 (fun k hk e2 => e ⟨k, hk, e2⟩)) hc
  obtain ⟨j, hj, hoj⟩ := hex
  have hle : ∀ x, x < n → rem x ≤ tot d n * cnt o j x := by
    intro x hx
    have hrx := hr x
    by_cases e : cnt o j x = 0
    · rw [e, Int.mul_zero]
      obtain ⟨y, hy, hoy⟩ := order_has hM (v := (x : Int)) (by omega) (by omega)
      rcases Nat.lt_trichotomy y j with q | q | q
      · exact absurd hoy (cnt_zero.1 e y q)
      · subst q
        rw [hoj] at hoy
        obtain rfl : i = x := by omega
        omega
      · have := hS j y (Nat.zero_le _) q hy
        unfold lt at this
        rw [hoj, hoy] at this
        simp only [Int.toNat_natCast] at this
        omega
    · have hn := cnt_nonneg o j x
      have h1 : tot d n * 1 ≤ tot d n * cnt o j x := Int.mul_le_mul_of_nonneg_left (by omega) (by omega)
      omega
  have hsum := tot_le hle
  rw [show tot (fun k => tot d n * cnt o j k) n = tot d n * tot (cnt o j) n from tot_mul _ _ _, tot_cnt (rem := rem) hM j (by omega), ← hl, ← l1] at hsum
  have := Int.mul_lt_mul_of_pos_left (show (j : Int) < t by omega) h6
  omega
theorem shr_facts {T : Int} {n : Nat} {d : Nat → Int} (h : code T n d = 0) :
    tot (shr T d n) n = T ∧ ∀ k, k < n → (0 ≤ shr T d n k ∧ shr T d n k ≤ 1000000000) ∧ (-(tot d n) < shr T d n k * tot d n - T * d k ∧ shr T d n k * tot d n - T * d k < tot d n) ∧ (d k = 0 → shr T d n k = 0) := by
  obtain ⟨h1, h2, h3, h4, h5, h6, h7⟩ := code_facts h
  obtain ⟨hS, hM⟩ := ord_spec (rmd T d n) n
  obtain ⟨l1, l2⟩ := left_int (T := T) h6
  have hq := quo_bd h
  have hsum : tot (shr T d n) n = T := by
    have := tot_add (quo T d n) (cnt (ord (rmd T d n) n) (leftN T d n)) n
    rw [tot_cnt (rem := rmd T d n) hM _ l2, l1] at this
    refine Eq.trans this ?_
    omega
  have h0 : ∀ k, k < n → 0 ≤ shr T d n k := fun k hk => by
    have a := cnt_nonneg (ord (rmd T d n) n) (leftN T d n) k
    have b := (hq k hk).2.1.1
    show 0 ≤ quo T d n k + cnt (ord (rmd T d n) n) (leftN T d n) k
    omega
  refine ⟨hsum, fun k hk => ⟨⟨h0 k hk, ?_⟩, ?_⟩⟩
  · have := (le_tot h0 n (Nat.le_refl _)).2 k hk
    omega
  · have hc0 := cnt_nonneg (ord (rmd T d n) n) (leftN T d n) k
    have hc1 := cnt_one hS k _ l2
    have hp := cnt_pos h hk
    have hdiv : tot d n * quo T d n k + rmd T d n k = T * d k := Int.mul_ediv_add_emod _ _
    have hr : 0 ≤ rmd T d n k ∧ rmd T d n k < tot d n := ⟨Int.emod_nonneg _ (by omega), Int.emod_lt_of_pos _ h6⟩
    have e : shr T d n k = quo T d n k + cnt (ord (rmd T d n) n) (leftN T d n) k := rfl
    have hz : d k = 0 → quo T d n k = 0 ∧ rmd T d n k = 0 := fun g => by
      unfold quo rmd
      rw [g, Int.mul_zero]
      exact ⟨Int.zero_ediv _, Int.zero_emod _⟩
    generalize cnt (ord (rmd T d n) n) (leftN T d n) k = c at *
    rw [e, Int.add_mul, Int.mul_comm (quo T d n k)]
    rcases (by omega : c = 0 ∨ c = 1) with rfl | rfl
    · refine ⟨⟨by omega, by omega⟩, fun g => ?_⟩
      have := hz g
      omega
    · have := hp (by omega)
      refine ⟨⟨by omega, by omega⟩, fun g => ?_⟩
      have := hz g
      omega

def absI (x : Int) : Int := if x ≤ -x then -x else x
theorem absI_lt {x s : Int} (h1 : -s < x) (h2 : x < s) : absI x < s := by
  unfold absI
  split <;> omega
end Go.Proofs.Ytmjmamiokkkblab.share
namespace Go.Proofs.Ytmjmamiokkkblab.mem
open Go.RowKit
set_option linter.unusedVariables false
theorem Res.next {w w' : World} {v : Value} {N b : Nat} {S : Nat → Int} (h : Res w v N S b) (g : Below w.heap.size w w') : Res w' v N S b := h.below g (Nat.le_refl _)
theorem Res.shape {w : World} {v : Value} {N b : Nat} {S : Nat → Int} (h : Res w v N S b) : ∃ p cap, v = .slice p N cap := by
  obtain ⟨rfl, rfl⟩ | ⟨cap, rfl, h1, h2⟩ := h.ex
  · exact ⟨_, _, rfl⟩
  · exact ⟨_, _, rfl⟩
theorem Res.own {w : World} {p : Option Addr} {N b c : Nat} {S : Nat → Int} (h : Res w (.slice p N c) N S b) (hn : 0 < N) : p = some ⟨b, 0, none⟩ ∧ Row w b N S ∧ b < w.heap.size := by
  obtain ⟨h0, h1⟩ | ⟨cap, he, h1, h2⟩ := h.ex
  · omega
  · injection he with e1 _ _
    exact ⟨e1, h1, h2⟩

theorem size_any (x : Int) (h0 : -4000000000000000000 ≤ x) (h1 : x ≤ 4000000000000000000) (w : World) : Calls Try.prog 11 #[.int .i64 x] w fun e w' => e = .returned (.int .i64 (share.absI x)) ∧ w = w' := by
  unfold share.absI
  by_cases h : x ≤ -x
  · rw [if_pos h]
    go_enter Try.func11, Try.ntmps11
    go_wp2_with fail
    all_goals go_ret
    all_goals exact ⟨by first | rfl | exact congrArg (fun z => Ending.returned (Value.int .i64 z)) (show x = -x by omega), rfl⟩
  · rw [if_neg h]
    go_enter Try.func11, Try.ntmps11
    go_wp2_with fail
    all_goals go_ret
    all_goals exact ⟨by first | rfl | exact congrArg (fun z => Ending.returned (Value.int .i64 z)) (show x = -x by omega), rfl⟩
theorem sumL_any (w : World) (v : Value) (n : Nat) (d : Nat → Int) (lo hi : Nat) (h : Sl w v n d lo hi) (hs : share.Sums d n) (hn : n ≤ 1000000) :
    Calls Try.prog 10 #[v] w fun e w' => e = .returned (.int .i64 (share.tot d n)) ∧ w = w' := by
  obtain ⟨p, cap, rfl, hc⟩ := h
  have HC := Lib.hid hc
  have HS := Lib.hid hs
  clear hc hs
  go_enter Try.func10, Try.ntmps10
  go_wp2_with fail
  go_loop [3, 4] (fun q i => ∃ j : Nat, q = .int .i64 (share.tot d j) ∧ i = .int .i64 j ∧ j ≤ n) (fun _ i => n - (intOf i).toNat)
  case atStart => exact ⟨0, rfl, rfl, Nat.zero_le _⟩
  case round =>
    obtain ⟨j, rfl, rfl, hj⟩ := hrel
    by_cases hlt : j < n
    · rcases HC.out with h0 | ⟨b, o, rfl, g1, g2, g3⟩
      · omega
      have c1 := g3 j hlt
      have s1 := HS.out j hj
      have s2 := HS.out (j + 1) hlt
      have e2 : share.tot d (j + 1) = share.tot d j + d j := rfl
      have s3 : 0 ≤ share.tot d j + d j ∧ share.tot d j + d j ≤ 1000000000000 := by omega
      clear g3 s2 e2
      go_wp2_with fail
      go_round
      case rel => exact ⟨j + 1, rfl, by go_num, hlt⟩
      case measure => simp [intOf]; omega
    · obtain rfl : j = n := by omega
      go_wp2_with fail
      go_ret
      exact ⟨rfl, rfl⟩
theorem likeInts_sl (w : World) (v u : Value) (n : Nat) (d : Nat → Int) (lo hi lo' hi' : Nat) (h : Sl w v n d lo hi) (g : Sl w u n d lo' hi') (hn : n ≤ 1000000) :
    Calls Try.prog 9 #[v, u] w fun e w' => e = .returned (.bool true) ∧ Below w.heap.size w w' := by
  obtain ⟨p, cap, rfl, hc⟩ := h
  obtain ⟨p', cap', rfl, hc'⟩ := g
  have HC := Lib.hid hc
  have HC' := Lib.hid hc'
  clear hc hc'
  have hbb : ((n : Int) != n) = false := by simp
  go_enter Try.func9, Try.ntmps9
  go_wp2_with fail
  go_loopw [5] (fun i wr => ∃ k m : Nat, i = .int .i64 k ∧ k ≤ n ∧ wr = w.drewN m) (fun i _ => n - (intOf i).toNat)
  case atStart => exact ⟨0, 0, rfl, Nat.zero_le _, rfl⟩
  case round =>
    obtain ⟨k, m, rfl, hk, hw⟩ := hrel
    have HWR := Lib.hid hw
    by_cases hlt : k < n
    · rcases HC.out with h0 | ⟨b, o, rfl, g1, g2, g3⟩
      · omega
      rcases HC'.out with h0 | ⟨b', o', rfl, g1', g2', g3'⟩
      · omega
      have c1 : wr.cell? ⟨b, o + k, none⟩ = some (.int .i64 (d k)) := by rw [hw]; exact g3 k hlt
      have c2 : wr.cell? ⟨b', o' + k, none⟩ = some (.int .i64 (d k)) := by rw [hw]; exact g3' k hlt
      have hkn : (k : Int) < (n : Int) := by omega
      have hdd : (d k != d k) = false := by simp
      clear hw g3 g3'
      go_wp2_with fail
      go_quiet (fail)
      go_wp2_with fail
      go_roundw
      case rel => exact ⟨k + 1, m + nq, by go_num, hlt, by rw [HWR.out]; exact (World.drewN_drewN _ _ _)⟩
      case measure => simp [intOf]; omega
    · clear hw
      go_wp2_with fail
      go_ret
      exact ⟨rfl, by rw [HWR.out]; exact (share.below_drewN (Below.refl _ _) _)⟩
end Go.Proofs.Ytmjmamiokkkblab.mem
