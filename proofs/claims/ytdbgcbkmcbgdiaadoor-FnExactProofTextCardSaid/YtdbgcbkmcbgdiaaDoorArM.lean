/-
  Several texts in one: Arr, Arb, Arc, Chd, Asc.
-/
import Derived.Test.YtdbgcbkmcbgdiaaDoorRows
import Derived.Test.YtdbgcbkmcbgdiaaDoorNetX
import Derived.Test.YtdbgcbkmcbgdiaaDoorOwn
import Derived.Deep.WholeRow
import Derived.Test.YtdbgcbkmcbgdiaaDoorInts
import Derived.Test.YtdbgcbkmcbgdiaaDoorApm
import Derived.Test.YtdbgcbkmcbgdiaaDoorNetB
import Derived.Test.YtdbgcbkmcbgdiaaDoorNetO
import Derived.Test.YtdbgcbkmcbgdiaaDoorCyM
import Derived.Laws.CopyOwn
import Derived.WalkSpells
import Derived.OwnWalk
import Derived.Test.YtdbgcbkmcbgdiaaDoorHas
import Derived.WalkMore
import Derived.Deep.RegionHeld3
import Derived.Deep.MidRow
namespace Go.Proofs.YtdbgcbkmcbgdiaaDoor.mem
open Go.RowKit
set_option linter.unusedVariables false

/-- the cells of an array of numbers -/
def ia (x : Nat → Int) (k : Nat) : Value := .int .i64 (x k)
def arrL (x : Nat → Int) : List Value := (List.range 40).map (ia x)
def arr (x : Nat → Int) : Array Value := List.toArray (arrL x)
theorem arr_size (x : Nat → Int) : (arr x).size = 40 := by unfold arr arrL; simp
theorem arr_get (x : Nat → Int) (k : Nat) (hk : k < 40) : (arr x)[k]? = some (ia x k) := by unfold arr arrL; simp [hk]
theorem arr_eq {cur : Array Value} {x : Nat → Int} (h1 : cur.size = 40) (h2 : ∀ k, k < 40 → cur[k]? = some (ia x k)) : cur = arr x := by
  apply Array.ext_getElem?
  intro k
  by_cases h : k < 40
  · rw [h2 k h, arr_get x k h]
  · rw [Array.getElem?_eq_none (by omega), Array.getElem?_eq_none (by rw [arr_size]; omega)]
theorem arr_congr {x y : Nat → Int} (h : ∀ k, k < 40 → x k = y k) : arr x = arr y := by
  refine arr_eq (arr_size x) fun k hk => ?_
  rw [arr_get x k hk]
  unfold ia
  rw [h k hk]
theorem arr_one (x : Nat → Int) : (arr x).all (·.oneCell') = true := by
  rw [Array.all_eq_true_iff_forall_mem]
  intro v hv
  unfold arr arrL at hv
  simp only [List.mem_toArray, List.mem_map] at hv
  obtain ⟨i, _, rfl⟩ := hv
  rfl
theorem zeros40 (k : Nat) (hk : k < 40) : (#[Value.int IntKind.i64 0, Value.int IntKind.i64 0, Value.int IntKind.i64 0, Value.int IntKind.i64 0, Value.int IntKind.i64 0, Value.int IntKind.i64 0, Value.int IntKind.i64 0, Value.int IntKind.i64 0, Value.int IntKind.i64 0, Value.int IntKind.i64 0, Value.int IntKind.i64 0, Value.int IntKind.i64 0, Value.int IntKind.i64 0, Value.int IntKind.i64 0, Value.int IntKind.i64 0, Value.int IntKind.i64 0, Value.int IntKind.i64 0, Value.int IntKind.i64 0, Value.int IntKind.i64 0, Value.int IntKind.i64 0, Value.int IntKind.i64 0, Value.int IntKind.i64 0, Value.int IntKind.i64 0, Value.int IntKind.i64 0, Value.int IntKind.i64 0, Value.int IntKind.i64 0, Value.int IntKind.i64 0, Value.int IntKind.i64 0, Value.int IntKind.i64 0, Value.int IntKind.i64 0, Value.int IntKind.i64 0, Value.int IntKind.i64 0, Value.int IntKind.i64 0, Value.int IntKind.i64 0, Value.int IntKind.i64 0, Value.int IntKind.i64 0, Value.int IntKind.i64 0, Value.int IntKind.i64 0, Value.int IntKind.i64 0, Value.int IntKind.i64 0] : Array Value)[k]? = some (ia (fun _ => 0) k) := by
  rcases (by omega : k = 0 ∨ k = 1 ∨ k = 2 ∨ k = 3 ∨ k = 4 ∨ k = 5 ∨ k = 6 ∨ k = 7 ∨ k = 8 ∨ k = 9 ∨ k = 10 ∨ k = 11 ∨ k = 12 ∨ k = 13 ∨ k = 14 ∨ k = 15 ∨ k = 16 ∨ k = 17 ∨ k = 18 ∨ k = 19 ∨ k = 20 ∨ k = 21 ∨ k = 22 ∨ k = 23 ∨ k = 24 ∨ k = 25 ∨ k = 26 ∨ k = 27 ∨ k = 28 ∨ k = 29 ∨ k = 30 ∨ k = 31 ∨ k = 32 ∨ k = 33 ∨ k = 34 ∨ k = 35 ∨ k = 36 ∨ k = 37 ∨ k = 38 ∨ k = 39) with rfl | rfl | rfl | rfl | rfl | rfl | rfl | rfl | rfl | rfl | rfl | rfl | rfl | rfl | rfl | rfl | rfl | rfl | rfl | rfl | rfl | rfl | rfl | rfl | rfl | rfl | rfl | rfl | rfl | rfl | rfl | rfl | rfl | rfl | rfl | rfl | rfl | rfl | rfl | rfl <;> rfl
/-- the whole array out of an own block -/
theorem Ob.row {w : World} {b : Nat} {x : Nat → Int} (h : Ob w b 40 (ia x)) : ∃ t, w.heap[b]? = some (.cells (arr x) t (0, 0)) := by
  obtain ⟨cur, t, h1, h2, h3⟩ := h.ex
  rw [arr_eq h2 h3] at h1
  exact ⟨t, h1⟩
theorem Ob.newA (w : World) (x : Nat → Int) (t : TypeId) : Ob (w.alloc (.cells (arr x) t)) w.heap.size 40 (ia x) := Ob.new w _ t 40 _ (arr_size x) (fun k hk => arr_get x k hk)
theorem Ob.new0 (w : World) (t : TypeId) : Ob (w.alloc (.cells #[Value.int IntKind.i64 0, Value.int IntKind.i64 0, Value.int IntKind.i64 0, Value.int IntKind.i64 0, Value.int IntKind.i64 0, Value.int IntKind.i64 0, Value.int IntKind.i64 0, Value.int IntKind.i64 0, Value.int IntKind.i64 0, Value.int IntKind.i64 0, Value.int IntKind.i64 0, Value.int IntKind.i64 0, Value.int IntKind.i64 0, Value.int IntKind.i64 0, Value.int IntKind.i64 0, Value.int IntKind.i64 0, Value.int IntKind.i64 0, Value.int IntKind.i64 0, Value.int IntKind.i64 0, Value.int IntKind.i64 0, Value.int IntKind.i64 0, Value.int IntKind.i64 0, Value.int IntKind.i64 0, Value.int IntKind.i64 0, Value.int IntKind.i64 0, Value.int IntKind.i64 0, Value.int IntKind.i64 0, Value.int IntKind.i64 0, Value.int IntKind.i64 0, Value.int IntKind.i64 0, Value.int IntKind.i64 0, Value.int IntKind.i64 0, Value.int IntKind.i64 0, Value.int IntKind.i64 0, Value.int IntKind.i64 0, Value.int IntKind.i64 0, Value.int IntKind.i64 0, Value.int IntKind.i64 0, Value.int IntKind.i64 0, Value.int IntKind.i64 0] t)) w.heap.size 40 (ia (fun _ => 0)) := Ob.new w _ t 40 _ rfl (fun k hk => zeros40 k hk)
theorem Ob.setI {w : World} {b : Nat} {x : Nat → Int} (h : Ob w b 40 (ia x)) (i : Nat) (v : Int) (hi : i < 40) : Ob (w.setCell ⟨b, i, none⟩ (.int .i64 v)) b 40 (ia (upd x i v)) := by
  refine (h.set i (.int .i64 v) hi).congr fun k _ => ?_
  unfold updV ia upd
  split <;> rfl
theorem Ob.setRow {w : World} {b : Nat} {d : Nat → Value} (h : Ob w b 40 d) (x : Nat → Int) : Ob (w.setRow b (arr x)) b 40 (ia x) := by
  obtain ⟨cur, t, h1, h2, h3⟩ := h.ex
  refine ⟨arr x, t, ?_, arr_size x, fun k hk => arr_get x k hk⟩
  simp [World.setRow, Array.getElem?_modify, h1]
theorem Only.setRow {g : Nat} {w w' : World} (h : Only g w w') (c : Array Value) : Only g w (w'.setRow g c) := h.trans ⟨rfl, rfl, rfl, by simp [World.setRow], fun k hk => by simp [World.setRow, Array.getElem?_modify, Ne.symm hk]⟩

theorem below_drw {B : Nat} {w w' : World} (h : Below B w w') : Below B w w'.drew := ⟨h.os, h.tape, h.output, h.size, h.block⟩
end Go.Proofs.YtdbgcbkmcbgdiaaDoor.mem

namespace Go.Proofs.YtdbgcbkmcbgdiaaDoor.mem
open Go.RowKit
set_option linter.unusedVariables false


/-- may all these numbers be flows? -/
def flQ (x : Int) : Bool := inR x (-30000) 30000
def flB (d : Nat → Int) : Nat → Bool
  | 0 => true
  | k + 1 => flB d k && flQ (d k)
theorem flB_iff {d : Nat → Int} : ∀ {n : Nat}, flB d n = true ↔ ∀ k, k < n → flQ (d k) = true
  | 0 => by simp [flB]
  | n + 1 => by
    unfold flB
    rw [Bool.and_eq_true, flB_iff]
    constructor
    · rintro ⟨h1, h2⟩ k hk
      by_cases e : k = n
      · subst e; exact h2
      · exact h1 k (by omega)
    · intro h
      exact ⟨fun k hk => h k (by omega), h n (by omega)⟩
theorem flB_no {d : Nat → Int} {n k : Nat} (hk : k < n) (h : flQ (d k) = false) : flB d n = false := by
  rw [Bool.eq_false_iff]
  intro g
  rw [flB_iff.1 g k hk] at h
  cases h
theorem flB_congr {d e : Nat → Int} {n : Nat} (h : ∀ k, k < n → d k = e k) : flB d n = flB e n := by
  rw [Bool.eq_iff_iff, flB_iff, flB_iff]
  exact ⟨fun g k hk => by rw [← h k hk]; exact g k hk, fun g k hk => by rw [h k hk]; exact g k hk⟩

/-- do all these numbers lie between two bounds? -/
def irB (x y : Int) (d : Nat → Int) : Nat → Bool
  | 0 => true
  | k + 1 => irB x y d k && inR (d k) x y
theorem irB_iff {x y : Int} {d : Nat → Int} : ∀ {n : Nat}, irB x y d n = true ↔ ∀ k, k < n → inR (d k) x y = true
  | 0 => by simp [irB]
  | n + 1 => by
    unfold irB
    rw [Bool.and_eq_true, irB_iff]
    constructor
    · rintro ⟨h1, h2⟩ k hk
      by_cases e : k = n
      · subst e; exact h2
      · exact h1 k (by omega)
    · intro h
      exact ⟨fun k hk => h k (by omega), h n (by omega)⟩
theorem irB_no {x y : Int} {d : Nat → Int} {n k : Nat} (hk : k < n) (h : inR (d k) x y = false) : irB x y d n = false := by
  rw [Bool.eq_false_iff]
  intro g
  rw [irB_iff.1 g k hk] at h
  cases h
set_option maxHeartbeats 4000000 in
theorem areInRange_any (x y : Int) (w : World) (v : Value) (n : Nat) (d : Nat → Int) (lo hi : Nat) (h : Sl w v n d lo hi) (hn : n ≤ 9223372036854775807) :
    Calls Tryd.prog 44 #[.int .i64 x, .int .i64 y, v] w fun e w' => e = .returned (.bool (irB x y d n)) ∧ w = w' := by
  obtain ⟨p, cap, rfl, hc⟩ := h
  have HC := Lib.hid hc
  clear hc
  go_enter Tryd.func44, Tryd.ntmps44
  go_wp2_with fail
  go_loopw [11] (fun iv wr => ∃ k : Nat, iv = .int .i64 k ∧ k ≤ n ∧ irB x y d k = true ∧ w = wr) (fun iv _ => n - (intOf iv).toNat)
  case atStart => exact ⟨0, rfl, Nat.zero_le _, rfl, rfl⟩
  case round =>
    obtain ⟨k, rfl, hk, hb, rfl⟩ := hrel
    generalize hQ : Exit.then _ _ = Q
    have HQ := Lib.hid hQ
    clear hQ
    have HF := Lib.hid hb
    clear hb
    have k0 : (0 : Int) ≤ (k : Int) := Int.natCast_nonneg _
    by_cases hlt : k < n
    · have k1 : (k : Int) < (n : Int) := by omega
      obtain ⟨b, o, rfl, _, _, hx⟩ : ∃ b o, p = some ⟨b, o, none⟩ ∧ lo ≤ b ∧ b < hi ∧ ∀ k, k < n → w.cell? ⟨b, o + k, none⟩ = some (.int .i64 (d k)) := by
        rcases HC.out with e | e
        · omega
        · exact e
      have y0 := hx k hlt
      have HX := Lib.hid hx
      clear hx
      cases hq : inR (d k) x y
      · have HR := Lib.hid (irB_no hlt hq)
        go_wp2_with (go_at_call 54; refine (inRange_any _ _ _ _).mono ?_; rintro e w' ⟨rfl, rfl⟩)
        rw [← HQ.out]
        go_wp2_with fail
        go_ret
        exact ⟨ret_b HR.out.symm, rfl⟩
      · have HR := Lib.hid (show irB x y d (k + 1) = true by unfold irB; rw [HF.out, hq]; rfl)
        go_wp2_with (go_at_call 54; refine (inRange_any _ _ _ _).mono ?_; rintro e w' ⟨rfl, rfl⟩)
        rw [← HQ.out]
        refine ⟨⟨_, _, _, _, _, _, _, _, _, _, _, _, ?rel, rfl⟩, ?measure⟩
        case rel => exact ⟨k + 1, by go_num, hlt, HR.out, rfl⟩
        case measure => simp [intOf]; omega
    · have hkn : n = k := by omega
      subst hkn
      have k1 : ¬ ((n : Int) < (n : Int)) := by omega
      go_wp2_with fail
      rw [← HQ.out]
      go_wp2_with fail
      go_ret
      exact ⟨ret_b HF.out.symm, rfl⟩

theorem irB_flB (d : Nat → Int) : ∀ n, irB (-30000) 30000 d n = flB d n
  | 0 => rfl
  | n + 1 => by unfold irB flB flQ; rw [irB_flB d n]
theorem areFlows_any (w : World) (v : Value) (n : Nat) (d : Nat → Int) (lo hi : Nat) (h : Sl w v n d lo hi) (hn : n ≤ 9223372036854775807) :
    Calls Tryd.prog 43 #[v] w fun e w' => e = .returned (.bool (flB d n)) ∧ w = w' := by
  have H := Lib.hid h
  obtain ⟨p, cap, rfl, hc⟩ := h
  clear hc
  go_enter Tryd.func43, Tryd.ntmps43
  go_wp2_with (go_at_call 44; refine (areInRange_any _ _ _ _ n d _ _ H.out hn).mono ?_; rintro e w' ⟨rfl, rfl⟩; rw [irB_flB])
  go_ret
  exact ⟨rfl, rfl⟩
/-- a list as an array -/
def pad (n : Nat) (d : Nat → Int) (k : Nat) : Int := if k < n then d k else 0
theorem pad_splice {n : Nat} {d : Nat → Int} (hn : n ≤ 40) : (splice (arr (fun _ => 0)).toList 0 (intL n d)).toArray = arr (pad n d) := by
  have hs : (arr (fun _ => 0)).toList.length = 40 := by rw [Array.length_toList, arr_size]
  refine arr_eq ?_ fun k hk => ?_
  · rw [List.size_toArray, length_splice _ _ _ (by rw [hs, intL_len]; omega), hs]
  · rw [List.getElem?_toArray]
    unfold splice
    rw [List.take_zero, List.nil_append, Nat.zero_add]
    by_cases h : k < n
    · rw [List.getElem?_append_left (by rw [intL_len]; exact h), intL_get d h]
      unfold ia pad
      rw [if_pos h]
    · rw [List.getElem?_append_right (by rw [intL_len]; omega), intL_len, List.getElem?_drop, show n + (k - n) = k by omega, Array.getElem?_toList, arr_get _ _ hk]
      unfold ia pad
      rw [if_neg h]
theorem intL_one (n : Nat) (d : Nat → Int) : ∀ u ∈ intL n d, u.oneCell' = true := by
  intro u hu
  obtain ⟨k, _, rfl⟩ := List.mem_map.1 hu
  rfl
theorem int64_size : (Tryd.prog.info? 2).map (·.size) = some 1 := by kernel_rfl
end Go.Proofs.YtdbgcbkmcbgdiaaDoor.mem

namespace Go.Proofs.YtdbgcbkmcbgdiaaDoor.mem
open Go.RowKit
set_option linter.unusedVariables false

theorem Ob.sl {w : World} {b N : Nat} {x : Nat → Int} (h : Ob w b N (ia x)) (m c : Nat) (hm : m ≤ N) : Sl w (.slice (some ⟨b, 0, none⟩) m c) m x b (b + 1) :=
  ⟨_, c, rfl, .inr ⟨b, 0, rfl, Nat.le_refl _, by omega, fun k hk => by rw [Nat.zero_add]; exact h.cell k (by omega)⟩⟩
theorem Own.sl {w : World} {v : Value} {n g : Nat} {d : Nat → Int} (h : Own w v n d g) : Sl w v n d g (g + 1) := by
  obtain ⟨c, rfl⟩ := h.shape
  exact h.row.sl (Nat.le_refl _) (by omega)

/-- the first place of a number in a list -/
def idxD (d : Nat → Int) (x : Int) : Nat → Nat → Int
  | 0, _ => -1
  | f + 1, k => if x = d k then (k : Int) else idxD d x f (k + 1)
theorem idx_has (d : Nat → Int) (x : Int) : ∀ f k, (decide (idxD d x f k ≥ 0)) = (List.range' k f).any (fun i => d i == x)
  | 0, k => by simp [idxD]
  | f + 1, k => by
    unfold idxD
    rw [List.range'_succ, List.any_cons]
    by_cases e : x = d k
    · rw [if_pos e]
      simp [e]
    · rw [if_neg e, idx_has d x f (k + 1)]
      have : (d k == x) = false := by simpa using fun h => e h.symm
      rw [this, Bool.false_or]
theorem idx_hasB (n : Nat) (d : Nat → Int) (x : Int) : decide (idxD d x n 0 ≥ 0) = hasB n d x := by
  rw [idx_has, ← List.range_eq_range']
  rfl
end Go.Proofs.YtdbgcbkmcbgdiaaDoor.mem

namespace Go.Proofs.YtdbgcbkmcbgdiaaDoor.mem
open Go.RowKit
set_option linter.unusedVariables false

theorem chP_yes {n : Nat} {N : Nat → Nod} {P : Nat → Pip} {m : Nat} (hN : netB n N m P = true) {k : Nat} (h : ∀ j, j < n → fE n P m (j : Nat) ≠ ((k : Nat) : Int)) : chP n P m k = true := by
  unfold chP
  cases hp : inF n P m (fl (rts n P m) n) k
  · rfl
  · obtain ⟨z, z0, z1, e⟩ := (inF_fE hN k).1 hp
    obtain ⟨j, rfl⟩ := Int.eq_ofNat_of_zero_le z0
    exact absurd e (h j (by omega))
theorem chP_hit {n : Nat} {N : Nat → Nod} {P : Nat → Pip} {m : Nat} (hN : netB n N m P = true) {j k : Nat} (hj : j < n) (h : fE n P m (j : Nat) = ((k : Nat) : Int)) : chP n P m k = false := by
  unfold chP
  rw [(inF_fE hN k).2 ⟨(j : Nat), by omega, by omega, h⟩]
  rfl

end Go.Proofs.YtdbgcbkmcbgdiaaDoor.mem

namespace Go.Proofs.YtdbgcbkmcbgdiaaDoor.mem
open Go.RowKit
set_option linter.unusedVariables false

/-- a pipe's cells -/
theorem NetAt.pipe {w : World} {n m : Nat} {N : Nat → Nod} {P : Nat → Pip} {lo hi c0 c1 : Nat} {p0 p1 : Option Addr} (h : NetAt w (.agg #[.slice p0 n c0, .slice p1 m c1]) n N m P lo hi) {a : Nat} (ha : a < m) :
    ∃ b o, p1 = some ⟨b, o, none⟩ ∧ lo ≤ b ∧ b < hi ∧ w.cell? ⟨b, o + a * 5, none⟩ = some (.int .i64 (P a).f) ∧ w.cell? ⟨b, o + a * 5 + 1, none⟩ = some (.int .i64 (P a).t) ∧ w.cell? ⟨b, o + a * 5 + 2, none⟩ = some (.int .i64 (P a).k) ∧
      w.cell? ⟨b, o + a * 5 + 3, none⟩ = some (.int .i64 (P a).v) ∧ w.cell? ⟨b, o + a * 5 + 4, none⟩ = some (.int .i64 (P a).l) := by
  obtain ⟨v0, v1, hv, g0, g1⟩ := h.ex
  simp only [Value.agg.injEq, Array.mk.injEq, List.cons.injEq, and_true] at hv
  obtain ⟨rfl, rfl⟩ := hv
  obtain ⟨q, cap, hv, h1, h2, h3⟩ := g1.ex
  injection hv with e1 _ e2
  rcases h3 with h3 | ⟨b, o, h3, hl, hh, hc⟩
  · omega
  · exact ⟨b, o, by rw [e1, h3], hl, hh, hc.cell a 0 ha (by omega), hc.cell a 1 ha (by omega), hc.cell a 2 ha (by omega), hc.cell a 3 ha (by omega), hc.cell a 4 ha (by omega)⟩

end Go.Proofs.YtdbgcbkmcbgdiaaDoor.mem
