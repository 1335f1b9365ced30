/-
  Several texts in one: Arr, Arb, Arc, Chd, Asc.
-/
import Derived.Test.YtdbgcbkmcbgdiaaGreatRows
import Derived.Test.YtdbgcbkmcbgdiaaGreatNetX
import Derived.Test.YtdbgcbkmcbgdiaaGreatOwn
import Derived.Deep.WholeRow
import Derived.Test.YtdbgcbkmcbgdiaaGreatInts
import Derived.Test.YtdbgcbkmcbgdiaaGreatApm
import Derived.Test.YtdbgcbkmcbgdiaaGreatNetB
import Derived.Test.YtdbgcbkmcbgdiaaGreatNetO
import Derived.Test.YtdbgcbkmcbgdiaaGreatCyM
import Derived.Laws.CopyOwn
import Derived.WalkSpells
import Derived.OwnWalk
import Derived.Test.YtdbgcbkmcbgdiaaGreatHas
import Derived.WalkMore
import Derived.Deep.RegionHeld3
import Derived.Deep.MidRow
namespace Go.Proofs.YtdbgcbkmcbgdiaaGreat.mem
open Go.RowKit
set_option linter.unusedVariables false

/-- the cells of an array of numbers -/
def ia (x : Nat → Int) (k : Nat) : Value := .int .i64 (x k)
def arrL (x : Nat → Int) : List Value := (List.range 40).map (ia x)
def arr (x : Nat → Int) : Array Value := List.toArray (arrL x)
theorem arr_size (x : Nat → Int) : (arr x).size = 40 := by unfold arr arrL; simp
theorem arr_get (x : Nat → Int) (k : Nat) (hk : k < 40) : (arr x)[k]? = some (ia x k) := by unfold arr arrL; simp [hk]
theorem arr_eq {cur : Array Value} {x : Nat → Int} (h1 : cur.size = 40) (h2 : ∀ k, k < 40 → cur[k]? = some (ia x k)) : cur = arr x := by
  apply Array.ext_getElem?
  intro k
  by_cases h : k < 40
  · rw [h2 k h, arr_get x k h]
  · rw [Array.getElem?_eq_none (by omega), Array.getElem?_eq_none (by rw [arr_size]; omega)]
theorem arr_congr {x y : Nat → Int} (h : ∀ k, k < 40 → x k = y k) : arr x = arr y := by
  refine arr_eq (arr_size x) fun k hk => ?_
  rw [arr_get x k hk]
  unfold ia
  rw [h k hk]
theorem arr_one (x : Nat → Int) : (arr x).all (·.oneCell') = true := by
  rw [Array.all_eq_true_iff_forall_mem]
  intro v hv
  unfold arr arrL at hv
  simp only [List.mem_toArray, List.mem_map] at hv
  obtain ⟨i, _, rfl⟩ := hv
  rfl
theorem zeros40 (k : Nat) (hk : k < 40) : (#[Value.int IntKind.i64 0, Value.int IntKind.i64 0, Value.int IntKind.i64 0, Value.int IntKind.i64 0, Value.int IntKind.i64 0, Value.int IntKind.i64 0, Value.int IntKind.i64 0, Value.int IntKind.i64 0, Value.int IntKind.i64 0, Value.int IntKind.i64 0, Value.int IntKind.i64 0, Value.int IntKind.i64 0, Value.int IntKind.i64 0, Value.int IntKind.i64 0, Value.int IntKind.i64 0, Value.int IntKind.i64 0, Value.int IntKind.i64 0, Value.int IntKind.i64 0, Value.int IntKind.i64 0, Value.int IntKind.i64 0, Value.int IntKind.i64 0, Value.int IntKind.i64 0, Value.int IntKind.i64 0, Value.int IntKind.i64 0, Value.int IntKind.i64 0, Value.int IntKind.i64 0, Value.int IntKind.i64 0, Value.int IntKind.i64 0, Value.int IntKind.i64 0, Value.int IntKind.i64 0, Value.int IntKind.i64 0, Value.int IntKind.i64 0, Value.int IntKind.i64 0, Value.int IntKind.i64 0, Value.int IntKind.i64 0, Value.int IntKind.i64 0, Value.int IntKind.i64 0, Value.int IntKind.i64 0, Value.int IntKind.i64 0, Value.int IntKind.i64 0] : Array Value)[k]? = some (ia (fun _ => 0) k) := by
  rcases (by omega : k = 0 ∨ k = 1 ∨ k = 2 ∨ k = 3 ∨ k = 4 ∨ k = 5 ∨ k = 6 ∨ k = 7 ∨ k = 8 ∨ k = 9 ∨ k = 10 ∨ k = 11 ∨ k = 12 ∨ k = 13 ∨ k = 14 ∨ k = 15 ∨ k = 16 ∨ k = 17 ∨ k = 18 ∨ k = 19 ∨ k = 20 ∨ k = 21 ∨ k = 22 ∨ k = 23 ∨ k = 24 ∨ k = 25 ∨ k = 26 ∨ k = 27 ∨ k = 28 ∨ k = 29 ∨ k = 30 ∨ k = 31 ∨ k = 32 ∨ k = 33 ∨ k = 34 ∨ k = 35 ∨ k = 36 ∨ k = 37 ∨ k = 38 ∨ k = 39) with rfl | rfl | rfl | rfl | rfl | rfl | rfl | rfl | rfl | rfl | rfl | rfl | rfl | rfl | rfl | rfl | rfl | rfl | rfl | rfl | rfl | rfl | rfl | rfl | rfl | rfl | rfl | rfl | rfl | rfl | rfl | rfl | rfl | rfl | rfl | rfl | rfl | rfl | rfl | rfl <;> rfl
/-- the whole array out of an own block -/
theorem Ob.row {w : World} {b : Nat} {x : Nat → Int} (h : Ob w b 40 (ia x)) : ∃ t, w.heap[b]? = some (.cells (arr x) t (0, 0)) := by
  obtain ⟨cur, t, h1, h2, h3⟩ := h.ex
  rw [arr_eq h2 h3] at h1
  exact ⟨t, h1⟩
theorem flow_info : (Tryz.prog.info? 111).map (·.size) = some 40 := by kernel_rfl
theorem Ob.load {w : World} {b : Nat} {x : Nat → Int} (h : Ob w b 40 (ia x)) : (loadVar 111 ⟨b, 0, none⟩).run Tryz.prog w = .ok (.agg (arr x)) w := by
  obtain ⟨t, h1⟩ := h.row
  exact run_loadVar_row w b t _ (arr x) (0, 0) _ h1 Tryz.underlying111 rfl (by rw [arr_size]; exact flow_info)
theorem Ob.newA (w : World) (x : Nat → Int) (t : TypeId) : Ob (w.alloc (.cells (arr x) t)) w.heap.size 40 (ia x) := Ob.new w _ t 40 _ (arr_size x) (fun k hk => arr_get x k hk)
theorem Ob.new0 (w : World) (t : TypeId) : Ob (w.alloc (.cells #[Value.int IntKind.i64 0, Value.int IntKind.i64 0, Value.int IntKind.i64 0, Value.int IntKind.i64 0, Value.int IntKind.i64 0, Value.int IntKind.i64 0, Value.int IntKind.i64 0, Value.int IntKind.i64 0, Value.int IntKind.i64 0, Value.int IntKind.i64 0, Value.int IntKind.i64 0, Value.int IntKind.i64 0, Value.int IntKind.i64 0, Value.int IntKind.i64 0, Value.int IntKind.i64 0, Value.int IntKind.i64 0, Value.int IntKind.i64 0, Value.int IntKind.i64 0, Value.int IntKind.i64 0, Value.int IntKind.i64 0, Value.int IntKind.i64 0, Value.int IntKind.i64 0, Value.int IntKind.i64 0, Value.int IntKind.i64 0, Value.int IntKind.i64 0, Value.int IntKind.i64 0, Value.int IntKind.i64 0, Value.int IntKind.i64 0, Value.int IntKind.i64 0, Value.int IntKind.i64 0, Value.int IntKind.i64 0, Value.int IntKind.i64 0, Value.int IntKind.i64 0, Value.int IntKind.i64 0, Value.int IntKind.i64 0, Value.int IntKind.i64 0, Value.int IntKind.i64 0, Value.int IntKind.i64 0, Value.int IntKind.i64 0, Value.int IntKind.i64 0] t)) w.heap.size 40 (ia (fun _ => 0)) := Ob.new w _ t 40 _ rfl (fun k hk => zeros40 k hk)
theorem Ob.setI {w : World} {b : Nat} {x : Nat → Int} (h : Ob w b 40 (ia x)) (i : Nat) (v : Int) (hi : i < 40) : Ob (w.setCell ⟨b, i, none⟩ (.int .i64 v)) b 40 (ia (upd x i v)) := by
  refine (h.set i (.int .i64 v) hi).congr fun k _ => ?_
  unfold updV ia upd
  split <;> rfl
theorem Ob.setRow {w : World} {b : Nat} {d : Nat → Value} (h : Ob w b 40 d) (x : Nat → Int) : Ob (w.setRow b (arr x)) b 40 (ia x) := by
  obtain ⟨cur, t, h1, h2, h3⟩ := h.ex
  refine ⟨arr x, t, ?_, arr_size x, fun k hk => arr_get x k hk⟩
  simp [World.setRow, Array.getElem?_modify, h1]
theorem Only.setRow {g : Nat} {w w' : World} (h : Only g w w') (c : Array Value) : Only g w (w'.setRow g c) := h.trans ⟨rfl, rfl, rfl, by simp [World.setRow], fun k hk => by simp [World.setRow, Array.getElem?_modify, Ne.symm hk]⟩

theorem results_arr {fn : Func} {p : Tmp} {tmps : Array Value} {w : World} {b : Nat} {x : Nat → Int} (h : fn.results = #[.cell p 111]) (hp : tmps.getD p undef = .pointer (some ⟨b, 0, none⟩)) (ho : Ob w b 40 (ia x)) : (results fn tmps).run Tryz.prog w = .ok (.agg (arr x)) w := by
  obtain ⟨t, h1⟩ := ho.row
  exact results_cell_row h tmps w b t (arr x) (0, 0) _ hp h1 Tryz.underlying111 rfl (by rw [arr_size]; exact flow_info)
theorem below_drw {B : Nat} {w w' : World} (h : Below B w w') : Below B w w'.drew := ⟨h.os, h.tape, h.output, h.size, h.block⟩
set_option maxHeartbeats 4000000 in
theorem plus_any (w : World) (x y : Nat → Int) (t : Int) (hb : ∀ k, k < 40 → -4611686018427387904 ≤ x k + y k * t ∧ x k + y k * t ≤ 4611686018427387904) (hm : ∀ k, k < 40 → -4611686018427387904 ≤ y k * t ∧ y k * t ≤ 4611686018427387904) :
    Calls Tryz.prog 92 #[.agg (arr x), .agg (arr y), .int .i64 t] w fun e w' => e = .returned (.agg (arr (fun k => x k + y k * t))) ∧ Below w.heap.size w w' := by
  go_enter Tryz.func92, Tryz.ntmps92
  go_wp2_with fail
  have a0 := Ob.newA w x 111
  have a1 := Ob.newA (w.alloc (.cells (arr x) 111)) y 111
  have a2 := Ob.new0 ((w.alloc (.cells (arr x) 111)).alloc (.cells (arr y) 111)) 111
  have b0 := ((below_new w (.cells (arr x) 111)).trans ((below_new _ (.cells (arr y) 111)).mono (by simp))).trans ((below_new _ (.cells #[Value.int IntKind.i64 0, Value.int IntKind.i64 0, Value.int IntKind.i64 0, Value.int IntKind.i64 0, Value.int IntKind.i64 0, Value.int IntKind.i64 0, Value.int IntKind.i64 0, Value.int IntKind.i64 0, Value.int IntKind.i64 0, Value.int IntKind.i64 0, Value.int IntKind.i64 0, Value.int IntKind.i64 0, Value.int IntKind.i64 0, Value.int IntKind.i64 0, Value.int IntKind.i64 0, Value.int IntKind.i64 0, Value.int IntKind.i64 0, Value.int IntKind.i64 0, Value.int IntKind.i64 0, Value.int IntKind.i64 0, Value.int IntKind.i64 0, Value.int IntKind.i64 0, Value.int IntKind.i64 0, Value.int IntKind.i64 0, Value.int IntKind.i64 0, Value.int IntKind.i64 0, Value.int IntKind.i64 0, Value.int IntKind.i64 0, Value.int IntKind.i64 0, Value.int IntKind.i64 0, Value.int IntKind.i64 0, Value.int IntKind.i64 0, Value.int IntKind.i64 0, Value.int IntKind.i64 0, Value.int IntKind.i64 0, Value.int IntKind.i64 0, Value.int IntKind.i64 0, Value.int IntKind.i64 0, Value.int IntKind.i64 0, Value.int IntKind.i64 0] 111)).mono (by simp; omega))
  have c0 := (a0.keep (Below.heap_alloc _ (.cells (arr y) 111) _ a0.lt)).keep (Below.heap_alloc _ (.cells #[Value.int IntKind.i64 0, Value.int IntKind.i64 0, Value.int IntKind.i64 0, Value.int IntKind.i64 0, Value.int IntKind.i64 0, Value.int IntKind.i64 0, Value.int IntKind.i64 0, Value.int IntKind.i64 0, Value.int IntKind.i64 0, Value.int IntKind.i64 0, Value.int IntKind.i64 0, Value.int IntKind.i64 0, Value.int IntKind.i64 0, Value.int IntKind.i64 0, Value.int IntKind.i64 0, Value.int IntKind.i64 0, Value.int IntKind.i64 0, Value.int IntKind.i64 0, Value.int IntKind.i64 0, Value.int IntKind.i64 0, Value.int IntKind.i64 0, Value.int IntKind.i64 0, Value.int IntKind.i64 0, Value.int IntKind.i64 0, Value.int IntKind.i64 0, Value.int IntKind.i64 0, Value.int IntKind.i64 0, Value.int IntKind.i64 0, Value.int IntKind.i64 0, Value.int IntKind.i64 0, Value.int IntKind.i64 0, Value.int IntKind.i64 0, Value.int IntKind.i64 0, Value.int IntKind.i64 0, Value.int IntKind.i64 0, Value.int IntKind.i64 0, Value.int IntKind.i64 0, Value.int IntKind.i64 0, Value.int IntKind.i64 0, Value.int IntKind.i64 0] 111) _ (by simp; omega))
  have c1 := a1.keep (Below.heap_alloc _ (.cells #[Value.int IntKind.i64 0, Value.int IntKind.i64 0, Value.int IntKind.i64 0, Value.int IntKind.i64 0, Value.int IntKind.i64 0, Value.int IntKind.i64 0, Value.int IntKind.i64 0, Value.int IntKind.i64 0, Value.int IntKind.i64 0, Value.int IntKind.i64 0, Value.int IntKind.i64 0, Value.int IntKind.i64 0, Value.int IntKind.i64 0, Value.int IntKind.i64 0, Value.int IntKind.i64 0, Value.int IntKind.i64 0, Value.int IntKind.i64 0, Value.int IntKind.i64 0, Value.int IntKind.i64 0, Value.int IntKind.i64 0, Value.int IntKind.i64 0, Value.int IntKind.i64 0, Value.int IntKind.i64 0, Value.int IntKind.i64 0, Value.int IntKind.i64 0, Value.int IntKind.i64 0, Value.int IntKind.i64 0, Value.int IntKind.i64 0, Value.int IntKind.i64 0, Value.int IntKind.i64 0, Value.int IntKind.i64 0, Value.int IntKind.i64 0, Value.int IntKind.i64 0, Value.int IntKind.i64 0, Value.int IntKind.i64 0, Value.int IntKind.i64 0, Value.int IntKind.i64 0, Value.int IntKind.i64 0, Value.int IntKind.i64 0, Value.int IntKind.i64 0] 111) _ a1.lt)
  simp only [World.size_alloc] at a2 c1
  have hs : ((((w.alloc (.cells (arr x) 111)).alloc (.cells (arr y) 111)).alloc (.cells #[Value.int IntKind.i64 0, Value.int IntKind.i64 0, Value.int IntKind.i64 0, Value.int IntKind.i64 0, Value.int IntKind.i64 0, Value.int IntKind.i64 0, Value.int IntKind.i64 0, Value.int IntKind.i64 0, Value.int IntKind.i64 0, Value.int IntKind.i64 0, Value.int IntKind.i64 0, Value.int IntKind.i64 0, Value.int IntKind.i64 0, Value.int IntKind.i64 0, Value.int IntKind.i64 0, Value.int IntKind.i64 0, Value.int IntKind.i64 0, Value.int IntKind.i64 0, Value.int IntKind.i64 0, Value.int IntKind.i64 0, Value.int IntKind.i64 0, Value.int IntKind.i64 0, Value.int IntKind.i64 0, Value.int IntKind.i64 0, Value.int IntKind.i64 0, Value.int IntKind.i64 0, Value.int IntKind.i64 0, Value.int IntKind.i64 0, Value.int IntKind.i64 0, Value.int IntKind.i64 0, Value.int IntKind.i64 0, Value.int IntKind.i64 0, Value.int IntKind.i64 0, Value.int IntKind.i64 0, Value.int IntKind.i64 0, Value.int IntKind.i64 0, Value.int IntKind.i64 0, Value.int IntKind.i64 0, Value.int IntKind.i64 0, Value.int IntKind.i64 0] 111))).heap.size = w.heap.size + 3 := by simp
  obtain ⟨w1, hw1⟩ : ∃ w1, ((w.alloc (.cells (arr x) 111)).alloc (.cells (arr y) 111)).alloc (.cells #[Value.int IntKind.i64 0, Value.int IntKind.i64 0, Value.int IntKind.i64 0, Value.int IntKind.i64 0, Value.int IntKind.i64 0, Value.int IntKind.i64 0, Value.int IntKind.i64 0, Value.int IntKind.i64 0, Value.int IntKind.i64 0, Value.int IntKind.i64 0, Value.int IntKind.i64 0, Value.int IntKind.i64 0, Value.int IntKind.i64 0, Value.int IntKind.i64 0, Value.int IntKind.i64 0, Value.int IntKind.i64 0, Value.int IntKind.i64 0, Value.int IntKind.i64 0, Value.int IntKind.i64 0, Value.int IntKind.i64 0, Value.int IntKind.i64 0, Value.int IntKind.i64 0, Value.int IntKind.i64 0, Value.int IntKind.i64 0, Value.int IntKind.i64 0, Value.int IntKind.i64 0, Value.int IntKind.i64 0, Value.int IntKind.i64 0, Value.int IntKind.i64 0, Value.int IntKind.i64 0, Value.int IntKind.i64 0, Value.int IntKind.i64 0, Value.int IntKind.i64 0, Value.int IntKind.i64 0, Value.int IntKind.i64 0, Value.int IntKind.i64 0, Value.int IntKind.i64 0, Value.int IntKind.i64 0, Value.int IntKind.i64 0, Value.int IntKind.i64 0] 111) = w1 := ⟨_, rfl⟩
  rw [hw1] at a2 b0 c0 c1 hs ⊢
  clear hw1 a0 a1
  have H0 := Lib.hid c0
  have H1 := Lib.hid c1
  have H2 := Lib.hid a2
  have HB := Lib.hid b0
  have HX := Lib.hid hb
  have HM := Lib.hid hm
  clear c0 c1 a2 b0 hb hm
  go_loopw [8] (fun iv wr => ∃ k : Nat, iv = .int .i64 k ∧ k ≤ 40 ∧ Ob wr w.heap.size 40 (ia (fun j => if j < k then x j + y j * t else x j)) ∧ Ob wr (w.heap.size + 1) 40 (ia y) ∧ Ob wr (w.heap.size + 1 + 1) 40 (ia (fun _ => 0)) ∧ Below w.heap.size w wr) (fun iv _ => 40 - (intOf iv).toNat)
  case atStart => exact ⟨0, rfl, Nat.zero_le _, H0.out.congr (fun j _ => by simp), H1.out, H2.out, HB.out⟩
  case round =>
    obtain ⟨k, rfl, hk, o0, o1, o2, hbl⟩ := hrel
    clear H0 H1 H2 HB
    have H0 := Lib.hid o0
    have H1 := Lib.hid o1
    have H2 := Lib.hid o2
    have HB := Lib.hid hbl
    clear o0 o1 o2 hbl
    generalize hQ : Exit.then _ _ = Q
    have HQ := Lib.hid hQ
    clear hQ
    have k0 : (0 : Int) ≤ (k : Int) := Int.natCast_nonneg _
    by_cases hlt : k < 40
    · have k1 : (k : Int) < 40 := by omega
      have l0 := H0.out.lt
      have y0 : wr.cell? ⟨w.heap.size, k, none⟩ = some (.int .i64 (x k)) := by
        have := H0.out.cell k hlt
        unfold ia at this
        dsimp only at this
        rwa [if_neg (Nat.lt_irrefl k)] at this
      have y1 : wr.cell? ⟨w.heap.size + 1, k, none⟩ = some (.int .i64 (y k)) := H1.out.cell k hlt
      have y2 := H0.out.free k
      have b1 := HX.out k hlt
      have b2 := HM.out k hlt
      go_wp2_with fail
      go_region
      have o1 := (Only.refl w.heap.size wr).setCell k (.int .i64 (x k + y k * t))
      have h0 := (H0.out.setI k (x k + y k * t) hlt).congr (e := ia (fun j => if j < k + 1 then x j + y j * t else x j)) (fun j _ => by
        simp only [ia, upd]
        by_cases e : j = k
        · subst e
          rw [if_pos rfl, if_pos (by omega)]
        · rw [if_neg e]
          by_cases g : j < k
          · rw [if_pos g, if_pos (by omega)]
          · rw [if_neg g, if_neg (by omega)])
      have h1 := H1.out.only o1 (by omega)
      have h2 := H2.out.only o1 (by omega)
      have hbb := HB.out.trans (o1.below (Nat.le_refl _))
      clear y0 y1 y2
      go_wp2_with fail
      rw [← HQ.out]
      refine ⟨⟨_, _, _, _, _, _, _, _, _, _, _, _, _, _, _, ?rel, rfl⟩, ?measure⟩
      case rel => exact ⟨k + 1, rfl, hlt, h0.keep rfl, h1.keep rfl, h2.keep rfl, below_drw hbb⟩
      case measure => simp [intOf]; omega
    · have hkn : k = 40 := by omega
      subst hkn
      have hr : Ob wr w.heap.size 40 (ia (fun j => x j + y j * t)) := H0.out.congr (fun j hj => by simp only [ia]; rw [if_pos hj])
      obtain ⟨t0, g0⟩ := hr.row
      obtain ⟨t2, g2⟩ := H2.out.row
      have o2 := (Only.refl (w.heap.size + 1 + 1) wr).setRow (arr (fun j => x j + y j * t))
      have r2 := H2.out.setRow (fun j => x j + y j * t)
      have hbb := HB.out.trans (o2.below (B := w.heap.size) (by omega))
      go_wp2_with fail
      rw [← HQ.out]
      go_wp2_with (first | refine wpList_load_row rfl 111 _ rfl w.heap.size rfl t0 _ (0, 0) _ g0 Tryz.underlying111 rfl (by rw [arr_size]; exact flow_info) ?_ | refine wpList_store_row rfl 111 _ _ rfl (w.heap.size + 1 + 1) _ rfl rfl t2 _ g2 (by rw [arr_size]; exact flow_info) (by rw [arr_size, arr_size]) (arr_one _) ?_)
      refine bodyPost_ret (v := .agg (arr (fun j => x j + y j * t))) ?_ rfl ⟨rfl, hbb⟩
      exact results_arr rfl rfl r2
end Go.Proofs.YtdbgcbkmcbgdiaaGreat.mem

namespace Go.Proofs.YtdbgcbkmcbgdiaaGreat.mem
open Go.RowKit
set_option linter.unusedVariables false


theorem signFrom_any (q : Pip) (x : Int) (w : World) : Calls Tryz.prog 114 #[.agg #[.int .i64 q.f, .int .i64 q.t, .int .i64 q.k, .int .i64 q.v, .int .i64 q.l], .int .i64 x] w fun e w' => e = .returned (.int .i64 (sgn q x)) ∧ Below w.heap.size w w' := by
  by_cases h : q.f = x
  · have h1 : (q.f == x) = true := by rw [beq_iff_eq]; exact h
    have HV := Lib.hid (show sgn q x = 1 from if_pos h)
    clear h
    go_enter Tryz.func114, Tryz.ntmps114
    go_wp2_with fail
    go_ret
    exact ⟨ret_i2 HV.out.symm, below_new _ _⟩
  · have h1 : (q.f == x) = false := by rw [beq_eq_false_iff_ne]; exact h
    have HV := Lib.hid (show sgn q x = -1 from if_neg h)
    clear h
    go_enter Tryz.func114, Tryz.ntmps114
    go_wp2_with fail
    go_ret
    exact ⟨ret_i2 HV.out.symm, below_new _ _⟩

/-- may all these numbers be flows? -/
def flQ (x : Int) : Bool := inR x (-30000) 30000
def flB (d : Nat → Int) : Nat → Bool
  | 0 => true
  | k + 1 => flB d k && flQ (d k)
theorem flB_iff {d : Nat → Int} : ∀ {n : Nat}, flB d n = true ↔ ∀ k, k < n → flQ (d k) = true
  | 0 => by simp [flB]
  | n + 1 => by
    unfold flB
    rw [Bool.and_eq_true, flB_iff]
    constructor
    · rintro ⟨h1, h2⟩ k hk
      by_cases e : k = n
      · subst e; exact h2
      · exact h1 k (by omega)
    · intro h
      exact ⟨fun k hk => h k (by omega), h n (by omega)⟩
theorem flB_no {d : Nat → Int} {n k : Nat} (hk : k < n) (h : flQ (d k) = false) : flB d n = false := by
  rw [Bool.eq_false_iff]
  intro g
  rw [flB_iff.1 g k hk] at h
  cases h
theorem flB_congr {d e : Nat → Int} {n : Nat} (h : ∀ k, k < n → d k = e k) : flB d n = flB e n := by
  rw [Bool.eq_iff_iff, flB_iff, flB_iff]
  exact ⟨fun g k hk => by rw [← h k hk]; exact g k hk, fun g k hk => by rw [h k hk]; exact g k hk⟩

/-- do all these numbers lie between two bounds? -/
def irB (x y : Int) (d : Nat → Int) : Nat → Bool
  | 0 => true
  | k + 1 => irB x y d k && inR (d k) x y
theorem irB_iff {x y : Int} {d : Nat → Int} : ∀ {n : Nat}, irB x y d n = true ↔ ∀ k, k < n → inR (d k) x y = true
  | 0 => by simp [irB]
  | n + 1 => by
    unfold irB
    rw [Bool.and_eq_true, irB_iff]
    constructor
    · rintro ⟨h1, h2⟩ k hk
      by_cases e : k = n
      · subst e; exact h2
      · exact h1 k (by omega)
    · intro h
      exact ⟨fun k hk => h k (by omega), h n (by omega)⟩
theorem irB_no {x y : Int} {d : Nat → Int} {n k : Nat} (hk : k < n) (h : inR (d k) x y = false) : irB x y d n = false := by
  rw [Bool.eq_false_iff]
  intro g
  rw [irB_iff.1 g k hk] at h
  cases h
set_option maxHeartbeats 4000000 in
theorem areInRange_any (x y : Int) (w : World) (v : Value) (n : Nat) (d : Nat → Int) (lo hi : Nat) (h : Sl w v n d lo hi) (hn : n ≤ 9223372036854775807) :
    Calls Tryz.prog 131 #[.int .i64 x, .int .i64 y, v] w fun e w' => e = .returned (.bool (irB x y d n)) ∧ w = w' := by
  obtain ⟨p, cap, rfl, hc⟩ := h
  have HC := Lib.hid hc
  clear hc
  go_enter Tryz.func131, Tryz.ntmps131
  go_wp2_with fail
  go_loopw [11] (fun iv wr => ∃ k : Nat, iv = .int .i64 k ∧ k ≤ n ∧ irB x y d k = true ∧ w = wr) (fun iv _ => n - (intOf iv).toNat)
  case atStart => exact ⟨0, rfl, Nat.zero_le _, rfl, rfl⟩
  case round =>
    obtain ⟨k, rfl, hk, hb, rfl⟩ := hrel
    generalize hQ : Exit.then _ _ = Q
    have HQ := Lib.hid hQ
    clear hQ
    have HF := Lib.hid hb
    clear hb
    have k0 : (0 : Int) ≤ (k : Int) := Int.natCast_nonneg _
    by_cases hlt : k < n
    · have k1 : (k : Int) < (n : Int) := by omega
      obtain ⟨b, o, rfl, _, _, hx⟩ : ∃ b o, p = some ⟨b, o, none⟩ ∧ lo ≤ b ∧ b < hi ∧ ∀ k, k < n → w.cell? ⟨b, o + k, none⟩ = some (.int .i64 (d k)) := by
        rcases HC.out with e | e
        · omega
        · exact e
      have y0 := hx k hlt
      have HX := Lib.hid hx
      clear hx
      cases hq : inR (d k) x y
      · have HR := Lib.hid (irB_no hlt hq)
        go_wp2_with (go_at_call 109; refine (inRange_any _ _ _ _).mono ?_; rintro e w' ⟨rfl, rfl⟩)
        rw [← HQ.out]
        go_wp2_with fail
        go_ret
        exact ⟨ret_b HR.out.symm, rfl⟩
      · have HR := Lib.hid (show irB x y d (k + 1) = true by unfold irB; rw [HF.out, hq]; rfl)
        go_wp2_with (go_at_call 109; refine (inRange_any _ _ _ _).mono ?_; rintro e w' ⟨rfl, rfl⟩)
        rw [← HQ.out]
        refine ⟨⟨_, _, _, _, _, _, _, _, _, _, _, _, ?rel, rfl⟩, ?measure⟩
        case rel => exact ⟨k + 1, by go_num, hlt, HR.out, rfl⟩
        case measure => simp [intOf]; omega
    · have hkn : n = k := by omega
      subst hkn
      have k1 : ¬ ((n : Int) < (n : Int)) := by omega
      go_wp2_with fail
      rw [← HQ.out]
      go_wp2_with fail
      go_ret
      exact ⟨ret_b HF.out.symm, rfl⟩

theorem irB_flB (d : Nat → Int) : ∀ n, irB (-30000) 30000 d n = flB d n
  | 0 => rfl
  | n + 1 => by unfold irB flB flQ; rw [irB_flB d n]
theorem areFlows_any (w : World) (v : Value) (n : Nat) (d : Nat → Int) (lo hi : Nat) (h : Sl w v n d lo hi) (hn : n ≤ 9223372036854775807) :
    Calls Tryz.prog 106 #[v] w fun e w' => e = .returned (.bool (flB d n)) ∧ w = w' := by
  have H := Lib.hid h
  obtain ⟨p, cap, rfl, hc⟩ := h
  clear hc
  go_enter Tryz.func106, Tryz.ntmps106
  go_wp2_with (go_at_call 131; refine (areInRange_any _ _ _ _ n d _ _ H.out hn).mono ?_; rintro e w' ⟨rfl, rfl⟩; rw [irB_flB])
  go_ret
  exact ⟨rfl, rfl⟩
theorem areSupplies_any (w : World) (v : Value) (n : Nat) (d : Nat → Int) (lo hi : Nat) (h : Sl w v n d lo hi) (hn : n ≤ 9223372036854775807) :
    Calls Tryz.prog 72 #[v] w fun e w' => e = .returned (.bool (flB d n)) ∧ w = w' := by
  have H := Lib.hid h
  obtain ⟨p, cap, rfl, hc⟩ := h
  clear hc
  go_enter Tryz.func72, Tryz.ntmps72
  go_wp2_with (go_at_call 131; refine (areInRange_any _ _ _ _ n d _ _ H.out hn).mono ?_; rintro e w' ⟨rfl, rfl⟩; rw [irB_flB])
  go_ret
  exact ⟨rfl, rfl⟩

/-- a list as an array -/
def pad (n : Nat) (d : Nat → Int) (k : Nat) : Int := if k < n then d k else 0
theorem pad_splice {n : Nat} {d : Nat → Int} (hn : n ≤ 40) : (splice (arr (fun _ => 0)).toList 0 (intL n d)).toArray = arr (pad n d) := by
  have hs : (arr (fun _ => 0)).toList.length = 40 := by rw [Array.length_toList, arr_size]
  refine arr_eq ?_ fun k hk => ?_
  · rw [List.size_toArray, length_splice _ _ _ (by rw [hs, intL_len]; omega), hs]
  · rw [List.getElem?_toArray]
    unfold splice
    rw [List.take_zero, List.nil_append, Nat.zero_add]
    by_cases h : k < n
    · rw [List.getElem?_append_left (by rw [intL_len]; exact h), intL_get d h]
      unfold ia pad
      rw [if_pos h]
    · rw [List.getElem?_append_right (by rw [intL_len]; omega), intL_len, List.getElem?_drop, show n + (k - n) = k by omega, Array.getElem?_toList, arr_get _ _ hk]
      unfold ia pad
      rw [if_neg h]
theorem intL_one (n : Nat) (d : Nat → Int) : ∀ u ∈ intL n d, u.oneCell' = true := by
  intro u hu
  obtain ⟨k, _, rfl⟩ := List.mem_map.1 hu
  rfl
theorem int64_size : (Tryz.prog.info? 2).map (·.size) = some 1 := by kernel_rfl
set_option maxRecDepth 100000 in
set_option maxHeartbeats 4000000 in
theorem arrayOf_any (w : World) (v : Value) (n : Nat) (d : Nat → Int) (lo hi : Nat) (h : Sl w v n d lo hi) (hhi : hi ≤ w.heap.size) (hn : n ≤ 40) :
    Calls Tryz.prog 91 #[v] w fun e w' => e = .returned (.agg (arr (pad n d))) ∧ Below w.heap.size w w' := by
  have a0 := (Ob.new0 w 111).keep (Below.heap_alloc _ (.cells #[Value.int IntKind.i64 0, Value.int IntKind.i64 0, Value.int IntKind.i64 0, Value.int IntKind.i64 0, Value.int IntKind.i64 0, Value.int IntKind.i64 0, Value.int IntKind.i64 0, Value.int IntKind.i64 0, Value.int IntKind.i64 0, Value.int IntKind.i64 0, Value.int IntKind.i64 0, Value.int IntKind.i64 0, Value.int IntKind.i64 0, Value.int IntKind.i64 0, Value.int IntKind.i64 0, Value.int IntKind.i64 0, Value.int IntKind.i64 0, Value.int IntKind.i64 0, Value.int IntKind.i64 0, Value.int IntKind.i64 0, Value.int IntKind.i64 0, Value.int IntKind.i64 0, Value.int IntKind.i64 0, Value.int IntKind.i64 0, Value.int IntKind.i64 0, Value.int IntKind.i64 0, Value.int IntKind.i64 0, Value.int IntKind.i64 0, Value.int IntKind.i64 0, Value.int IntKind.i64 0, Value.int IntKind.i64 0, Value.int IntKind.i64 0, Value.int IntKind.i64 0, Value.int IntKind.i64 0, Value.int IntKind.i64 0, Value.int IntKind.i64 0, Value.int IntKind.i64 0, Value.int IntKind.i64 0, Value.int IntKind.i64 0, Value.int IntKind.i64 0] 111) _ (by rw [szal]; omega))
  have a1 := Ob.new0 (w.alloc (.cells #[Value.int IntKind.i64 0, Value.int IntKind.i64 0, Value.int IntKind.i64 0, Value.int IntKind.i64 0, Value.int IntKind.i64 0, Value.int IntKind.i64 0, Value.int IntKind.i64 0, Value.int IntKind.i64 0, Value.int IntKind.i64 0, Value.int IntKind.i64 0, Value.int IntKind.i64 0, Value.int IntKind.i64 0, Value.int IntKind.i64 0, Value.int IntKind.i64 0, Value.int IntKind.i64 0, Value.int IntKind.i64 0, Value.int IntKind.i64 0, Value.int IntKind.i64 0, Value.int IntKind.i64 0, Value.int IntKind.i64 0, Value.int IntKind.i64 0, Value.int IntKind.i64 0, Value.int IntKind.i64 0, Value.int IntKind.i64 0, Value.int IntKind.i64 0, Value.int IntKind.i64 0, Value.int IntKind.i64 0, Value.int IntKind.i64 0, Value.int IntKind.i64 0, Value.int IntKind.i64 0, Value.int IntKind.i64 0, Value.int IntKind.i64 0, Value.int IntKind.i64 0, Value.int IntKind.i64 0, Value.int IntKind.i64 0, Value.int IntKind.i64 0, Value.int IntKind.i64 0, Value.int IntKind.i64 0, Value.int IntKind.i64 0, Value.int IntKind.i64 0] 111)) 111
  simp only [World.size_alloc] at a1
  have b0 := below_new w (.cells #[Value.int IntKind.i64 0, Value.int IntKind.i64 0, Value.int IntKind.i64 0, Value.int IntKind.i64 0, Value.int IntKind.i64 0, Value.int IntKind.i64 0, Value.int IntKind.i64 0, Value.int IntKind.i64 0, Value.int IntKind.i64 0, Value.int IntKind.i64 0, Value.int IntKind.i64 0, Value.int IntKind.i64 0, Value.int IntKind.i64 0, Value.int IntKind.i64 0, Value.int IntKind.i64 0, Value.int IntKind.i64 0, Value.int IntKind.i64 0, Value.int IntKind.i64 0, Value.int IntKind.i64 0, Value.int IntKind.i64 0, Value.int IntKind.i64 0, Value.int IntKind.i64 0, Value.int IntKind.i64 0, Value.int IntKind.i64 0, Value.int IntKind.i64 0, Value.int IntKind.i64 0, Value.int IntKind.i64 0, Value.int IntKind.i64 0, Value.int IntKind.i64 0, Value.int IntKind.i64 0, Value.int IntKind.i64 0, Value.int IntKind.i64 0, Value.int IntKind.i64 0, Value.int IntKind.i64 0, Value.int IntKind.i64 0, Value.int IntKind.i64 0, Value.int IntKind.i64 0, Value.int IntKind.i64 0, Value.int IntKind.i64 0, Value.int IntKind.i64 0] 111)
  have b1 := b0.trans ((below_new _ (.cells #[Value.int IntKind.i64 0, Value.int IntKind.i64 0, Value.int IntKind.i64 0, Value.int IntKind.i64 0, Value.int IntKind.i64 0, Value.int IntKind.i64 0, Value.int IntKind.i64 0, Value.int IntKind.i64 0, Value.int IntKind.i64 0, Value.int IntKind.i64 0, Value.int IntKind.i64 0, Value.int IntKind.i64 0, Value.int IntKind.i64 0, Value.int IntKind.i64 0, Value.int IntKind.i64 0, Value.int IntKind.i64 0, Value.int IntKind.i64 0, Value.int IntKind.i64 0, Value.int IntKind.i64 0, Value.int IntKind.i64 0, Value.int IntKind.i64 0, Value.int IntKind.i64 0, Value.int IntKind.i64 0, Value.int IntKind.i64 0, Value.int IntKind.i64 0, Value.int IntKind.i64 0, Value.int IntKind.i64 0, Value.int IntKind.i64 0, Value.int IntKind.i64 0, Value.int IntKind.i64 0, Value.int IntKind.i64 0, Value.int IntKind.i64 0, Value.int IntKind.i64 0, Value.int IntKind.i64 0, Value.int IntKind.i64 0, Value.int IntKind.i64 0, Value.int IntKind.i64 0, Value.int IntKind.i64 0, Value.int IntKind.i64 0, Value.int IntKind.i64 0] 111)).mono (by rw [szal]; omega))
  have hs0 : ((w.alloc (.cells #[Value.int IntKind.i64 0, Value.int IntKind.i64 0, Value.int IntKind.i64 0, Value.int IntKind.i64 0, Value.int IntKind.i64 0, Value.int IntKind.i64 0, Value.int IntKind.i64 0, Value.int IntKind.i64 0, Value.int IntKind.i64 0, Value.int IntKind.i64 0, Value.int IntKind.i64 0, Value.int IntKind.i64 0, Value.int IntKind.i64 0, Value.int IntKind.i64 0, Value.int IntKind.i64 0, Value.int IntKind.i64 0, Value.int IntKind.i64 0, Value.int IntKind.i64 0, Value.int IntKind.i64 0, Value.int IntKind.i64 0, Value.int IntKind.i64 0, Value.int IntKind.i64 0, Value.int IntKind.i64 0, Value.int IntKind.i64 0, Value.int IntKind.i64 0, Value.int IntKind.i64 0, Value.int IntKind.i64 0, Value.int IntKind.i64 0, Value.int IntKind.i64 0, Value.int IntKind.i64 0, Value.int IntKind.i64 0, Value.int IntKind.i64 0, Value.int IntKind.i64 0, Value.int IntKind.i64 0, Value.int IntKind.i64 0, Value.int IntKind.i64 0, Value.int IntKind.i64 0, Value.int IntKind.i64 0, Value.int IntKind.i64 0, Value.int IntKind.i64 0] 111)).alloc (.cells #[Value.int IntKind.i64 0, Value.int IntKind.i64 0, Value.int IntKind.i64 0, Value.int IntKind.i64 0, Value.int IntKind.i64 0, Value.int IntKind.i64 0, Value.int IntKind.i64 0, Value.int IntKind.i64 0, Value.int IntKind.i64 0, Value.int IntKind.i64 0, Value.int IntKind.i64 0, Value.int IntKind.i64 0, Value.int IntKind.i64 0, Value.int IntKind.i64 0, Value.int IntKind.i64 0, Value.int IntKind.i64 0, Value.int IntKind.i64 0, Value.int IntKind.i64 0, Value.int IntKind.i64 0, Value.int IntKind.i64 0, Value.int IntKind.i64 0, Value.int IntKind.i64 0, Value.int IntKind.i64 0, Value.int IntKind.i64 0, Value.int IntKind.i64 0, Value.int IntKind.i64 0, Value.int IntKind.i64 0, Value.int IntKind.i64 0, Value.int IntKind.i64 0, Value.int IntKind.i64 0, Value.int IntKind.i64 0, Value.int IntKind.i64 0, Value.int IntKind.i64 0, Value.int IntKind.i64 0, Value.int IntKind.i64 0, Value.int IntKind.i64 0, Value.int IntKind.i64 0, Value.int IntKind.i64 0, Value.int IntKind.i64 0, Value.int IntKind.i64 0] 111)).heap.size = w.heap.size + 1 + 1 := by simp
  have h1 := h.below b1 hhi
  obtain ⟨p, cap, rfl, hc⟩ := h1
  have hpos : 0 < (intL n d).length → some (⟨w.heap.size + 1, 0, none⟩ : Addr) = some ⟨w.heap.size + 1, 0, none⟩ ∧ ∃ ad, p = some ad ∧ ∀ j u, (intL n d)[j]? = some u → ((w.alloc (.cells #[Value.int IntKind.i64 0, Value.int IntKind.i64 0, Value.int IntKind.i64 0, Value.int IntKind.i64 0, Value.int IntKind.i64 0, Value.int IntKind.i64 0, Value.int IntKind.i64 0, Value.int IntKind.i64 0, Value.int IntKind.i64 0, Value.int IntKind.i64 0, Value.int IntKind.i64 0, Value.int IntKind.i64 0, Value.int IntKind.i64 0, Value.int IntKind.i64 0, Value.int IntKind.i64 0, Value.int IntKind.i64 0, Value.int IntKind.i64 0, Value.int IntKind.i64 0, Value.int IntKind.i64 0, Value.int IntKind.i64 0, Value.int IntKind.i64 0, Value.int IntKind.i64 0, Value.int IntKind.i64 0, Value.int IntKind.i64 0, Value.int IntKind.i64 0, Value.int IntKind.i64 0, Value.int IntKind.i64 0, Value.int IntKind.i64 0, Value.int IntKind.i64 0, Value.int IntKind.i64 0, Value.int IntKind.i64 0, Value.int IntKind.i64 0, Value.int IntKind.i64 0, Value.int IntKind.i64 0, Value.int IntKind.i64 0, Value.int IntKind.i64 0, Value.int IntKind.i64 0, Value.int IntKind.i64 0, Value.int IntKind.i64 0, Value.int IntKind.i64 0] 111)).alloc (.cells #[Value.int IntKind.i64 0, Value.int IntKind.i64 0, Value.int IntKind.i64 0, Value.int IntKind.i64 0, Value.int IntKind.i64 0, Value.int IntKind.i64 0, Value.int IntKind.i64 0, Value.int IntKind.i64 0, Value.int IntKind.i64 0, Value.int IntKind.i64 0, Value.int IntKind.i64 0, Value.int IntKind.i64 0, Value.int IntKind.i64 0, Value.int IntKind.i64 0, Value.int IntKind.i64 0, Value.int IntKind.i64 0, Value.int IntKind.i64 0, Value.int IntKind.i64 0, Value.int IntKind.i64 0, Value.int IntKind.i64 0, Value.int IntKind.i64 0, Value.int IntKind.i64 0, Value.int IntKind.i64 0, Value.int IntKind.i64 0, Value.int IntKind.i64 0, Value.int IntKind.i64 0, Value.int IntKind.i64 0, Value.int IntKind.i64 0, Value.int IntKind.i64 0, Value.int IntKind.i64 0, Value.int IntKind.i64 0, Value.int IntKind.i64 0, Value.int IntKind.i64 0, Value.int IntKind.i64 0, Value.int IntKind.i64 0, Value.int IntKind.i64 0, Value.int IntKind.i64 0, Value.int IntKind.i64 0, Value.int IntKind.i64 0, Value.int IntKind.i64 0] 111)).cell? (ad.add j) = some u := by
    intro h0
    rw [intL_len] at h0
    refine ⟨rfl, ?_⟩
    rcases hc with e | ⟨b, o, rfl, _, _, hx⟩
    · omega
    · refine ⟨_, rfl, fun j u hu => ?_⟩
      have hj : j < n := by
        rcases Nat.lt_or_ge j n with g | g
        · exact g
        · rw [List.getElem?_eq_none (by rw [intL_len]; omega)] at hu; cases hu
      rw [intL_get d hj] at hu
      injection hu with hu
      subst hu
      have hadd : (⟨b, o, none⟩ : Addr).add j = ⟨b, o + j, none⟩ := by unfold Addr.add; split <;> simp_all
      rw [hadd]
      exact hx j hj
  have hmin : (intL n d).length = Nat.min n 40 := by rw [intL_len]; exact (Nat.min_eq_left hn).symm
  have hfit : 0 + (intL n d).length ≤ (arr (fun _ => 0)).toList.length := by rw [intL_len, Array.length_toList, arr_size]; omega
  obtain ⟨t0, g0⟩ := a0.row
  obtain ⟨t1, g1⟩ := a1.row
  have g1' : ((w.alloc (.cells #[Value.int IntKind.i64 0, Value.int IntKind.i64 0, Value.int IntKind.i64 0, Value.int IntKind.i64 0, Value.int IntKind.i64 0, Value.int IntKind.i64 0, Value.int IntKind.i64 0, Value.int IntKind.i64 0, Value.int IntKind.i64 0, Value.int IntKind.i64 0, Value.int IntKind.i64 0, Value.int IntKind.i64 0, Value.int IntKind.i64 0, Value.int IntKind.i64 0, Value.int IntKind.i64 0, Value.int IntKind.i64 0, Value.int IntKind.i64 0, Value.int IntKind.i64 0, Value.int IntKind.i64 0, Value.int IntKind.i64 0, Value.int IntKind.i64 0, Value.int IntKind.i64 0, Value.int IntKind.i64 0, Value.int IntKind.i64 0, Value.int IntKind.i64 0, Value.int IntKind.i64 0, Value.int IntKind.i64 0, Value.int IntKind.i64 0, Value.int IntKind.i64 0, Value.int IntKind.i64 0, Value.int IntKind.i64 0, Value.int IntKind.i64 0, Value.int IntKind.i64 0, Value.int IntKind.i64 0, Value.int IntKind.i64 0, Value.int IntKind.i64 0, Value.int IntKind.i64 0, Value.int IntKind.i64 0, Value.int IntKind.i64 0, Value.int IntKind.i64 0] 111)).alloc (.cells #[Value.int IntKind.i64 0, Value.int IntKind.i64 0, Value.int IntKind.i64 0, Value.int IntKind.i64 0, Value.int IntKind.i64 0, Value.int IntKind.i64 0, Value.int IntKind.i64 0, Value.int IntKind.i64 0, Value.int IntKind.i64 0, Value.int IntKind.i64 0, Value.int IntKind.i64 0, Value.int IntKind.i64 0, Value.int IntKind.i64 0, Value.int IntKind.i64 0, Value.int IntKind.i64 0, Value.int IntKind.i64 0, Value.int IntKind.i64 0, Value.int IntKind.i64 0, Value.int IntKind.i64 0, Value.int IntKind.i64 0, Value.int IntKind.i64 0, Value.int IntKind.i64 0, Value.int IntKind.i64 0, Value.int IntKind.i64 0, Value.int IntKind.i64 0, Value.int IntKind.i64 0, Value.int IntKind.i64 0, Value.int IntKind.i64 0, Value.int IntKind.i64 0, Value.int IntKind.i64 0, Value.int IntKind.i64 0, Value.int IntKind.i64 0, Value.int IntKind.i64 0, Value.int IntKind.i64 0, Value.int IntKind.i64 0, Value.int IntKind.i64 0, Value.int IntKind.i64 0, Value.int IntKind.i64 0, Value.int IntKind.i64 0, Value.int IntKind.i64 0] 111)).heap[w.heap.size + 1]? = some (.cells (arr (fun _ => 0)).toList.toArray t1 (0, 0)) := by rw [Array.toArray_toList]; exact g1
  have HP := Lib.hid hpos
  have H0 := Lib.hid g0
  have HA0 := Lib.hid a0
  have H1 := Lib.hid g1'
  have HM := Lib.hid hmin
  have HF := Lib.hid hfit
  have HB := Lib.hid b1
  have HPS := Lib.hid (pad_splice (d := d) hn)
  have HS := Lib.hid hs0
  clear hpos g0 g1 g1' hmin hfit b0 b1 a0 a1 hc h hs0
  go_enter Tryz.func91, Tryz.ntmps91
  go_wp2_with (first
    | (refine wpList_copy_splice rfl (.tmp 4) (.tmp 5) 28 28 rfl 2 Tryz.underlying28 int64_size (some ⟨w.heap.size + 1, 0, none⟩) p 40 40 n cap rfl rfl (w.heap.size + 1) 0 (arr (fun _ => 0)).toList t1 H1.out (intL n d) HM.out HP.out HF.out (intL_one n d) (w.heap.size + 1) _ (Below.refl _ _) (Nat.le_refl _) ?_; intro w4 hg4 hb4)
    | (refine wpList_load_row rfl 111 _ rfl (w.heap.size + 1) rfl t1 _ (0, 0) _ (by have := hg4.out; rw [HPS.out] at this; exact this) Tryz.underlying111 rfl (by rw [arr_size]; exact flow_info) ?_)
    | (refine wpList_store_row rfl 111 _ _ rfl w.heap.size _ rfl rfl t0 _ ((hb4.block w.heap.size (by omega)).trans H0.out) (by rw [arr_size]; exact flow_info) (by rw [arr_size, arr_size]) (arr_one _) ?_))
  have a4 := HA0.out.below hb4 (by omega)
  refine bodyPost_ret (v := .agg (arr (pad n d))) ?_ rfl ⟨rfl, (HB.out.trans (hb4.mono (by omega))).trans (((Only.refl w.heap.size w4).setRow (arr (pad n d))).below (Nat.le_refl _))⟩
  exact results_arr rfl rfl (a4.setRow (pad n d))
end Go.Proofs.YtdbgcbkmcbgdiaaGreat.mem

namespace Go.Proofs.YtdbgcbkmcbgdiaaGreat.mem
open Go.RowKit
set_option linter.unusedVariables false

theorem Ob.sl {w : World} {b N : Nat} {x : Nat → Int} (h : Ob w b N (ia x)) (m c : Nat) (hm : m ≤ N) : Sl w (.slice (some ⟨b, 0, none⟩) m c) m x b (b + 1) :=
  ⟨_, c, rfl, .inr ⟨b, 0, rfl, Nat.le_refl _, by omega, fun k hk => by rw [Nat.zero_add]; exact h.cell k (by omega)⟩⟩
theorem Own.sl {w : World} {v : Value} {n g : Nat} {d : Nat → Int} (h : Own w v n d g) : Sl w v n d g (g + 1) := by
  obtain ⟨c, rfl⟩ := h.shape
  exact h.row.sl (Nat.le_refl _) (by omega)

set_option maxHeartbeats 1000000 in
theorem clone64_any (w : World) (b n cap : Nat) (d : Nat → Int) (hx : ∀ k, k < n → w.cell? ⟨b, 0 + k, none⟩ = some (.int .i64 (d k))) (hb : b < w.heap.size) (hn : n ≤ 1000000) :
    Calls Tryz.prog 73 #[.slice (some ⟨b, 0, none⟩) n cap] w fun e w' => ∃ v' g, e = .returned v' ∧ Own w' v' n d g ∧ w.heap.size ≤ g ∧ Below w.heap.size w w' := by
  have hq := Lib.run_eql_slice_nil (P := Tryz.prog) w 28 2 (some ⟨b, 0, none⟩) n cap 0 0 Tryz.underlying28
  have hB := below_new w (Obj.cells #[] 2)
  obtain ⟨v', w', g, hr, ap⟩ := apm_run (w.alloc (.cells #[] 2)) _ 0 d w.heap.size b 0 n cap d (Own.nilled w d) (fun k hk => (hB.cell (p := ⟨b, 0 + k, none⟩) hb).trans (hx k hk)) (by omega)
  have hbl := ap.below (B := w.heap.size) (Nat.le_refl _) (by simp)
  have HO := Lib.hid (ap.own.congr (e := d) (fun k hk => by unfold catD; rw [if_neg (by omega), Nat.sub_zero]))
  have HB := Lib.hid (hB.trans hbl.1)
  have hg := hbl.2
  clear ap hbl hB hx
  go_enter Tryz.func73, Tryz.ntmps73
  go_wp2_with (at_builtin; refine wpList_app hr rfl _ _ rfl rfl rfl rfl ?_)
  go_ret
  refine ⟨_, g, rfl, ?_, hg, HB.out⟩
  have := HO.out
  rwa [Nat.zero_add] at this

/-- the first place of a number in a list -/
def idxD (d : Nat → Int) (x : Int) : Nat → Nat → Int
  | 0, _ => -1
  | f + 1, k => if x = d k then (k : Int) else idxD d x f (k + 1)
theorem idx_has (d : Nat → Int) (x : Int) : ∀ f k, (decide (idxD d x f k ≥ 0)) = (List.range' k f).any (fun i => d i == x)
  | 0, k => by simp [idxD]
  | f + 1, k => by
    unfold idxD
    rw [List.range'_succ, List.any_cons]
    by_cases e : x = d k
    · rw [if_pos e]
      simp [e]
    · rw [if_neg e, idx_has d x f (k + 1)]
      have : (d k == x) = false := by simpa using fun h => e h.symm
      rw [this, Bool.false_or]
theorem idx_hasB (n : Nat) (d : Nat → Int) (x : Int) : decide (idxD d x n 0 ≥ 0) = hasB n d x := by
  rw [idx_has, ← List.range_eq_range']
  rfl
set_option maxRecDepth 100000 in
set_option maxHeartbeats 4000000 in
theorem listOf_any (w : World) (p0 p1 : Option Addr) (n m c0 c1 : Nat) (x : Nat → Int) (hm : m ≤ 40) :
    Calls Tryz.prog 96 #[.agg #[.slice p0 n c0, .slice p1 m c1], .agg (arr x)] w fun e w' => ∃ v2 g, e = .returned v2 ∧ Own w' v2 m x g ∧ w.heap.size ≤ g ∧ Below w.heap.size w w' := by
  have a0 := (boxed w (.slice p0 n c0) (.slice p1 m c1) 27).keep (Below.heap_alloc _ (.cells (arr x) 111) _ (by rw [szal]; omega))
  have a1 := Ob.newA (w.alloc (.cells #[.slice p0 n c0, .slice p1 m c1] 27)) x 111
  simp only [World.size_alloc] at a1
  have b0 := below_new w (.cells #[.slice p0 n c0, .slice p1 m c1] 27)
  have b1 := b0.trans ((below_new _ (.cells (arr x) 111)).mono (by rw [szal]; omega))
  have hs0 : ((w.alloc (.cells #[.slice p0 n c0, .slice p1 m c1] 27)).alloc (.cells (arr x) 111)).heap.size = w.heap.size + 1 + 1 := by simp
  have HS := Lib.hid hs0
  have HA := Lib.hid a1
  have HB := Lib.hid b1
  have y0 := a0.b1
  have m0 : (0 : Int) ≤ (m : Int) := Int.natCast_nonneg _
  have m1 : (m : Int) ≤ 40 := by omega
  clear a0 a1 b0 b1 hs0
  go_enter Tryz.func96, Tryz.ntmps96
  go_wp2_with (go_at_call 73; refine (clone64_any _ (w.heap.size + 1) m 40 x (fun k hk => by rw [Nat.zero_add]; exact HA.out.cell k (by omega)) HA.out.lt (by omega)).mono ?_; rintro e w' ⟨v2, g, rfl, ho, hg, hb⟩)
  go_ret
  exact ⟨v2, g, rfl, ho, by have := HS.out; omega, HB.out.trans (hb.mono (by have := HS.out; omega))⟩
end Go.Proofs.YtdbgcbkmcbgdiaaGreat.mem

namespace Go.Proofs.YtdbgcbkmcbgdiaaGreat.mem
open Go.RowKit
set_option linter.unusedVariables false

theorem chP_yes {n : Nat} {N : Nat → Nod} {P : Nat → Pip} {m : Nat} (hN : netB n N m P = true) {k : Nat} (h : ∀ j, j < n → fE n P m (j : Nat) ≠ ((k : Nat) : Int)) : chP n P m k = true := by
  unfold chP
  cases hp : inF n P m (fl (rts n P m) n) k
  · rfl
  · obtain ⟨z, z0, z1, e⟩ := (inF_fE hN k).1 hp
    obtain ⟨j, rfl⟩ := Int.eq_ofNat_of_zero_le z0
    exact absurd e (h j (by omega))
theorem chP_hit {n : Nat} {N : Nat → Nod} {P : Nat → Pip} {m : Nat} (hN : netB n N m P = true) {j k : Nat} (hj : j < n) (h : fE n P m (j : Nat) = ((k : Nat) : Int)) : chP n P m k = false := by
  unfold chP
  rw [(inF_fE hN k).2 ⟨(j : Nat), by omega, by omega, h⟩]
  rfl

set_option maxRecDepth 100000 in
set_option maxHeartbeats 4000000 in
theorem chords_any (w : World) (v : Value) (n : Nat) (N : Nat → Nod) (m : Nat) (P : Nat → Pip) (lo hi : Nat) (h : NetAt w v n N m P lo hi) (hhi : hi ≤ w.heap.size) (hB : netB n N m P = true) :
    Calls Tryz.prog 158 #[v] w fun e w' => ∃ v2 g, e = .returned v2 ∧ Own w' v2 (chN n P m) (fd (chP n P m) m) g ∧ w.heap.size ≤ g ∧ Below w.heap.size w w' := by
  obtain ⟨p0, c0, p1, c1, rfl, hn9, hm9⟩ := h.parts
  obtain ⟨hn1, hn24, hm40⟩ := net_sz hB
  have HV := Lib.hid h
  have HB := Lib.hid hB
  have A0 := boxed w (.slice p0 n c0) (.slice p1 m c1) 27
  have B0 := below_new w (.cells #[.slice p0 n c0, .slice p1 m c1] 27)
  obtain ⟨w1, hw1⟩ : ∃ w1, w.alloc (.cells #[.slice p0 n c0, .slice p1 m c1] 27) = w1 := ⟨_, rfl⟩
  have hs1 : w1.heap.size = w.heap.size + 1 := by rw [← hw1]; simp
  rw [hw1] at A0 B0
  have F0 := Own.nilled w1 (fd (chP n P m) 0)
  have b2 := below_new w1 (.cells #[] 2)
  obtain ⟨w2, hw2⟩ : ∃ w2, w1.alloc (.cells #[] 2) = w2 := ⟨_, rfl⟩
  have hs2 : w2.heap.size = w.heap.size + 2 := by rw [← hw2]; simp [hs1]
  rw [hw2] at F0 b2
  have A2 := A0.below b2 (by omega)
  have B2 := B0.trans (b2.mono (by omega))
  have HF := Lib.hid F0
  have HBB := Lib.hid B2
  have HA := Lib.hid A2
  have e0 : w2.cell? ⟨w.heap.size, 0, none⟩ = some (.slice p0 n c0) := A2.b0
  have e1 : w2.cell? ⟨w.heap.size, 1, none⟩ = some (.slice p1 m c1) := A2.b1
  have e2 : w.heap.size < w2.heap.size := by omega
  clear h hB A0 B0 F0 b2 A2 B2
  subst hw2 hw1
  go_enter Tryz.func158, Tryz.ntmps158
  go_wp2_with fail
  go_step3
  go_wp2_with fail
  generalize hW : (w.alloc (Obj.cells #[Value.slice p0 n c0, Value.slice p1 m c1] 27)).alloc (.cells #[] 2) = w2 at *
  clear hW e0 e1
  refine (forestEntries_any w2 _ n N m P lo hi (HV.out.below HBB.out hhi) (by omega) HB.out).mono ?_
  rintro e w3 ⟨gt, rfl, hgt, ot, b3⟩
  have HT := Lib.hid ot
  have HF3 := Lib.hid (HF.out.below b3 (Nat.le_refl _))
  have HB3 := Lib.hid (HBB.out.trans (b3.mono (by omega)))
  have hs3 := b3.size
  have A3 := HA.out.below b3 e2
  have y1 := A3.b1
  have hgl := ot.lt
  clear ot b3 HF HBB HA A3
  go_wp2_with fail
  go_step3
  go_wp2_with fail
  clear y1
  go_loopw [3, 14] (fun ov iv wr => ∃ (k g : Nat) (ov' : Value), ov' = ov ∧ iv = .int .i64 k ∧ k ≤ m ∧ Own wr ov' (fl (chP n P m) k).length (fd (chP n P m) k) g ∧ w.heap.size < g ∧ g ≠ gt ∧ Ob wr gt n (tabC (fE n P m)) ∧ Below w.heap.size w wr) (fun _ iv _ => m - (intOf iv).toNat)
  case atStart => exact ⟨0, w.heap.size + 1, _, rfl, rfl, Nat.zero_le _, by have := HF3.out; simp only [World.size_alloc] at this; exact this, by omega, by omega, HT.out, HB3.out⟩
  case round =>
    obtain ⟨k, g, ov, rfl, rfl, hk, ho, hg, hne, ht, hb⟩ := hrel
    obtain ⟨co, rfl⟩ := ho.shape
    clear HF3 HT HB3
    have HO := Lib.hid ho
    have HT := Lib.hid ht
    have HBB := Lib.hid hb
    have lg := ho.lt
    have lt := ht.lt
    clear ho ht hb
    have k0 : (0 : Int) ≤ (k : Int) := Int.natCast_nonneg _
    generalize hQ : Exit.then _ _ = Q
    have HQ := Lib.hid hQ
    clear hQ
    by_cases hlt : k < m
    · have k1 : (k : Int) < (m : Int) := by omega
      obtain ⟨v7, w7, g7, hr, ap⟩ := coll_run wr _ (chP n P m) k g HO.out (by omega)
      have Y := Lib.hid (coll_below ap (B := w.heap.size + 1) (by omega) lg)
      have O7 := Lib.hid (fun hp => fl_app (p := chP n P m) (k := k) hp ap)
      have hoth := ap.other (c := gt) (by omega) (by rw [szal]; omega)
      have HT7 := Lib.hid ((HT.out.keep (Below.heap_alloc _ (.cells #[.int .i64 (k : Nat)] 2) _ lt)).keep hoth.1)
      have hne7 := hoth.2
      have HR := Lib.hid hr
      have HB7 := Lib.hid (HBB.out.trans (Y.out.1.mono (by omega)))
      have hg7 := Y.out.2.1
      clear ap hoth hr Y
      go_wp2_with fail
      go_loopw [19] (fun jv wr' => ∃ j : Nat, jv = .int .i64 j ∧ j ≤ n ∧ (∀ i, i < j → fE n P m (i : Nat) ≠ ((k : Nat) : Int)) ∧ wr' = wr) (fun jv _ => n - (intOf jv).toNat)
      case atStart => exact ⟨0, rfl, Nat.zero_le _, fun i hi => by omega, rfl⟩
      case round =>
        obtain ⟨j, rfl, hj, hno, rfl⟩ := hrel
        have j0 : (0 : Int) ≤ (j : Int) := Int.natCast_nonneg _
        have HNO := Lib.hid hno
        clear hno
        generalize hQ2 : Exit.then _ _ = Q2
        have HQ2 := Lib.hid hQ2
        clear hQ2
        by_cases hjn : j < n
        · have j1 : (j : Int) < (n : Int) := by omega
          have y0 : wr.cell? ⟨gt, j, none⟩ = some (.int .i64 (fE n P m (j : Nat))) := HT.out.cell j hjn
          by_cases hen : fE n P m (j : Nat) = ((k : Nat) : Int)
          · have hb1 : (fE n P m (j : Nat) == ((k : Nat) : Int)) = true := by simpa using hen
            have HP := Lib.hid (chP_hit HB.out hjn hen)
            clear hen
            go_wp2_with fail
            rw [← HQ2.out]
            go_wp2_with fail
            rw [← HQ.out]
            refine ⟨⟨_, _, _, _, _, _, _, _, _, _, _, _, _, _, _, _, _, _, _, _, _, ?rel, rfl⟩, ?measure⟩
            case rel => exact ⟨k + 1, g, _, rfl, by go_num, hlt, fl_keep HP.out HO.out, hg, hne, HT.out, HBB.out⟩
            case measure => simp [intOf]; omega
          · have hb1 : (fE n P m (j : Nat) == ((k : Nat) : Int)) = false := by simpa using hen
            have HNN := Lib.hid (show ∀ i, i < j + 1 → fE n P m (i : Nat) ≠ ((k : Nat) : Int) from fun i hi => by
              by_cases e : i = j
              · subst e; exact hen
              · exact HNO.out i (by omega))
            clear hen
            go_wp2_with fail
            rw [← HQ2.out]
            refine ⟨⟨_, _, _, _, _, _, _, _, _, ?rel, rfl⟩, ?measure⟩
            case rel => exact ⟨j + 1, by go_num, hjn, HNN.out, rfl⟩
            case measure => simp [intOf]; omega
        · have hjn2 : n = j := by omega
          have HP := Lib.hid (chP_yes HB.out (fun i hi => HNO.out i (by omega)))
          subst hjn2
          have j1 : ¬ ((n : Int) < (n : Int)) := by omega
          have hr := HR.out
          go_wp2_with fail
          rw [← HQ2.out]
          go_wp2_with (at_builtin; refine wpList_app hr rfl _ _ rfl rfl rfl rfl ?_)
          rw [← HQ.out]
          refine ⟨⟨_, _, _, _, _, _, _, _, _, _, _, _, _, _, _, _, _, _, _, _, _, ?rel, rfl⟩, ?measure⟩
          case rel => exact ⟨k + 1, g7, _, rfl, by go_num, hlt, O7.out HP.out, by omega, fun e => hne7 e.symm, HT7.out, HB7.out⟩
          case measure => simp [intOf]; omega
    · have hkn : m = k := by omega
      subst hkn
      have k1 : ¬ ((m : Int) < (m : Int)) := by omega
      go_wp2
      rw [← HQ.out]
      go_wp2
      rw [Exit.noGoto_ret]
      go_ret
      exact ⟨_, g, rfl, HO.out, by omega, HBB.out⟩
end Go.Proofs.YtdbgcbkmcbgdiaaGreat.mem

namespace Go.Proofs.YtdbgcbkmcbgdiaaGreat.mem
open Go.RowKit
set_option linter.unusedVariables false

/-- a pipe's cells -/
theorem NetAt.pipe {w : World} {n m : Nat} {N : Nat → Nod} {P : Nat → Pip} {lo hi c0 c1 : Nat} {p0 p1 : Option Addr} (h : NetAt w (.agg #[.slice p0 n c0, .slice p1 m c1]) n N m P lo hi) {a : Nat} (ha : a < m) :
    ∃ b o, p1 = some ⟨b, o, none⟩ ∧ lo ≤ b ∧ b < hi ∧ w.cell? ⟨b, o + a * 5, none⟩ = some (.int .i64 (P a).f) ∧ w.cell? ⟨b, o + a * 5 + 1, none⟩ = some (.int .i64 (P a).t) ∧ w.cell? ⟨b, o + a * 5 + 2, none⟩ = some (.int .i64 (P a).k) ∧
      w.cell? ⟨b, o + a * 5 + 3, none⟩ = some (.int .i64 (P a).v) ∧ w.cell? ⟨b, o + a * 5 + 4, none⟩ = some (.int .i64 (P a).l) := by
  obtain ⟨v0, v1, hv, g0, g1⟩ := h.ex
  simp only [Value.agg.injEq, Array.mk.injEq, List.cons.injEq, and_true] at hv
  obtain ⟨rfl, rfl⟩ := hv
  obtain ⟨q, cap, hv, h1, h2, h3⟩ := g1.ex
  injection hv with e1 _ e2
  rcases h3 with h3 | ⟨b, o, h3, hl, hh, hc⟩
  · omega
  · exact ⟨b, o, by rw [e1, h3], hl, hh, hc.cell a 0 ha (by omega), hc.cell a 1 ha (by omega), hc.cell a 2 ha (by omega), hc.cell a 3 ha (by omega), hc.cell a 4 ha (by omega)⟩

set_option maxRecDepth 100000 in
set_option maxHeartbeats 4000000 in
theorem ascentFrom_any (w : World) (v : Value) (n : Nat) (N : Nat → Nod) (m : Nat) (P : Nat → Pip) (lo hi : Nat) (h : NetAt w v n N m P lo hi) (hhi : hi ≤ w.heap.size) (hB : netB n N m P = true) (z0 : Int) (hz0 : 0 ≤ z0 ∧ z0 < n) :
    Calls Tryz.prog 166 #[v, .int .i64 z0] w fun e w' => e = .returned (.agg (arr (asc P (fE n P m) (fD n P m) z0))) ∧ Below w.heap.size w w' := by
  obtain ⟨p0, c0, p1, c1, rfl, hn9, hm9⟩ := h.parts
  obtain ⟨hn1, hn24, hm40⟩ := net_sz hB
  have HV := Lib.hid h
  have HB := Lib.hid hB
  have HFO := Lib.hid (fo_net (P := P) (m := m) hB)
  have A0 := ((boxed w (.slice p0 n c0) (.slice p1 m c1) 27).keep (Below.heap_alloc _ (.cells #[Value.int IntKind.i64 0, Value.int IntKind.i64 0, Value.int IntKind.i64 0, Value.int IntKind.i64 0, Value.int IntKind.i64 0, Value.int IntKind.i64 0, Value.int IntKind.i64 0, Value.int IntKind.i64 0, Value.int IntKind.i64 0, Value.int IntKind.i64 0, Value.int IntKind.i64 0, Value.int IntKind.i64 0, Value.int IntKind.i64 0, Value.int IntKind.i64 0, Value.int IntKind.i64 0, Value.int IntKind.i64 0, Value.int IntKind.i64 0, Value.int IntKind.i64 0, Value.int IntKind.i64 0, Value.int IntKind.i64 0, Value.int IntKind.i64 0, Value.int IntKind.i64 0, Value.int IntKind.i64 0, Value.int IntKind.i64 0, Value.int IntKind.i64 0, Value.int IntKind.i64 0, Value.int IntKind.i64 0, Value.int IntKind.i64 0, Value.int IntKind.i64 0, Value.int IntKind.i64 0, Value.int IntKind.i64 0, Value.int IntKind.i64 0, Value.int IntKind.i64 0, Value.int IntKind.i64 0, Value.int IntKind.i64 0, Value.int IntKind.i64 0, Value.int IntKind.i64 0, Value.int IntKind.i64 0, Value.int IntKind.i64 0, Value.int IntKind.i64 0] 111) _ (by simp only [World.size_alloc]; omega))).keep (Below.heap_alloc _ (.cells #[Value.int IntKind.i64 0, Value.int IntKind.i64 0, Value.int IntKind.i64 0, Value.int IntKind.i64 0, Value.int IntKind.i64 0, Value.int IntKind.i64 0, Value.int IntKind.i64 0, Value.int IntKind.i64 0, Value.int IntKind.i64 0, Value.int IntKind.i64 0, Value.int IntKind.i64 0, Value.int IntKind.i64 0, Value.int IntKind.i64 0, Value.int IntKind.i64 0, Value.int IntKind.i64 0, Value.int IntKind.i64 0, Value.int IntKind.i64 0, Value.int IntKind.i64 0, Value.int IntKind.i64 0, Value.int IntKind.i64 0, Value.int IntKind.i64 0, Value.int IntKind.i64 0, Value.int IntKind.i64 0, Value.int IntKind.i64 0, Value.int IntKind.i64 0, Value.int IntKind.i64 0, Value.int IntKind.i64 0, Value.int IntKind.i64 0, Value.int IntKind.i64 0, Value.int IntKind.i64 0, Value.int IntKind.i64 0, Value.int IntKind.i64 0, Value.int IntKind.i64 0, Value.int IntKind.i64 0, Value.int IntKind.i64 0, Value.int IntKind.i64 0, Value.int IntKind.i64 0, Value.int IntKind.i64 0, Value.int IntKind.i64 0, Value.int IntKind.i64 0] 111) _ (by simp only [World.size_alloc]; omega))
  have R0 := (Ob.new0 (w.alloc (.cells #[.slice p0 n c0, .slice p1 m c1] 27)) 111).keep (Below.heap_alloc _ (.cells #[Value.int IntKind.i64 0, Value.int IntKind.i64 0, Value.int IntKind.i64 0, Value.int IntKind.i64 0, Value.int IntKind.i64 0, Value.int IntKind.i64 0, Value.int IntKind.i64 0, Value.int IntKind.i64 0, Value.int IntKind.i64 0, Value.int IntKind.i64 0, Value.int IntKind.i64 0, Value.int IntKind.i64 0, Value.int IntKind.i64 0, Value.int IntKind.i64 0, Value.int IntKind.i64 0, Value.int IntKind.i64 0, Value.int IntKind.i64 0, Value.int IntKind.i64 0, Value.int IntKind.i64 0, Value.int IntKind.i64 0, Value.int IntKind.i64 0, Value.int IntKind.i64 0, Value.int IntKind.i64 0, Value.int IntKind.i64 0, Value.int IntKind.i64 0, Value.int IntKind.i64 0, Value.int IntKind.i64 0, Value.int IntKind.i64 0, Value.int IntKind.i64 0, Value.int IntKind.i64 0, Value.int IntKind.i64 0, Value.int IntKind.i64 0, Value.int IntKind.i64 0, Value.int IntKind.i64 0, Value.int IntKind.i64 0, Value.int IntKind.i64 0, Value.int IntKind.i64 0, Value.int IntKind.i64 0, Value.int IntKind.i64 0, Value.int IntKind.i64 0] 111) _ (by simp only [World.size_alloc]; omega))
  have R1 := Ob.new0 ((w.alloc (.cells #[.slice p0 n c0, .slice p1 m c1] 27)).alloc (.cells #[Value.int IntKind.i64 0, Value.int IntKind.i64 0, Value.int IntKind.i64 0, Value.int IntKind.i64 0, Value.int IntKind.i64 0, Value.int IntKind.i64 0, Value.int IntKind.i64 0, Value.int IntKind.i64 0, Value.int IntKind.i64 0, Value.int IntKind.i64 0, Value.int IntKind.i64 0, Value.int IntKind.i64 0, Value.int IntKind.i64 0, Value.int IntKind.i64 0, Value.int IntKind.i64 0, Value.int IntKind.i64 0, Value.int IntKind.i64 0, Value.int IntKind.i64 0, Value.int IntKind.i64 0, Value.int IntKind.i64 0, Value.int IntKind.i64 0, Value.int IntKind.i64 0, Value.int IntKind.i64 0, Value.int IntKind.i64 0, Value.int IntKind.i64 0, Value.int IntKind.i64 0, Value.int IntKind.i64 0, Value.int IntKind.i64 0, Value.int IntKind.i64 0, Value.int IntKind.i64 0, Value.int IntKind.i64 0, Value.int IntKind.i64 0, Value.int IntKind.i64 0, Value.int IntKind.i64 0, Value.int IntKind.i64 0, Value.int IntKind.i64 0, Value.int IntKind.i64 0, Value.int IntKind.i64 0, Value.int IntKind.i64 0, Value.int IntKind.i64 0] 111)) 111
  simp only [World.size_alloc] at R0 R1
  have B0 := ((below_new w (.cells #[.slice p0 n c0, .slice p1 m c1] 27)).trans ((below_new _ (.cells #[Value.int IntKind.i64 0, Value.int IntKind.i64 0, Value.int IntKind.i64 0, Value.int IntKind.i64 0, Value.int IntKind.i64 0, Value.int IntKind.i64 0, Value.int IntKind.i64 0, Value.int IntKind.i64 0, Value.int IntKind.i64 0, Value.int IntKind.i64 0, Value.int IntKind.i64 0, Value.int IntKind.i64 0, Value.int IntKind.i64 0, Value.int IntKind.i64 0, Value.int IntKind.i64 0, Value.int IntKind.i64 0, Value.int IntKind.i64 0, Value.int IntKind.i64 0, Value.int IntKind.i64 0, Value.int IntKind.i64 0, Value.int IntKind.i64 0, Value.int IntKind.i64 0, Value.int IntKind.i64 0, Value.int IntKind.i64 0, Value.int IntKind.i64 0, Value.int IntKind.i64 0, Value.int IntKind.i64 0, Value.int IntKind.i64 0, Value.int IntKind.i64 0, Value.int IntKind.i64 0, Value.int IntKind.i64 0, Value.int IntKind.i64 0, Value.int IntKind.i64 0, Value.int IntKind.i64 0, Value.int IntKind.i64 0, Value.int IntKind.i64 0, Value.int IntKind.i64 0, Value.int IntKind.i64 0, Value.int IntKind.i64 0, Value.int IntKind.i64 0] 111)).mono (by simp only [World.size_alloc]; omega))).trans ((below_new _ (.cells #[Value.int IntKind.i64 0, Value.int IntKind.i64 0, Value.int IntKind.i64 0, Value.int IntKind.i64 0, Value.int IntKind.i64 0, Value.int IntKind.i64 0, Value.int IntKind.i64 0, Value.int IntKind.i64 0, Value.int IntKind.i64 0, Value.int IntKind.i64 0, Value.int IntKind.i64 0, Value.int IntKind.i64 0, Value.int IntKind.i64 0, Value.int IntKind.i64 0, Value.int IntKind.i64 0, Value.int IntKind.i64 0, Value.int IntKind.i64 0, Value.int IntKind.i64 0, Value.int IntKind.i64 0, Value.int IntKind.i64 0, Value.int IntKind.i64 0, Value.int IntKind.i64 0, Value.int IntKind.i64 0, Value.int IntKind.i64 0, Value.int IntKind.i64 0, Value.int IntKind.i64 0, Value.int IntKind.i64 0, Value.int IntKind.i64 0, Value.int IntKind.i64 0, Value.int IntKind.i64 0, Value.int IntKind.i64 0, Value.int IntKind.i64 0, Value.int IntKind.i64 0, Value.int IntKind.i64 0, Value.int IntKind.i64 0, Value.int IntKind.i64 0, Value.int IntKind.i64 0, Value.int IntKind.i64 0, Value.int IntKind.i64 0, Value.int IntKind.i64 0] 111)).mono (by simp only [World.size_alloc]; omega))
  have hs0 : (((w.alloc (.cells #[.slice p0 n c0, .slice p1 m c1] 27)).alloc (.cells #[Value.int IntKind.i64 0, Value.int IntKind.i64 0, Value.int IntKind.i64 0, Value.int IntKind.i64 0, Value.int IntKind.i64 0, Value.int IntKind.i64 0, Value.int IntKind.i64 0, Value.int IntKind.i64 0, Value.int IntKind.i64 0, Value.int IntKind.i64 0, Value.int IntKind.i64 0, Value.int IntKind.i64 0, Value.int IntKind.i64 0, Value.int IntKind.i64 0, Value.int IntKind.i64 0, Value.int IntKind.i64 0, Value.int IntKind.i64 0, Value.int IntKind.i64 0, Value.int IntKind.i64 0, Value.int IntKind.i64 0, Value.int IntKind.i64 0, Value.int IntKind.i64 0, Value.int IntKind.i64 0, Value.int IntKind.i64 0, Value.int IntKind.i64 0, Value.int IntKind.i64 0, Value.int IntKind.i64 0, Value.int IntKind.i64 0, Value.int IntKind.i64 0, Value.int IntKind.i64 0, Value.int IntKind.i64 0, Value.int IntKind.i64 0, Value.int IntKind.i64 0, Value.int IntKind.i64 0, Value.int IntKind.i64 0, Value.int IntKind.i64 0, Value.int IntKind.i64 0, Value.int IntKind.i64 0, Value.int IntKind.i64 0, Value.int IntKind.i64 0] 111)).alloc (.cells #[Value.int IntKind.i64 0, Value.int IntKind.i64 0, Value.int IntKind.i64 0, Value.int IntKind.i64 0, Value.int IntKind.i64 0, Value.int IntKind.i64 0, Value.int IntKind.i64 0, Value.int IntKind.i64 0, Value.int IntKind.i64 0, Value.int IntKind.i64 0, Value.int IntKind.i64 0, Value.int IntKind.i64 0, Value.int IntKind.i64 0, Value.int IntKind.i64 0, Value.int IntKind.i64 0, Value.int IntKind.i64 0, Value.int IntKind.i64 0, Value.int IntKind.i64 0, Value.int IntKind.i64 0, Value.int IntKind.i64 0, Value.int IntKind.i64 0, Value.int IntKind.i64 0, Value.int IntKind.i64 0, Value.int IntKind.i64 0, Value.int IntKind.i64 0, Value.int IntKind.i64 0, Value.int IntKind.i64 0, Value.int IntKind.i64 0, Value.int IntKind.i64 0, Value.int IntKind.i64 0, Value.int IntKind.i64 0, Value.int IntKind.i64 0, Value.int IntKind.i64 0, Value.int IntKind.i64 0, Value.int IntKind.i64 0, Value.int IntKind.i64 0, Value.int IntKind.i64 0, Value.int IntKind.i64 0, Value.int IntKind.i64 0, Value.int IntKind.i64 0] 111)).heap.size = w.heap.size + 1 + 1 + 1 := by simp
  have e0 := A0.b0
  have e1 := A0.b1
  have HA := Lib.hid A0
  have HR0 := Lib.hid R0
  have HR1 := Lib.hid R1
  have HBB := Lib.hid B0
  clear h hB A0 R0 R1 B0
  go_enter Tryz.func166, Tryz.ntmps166
  go_wp2_with fail
  obtain ⟨w1, hw1⟩ : ∃ w1, ((w.alloc (.cells #[.slice p0 n c0, .slice p1 m c1] 27)).alloc (.cells #[Value.int IntKind.i64 0, Value.int IntKind.i64 0, Value.int IntKind.i64 0, Value.int IntKind.i64 0, Value.int IntKind.i64 0, Value.int IntKind.i64 0, Value.int IntKind.i64 0, Value.int IntKind.i64 0, Value.int IntKind.i64 0, Value.int IntKind.i64 0, Value.int IntKind.i64 0, Value.int IntKind.i64 0, Value.int IntKind.i64 0, Value.int IntKind.i64 0, Value.int IntKind.i64 0, Value.int IntKind.i64 0, Value.int IntKind.i64 0, Value.int IntKind.i64 0, Value.int IntKind.i64 0, Value.int IntKind.i64 0, Value.int IntKind.i64 0, Value.int IntKind.i64 0, Value.int IntKind.i64 0, Value.int IntKind.i64 0, Value.int IntKind.i64 0, Value.int IntKind.i64 0, Value.int IntKind.i64 0, Value.int IntKind.i64 0, Value.int IntKind.i64 0, Value.int IntKind.i64 0, Value.int IntKind.i64 0, Value.int IntKind.i64 0, Value.int IntKind.i64 0, Value.int IntKind.i64 0, Value.int IntKind.i64 0, Value.int IntKind.i64 0, Value.int IntKind.i64 0, Value.int IntKind.i64 0, Value.int IntKind.i64 0, Value.int IntKind.i64 0] 111)).alloc (.cells #[Value.int IntKind.i64 0, Value.int IntKind.i64 0, Value.int IntKind.i64 0, Value.int IntKind.i64 0, Value.int IntKind.i64 0, Value.int IntKind.i64 0, Value.int IntKind.i64 0, Value.int IntKind.i64 0, Value.int IntKind.i64 0, Value.int IntKind.i64 0, Value.int IntKind.i64 0, Value.int IntKind.i64 0, Value.int IntKind.i64 0, Value.int IntKind.i64 0, Value.int IntKind.i64 0, Value.int IntKind.i64 0, Value.int IntKind.i64 0, Value.int IntKind.i64 0, Value.int IntKind.i64 0, Value.int IntKind.i64 0, Value.int IntKind.i64 0, Value.int IntKind.i64 0, Value.int IntKind.i64 0, Value.int IntKind.i64 0, Value.int IntKind.i64 0, Value.int IntKind.i64 0, Value.int IntKind.i64 0, Value.int IntKind.i64 0, Value.int IntKind.i64 0, Value.int IntKind.i64 0, Value.int IntKind.i64 0, Value.int IntKind.i64 0, Value.int IntKind.i64 0, Value.int IntKind.i64 0, Value.int IntKind.i64 0, Value.int IntKind.i64 0, Value.int IntKind.i64 0, Value.int IntKind.i64 0, Value.int IntKind.i64 0, Value.int IntKind.i64 0] 111) = w1 := ⟨_, rfl⟩
  rw [hw1] at hs0 HA HR0 HR1 HBB e0 e1 ⊢
  clear hw1 e0 e1
  refine (forestEntries_any w1 _ n N m P lo hi (HV.out.below HBB.out hhi) (by omega) HB.out).mono ?_
  rintro e w3 ⟨gt, rfl, hgt, ot, b3⟩
  have HT := Lib.hid ot
  have HB3 := Lib.hid (HBB.out.trans (b3.mono (by omega)))
  have A3 := HA.out.below b3 (by omega)
  have S0 := HR0.out.below b3 (by omega)
  have S1 := HR1.out.below b3 (by omega)
  have hs3 := b3.size
  have e2 : w.heap.size + 1 + 1 < gt := by omega
  clear ot b3 HBB HA HR0 HR1
  have HA := Lib.hid A3
  have HR0 := Lib.hid S0
  have HR1 := Lib.hid S1
  clear A3 S0 S1 hgt hs3 hs0
  go_wp2_with fail
  go_loopw [1] (fun iv wr => ∃ (z : Int) (x : Nat → Int), iv = .int .i64 z ∧ (0 ≤ z ∧ z < n) ∧ Ob wr (w.heap.size + 1 + 1) 40 (ia x) ∧ (∀ a, x a + asc P (fE n P m) (fD n P m) z a = asc P (fE n P m) (fD n P m) z0 a) ∧ (∀ y : Int, 0 ≤ y ∧ y < n → fD n P m y ≤ fD n P m z → ∀ a : Nat, fE n P m y = (a : Int) → x a = 0) ∧
      Ob wr w.heap.size 2 (bx (.slice p0 n c0) (.slice p1 m c1)) ∧ Ob wr (w.heap.size + 1) 40 (ia (fun _ => 0)) ∧ Ob wr gt n (tabC (fE n P m)) ∧ Below w.heap.size w wr) (fun iv _ => (fD n P m (intOf iv)).toNat)
  case atStart => exact ⟨z0, fun _ => 0, rfl, hz0, HR1.out, fun a => Int.zero_add _, fun _ _ _ _ _ => rfl, HA.out, HR0.out, HT.out, HB3.out⟩
  case round =>
    obtain ⟨z, x, rfl, hz, o5, hx, hx2, oa, o4, ot, hb⟩ := hrel
    clear HA HR0 HR1 HT HB3
    have H5 := Lib.hid o5
    have HX := Lib.hid hx
    have HX2 := Lib.hid hx2
    have HA := Lib.hid oa
    have H4 := Lib.hid o4
    have HT := Lib.hid ot
    have HBB := Lib.hid hb
    clear o5 hx hx2 oa o4 ot hb
    generalize hQ : Exit.then _ _ = Q
    have HQ := Lib.hid hQ
    clear hQ
    obtain ⟨Z, rfl⟩ := Int.eq_ofNat_of_zero_le hz.1
    have z1 : (0 : Int) ≤ (Z : Int) := Int.natCast_nonneg _
    have z2 : (Z : Int) < (n : Int) := hz.2
    have l5 := H5.out.lt
    have l4 := H4.out.lt
    have lt := HT.out.lt
    have la := HA.out.lt
    have y0 : wr.cell? ⟨gt, Z, none⟩ = some (.int .i64 (fE n P m (Z : Nat))) := HT.out.cell Z (by omega)
    rcases HFO.out.par (Z : Int) hz.1 hz.2 with hen | ⟨c, hc, hen, hcz, hd⟩
    · have hb1 : (fE n P m (Z : Nat) != -1) = false := by simp [hen]
      have hr : Ob wr (w.heap.size + 1 + 1) 40 (ia (asc P (fE n P m) (fD n P m) z0)) := H5.out.congr (fun j hj => by
        have := HX.out j
        rw [HFO.out.asc_top hen] at this
        unfold ia
        rw [← this, Int.add_zero])
      obtain ⟨t5, g5⟩ := hr.row
      obtain ⟨t4, g4⟩ := H4.out.row
      have o2 := (Only.refl (w.heap.size + 1) wr).setRow (arr (asc P (fE n P m) (fD n P m) z0))
      have r2 := H4.out.setRow (asc P (fE n P m) (fD n P m) z0)
      have hbb := HBB.out.trans (o2.below (B := w.heap.size) (by omega))
      clear hen
      go_wp2_with fail
      rw [← HQ.out]
      go_wp2_with (first | refine wpList_load_row rfl 111 _ rfl (w.heap.size + 1 + 1) rfl t5 _ (0, 0) _ g5 Tryz.underlying111 rfl (by rw [arr_size]; exact flow_info) ?_ | refine wpList_store_row rfl 111 _ _ rfl (w.heap.size + 1) _ rfl rfl t4 _ g4 (by rw [arr_size]; exact flow_info) (by rw [arr_size, arr_size]) (arr_one _) ?_)
      exact bodyPost_ret (results_arr rfl rfl r2) rfl ⟨rfl, hbb⟩
    · have hb1 : (fE n P m (Z : Nat) != -1) = true := by rw [hen]; simp
      rw [hen] at hb1 y0
      have c0' : (0 : Int) ≤ (c : Int) := Int.natCast_nonneg _
      have c1' : (c : Int) < (m : Int) := by omega
      have c2' : (c : Int) < 40 := by omega
      have hc40 : c < 40 := by omega
      have y5 := H5.out.cell c hc40
      have y6 := H5.out.free c
      obtain ⟨bp, op, rfl, q1, q2, r0, r1, r2, r3, r4⟩ := (HV.out.below HBB.out hhi).pipe hc
      have e0 : wr.cell? ⟨w.heap.size, 0, none⟩ = some (.slice p0 n c0) := HA.out.b0
      have e1 : wr.cell? ⟨w.heap.size, 1, none⟩ = some (.slice (some ⟨bp, op, none⟩) m c1) := HA.out.b1
      have HE := Lib.hid hen
      have HD := Lib.hid hd
      have HO := Lib.hid (HFO.out.oth hc (Z : Int))
      clear hen hd
      go_wp2_with (first
        | (go_at_call 114; refine (signFrom_any (P c) (Z : Int) _).mono ?_; rintro e w4 ⟨rfl, hb4⟩; have x5 := H5.out.below hb4 l5; have u5 := x5.cell c hc40; have u6 := x5.free c; have o1 := (Only.refl (w.heap.size + 1 + 1) w4).setCell c (.int .i64 (sgn (P c) (Z : Int))); have hs4 := hb4.size; have v1 := (o1.cell (a := ⟨w.heap.size, 1, none⟩) (by show w.heap.size ≠ w.heap.size + 1 + 1; omega)).trans ((hb4.cell (p := ⟨w.heap.size, 1, none⟩) la).trans e1); have bne : bp ≠ w.heap.size + 1 + 1 := (by omega); have bl : bp < wr.heap.size := (by omega); have s0 := (o1.cell (a := ⟨bp, op + c * 5, none⟩) bne).trans ((hb4.cell (p := ⟨bp, op + c * 5, none⟩) bl).trans r0); have s1 := (o1.cell (a := ⟨bp, op + c * 5 + 1, none⟩) bne).trans ((hb4.cell (p := ⟨bp, op + c * 5 + 1, none⟩) bl).trans r1); have s2 := (o1.cell (a := ⟨bp, op + c * 5 + 2, none⟩) bne).trans ((hb4.cell (p := ⟨bp, op + c * 5 + 2, none⟩) bl).trans r2); have s3 := (o1.cell (a := ⟨bp, op + c * 5 + 3, none⟩) bne).trans ((hb4.cell (p := ⟨bp, op + c * 5 + 3, none⟩) bl).trans r3); have s4 := (o1.cell (a := ⟨bp, op + c * 5 + 4, none⟩) bne).trans ((hb4.cell (p := ⟨bp, op + c * 5 + 4, none⟩) bl).trans r4); clear e0 e1 r0 r1 r2 r3 r4 y0 y5 y6)
        | (go_at_call 113; refine (otherEnd_any (P c) (Z : Int) _).mono ?_; rintro e w6 ⟨rfl, hb6⟩))
      rw [← HQ.out]
      have hs5 : (w4.setCell ⟨w.heap.size + 1 + 1, c, none⟩ (.int .i64 (sgn (P c) (Z : Int)))).heap.size = w4.heap.size := sz_set _ _ _
      have hb5 := o1.below (B := w.heap.size) (by omega)
      refine ⟨⟨_, _, _, _, _, _, _, _, _, _, _, _, _, _, _, _, _, _, _, _, _, _, _, _, _, _, _, ?rel, rfl⟩, ?measure⟩
      case rel =>
        refine ⟨othV (P c) (Z : Int), upd x c (sgn (P c) (Z : Int)), rfl, HO.out, (x5.setI c _ hc40).below hb6 (by omega), fun a => ?_, fun y hy hyd a hya => ?_, ((HA.out.below hb4 la).only o1 (by omega)).below hb6 (by omega), ((H4.out.below hb4 l4).only o1 (by omega)).below hb6 (by omega), ((HT.out.below hb4 lt).only o1 (by omega)).below hb6 (by omega), (HBB.out.trans (hb4.mono (by omega))).trans (hb5.trans (hb6.mono (by omega)))⟩
        · have h1 := HX.out a
          rw [HFO.out.asc_up hz hc HE.out] at h1
          unfold upd
          by_cases e : a = c
          · subst e
            have h2 := HX2.out _ hz (Int.le_refl _) a HE.out
            rw [if_pos rfl] at h1 ⊢
            omega
          · rw [if_neg e] at h1 ⊢
            omega
        · have hd := HD.out
          unfold upd
          by_cases e : a = c
          · exfalso
            subst e
            have := HFO.out.uniq hy hz hya HE.out
            subst this
            omega
          · rw [if_neg e]
            exact HX2.out y hy (by omega) a hya
      case measure =>
        have hd := HD.out
        have hb1 := HFO.out.bnd _ HO.out.1 HO.out.2
        simp only [intOf, Array.getD_eq_getD_getElem?, List.getElem?_toArray, List.getElem?_cons_succ, List.getElem?_cons_zero, Option.getD_some]
        omega
end Go.Proofs.YtdbgcbkmcbgdiaaGreat.mem
