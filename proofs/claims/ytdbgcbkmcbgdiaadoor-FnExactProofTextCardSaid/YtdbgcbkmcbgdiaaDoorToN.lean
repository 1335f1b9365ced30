/-
  Contracts of the laws' own conversions of nodes and pipes. Conditions: as each states.
-/
import Derived.Test.YtdbgcbkmcbgdiaaDoorRows
import Derived.Test.YtdbgcbkmcbgdiaaDoorCs
import Derived.WalkKit
import Derived.ProofKit
import Derived.Outline
import Derived.OwnWalk
import Derived.Lib.Hide
namespace Go.Proofs.YtdbgcbkmcbgdiaaDoor.mem
open Go.RowKit
set_option linter.unusedVariables false

theorem bel3 (w : World) (a b c : Obj) : Below w.heap.size w (((w.alloc a).alloc b).alloc c) := (((Below.refl _ _).alloc (Nat.le_refl _) a).alloc (by simp) b).alloc (by simp; omega) c
theorem toNode_any (w : World) (s : ByteArray) (a b : Int) : Calls Tryd.prog 31 #[.agg #[.string s, .int .i64 a, .int .i64 b]] w fun e w' => e = .returned (.agg #[.string s, .int .i64 a, .int .i64 b]) ∧ Below w.heap.size w w' := by
  go_enter Tryd.func31, Tryd.ntmps31
  go_wp2_with fail
  exact bodyPost_ret (v := .agg #[.string s, .int .i64 a, .int .i64 b]) (by simp [results, Tryd.results31, go_sem]) rfl ⟨rfl, bel3 _ _ _ _⟩
theorem toPipe_any (w : World) (a b c d f : Int) : Calls Tryd.prog 32 #[.agg #[.int .i64 a, .int .i64 b, .int .i64 c, .int .i64 d, .int .i64 f]] w fun e w' => e = .returned (.agg #[.int .i64 a, .int .i64 b, .int .i64 c, .int .i64 d, .int .i64 f]) ∧ Below w.heap.size w w' := by
  go_enter Tryd.func32, Tryd.ntmps32
  go_wp2_with fail
  exact bodyPost_ret (v := .agg #[.int .i64 a, .int .i64 b, .int .i64 c, .int .i64 d, .int .i64 f]) (by simp [results, Tryd.results32, go_sem]) rfl ⟨rfl, bel3 _ _ _ _⟩

structure Nod where
  s : ByteArray
  lo : Int
  hi : Int
structure Pip where
  f : Int
  t : Int
  k : Int
  v : Int
  l : Int
/-- the cells of nodes, of pipes -/
def nodC (N : Nat → Nod) (i j : Nat) : Value := match j with
  | 0 => .string (N i).s
  | 1 => .int .i64 (N i).lo
  | _ => .int .i64 (N i).hi
def pipC (P : Nat → Pip) (i j : Nat) : Value := match j with
  | 0 => .int .i64 (P i).f
  | 1 => .int .i64 (P i).t
  | 2 => .int .i64 (P i).k
  | 3 => .int .i64 (P i).v
  | _ => .int .i64 (P i).l

def zeroNodes (n : Nat) : Array Value := madeCells #[.string ⟨#[]⟩, .int .i64 0, .int .i64 0] (n * 3)
theorem info_make_node : (Tryd.prog.info? 47).map (fun i => (i.zero, i.size, i.bytes)) = some (some (.agg #[.string ⟨#[]⟩, .int .i64 0, .int .i64 0]), 3, 32) := by kernel_rfl
theorem make_node (W : World) (n : Nat) (hn : n ≤ 2000000) : Sem.run Tryd.prog (Instr.makeSlice 32 (.int .i64 n) (.int .i64 n)) W = .ok (.slice (some ⟨W.heap.size, 0, none⟩) n n) (W.alloc (.cells (zeroNodes n) 47)) := by
  obtain ⟨i0, hi, hz0, hz1, hz2⟩ := info_parts info_make_node
  have h := run_make (P := Tryd.prog) W 32 47 i0 (.agg #[.string ⟨#[]⟩, .int .i64 0, .int .i64 0]) Tryd.underlying32 hi hz0 .i64 .i64 (n : Int) (n : Int) (by omega) (Int.le_refl _) (by rw [hz2]; omega) (by omega)
  rw [hz1] at h
  simpa [zeroNodes, Value.cells] using h

theorem rw_made (W : World) (z : Array Value) (n s : Nat) (t : TypeId) (hs : z.size = s) : Rw (W.alloc (.cells (madeCells z (n * s)) t)) W.heap.size n s (fun _ j => z[j]!) := by
  refine Rw.new W _ t n s _ (Nat.le_of_eq (size_madeCells _ _).symm) fun i j hi hj => ?_
  have h1 := ij_lt hi hj
  unfold madeCells
  simp [h1, hs, Nat.mod_eq_of_lt hj]
/-- what a conversion of n elements leaves: a new row -/
def NewPost (w : World) (n z : Nat) (c : Nat → Nat → Value) (e : Ending) (w' : World) : Prop :=
  e = .returned (.slice (some ⟨w.heap.size, 0, none⟩) n n) ∧ Rw w' w.heap.size n z c ∧ Below w.heap.size w w'
theorem bcell {W w1 : World} {B : Nat} (hb : Below B W w1) : (∀ b o, b < B → w1.cell? ⟨b, o, none⟩ = W.cell? ⟨b, o, none⟩) ∧ (∀ b o, b < B → w1.frozen? ⟨b, o, none⟩ = W.frozen? ⟨b, o, none⟩) :=
  ⟨fun b o h => hb.cell (p := ⟨b, o, none⟩) h, fun b o h => hb.frozen (p := ⟨b, o, none⟩) h⟩

theorem ret_sl' {a b n m : Nat} (h : a = b) : Ending.returned (.slice (some ⟨a, 0, none⟩) n m) = .returned (.slice (some ⟨b, 0, none⟩) n m) := by rw [h]
def zeroPipes (n : Nat) : Array Value := madeCells #[.int .i64 0, .int .i64 0, .int .i64 0, .int .i64 0, .int .i64 0] (n * 5)
theorem info_make_pipe : (Tryd.prog.info? 50).map (fun i => (i.zero, i.size, i.bytes)) = some (some (.agg #[.int .i64 0, .int .i64 0, .int .i64 0, .int .i64 0, .int .i64 0]), 5, 40) := by kernel_rfl
theorem make_pipe (W : World) (n : Nat) (hn : n ≤ 2000000) : Sem.run Tryd.prog (Instr.makeSlice 33 (.int .i64 n) (.int .i64 n)) W = .ok (.slice (some ⟨W.heap.size, 0, none⟩) n n) (W.alloc (.cells (zeroPipes n) 50)) := by
  obtain ⟨i0, hi, hz0, hz1, hz2⟩ := info_parts info_make_pipe
  have h := run_make (P := Tryd.prog) W 33 50 i0 (.agg #[.int .i64 0, .int .i64 0, .int .i64 0, .int .i64 0, .int .i64 0]) Tryd.underlying33 hi hz0 .i64 .i64 (n : Int) (n : Int) (by omega) (Int.le_refl _) (by rw [hz2]; omega) (by omega)
  rw [hz1] at h
  simpa [zeroPipes, Value.cells] using h

set_option maxHeartbeats 1000000 in
theorem toNodeS_any (w : World) (v : Value) (n : Nat) (N : Nat → Nod) (lo hi : Nat) (h : Cs w v n 3 (nodC N) lo hi) (hn : n ≤ 2000000) (hhi : hi ≤ w.heap.size) :
    Calls Tryd.prog 17 #[v] w (NewPost w n 3 (nodC N)) := by
  obtain ⟨p, cap, rfl, h0, h9, hc⟩ := h
  have hmk := fun W => make_node W n hn
  have HC := Lib.hid hc
  clear hc
  go_enter Tryd.func17, Tryd.ntmps17
  go_wp2_with fail
  generalize hW : w.alloc (Obj.cells (zeroNodes n) 47) = W1
  have F1 := Lib.hid (show Rw W1 w.heap.size n 3 _ by rw [← hW]; exact rw_made w _ n 3 _ rfl)
  have F2 := Lib.hid (show Below w.heap.size w W1 by rw [← hW]; exact below_new w _)
  have F3 : w.heap.size < W1.heap.size := by rw [← hW]; simp
  clear hW hmk
  generalize hO : w.heap.size = ob at *
  have HOB := Lib.hid hO
  clear hO
  go_loopw [4] (fun i wr => ∃ k : Nat, i = .int .i64 k ∧ k ≤ n ∧ (∃ c, Rw wr ob n 3 c ∧ ∀ i j, i < k → j < 3 → c i j = nodC N i j) ∧ Below ob w wr ∧ ob < wr.heap.size) (fun i _ => n - (intOf i).toNat)
  case atStart => exact ⟨0, rfl, Nat.zero_le _, ⟨_, F1.out, fun i j hi => by omega⟩, F2.out, F3⟩
  case round =>
    obtain ⟨k, rfl, hk, hrow, hbel, hlt0⟩ := hrel
    have HR := Lib.hid hrow
    have HB := Lib.hid hbel
    clear hrow hbel
    by_cases hlt : k < n
    · rcases HC.out with h0 | ⟨b, o, rfl, g1, g2, g3⟩
      · omega
      have c0 : wr.cell? ⟨b, o + k * 3, none⟩ = some (.string (N k).s) := (HB.out.cell (p := ⟨b, o + k * 3, none⟩) (by show b < ob; omega)).trans (g3.cell k 0 hlt (by omega))
      have c1 : wr.cell? ⟨b, o + k * 3 + 1, none⟩ = some (.int .i64 (N k).lo) := (HB.out.cell (p := ⟨b, o + k * 3 + 1, none⟩) (by show b < ob; omega)).trans (g3.cell k 1 hlt (by omega))
      have c2 : wr.cell? ⟨b, o + k * 3 + 2, none⟩ = some (.int .i64 (N k).hi) := (HB.out.cell (p := ⟨b, o + k * 3 + 2, none⟩) (by show b < ob; omega)).trans (g3.cell k 2 hlt (by omega))
      clear g3
      go_wp2_with fail
      refine (toNode_any _ _ _ _).mono ?_
      rintro e w2 ⟨rfl, b2⟩
      have HB2 := Lib.hid (HB.out.trans (b2.mono (by omega)))
      obtain ⟨cc, hcc, hce⟩ := HR.out
      have r2 := hcc.below b2 hlt0
      have HCE := Lib.hid hce
      have HR2 := Lib.hid r2
      have hs2 := b2.size
      have e0 := r2.cell k 0 hlt (by omega)
      have q0 := r2.free (k * 3)
      have e1 := r2.cell k 1 hlt (by omega)
      have q1 := r2.free (k * 3 + 1)
      have e2 := r2.cell k 2 hlt (by omega)
      have q2 := r2.free (k * 3 + 2)
      rw [Nat.add_zero] at e0
      clear hce b2 r2 hcc c0 c1 c2
      go_wp2_with fail
      go_roundw
      case rel => exact ⟨k + 1, by go_num, hlt, HR2.out.step3 (d := nodC N) HCE.out hlt, below_set3 HB2.out (Nat.le_refl _) _ _ _ _ _ _, by simp only [sz_set]; omega⟩
      case measure => simp [intOf]; omega
    · obtain rfl : k = n := by omega
      go_wp2_with fail
      go_ret
      refine ⟨ret_sl' HOB.out.symm, ?_, ?_⟩
      · rw [HOB.out]
        obtain ⟨c, h1, h2⟩ := HR.out
        exact h1.congr h2
      · rw [HOB.out]
        exact HB.out

set_option maxHeartbeats 1000000 in
theorem toPipeS_any (w : World) (v : Value) (n : Nat) (N : Nat → Pip) (lo hi : Nat) (h : Cs w v n 5 (pipC N) lo hi) (hn : n ≤ 2000000) (hhi : hi ≤ w.heap.size) :
    Calls Tryd.prog 18 #[v] w (NewPost w n 5 (pipC N)) := by
  obtain ⟨p, cap, rfl, h0, h9, hc⟩ := h
  have hmk := fun W => make_pipe W n hn
  have HC := Lib.hid hc
  clear hc
  go_enter Tryd.func18, Tryd.ntmps18
  go_wp2_with fail
  generalize hW : w.alloc (Obj.cells (zeroPipes n) 50) = W1
  have F1 := Lib.hid (show Rw W1 w.heap.size n 5 _ by rw [← hW]; exact rw_made w _ n 5 _ rfl)
  have F2 := Lib.hid (show Below w.heap.size w W1 by rw [← hW]; exact below_new w _)
  have F3 : w.heap.size < W1.heap.size := by rw [← hW]; simp
  clear hW hmk
  generalize hO : w.heap.size = ob at *
  have HOB := Lib.hid hO
  clear hO
  go_loopw [4] (fun i wr => ∃ k : Nat, i = .int .i64 k ∧ k ≤ n ∧ (∃ c, Rw wr ob n 5 c ∧ ∀ i j, i < k → j < 5 → c i j = pipC N i j) ∧ Below ob w wr ∧ ob < wr.heap.size) (fun i _ => n - (intOf i).toNat)
  case atStart => exact ⟨0, rfl, Nat.zero_le _, ⟨_, F1.out, fun i j hi => by omega⟩, F2.out, F3⟩
  case round =>
    obtain ⟨k, rfl, hk, hrow, hbel, hlt0⟩ := hrel
    have HR := Lib.hid hrow
    have HB := Lib.hid hbel
    clear hrow hbel
    by_cases hlt : k < n
    · rcases HC.out with h0 | ⟨b, o, rfl, g1, g2, g3⟩
      · omega
      have c0 : wr.cell? ⟨b, o + k * 5, none⟩ = some (.int .i64 (N k).f) := (HB.out.cell (p := ⟨b, o + k * 5, none⟩) (by show b < ob; omega)).trans (g3.cell k 0 hlt (by omega))
      have c1 : wr.cell? ⟨b, o + k * 5 + 1, none⟩ = some (.int .i64 (N k).t) := (HB.out.cell (p := ⟨b, o + k * 5 + 1, none⟩) (by show b < ob; omega)).trans (g3.cell k 1 hlt (by omega))
      have c2 : wr.cell? ⟨b, o + k * 5 + 2, none⟩ = some (.int .i64 (N k).k) := (HB.out.cell (p := ⟨b, o + k * 5 + 2, none⟩) (by show b < ob; omega)).trans (g3.cell k 2 hlt (by omega))
      have c3 : wr.cell? ⟨b, o + k * 5 + 3, none⟩ = some (.int .i64 (N k).v) := (HB.out.cell (p := ⟨b, o + k * 5 + 3, none⟩) (by show b < ob; omega)).trans (g3.cell k 3 hlt (by omega))
      have c4 : wr.cell? ⟨b, o + k * 5 + 4, none⟩ = some (.int .i64 (N k).l) := (HB.out.cell (p := ⟨b, o + k * 5 + 4, none⟩) (by show b < ob; omega)).trans (g3.cell k 4 hlt (by omega))
      clear g3
      go_wp2_with fail
      refine (toPipe_any _ _ _ _ _ _).mono ?_
      rintro e w2 ⟨rfl, b2⟩
      have HB2 := Lib.hid (HB.out.trans (b2.mono (by omega)))
      obtain ⟨cc, hcc, hce⟩ := HR.out
      have r2 := hcc.below b2 hlt0
      have HCE := Lib.hid hce
      have HR2 := Lib.hid r2
      have hs2 := b2.size
      have e0 := r2.cell k 0 hlt (by omega)
      have q0 := r2.free (k * 5)
      have e1 := r2.cell k 1 hlt (by omega)
      have q1 := r2.free (k * 5 + 1)
      have e2 := r2.cell k 2 hlt (by omega)
      have q2 := r2.free (k * 5 + 2)
      have e3 := r2.cell k 3 hlt (by omega)
      have q3 := r2.free (k * 5 + 3)
      have e4 := r2.cell k 4 hlt (by omega)
      have q4 := r2.free (k * 5 + 4)
      rw [Nat.add_zero] at e0
      clear hce b2 r2 hcc c0 c1 c2 c3 c4
      go_wp2_with fail
      go_roundw
      case rel => exact ⟨k + 1, by go_num, hlt, HR2.out.step5 (d := pipC N) HCE.out hlt, below_set5 HB2.out (Nat.le_refl _) _ _ _ _ _ _ _ _ _ _, by simp only [sz_set]; omega⟩
      case measure => simp [intOf]; omega
    · obtain rfl : k = n := by omega
      go_wp2_with fail
      go_ret
      refine ⟨ret_sl' HOB.out.symm, ?_, ?_⟩
      · rw [HOB.out]
        obtain ⟨c, h1, h2⟩ := HR.out
        exact h1.congr h2
      · rw [HOB.out]
        exact HB.out

end Go.Proofs.YtdbgcbkmcbgdiaaDoor.mem
