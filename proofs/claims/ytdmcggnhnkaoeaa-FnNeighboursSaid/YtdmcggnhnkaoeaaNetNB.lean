/-
  NeighboursOf: the contracts of the program and of the specification. Conditions: as each states.
-/
import Derived.Test.YtdmcggnhnkaoeaaRows
import Derived.Test.YtdmcggnhnkaoeaaNetPA
import Derived.WalkKit
import Derived.ProofKit
import Derived.Outline
import Derived.OwnWalk
import Derived.Lib.Hide
import Derived.Deep.RegionHeld3
import Derived.Deep.RegionLaw
namespace Go.Proofs.Ytdmcggnhnkaoeaa.mem
open Go.RowKit
set_option linter.unusedVariables false

/-- a pipe among the first k joins x with i -/
def nbk (P : Nat → Pip) (x : Int) (k i : Nat) : Bool := (List.range k).any fun j => endB (P j) x && (othV (P j) x == (i : Int))
theorem nbk_no {P : Nat → Pip} {x : Int} {k : Nat} (h : endB (P k) x = false) (i : Nat) : nbk P x (k + 1) i = nbk P x k i := by
  unfold nbk
  rw [List.range_succ, List.any_append]
  simp [h]
theorem nbk_yes {P : Nat → Pip} {x : Int} {k j : Nat} (h : endB (P k) x = true) (hj : othV (P k) x = (j : Int)) (i : Nat) : nbk P x (k + 1) i = if i = j then true else nbk P x k i := by
  unfold nbk
  rw [List.range_succ, List.any_append]
  simp only [List.any_cons, List.any_nil, Bool.or_false, h, Bool.true_and, hj]
  by_cases e : i = j
  · subst e
    simp
  · rw [if_neg e]
    have : ((j : Int) == (i : Int)) = false := by
      rw [beq_eq_false_iff_ne]
      omega
    rw [this, Bool.or_false]
noncomputable def nbN (n : Nat) (N : Nat → Nod) (m : Nat) (P : Nat → Pip) (x : Int) : Nat := if paC n N m P x = 0 then (fl (nbk P x m) n).length else 0
theorem oth_in {q : Pip} {n x : Int} (h : pipB n q = true) : 0 ≤ othV q x ∧ othV q x ≤ n - 1 := by
  have := pipB_parts h
  unfold othV
  split <;> omega
theorem info_make_bool : (Try.prog.info? 4).map (fun i => (i.zero, i.size, i.bytes)) = some (some (.bool false), 1, 1) := by kernel_rfl
def falses (n : Nat) : Array Value := madeCells #[.bool false] (n * 1)
theorem make_bool (W : World) (n : Nat) (hn : n ≤ 2000000) : Sem.run Try.prog (Instr.makeSlice 81 (.int .i64 n) (.int .i64 n)) W = .ok (.slice (some ⟨W.heap.size, 0, none⟩) n n) (W.alloc (.cells (falses n) 4)) := by
  obtain ⟨i0, hi, hz0, hz1, hz2⟩ := info_parts info_make_bool
  have h := run_make (P := Try.prog) W 81 4 i0 (.bool false) Try.underlying81 hi hz0 .i64 .i64 (n : Int) (n : Int) (by omega) (Int.le_refl _) (by rw [hz2]; omega) (by omega)
  rw [hz1] at h
  simpa [falses, Value.cells] using h
/-- at an append in a region, when its run is known -/
theorem step_app {ops : Array Oper} {o : Oper} {a : Act} {w : World} {K : Act → World → Prop} {Q : Exit → Act → World → Prop} {E : Prop} {v' : Value} {w' : World} {v xv : Value}
    (hr : Sem.run Try.prog (Builtin.append_ #[37, 37] 37 #[v, xv]) w = .ok v' w') (hg : o.guard = none) (s x : Operand)
    (hop : o.op = Op.call { callee := Callee.builtin Builtin.append, args := #[s, x], argTypes := #[37, 37] }) (hty : o.type = 37) (hs : a.eval s = v) (hx : a.eval x = xv)
    (hK : K (a.put o.dst v') w') : if Region.wanted o (yielded ops a.tmps) = true then Oper.wp Try.prog o a w K Q else E := by
  have hw : Region.wanted o (yielded ops a.tmps) = true := by simp [Region.wanted, hg]
  rw [if_pos hw]
  unfold Oper.wp
  simp [execOp, hop, hty, resolve, invoke, builtin, hs, hx, hr, Result.andThen]
  exact hK

set_option maxRecDepth 100000 in
set_option maxHeartbeats 2000000 in
theorem neighboursI_any (w : World) (v : Value) (n : Nat) (N : Nat → Nod) (m : Nat) (P : Nat → Pip) (lo hi : Nat) (h : NetAt w v n N m P lo hi) (hhi : hi ≤ w.heap.size) (hN : ∀ i, i < n → (N i).s.size ≤ 9223372036854775807) (x : Int) :
    Calls Try.prog 21 #[v, .int .i64 x] w (LIPost w (nbN n N m P x) (fd (nbk P x m) n) (paC n N m P x)) := by
  obtain ⟨v0, v1, rfl, g0, g1⟩ := h.ex
  obtain ⟨p0, c0, rfl⟩ := g0.shape
  obtain ⟨p1, c1, rfl⟩ := g1.shape
  have hn9 : n ≤ 9223372036854775807 := by
    obtain ⟨p, cap, he, q1, q2, _⟩ := g0.ex
    omega
  have hm9 : m ≤ 9223372036854775807 := by
    obtain ⟨p, cap, he, q1, q2, _⟩ := g1.ex
    omega
  have HC0 : Hid (n = 0 ∨ ∃ b o, p0 = some ⟨b, o, none⟩ ∧ lo ≤ b ∧ b < hi ∧ At w b o n 3 (nodC N)) := by
    obtain ⟨p, cap, hv, _, _, hc⟩ := g0.ex
    injection hv with e1 _ e2
    subst e1
    exact Lib.hid hc
  have HC1 : Hid (m = 0 ∨ ∃ b o, p1 = some ⟨b, o, none⟩ ∧ lo ≤ b ∧ b < hi ∧ At w b o m 5 (pipC P)) := by
    obtain ⟨p, cap, hv, _, _, hc⟩ := g1.ex
    injection hv with e1 _ e2
    subst e1
    exact Lib.hid hc
  have HV := Lib.hid h
  have HN := Lib.hid hN
  clear h g0 g1 hN
  have A0 := boxed w (.slice p0 n c0) (.slice p1 m c1) 27
  have C0 : Below w.heap.size w _ := below_new w (Obj.cells #[Value.slice p0 n c0, Value.slice p1 m c1] 27)
  have hs0 : w.heap.size + 1 ≤ (w.alloc (Obj.cells #[Value.slice p0 n c0, Value.slice p1 m c1] 27)).heap.size := by simp
  have HP := Lib.hid (show nbN n N m P x = if paC n N m P x = 0 then (fl (nbk P x m) n).length else 0 from rfl)
  have HCD := Lib.hid (show paC n N m P x = codeB (netB n N m P) (inR x 0 (n - 1)) from rfl)
  have HNP := Lib.hid (@net_pip n N m P)
  have hall : allR n 1 (fun _ => x) = inR x 0 (n - 1) := by
    rw [Bool.eq_iff_iff, allR_iff]
    exact ⟨fun h => h 0 (by omega), fun h i _ => h⟩
  have HAL := Lib.hid hall
  clear hall
  go_enter Try.func21, Try.ntmps21
  go_wp2_with fail
  have S1 := one_arg (w.alloc (Obj.cells #[Value.slice p0 n c0, Value.slice p1 m c1] 27)) x
  simp only [szal] at S1
  have A1 := A0.keep (Below.heap_alloc _ (Obj.cells #[Value.int .i64 x] 2) _ A0.lt)
  have C1 : Below w.heap.size w ((w.alloc (Obj.cells #[Value.slice p0 n c0, Value.slice p1 m c1] 27)).alloc (Obj.cells #[Value.int .i64 x] 2)) := below_alloc C0 (by omega) _
  have hs1 : w.heap.size + 1 ≤ ((w.alloc (Obj.cells #[Value.slice p0 n c0, Value.slice p1 m c1] 27)).alloc (Obj.cells #[Value.int .i64 x] 2)).heap.size := by simp
  refine (checkNodes_any _ _ n N m P lo hi (HV.out.below C1 hhi) (by omega) HN.out _ 1 (fun _ => x) 0 _ S1 (by simp)).mono ?_
  rintro e w2 ⟨rfl, b2⟩
  have A2 := A1.below b2 (by omega)
  have C2 := C1.trans (b2.mono (by omega))
  have hs2 := Nat.le_trans hs1 b2.size
  have e0 := A2.b0
  have e1 := A2.b1
  have e2 : w.heap.size < w2.heap.size := by omega
  clear b2 S1 A1 C1 hs1 A0 C0 hs0
  rw [HAL.out, ← HCD.out]
  by_cases hc : paC n N m P x = 0
  rotate_left 1
  · have hcb : (paC n N m P x != 0) = true := by simp [hc]
    have H := Lib.hid (show nbN n N m P x = 0 by rw [HP.out, if_neg hc])
    clear hc
    go_wp2_with fail
    go_ret2
    exact li_err H.out rfl rfl C2
  have hcb : (paC n N m P x != 0) = false := by simp [hc]
  have H := Lib.hid (show nbN n N m P x = (fl (nbk P x m) n).length by rw [HP.out, if_pos hc])
  have HC := Lib.hid hc
  have hz := net_sz (codeB_zero (HCD.out ▸ hc)).1
  have HPI := Lib.hid (fun k (hk : k < m) => HNP.out (codeB_zero (HCD.out ▸ hc)).1 hk)
  clear hc
  have hmk := fun W => make_bool W n (by omega)
  go_wp2_with fail
  have R3 : Rw (w2.alloc (Obj.cells (falses n) 4)) w2.heap.size n 1 (fun _ j => (#[Value.bool false])[j]!) := rw_made w2 _ n 1 _ rfl
  have R3' := R3.congr (c' := fun i _ => .bool (nbk P x 0 i)) (fun i j hi hj => by obtain rfl : j = 0 := (by omega); rfl)
  have C3 : Below w.heap.size w (w2.alloc (Obj.cells (falses n) 4)) := below_alloc C2 (by omega) _
  have hs3 : w2.heap.size + 1 ≤ (w2.alloc (Obj.cells (falses n) 4)).heap.size := by simp
  generalize hW : (w2.alloc (Obj.cells (falses n) 4)) = W3 at *
  generalize hj : w2.heap.size = bj at *
  clear hW A2 C2 e0 e1 R3 hmk
  go_loopw [27, 9] (fun i _ wr => ∃ k : Nat, i = .int .i64 k ∧ k ≤ m ∧ Rw wr bj n 1 (fun i _ => .bool (nbk P x k i)) ∧ Below w.heap.size w wr ∧ bj + 1 ≤ wr.heap.size) (fun i _ _ => m - (intOf i).toNat)
  case atStart => exact ⟨0, rfl, Nat.zero_le _, R3', C3, hs3⟩
  case round =>
    obtain ⟨k, rfl, hk, hrow, hbel, hsz⟩ := hrel
    have HR := Lib.hid hrow
    have HB := Lib.hid hbel
    clear hrow hbel
    by_cases hlt : k < m
    · rcases HC1.out with h0 | ⟨b, o, rfl, hlo, hb, g3⟩
      · omega
      have y0 : wr.cell? ⟨b, o + k * 5, none⟩ = some (.int .i64 (P k).f) := (HB.out.cell (p := ⟨b, o + k * 5, none⟩) (Nat.lt_of_lt_of_le hb hhi)).trans (g3.cell k 0 hlt (by omega))
      have y1 : wr.cell? ⟨b, o + k * 5 + 1, none⟩ = some (.int .i64 (P k).t) := (HB.out.cell (p := ⟨b, o + k * 5 + 1, none⟩) (Nat.lt_of_lt_of_le hb hhi)).trans (g3.cell k 1 hlt (by omega))
      have y2 : wr.cell? ⟨b, o + k * 5 + 2, none⟩ = some (.int .i64 (P k).k) := (HB.out.cell (p := ⟨b, o + k * 5 + 2, none⟩) (Nat.lt_of_lt_of_le hb hhi)).trans (g3.cell k 2 hlt (by omega))
      have y3 : wr.cell? ⟨b, o + k * 5 + 3, none⟩ = some (.int .i64 (P k).v) := (HB.out.cell (p := ⟨b, o + k * 5 + 3, none⟩) (Nat.lt_of_lt_of_le hb hhi)).trans (g3.cell k 3 hlt (by omega))
      have y4 : wr.cell? ⟨b, o + k * 5 + 4, none⟩ = some (.int .i64 (P k).l) := (HB.out.cell (p := ⟨b, o + k * 5 + 4, none⟩) (Nat.lt_of_lt_of_le hb hhi)).trans (g3.cell k 4 hlt (by omega))
      clear g3
      have V1 := boxedP wr (P k) 68
      have b1 := below_new wr (.cells #[.int .i64 (P k).f, .int .i64 (P k).t, .int .i64 (P k).k, .int .i64 (P k).v, .int .i64 (P k).l] 68)
      cases h1 : endB (P k) x
      all_goals
        have H1 := Lib.hid h1
        go_wp2_with fail
        refine (endsAt_any (P k) x _).mono ?_
        rintro e w4 ⟨rfl, b4⟩
        have V4 := V1.below b4 (by simp)
        have z0 : w4.cell? ⟨wr.heap.size, 0, none⟩ = some (.int .i64 (P k).f) := V4.cell 0 (by omega)
        have z1 : w4.cell? ⟨wr.heap.size, 1, none⟩ = some (.int .i64 (P k).t) := V4.cell 1 (by omega)
        have z2 : w4.cell? ⟨wr.heap.size, 2, none⟩ = some (.int .i64 (P k).k) := V4.cell 2 (by omega)
        have z3 : w4.cell? ⟨wr.heap.size, 3, none⟩ = some (.int .i64 (P k).v) := V4.cell 3 (by omega)
        have z4 : w4.cell? ⟨wr.heap.size, 4, none⟩ = some (.int .i64 (P k).l) := V4.cell 4 (by omega)
        have b5 := b1.trans (b4.mono (by simp))
        have hs4 := b5.size
        clear b1 b4 y0 y1 y2 y3 y4 V1
        go_wp2_with fail
      · have HR4 := Lib.hid ((HR.out.below b5 (by omega)).congr (c' := fun i _ => .bool (nbk P x (k + 1) i)) (fun i j hi hj => by rw [nbk_no H1.out]))
        have HB4 := Lib.hid (HB.out.trans (b5.mono (by omega)))
        clear b5 z0 z1 z2 z3 z4 V4
        go_roundw
        case rel => exact ⟨k + 1, by go_num, hlt, HR4.out, HB4.out, by omega⟩
        case measure => simp [intOf]; omega
      · refine (otherEnd_any (P k) x _).mono ?_
        rintro e w6 ⟨rfl, b6⟩
        have b7 := b5.trans (b6.mono hs4)
        have HB4 := Lib.hid (HB.out.trans (b7.mono (by omega)))
        have hs6 := b7.size
        have R6 := HR.out.below b7 (by omega)
        obtain ⟨j, hoj⟩ := Int.eq_ofNat_of_zero_le (oth_in (x := x) (HPI.out k hlt)).1
        have hjn : j < n := by have := (oth_in (x := x) (HPI.out k hlt)).2; omega
        have r0 : w6.cell? ⟨bj, j, none⟩ = some (.bool (nbk P x k j)) := R6.int j hjn
        have r1 := R6.free j
        have HR6 := Lib.hid R6
        rw [hoj]
        have HOJ := Lib.hid hoj
        clear hoj b5 b6 b7 z0 z1 z2 z3 z4 V4 R6
        go_wp2_with fail
        go_roundw
        case rel =>
          have st := HR6.out.set j 0 (.bool true) hjn (by omega)
          simp only [Nat.mul_one, Nat.add_zero] at st
          refine ⟨k + 1, by go_num, hlt, st.congr (fun i y hi hy => ?_), below_set HB4.out (by omega) _ _, by simp only [sz_set]; omega⟩
          obtain rfl : y = 0 := by omega
          unfold updC
          rw [nbk_yes H1.out HOJ.out i]
          by_cases e : i = j
          · subst e; simp
          · rw [if_neg e, if_neg (by omega)]
        case measure => simp [intOf]; omega
    · obtain rfl : k = m := by omega
      go_wp2_with fail
      have F0 := Own.nilled wr (fd (nbk P x k) 0)
      have R4 := HR.out.keep (Below.heap_alloc wr (Obj.cells #[] 2) _ HR.out.lt)
      have C4 : Below w.heap.size w (wr.alloc (Obj.cells #[] 2)) := below_alloc HB.out (by omega) _
      have hs4 : bj + 1 ≤ (wr.alloc (Obj.cells #[] 2)).heap.size := by simp; omega
      obtain ⟨W5, hW5⟩ : ∃ W5 : World, W5 = wr.alloc (Obj.cells #[] 2) := ⟨_, rfl⟩
      obtain ⟨gz, hgz⟩ : ∃ gz, gz = wr.heap.size := ⟨_, rfl⟩
      rw [← hW5, ← hgz] at F0
      rw [← hW5] at R4 C4 hs4
      rw [← hW5, ← hgz]
      have hgz2 : bj + 1 ≤ gz := by omega
      clear hW5 hgz HR HB hsz
      go_loopw [43, 11, 12, 10] (fun i _ _ out wr => ∃ (j g : Nat) (out' : Value), i = .int .i64 j ∧ out' = out ∧ j ≤ n ∧ Own wr out' (fl (nbk P x k) j).length (fd (nbk P x k) j) g ∧ bj + 1 ≤ g ∧ Rw wr bj n 1 (fun i _ => .bool (nbk P x k i)) ∧ Below w.heap.size w wr) (fun i _ _ _ _ => n - (intOf i).toNat)
      case atStart => exact ⟨0, gz, _, rfl, rfl, Nat.zero_le _, F0, hgz2, R4, C4⟩
      case round =>
        obtain ⟨j, g, out, rfl, rfl, hj, ho, hg, hrow, hbel⟩ := hrel
        obtain ⟨co, rfl⟩ := ho.shape
        have HO := Lib.hid ho
        have HR := Lib.hid hrow
        have HB := Lib.hid hbel
        have hgl := ho.lt
        clear ho hrow hbel
        by_cases hjn : j < n
        · have r0 : wr.cell? ⟨bj, j, none⟩ = some (.bool (nbk P x k j)) := HR.out.int j hjn
          cases hp : nbk P x k j
          · have HPK := Lib.hid hp
            go_wp2_with fail
            go_roundw
            case rel => exact ⟨j + 1, g, _, by go_num, rfl, hjn, fl_keep HPK.out HO.out, hg, HR.out, HB.out⟩
            case measure => simp [intOf]; omega
          · have HPK := Lib.hid hp
            obtain ⟨v5, w5, g5, hr, ap⟩ := coll_run wr _ (nbk P x k) j g HO.out (by omega)
            have Y := Lib.hid (coll_below (B := bj + 1) ap hg (by omega))
            have O5 := Lib.hid (fl_app HPK.out ap)
            clear ap
            go_wp2_with (at_builtin; refine wpList_app hr rfl _ _ rfl rfl rfl rfl ?_)
            go_roundw
            case rel => exact ⟨j + 1, g5, v5, by go_num, rfl, hjn, O5.out, Y.out.2.1, HR.out.below Y.out.1 (by omega), HB.out.trans (Y.out.1.mono (by omega))⟩
            case measure => simp [intOf]; omega
        · obtain rfl : j = n := by omega
          go_wp2_with fail
          go_ret2
          exact li_ok H.out.symm (by rw [HC.out]; rfl) HO.out (by omega) HB.out
end Go.Proofs.Ytdmcggnhnkaoeaa.mem
