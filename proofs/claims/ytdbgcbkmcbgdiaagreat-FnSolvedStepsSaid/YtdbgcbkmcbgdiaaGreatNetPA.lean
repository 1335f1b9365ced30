/-
  PipesAt: the contracts of the program and of the specification. Conditions: as each states.
-/
import Derived.Test.YtdbgcbkmcbgdiaaGreatRows
import Derived.Test.YtdbgcbkmcbgdiaaGreatNetO
import Derived.Test.YtdbgcbkmcbgdiaaGreatColl
import Derived.WalkKit
import Derived.ProofKit
import Derived.Outline
import Derived.OwnWalk
import Derived.Lib.Hide
namespace Go.Proofs.YtdbgcbkmcbgdiaaGreat.mem
open Go.RowKit
set_option linter.unusedVariables false

noncomputable def paC (n : Nat) (N : Nat → Nod) (m : Nat) (P : Nat → Pip) (x : Int) : Int := codeB (netB n N m P) (inR x 0 (n - 1))
theorem codeB_zero {b r : Bool} (h : codeB b r = 0) : b = true ∧ r = true := by
  unfold codeB at h
  cases b <;> cases r <;> simp at h ⊢
def paP (P : Nat → Pip) (x : Int) (i : Nat) : Bool := endB (P i) x
noncomputable def paN (n : Nat) (N : Nat → Nod) (m : Nat) (P : Nat → Pip) (x : Int) : Nat := if paC n N m P x = 0 then (fl (paP P x) m).length else 0
theorem one_arg (w : World) (x : Int) : Cs (w.alloc (.cells #[.int .i64 x] 2)) (.slice (some ⟨w.heap.size, 0, none⟩) 1 1) 1 1 (fun i _ => .int .i64 ((fun _ => x) i)) 0 (w.heap.size + 1) := by
  refine (Rw.new w #[Value.int .i64 x] 2 1 1 (fun i _ => .int .i64 x) (by simp) ?_).cs (Nat.le_refl _) (by omega) (Nat.zero_le _) (by omega)
  intro i j hi hj
  obtain rfl : i = 0 := by omega
  obtain rfl : j = 0 := by omega
  rfl
theorem li_err {w w' : World} {cnt : Nat} {d : Nat → Int} {c c' : Int} {e : Ending} (h0 : cnt = 0) (hc : c = c') (he : e = .returned (.tuple #[.slice none 0 0, .int .i64 c])) (hb : Below w.heap.size w w') : LIPost w cnt d c' e w' := by
  subst h0 hc
  exact ⟨_, w.heap.size, he, OwnS.none_ _ _ _ _, Nat.le_refl _, hb⟩
theorem li_ok {w w' : World} {v : Value} {cnt n g : Nat} {d : Nat → Int} {c : Int} {e : Ending} (h0 : n = cnt) (he : e = .returned (.tuple #[v, .int .i64 c])) (h : Own w' v n d g) (hg : w.heap.size ≤ g) (hb : Below w.heap.size w w') : LIPost w cnt d c e w' := by
  subst h0
  exact ⟨_, g, he, h.ownS, hg, hb⟩

set_option maxRecDepth 100000 in
set_option maxHeartbeats 2000000 in
theorem l02At_any (w : World) (v : Value) (n : Nat) (N : Nat → Nod) (m : Nat) (P : Nat → Pip) (lo hi : Nat) (h : NetAt w v n N m P lo hi) (hhi : hi ≤ w.heap.size) (hN : ∀ i, i < n → (N i).s.size ≤ 9223372036854775807) (hm2 : m ≤ 1000000) (x : Int) :
    Calls Tryz.prog 147 #[v, .int .i64 x] w fun e w' => ∃ v' g, e = .returned v' ∧ Own w' v' (fl (paP P x) m).length (fd (paP P x) m) g ∧ w.heap.size ≤ g ∧ Below w.heap.size w w' := by
  obtain ⟨v0, v1, rfl, g0, g1⟩ := h.ex
  obtain ⟨p0, c0, rfl⟩ := g0.shape
  obtain ⟨p1, c1, rfl⟩ := g1.shape
  have hn9 : n ≤ 9223372036854775807 := by
    obtain ⟨p, cap, he, q1, q2, _⟩ := g0.ex
    omega
  have hm9 : m ≤ 9223372036854775807 := by
    obtain ⟨p, cap, he, q1, q2, _⟩ := g1.ex
    omega
  have HC0 : Hid (n = 0 ∨ ∃ b o, p0 = some ⟨b, o, none⟩ ∧ lo ≤ b ∧ b < hi ∧ At w b o n 3 (nodC N)) := by
    obtain ⟨p, cap, hv, _, _, hc⟩ := g0.ex
    injection hv with e1 _ e2
    subst e1
    exact Lib.hid hc
  have HC1 : Hid (m = 0 ∨ ∃ b o, p1 = some ⟨b, o, none⟩ ∧ lo ≤ b ∧ b < hi ∧ At w b o m 5 (pipC P)) := by
    obtain ⟨p, cap, hv, _, _, hc⟩ := g1.ex
    injection hv with e1 _ e2
    subst e1
    exact Lib.hid hc
  have HV := Lib.hid h
  have HN := Lib.hid hN
  clear h g0 g1 hN
  go_enter Tryz.func147, Tryz.ntmps147
  go_wp2_with fail
  have F0 := Own.nilled (w.alloc (Obj.cells #[Value.slice p0 n c0, Value.slice p1 m c1] 27)) (fd (paP P x) 0)
  simp only [szal] at F0
  have A3 := (boxed w (.slice p0 n c0) (.slice p1 m c1) 27).keep (Below.heap_alloc (w.alloc (Obj.cells #[Value.slice p0 n c0, Value.slice p1 m c1] 27)) (Obj.cells #[] 2) _ (by simp))
  have C3 := bel2 w (Obj.cells #[Value.slice p0 n c0, Value.slice p1 m c1] 27) (Obj.cells #[] 2)
  have hs3 : w.heap.size + 2 ≤ ((w.alloc (Obj.cells #[Value.slice p0 n c0, Value.slice p1 m c1] 27)).alloc (Obj.cells #[] 2)).heap.size := by simp
  generalize hW : ((w.alloc (Obj.cells #[Value.slice p0 n c0, Value.slice p1 m c1] 27)).alloc (Obj.cells #[] 2)) = W3 at *
  clear hW
  go_loopw [6, 5] (fun i out wr => ∃ (k g : Nat) (out' : Value), i = .int .i64 k ∧ out' = out ∧ k ≤ m ∧ Own wr out' (fl (paP P x) k).length (fd (paP P x) k) g ∧ w.heap.size < g ∧ Below w.heap.size w wr ∧ Ob wr w.heap.size 2 (bx (.slice p0 n c0) (.slice p1 m c1)) ∧ w.heap.size + 1 ≤ wr.heap.size) (fun i _ _ => m - (intOf i).toNat)
  case atStart => exact ⟨0, w.heap.size + 1, _, rfl, rfl, Nat.zero_le _, F0, by omega, C3, A3, by omega⟩
  case round =>
    obtain ⟨k, g, out, rfl, rfl, hk, ho, hg, hbel, hbox, hsz⟩ := hrel
    obtain ⟨co, rfl⟩ := ho.shape
    have HO := Lib.hid ho
    have HB := Lib.hid hbel
    have HX := Lib.hid hbox
    have hgl := ho.lt
    have e0 := hbox.b0
    have e1 := hbox.b1
    clear ho hbel hbox
    by_cases hlt : k < m
    · rcases HC1.out with h0 | ⟨b, o, rfl, hlo, hb, g3⟩
      · omega
      have y0 : wr.cell? ⟨b, o + k * 5, none⟩ = some (.int .i64 (P k).f) := (HB.out.cell (p := ⟨b, o + k * 5, none⟩) (Nat.lt_of_lt_of_le hb hhi)).trans (g3.cell k 0 hlt (by omega))
      have y1 : wr.cell? ⟨b, o + k * 5 + 1, none⟩ = some (.int .i64 (P k).t) := (HB.out.cell (p := ⟨b, o + k * 5 + 1, none⟩) (Nat.lt_of_lt_of_le hb hhi)).trans (g3.cell k 1 hlt (by omega))
      have y2 : wr.cell? ⟨b, o + k * 5 + 2, none⟩ = some (.int .i64 (P k).k) := (HB.out.cell (p := ⟨b, o + k * 5 + 2, none⟩) (Nat.lt_of_lt_of_le hb hhi)).trans (g3.cell k 2 hlt (by omega))
      have y3 : wr.cell? ⟨b, o + k * 5 + 3, none⟩ = some (.int .i64 (P k).v) := (HB.out.cell (p := ⟨b, o + k * 5 + 3, none⟩) (Nat.lt_of_lt_of_le hb hhi)).trans (g3.cell k 3 hlt (by omega))
      have y4 : wr.cell? ⟨b, o + k * 5 + 4, none⟩ = some (.int .i64 (P k).l) := (HB.out.cell (p := ⟨b, o + k * 5 + 4, none⟩) (Nat.lt_of_lt_of_le hb hhi)).trans (g3.cell k 4 hlt (by omega))
      clear g3
      cases hp : paP P x k
      · have HPK := Lib.hid hp
        have h5 : ((P k).f == x) = false := by unfold paP endB at hp; simp only [Bool.or_eq_false_iff] at hp; exact hp.1
        have h6 : ((P k).t == x) = false := by unfold paP endB at hp; simp only [Bool.or_eq_false_iff] at hp; exact hp.2
        clear hp
        go_wp2_with fail
        go_roundw
        case rel => exact ⟨k + 1, g, _, by go_num, rfl, hlt, fl_keep HPK.out HO.out, hg, HB.out, HX.out, by omega⟩
        case measure => simp [intOf]; omega
      · have HPK := Lib.hid hp
        obtain ⟨v5, w5, g5, hr, ap⟩ := coll_run wr _ (paP P x) k g HO.out (by omega)
        have Y := Lib.hid (coll_below (B := w.heap.size + 1) ap hg (by omega))
        have O5 := Lib.hid (fl_app HPK.out ap)
        have hs5 := Y.out.2.2
        have hg5 := Y.out.2.1
        clear ap
        cases h5 : ((P k).f == x)
        rotate_left 1
        have h6 : True := trivial
        rotate_left 1
        have h6 : ((P k).t == x) = true := by unfold paP endB at hp; rw [h5] at hp; simpa using hp
        all_goals
          clear hp
          go_wp2_with (at_builtin; refine wpList_app hr rfl _ _ rfl rfl rfl rfl ?_)
          go_roundw
          case rel => exact ⟨k + 1, g5, v5, by go_num, rfl, hlt, O5.out, by omega, HB.out.trans (Y.out.1.mono (by omega)), HX.out.below Y.out.1 (by omega), by omega⟩
          case measure => simp [intOf]; omega
    · obtain rfl : k = m := by omega
      go_wp2_with fail
      go_ret
      exact ⟨_, g, rfl, HO.out, by omega, HB.out⟩
end Go.Proofs.YtdbgcbkmcbgdiaaGreat.mem
