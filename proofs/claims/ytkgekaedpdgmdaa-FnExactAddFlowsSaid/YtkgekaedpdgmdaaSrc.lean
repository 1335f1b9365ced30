/-
  The specification's search. Conditions: as each states.
-/
import Derived.Test.YtkgekaedpdgmdaaRows
import Derived.Test.YtkgekaedpdgmdaaDst
import Derived.Test.YtkgekaedpdgmdaaVisC
import Derived.Deep.RegionHeldLaw
namespace Go.Proofs.Ytkgekaedpdgmdaa.mem
open Go.RowKit
set_option linter.unusedVariables false

theorem fl_getS {p : Nat → Bool} {m i : Nat} (hi : i < (fl p m).length) : ((fl p m)[i]?).getD 0 < m ∧ p (((fl p m)[i]?).getD 0) = true := by
  rw [List.getElem?_eq_getElem hi, Option.getD_some]
  have := List.getElem_mem hi
  exact fl_lt this
/-- the pipes at a visit's node, looked at one after the other -/
def vls (P : Nat → Pip) (v : Vs) (l : List Nat) (fs : List Vs) : List Vs := l.foldl (vadd P v) fs
theorem vls_all (P : Nat → Pip) (v : Vs) (fs : List Vs) : ∀ m, vls P v (fl (paP P v.nd) m) fs = vrow P v m fs
  | 0 => rfl
  | m + 1 => by
    have ih := vls_all P v fs m
    rw [vrow_succ]
    cases h : paP P v.nd m
    · rw [fl_no h, ih]
      have h' : endB (P m) v.nd = false := h
      unfold vadd
      rw [h']
      rfl
    · rw [fl_yes h]
      unfold vls at ih ⊢
      rw [List.foldl_append, ih]
      rfl
theorem vls_one {P : Nat → Pip} {v : Vs} {l : List Nat} {i a : Nat} {fs : List Vs} (h : l[i]? = some a) : vls P v (l.take (i + 1)) fs = vadd P v (vls P v (l.take i) fs) a := by
  unfold vls
  rw [take_one h, List.foldl_append]
  rfl
theorem vls_pre (P : Nat → Pip) (v : Vs) : ∀ (l : List Nat) (fs : List Vs), fs <+: vls P v l fs
  | [], fs => List.prefix_refl _
  | a :: l, fs => (vadd_pre P v fs a).trans (vls_pre P v l (vadd P v fs a))
theorem Vok.ls {n : Nat} {N : Nat → Nod} {P : Nat → Pip} {m : Nat} {x : Int} {j : Nat} {u : Vs} (hN : netB n N m P = true) : ∀ (l : List Nat) (fs : List Vs), Vok n P m x fs → fs[j]? = some u → (∀ a ∈ l, a < m) → Vok n P m x (vls P u l fs)
  | [], _, h, _, _ => h
  | a :: l, fs, h, hu, hl => by
    refine Vok.ls hN l (vadd P u fs a) ?_ (pre_get (vadd_pre P u fs a) hu) (fun b hb => hl b (by simp [hb]))
    unfold vadd
    split
    · next hc =>
      simp only [Bool.and_eq_true, Bool.not_eq_true'] at hc
      exact h.app hu (hl a (by simp)) hc.1 hc.2 (oth_rng (net_pip hN (hl a (by simp))))
    · exact h
/-- the nodes of visits -/
def ordD (fs : List Vs) : Nat → Int := fun j => match fs[j]? with
  | some v => v.nd
  | none => 0
theorem ordD_some {fs : List Vs} {j : Nat} {v : Vs} (h : fs[j]? = some v) : ordD fs j = v.nd := by unfold ordD; rw [h]
theorem ordD_pre {a b : List Vs} (h : a <+: b) {j : Nat} (hj : j < a.length) : ordD b j = ordD a j := by
  have e := List.getElem?_eq_getElem hj
  rw [ordD_some e, ordD_some (pre_get h e)]
theorem ordD_last (fs : List Vs) (v : Vs) : ordD (fs ++ [v]) fs.length = v.nd := ordD_some (by simp)
theorem tab_more {A : World} {g n : Nat} {f : Vs → Int} {pre : List Vs} {u : Vs} {Z : Nat} (h : Ob A g n (tabC (vval f pre))) (h1 : vhas pre u.nd = false) (hZ : u.nd = ((Z : Nat) : Int)) (hn : Z < n) :
    Ob (A.setCell ⟨g, Z, none⟩ (.int .i64 (f u))) g n (tabC (vval f (pre ++ [u]))) := tab_step h h1 hZ hn
theorem flag_set {w : World} {b n : Nat} {fs : List Vs} (h : Ob w b n (flagC fs)) (v : Vs) (k : Nat) (hk : k < n) (e : v.nd = (k : Int)) : Ob (w.setCell ⟨b, k, none⟩ (.bool true)) b n (flagC (fs ++ [v])) := by
  refine (h.set k (.bool true) hk).congr fun j hj => ?_
  unfold updV flagC
  rw [vhas_app, e]
  by_cases hjk : j = k
  · subst hjk
    simp
  · rw [if_neg hjk]
    have : (((k : Nat) : Int) == ((j : Nat) : Int)) = false := by rw [beq_eq_false_iff_ne]; omega
    rw [this, Bool.or_false]
theorem info_make_bool : (Try.prog.info? 4).map (fun i => (i.zero, i.size, i.bytes)) = some (some (.bool false), 1, 1) := by kernel_rfl
def falses (n : Nat) : Array Value := madeCells #[.bool false] n
theorem make_bool (W : World) (n : Nat) (hn : n ≤ 2000000) : Sem.run Try.prog (Instr.makeSlice 118 (.int .i64 n) (.int .i64 n)) W = .ok (.slice (some ⟨W.heap.size, 0, none⟩) n n) (W.alloc (.cells (falses n) 4)) := by
  obtain ⟨i0, hi, hz0, hz1, hz2⟩ := info_parts info_make_bool
  have h := run_make (P := Try.prog) W 118 4 i0 (.bool false) Try.underlying118 hi hz0 .i64 .i64 (n : Int) (n : Int) (by omega) (Int.le_refl _) (by rw [hz2]; omega) (by omega)
  rw [hz1] at h
  simpa [falses, Value.cells] using h
theorem falses_get (n k : Nat) (h : k < n) : (falses n)[k]? = some (.bool false) := by
  unfold falses madeCells
  have : k % 1 = 0 := Nat.mod_one k
  simp [h, this]
theorem size_falses (n : Nat) : (falses n).size = n := by simp [falses, madeCells]
theorem size_zeros (n : Nat) : (zeros n).size = n := by simp [zeros, madeCells]
theorem ob_zeros (w : World) (n : Nat) (t : TypeId) : Ob (w.alloc (.cells (zeros n) t)) w.heap.size n (fun _ => .int .i64 0) := Ob.new w _ _ n _ (size_zeros n) (fun k hk => zeros_get n k hk)
theorem ob_falses (w : World) (n : Nat) (t : TypeId) : Ob (w.alloc (.cells (falses n) t)) w.heap.size n (flagC []) := Ob.new w _ _ n _ (size_falses n) (fun k hk => falses_get n k hk)
/-- the first k cells are -1 -/
def fillC (k : Nat) : Nat → Value := fun j => .int .i64 (if j < k then -1 else 0)
theorem fill_set {w : World} {g n k : Nat} (h : Ob w g n (fillC k)) (hk : k < n) : Ob (w.setCell ⟨g, k, none⟩ (.int .i64 (-1))) g n (fillC (k + 1)) := by
  refine (h.set k _ hk).congr fun j hj => ?_
  unfold updV fillC
  by_cases e : j = k
  · subst e
    rw [if_pos rfl, if_pos (by omega)]
  · rw [if_neg e]
    by_cases h1 : j < k
    · rw [if_pos h1, if_pos (by omega)]
    · rw [if_neg h1, if_neg (by omega)]
end Go.Proofs.Ytkgekaedpdgmdaa.mem
